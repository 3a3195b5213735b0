/- Two arrays of five numbers that are the same. -/
import Derived.Test.YtdoieknjhdehmaaBknown
namespace Go.Proofs.Ytdoieknjhdehmaa
open Go.ChangeShapes Go.WideShapes Go.ChangeAt Go.RowKit
theorem size_int (w : World) : (sizeOf 3).run Try.prog w = .ok 1 w := by
  obtain ⟨i0, hi, hz⟩ : ∃ i0, Try.prog.info? 3 = some i0 ∧ i0.size = 1 := by
    have h : (Try.prog.info? 3).map (·.size) = some 1 := by kernel_rfl
    cases h2 : Try.prog.info? 3 with
    | none => rw [h2] at h; cases h
    | some i => rw [h2] at h; injection h with h; exact ⟨i, rfl, h⟩
  simp [Go.sizeOf, typeInfo, hi, hz]
theorem agg_eq (a b c d e : Int) (w : World) : (Op.equalIn 10000 26 (.agg #[.int .i64 a, .int .i64 b, .int .i64 c, .int .i64 d, .int .i64 e]) (.agg #[.int .i64 a, .int .i64 b, .int .i64 c, .int .i64 d, .int .i64 e])).run Try.prog w = .ok true w := by
  have u3 := Try.underlying3
  have z3 := size_int
  rw [show (10000 : Nat) = 9999 + 1 from rfl, Op.equalIn]
  simp only [Sem.run_bind, run_underlying Try.underlying26, Result.andThen_ok]
  simp only [Std.Legacy.Range.forIn_eq_forIn_range', Std.Legacy.Range.size, Nat.sub_zero, Nat.add_sub_cancel, Nat.div_one, List.range'_succ, List.range'_zero, List.forIn_cons, List.forIn_nil]
  go_simp
theorem eq_five (a b c d e : Int) (w : World) : (binOp .eql 26 (.agg #[.int .i64 a, .int .i64 b, .int .i64 c, .int .i64 d, .int .i64 e]) (.agg #[.int .i64 a, .int .i64 b, .int .i64 c, .int .i64 d, .int .i64 e])).run Try.prog w = .ok (.bool true) w := by
  rw [run_eql_struct, agg_eq]
  rfl
theorem five_of {r : List Nat} (h : r.length = 5) : ∃ a b c d e, r = [a, b, c, d, e] := by
  match r, h with
  | [a, b, c, d, e], _ => exact ⟨a, b, c, d, e, rfl⟩
theorem irow_five (a b c d e : Nat) : irow [a, b, c, d, e] = #[.int .i64 (a : Int), .int .i64 (b : Int), .int .i64 (c : Int), .int .i64 (d : Int), .int .i64 (e : Int)] := rfl
theorem irow_eq {r : List Nat} (h : r.length = 5) (w : World) : (binOp .eql 26 (.agg (irow r)) (.agg (irow r))).run Try.prog w = .ok (.bool true) w := by
  obtain ⟨a, b, c, d, e, rfl⟩ : ∃ a b c d e, r = [a, b, c, d, e] := by
    match r, h with
    | [a, b, c, d, e], _ => exact ⟨a, b, c, d, e, rfl⟩
  have h := agg_eq a b c d e w
  rw [run_eql_struct]
  have e : irow [a, b, c, d, e] = #[.int .i64 (a : Int), .int .i64 (b : Int), .int .i64 (c : Int), .int .i64 (d : Int), .int .i64 (e : Int)] := rfl
  rw [e, h]
  rfl
theorem wpList_eq5 {ops : Array Oper} {rest : List Oper} {o : Oper} {a : Act} {w : World} {Q : Exit → Act → World → Prop} (hgd : o.guard = none) (x y : Operand) (ho : o.op = .binOp .eql 26 x y 26)
    (r : List Nat) (h5 : r.length = 5) (hx : a.eval x = .agg (irow r)) (hy : a.eval y = .agg (irow r)) (h : wpList Try.prog ops Q rest (a.put o.dst (.bool true)) w) : wpList Try.prog ops Q (o :: rest) a w := by
  refine wpList_plain hgd fun _ hK => ?_
  have he := irow_eq h5 w
  have hg : (eqGuard .eql 26 x y (.agg (irow r)) (.agg (irow r))).run Try.prog w = .ok () w := run_eqGuard_agg w _ _ _ _ _ _ (by kernel_rfl)
  unfold Oper.wp execOp
  simp only [ho, hx, hy, Sem.run_bind, hg, Result.andThen_ok, he]
  exact hK _ _ h
end Go.Proofs.Ytdoieknjhdehmaa
