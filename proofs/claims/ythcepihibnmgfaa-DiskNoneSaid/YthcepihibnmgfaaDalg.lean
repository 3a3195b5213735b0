/- What becomes of a disk's files, and that the memory says so. -/
import Derived.Test.YthcepihibnmgfaaDgrow
namespace Go.Proofs.Ythcepihibnmgfaa
open Go.RowKit Go.Maps

/-- The file of a name, or an empty one. -/
def cur (F : List Fl) (n : List UInt8) : Fl := (F.find? fun f => f.name == n).getD ⟨n, [], 0⟩
theorem cur_mem {F : List Fl} (h : (F.map Fl.name).Nodup) {f : Fl} (hf : f ∈ F) : cur F f.name = f := by
  unfold cur
  cases hq : F.find? fun g => g.name == f.name with
  | none => exact absurd (List.find?_eq_none.1 hq f hf) (by simp)
  | some g => exact same_file h (List.mem_of_find?_eq_some hq) hf (by simpa using List.find?_some hq)
theorem cur_none {F : List Fl} {n : List UInt8} (h : there F n = false) : cur F n = ⟨n, [], 0⟩ := by
  unfold cur
  rw [List.find?_eq_none.2 (fun f hf => by simpa using List.any_eq_false.1 h f hf)]
  rfl
theorem cur_name (F : List Fl) (n : List UInt8) : (cur F n).name = n := by
  unfold cur
  cases hq : F.find? fun g => g.name == n with
  | none => rfl
  | some g => simpa using List.find?_some hq
theorem there_cur {F : List Fl} {n : List UInt8} (h : there F n = true) : cur F n ∈ F := by
  unfold cur
  cases hq : F.find? fun g => g.name == n with
  | none => obtain ⟨f, hf, e⟩ := there_yes h; exact absurd (List.find?_eq_none.1 hq f hf) (by simp [e])
  | some g => exact List.mem_of_find?_eq_some hq
theorem there_of {F : List Fl} {f : Fl} (h : f ∈ F) : there F f.name = true := List.any_eq_true.2 ⟨f, h, by simp⟩

theorem tot_upd {F : List Fl} (h : (F.map Fl.name).Nodup) (f : Fl) : tot (upd F f) + (cur F f.name).data.length = tot F + f.data.length := by
  cases ht : there F f.name
  · rw [cur_none ht]
    unfold upd
    rw [tot_cons, del_none (there_no ht)]
    simp
    omega
  · obtain ⟨g, hg, e⟩ := there_yes ht
    have hc := cur_mem h hg
    rw [e] at hc
    rw [hc]
    have := tot_perm (del_perm h hg)
    rw [tot_cons, e] at this
    unfold upd
    rw [tot_cons]
    omega
theorem len_upd {F : List Fl} (h : (F.map Fl.name).Nodup) (f : Fl) : (upd F f).length = F.length + if there F f.name then 0 else 1 := by
  cases ht : there F f.name
  · unfold upd
    rw [List.length_cons, del_none (there_no ht)]
    simp
  · obtain ⟨g, hg, e⟩ := there_yes ht
    have := (del_perm h hg).length_eq
    rw [List.length_cons, e] at this
    unfold upd
    rw [List.length_cons]
    simp
    omega
theorem upd_nodup {F : List Fl} (h : (F.map Fl.name).Nodup) (f : Fl) : ((upd F f).map Fl.name).Nodup := by
  unfold upd
  rw [List.map_cons, List.nodup_cons]
  refine ⟨fun hm => ?_, del_nodup h⟩
  obtain ⟨g, hg, e⟩ := List.mem_map.1 hm
  exact (mem_del.1 hg).2 e

theorem tot_del (F : List Fl) (n : List UInt8) : tot (del F n) ≤ tot F := by
  induction F with
  | nil => exact Nat.le_refl _
  | cons g F ih =>
    unfold del at ih ⊢
    rw [List.filter_cons]
    split
    · rw [tot_cons, tot_cons]; omega
    · rw [tot_cons]; omega

/-- A file laid into the map. -/
theorem Disk.updated {w w' : World} {S S' : Nat → Prop} {B d m room : Nat} {F : List Fl} {V : List UInt8 → Value} {D : DataW Value} (h : Disk w S B d room F) (hs : Seen w d m S F V D room) (hBm : B ≤ m)
    (hap : ∀ f ∈ F, ∀ g ∈ F, f.name ≠ g.name → ∀ b, blk (V f.name) = some b → blk (V g.name) ≠ some b)
    (f : Fl) (v : Value) (hb : w'.heap[d]? = w.heap[d]?) {n : Nat} (ho : w'.ownsMap Try.prog 9 rdf m n (D.put (.string f.name) (.held v))) (hk : WideAt.IsKeyLit (.string f.name))
    (hv : FileAt w' S' B f v) (hother : ∀ g ∈ F, g.name ≠ f.name → FileAt w' S' B g (V g.name)) (hapv : ∀ g ∈ F, g.name ≠ f.name → ∀ b, blk v = some b → blk (V g.name) ≠ some b) (hSS : ∀ k, S k → S' k)
    (ht : Go.Proofs.Ythcepihibnmgfaa.tot (upd F f) ≤ room) (hcnt : (upd F f).length ≤ 128) (hg : good f.name = true) : Disk w' S' B d room (upd F f) := by
  have hC := hs.con.put f v hk
  have hvs : ∀ g : Fl, g.name ≠ f.name → vset V f.name v g.name = V g.name := fun g hne => by simp [vset, hne]
  have hvf : vset V f.name v f.name = v := by simp [vset]
  refine ⟨⟨m, _, vset V f.name v, hb.trans hs.block, ?_, hC, ?_, ?_, hSS m hs.mine.2, hBm⟩, hSS d h.mine, h.base, h.lo, h.hi, ht, hcnt, ?_⟩
  · have := own_exact ho
    rw [hC.size] at this
    exact this
  · intro g hg
    rcases List.mem_cons.1 hg with rfl | hg
    · rw [hvf]; exact hv
    · obtain ⟨h1, h2⟩ := mem_del.1 hg
      rw [hvs g h2]; exact hother g h1 h2
  · intro x hx y hy hne b hbx
    rcases List.mem_cons.1 hx with rfl | hx <;> rcases List.mem_cons.1 hy with rfl | hy
    · exact absurd rfl hne
    · obtain ⟨h1, h2⟩ := mem_del.1 hy
      rw [hvs y h2]; rw [hvf] at hbx
      exact hapv y h1 h2 b hbx
    · obtain ⟨h1, h2⟩ := mem_del.1 hx
      rw [hvs x h2] at hbx
      rw [hvf]
      exact fun e => hapv x h1 h2 b e hbx
    · obtain ⟨h1, h2⟩ := mem_del.1 hx
      obtain ⟨h3, h4⟩ := mem_del.1 hy
      rw [hvs x h2] at hbx; rw [hvs y h4]
      exact hap x h1 y h3 hne b hbx
  · intro g hg'
    rcases List.mem_cons.1 hg' with rfl | hg'
    · exact hg
    · exact h.names g (mem_del.1 hg').1

/-- A file taken out of the map. -/
theorem Disk.dropped {w w' : World} {S : Nat → Prop} {B d m room : Nat} {F : List Fl} {V : List UInt8 → Value} {D : DataW Value} (h : Disk w S B d room F) (hs : Seen w d m S F V D room) (hBm : B ≤ m)
    (hap : ∀ f ∈ F, ∀ g ∈ F, f.name ≠ g.name → ∀ b, blk (V f.name) = some b → blk (V g.name) ≠ some b) (hfiles : ∀ f ∈ F, FileAt w' S B f (V f.name))
    (n : List UInt8) (hb : w'.heap[d]? = w.heap[d]?) {k : Nat} (ho : w'.ownsMap Try.prog 9 rdf m k (D.del (.string n))) : Disk w' S B d room (del F n) := by
  have hC := hs.con.drop n
  have hle := tot_del F n
  refine ⟨⟨m, _, V, hb.trans hs.block, ?_, hC, fun g hg => hfiles g (mem_del.1 hg).1, fun x hx y hy => hap x (mem_del.1 hx).1 y (mem_del.1 hy).1, hs.mine.2, hBm⟩, h.mine, h.base, h.lo, h.hi, Nat.le_trans hle h.tot, Nat.le_trans (List.length_filter_le _ _) h.cnt, fun g hg => h.names g (mem_del.1 hg).1⟩
  have := own_exact ho
  rw [hC.size] at this
  exact this
theorem row_not {w : World} {B n : Nat} {v : Value} {xs : List Value} (hr : w.ownsRow B 5 1 v n xs) {k : Nat} (hk : v.ownBlock = some k) : ∃ cur, w.heap[k]? = some (.cells cur 5 (0, 0)) := by
  rcases hr.2 with ⟨rfl, _⟩ | ⟨g, cap, cur, rfl, _, hh, _⟩
  · cases hk
  · injection hk with hk
    subst hk
    exact ⟨cur, hh⟩
/-- A row of bytes is neither the disk's cell nor its map. -/
theorem Seen.row_apart {w : World} {d m room : Nat} {S : Nat → Prop} {F : List Fl} {V : List UInt8 → Value} {D : DataW Value} (h : Seen w d m S F V D room) {B n : Nat} {v : Value} {xs : List Value} (hr : w.ownsRow B 5 1 v n xs) : v.ownBlock ≠ some d ∧ v.ownBlock ≠ some m := by
  refine ⟨fun e => ?_, fun e => ?_⟩
  · obtain ⟨c, hc⟩ := row_not hr e
    rw [h.block] at hc
    injection hc with hc
    injection hc with _ hc
    exact absurd hc (by decide)
  · obtain ⟨c, hc⟩ := row_not hr e
    obtain ⟨es, clock, hb, _⟩ := h.own
    rw [hb] at hc
    cases hc
theorem Seen.dm {w : World} {d m room : Nat} {S : Nat → Prop} {F : List Fl} {V : List UInt8 → Value} {D : DataW Value} (h : Seen w d m S F V D room) : d ≠ m := by
  intro e
  obtain ⟨es, clock, hb, _⟩ := h.own
  have := h.block
  rw [e, hb] at this
  cases this
theorem FileAt.keep1 {w w' : World} {S S' : Nat → Prop} {B : Nat} {f : Fl} {v : Value} (h : FileAt w S B f v) (hk : ∀ b, blk v = some b → w'.heap[b]? = w.heap[b]?) (hS : ∀ k, S k → S' k) : FileAt w' S' B f v := by
  obtain ⟨⟨u, rfl, hr, hs⟩, a, b⟩ := h
  exact ⟨⟨u, rfl, row_kept hr hk, fun g hg => hS g (hs g hg)⟩, a, b⟩
theorem FileAt.blk_lt {w : World} {S : Nat → Prop} {B : Nat} {f : Fl} {v : Value} (h : FileAt w S B f v) {b : Nat} (hb : blk v = some b) : b < w.heap.size ∧ S b ∧ ∃ cur, w.heap[b]? = some (.cells cur 5 (0, 0)) := by
  obtain ⟨⟨u, rfl, hr, hs⟩, _, _⟩ := h
  exact ⟨(row_lt hr b hb).2, hs b hb, row_not hr hb⟩

/-- A file that was written behind its bytes, or anew, and laid back into the map. -/
theorem Disk.grown_file {w w5 w6 : World} {S : Nat → Prop} {B d m room : Nat} {F : List Fl} {V : List UInt8 → Value} {D : DataW Value} (h : Disk w S B d room F) (hs : Seen w d m S F V D room) (hBm : B ≤ m)
    (hap : ∀ f ∈ F, ∀ g ∈ F, f.name ≠ g.name → ∀ b, blk (V f.name) = some b → blk (V g.name) ≠ some b) (hfiles : ∀ f ∈ F, FileAt w S B f (V f.name))
    (f' : Fl) (u u' : Value) (hu : ∀ f ∈ F, f.name = f'.name → blk (V f.name) = u.ownBlock) (hun : there F f'.name = false → u.ownBlock = none)
    (hc : Chg (fun k => u.ownBlock = some k) w w5) (h6 : w5.grownBy w6 (some m)) {n : Nat} (ho : w6.ownsMap Try.prog 9 rdf m n (D.put (.string f'.name) (.held (.agg #[u', .int .i64 (f'.lasts : Int)])))) (hk : WideAt.IsKeyLit (.string f'.name))
    (hrow : w5.ownsRow B 5 1 u' f'.data.length (bv f'.data)) (hat : u'.ownBlock = u.ownBlock ∨ ∃ q, u'.ownBlock = some q ∧ w.heap.size ≤ q) (hl : f'.lasts ≤ f'.data.length) (hb : ∀ b ∈ f'.data, b < 256)
    (ht : Go.Proofs.Ythcepihibnmgfaa.tot (upd F f') ≤ room) (hcnt : (upd F f').length ≤ 128) (hg : good f'.name = true) :
    ∃ S', Disk w6 S' B d room (upd F f') ∧ Chg S w w6 ∧ ∀ k, S' k → S k ∨ w.heap.size ≤ k := by
  have hmlt := hs.own.lt
  have hdlt : d < w.heap.size := (Array.getElem?_eq_some_iff.1 hs.block).1
  -- the old row is none, or a row of the disk
  have hold : ∀ k, u.ownBlock = some k → ∃ f ∈ F, f.name = f'.name ∧ blk (V f.name) = some k := fun k hk => by
    cases ht : there F f'.name
    · rw [hun ht] at hk; cases hk
    · obtain ⟨f, hf, e⟩ := there_yes ht
      exact ⟨f, hf, e, (hu f hf e).trans hk⟩
  have hud : u.ownBlock ≠ some d := fun e => by
    obtain ⟨f, hf, _, hb⟩ := hold d e
    obtain ⟨⟨x, e1, hr, _⟩, _⟩ := hfiles f hf
    rw [e1] at hb
    exact (hs.row_apart hr).1 hb
  have hum : u.ownBlock ≠ some m := fun e => by
    obtain ⟨f, hf, _, hb⟩ := hold m e
    obtain ⟨⟨x, e1, hr, _⟩, _⟩ := hfiles f hf
    rw [e1] at hb
    exact (hs.row_apart hr).2 hb
  have hkeep : ∀ g ∈ F, g.name ≠ f'.name → ∀ b, blk (V g.name) = some b → w6.heap[b]? = w.heap[b]? := fun g hg hne b hb => by
    obtain ⟨h1, _, c, h3⟩ := (hfiles g hg).blk_lt hb
    have hbu : u.ownBlock ≠ some b := fun e => by
      obtain ⟨f, hf, e1, hb'⟩ := hold b e
      exact hap f hf g hg (fun e2 => hne (e2.symm.trans e1)) b hb' hb
    have hbm : b ≠ m := fun e => by
      obtain ⟨es, clock, hm, _⟩ := hs.own
      rw [e, hm] at h3; cases h3
    exact (h6.block b (Nat.lt_of_lt_of_le h1 hc.size) (fun e => hbm (by injection e))).trans (hc.block b h1 hbu)
  refine ⟨fun k => S k ∨ u'.ownBlock = some k, ?_, ?_, ?_⟩
  · refine h.updated hs hBm hap f' _ ?_ ho hk ?_ (fun g hg hne => (hfiles g hg).keep1 (hkeep g hg hne) (fun k hk => .inl hk)) ?_ (fun k hk => .inl hk) ht hcnt hg
    · exact (h6.block d (Nat.lt_of_lt_of_le hdlt hc.size) (fun e => hs.dm (by injection e))).trans (hc.block d hdlt hud)
    · refine ⟨⟨u', rfl, row_kept hrow (fun k hk => h6.block k (row_lt hrow k hk).2 (fun e => ?_)), fun k hk => .inr hk⟩, hl, hb⟩
      injection e with e
      subst e
      rcases hat with hat | ⟨q, hq, hle⟩
      · exact hum (hat ▸ hk)
      · rw [hk] at hq; injection hq with hq; omega
    · intro g hg hne b hb hb'
      rcases hat with hat | ⟨q, hq, hle⟩
      · obtain ⟨f, hf, e1, hb2⟩ := hold b (hat ▸ hb)
        exact hap f hf g hg (fun e2 => hne (e2.symm.trans e1)) b hb2 hb'
      · have := (hfiles g hg).blk_lt hb'
        have e : u'.ownBlock = some b := hb
        rw [e] at hq; injection hq with hq; omega
  · refine (hc.mono (S' := S) fun k _ hk => ?_).trans_new (Chg.grown (S := fun k => k = m) h6 (fun k e => by injection e with e; exact e.symm)) (fun i _ hi => hi ▸ hs.mine.2)
    obtain ⟨f, hf, _, hb⟩ := hold k hk
    exact ((hfiles f hf).blk_lt hb).2.1
  · rintro k (hk | hk)
    · exact .inl hk
    · rcases hat with hat | ⟨q, hq, hle⟩
      · obtain ⟨f, hf, _, hb⟩ := hold k (hat ▸ hk)
        exact .inl ((hfiles f hf).blk_lt hb).2.1
      · rw [hk] at hq; injection hq with hq; exact .inr (by omega)
end Go.Proofs.Ythcepihibnmgfaa
