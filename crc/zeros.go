package crc

// run is what a run of noughts does to the register: 32 by 32 bits, a word for what becomes of each bit alone. All that is done is shifts and xors, so what becomes of several bits is the xor of their words.
type run [32]uint32

// Zeros answers the sum of any bytes whose sum is sum, and n bytes 0 behind them.
func Zeros(sum uint32, n int) uint32 {
	return ^noughts(^sum, n)
}

// Join answers the sum of bytes whose sum is a, and behind them n bytes whose sum is b. What the register had at first, and that it is turned over at the end, falls out of a and b against each other: so the sums themselves are taken here, not registers.
func Join(a, b uint32, n int) uint32 {
	return noughts(a, n) ^ b
}

// noughts answers the register behind n bytes 0. It goes by squares: a run for each power of 2 that is in n, so that no n is too great.
func noughts(register uint32, n int) uint32 {
	r := oneNought()
	for ; n > 0; n >>= 1 {
		if n&1 == 1 {
			register = through(r, register)
		}
		r = square(r)
	}
	return register
}

// oneNought answers the run of one byte 0.
func oneNought() run {
	var r run
	for bit := range r {
		r[bit] = shifted(1<<bit, byteBits)
	}
	return r
}

// through answers what r makes of the register.
func through(r run, register uint32) uint32 {
	var behind uint32
	for _, word := range r {
		behind ^= word & -(register & 1)
		register >>= 1
	}
	return behind
}

// square answers the run that is twice as long.
func square(r run) run {
	var twice run
	for bit, word := range r {
		twice[bit] = through(r, word)
	}
	return twice
}
