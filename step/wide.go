package step

const (
	half    = 32
	lowHalf = 1<<half - 1
)

// wide is a number of 128 bits: the square of an interval has more than 64.
type wide struct {
	high, low uint64
}

func multiply(a, b uint64) wide {
	a1 := a >> half
	a0 := a & lowHalf
	b1 := b >> half
	b0 := b & lowHalf
	low := a0 * b0
	// A product of two halves leaves room for one more half: neither sum goes round.
	middle := a1*b0 + low>>half
	other := a0*b1 + middle&lowHalf
	return wide{high: a1*b1 + middle>>half + other>>half, low: other<<half | low&lowHalf}
}

func square(a uint64) wide {
	return multiply(a, a)
}

// times multiplies a number by another; the caller sees to it that the product has no more than 128 bits.
func times(w wide, n uint64) wide {
	p := multiply(w.low, n)
	p.high += w.high * n
	return p
}

func atMost(a, b wide) bool {
	return a.high < b.high || a.high == b.high && a.low <= b.low
}
