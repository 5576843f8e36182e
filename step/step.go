// Package step: how far a bucket's drops lie apart (P9).
package step

import "fairlink/api"

// Counts above this one have its step.
const mostCount = 1<<32 - 1

// Of is the step for a count: the greatest whole number x with x times x times count at most interval times interval. It is 0 where the interval is none of a configuration, or the count is below 1.
func Of(interval, count int) int {
	if interval < 1 || interval > api.MaxSpan || count < 1 {
		return 0
	}
	if count > mostCount {
		count = mostCount
	}
	limit := square(uint64(interval))
	x := uint64(0)
	// MaxSpan is a power of two, so the bits from it downwards make up every x that there can be.
	for bit := uint64(api.MaxSpan); bit > 0; bit >>= 1 {
		product := times(square(x+bit), uint64(count))
		if atMost(product, limit) {
			x += bit
		}
	}
	return int(x)
}
