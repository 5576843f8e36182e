package step_test

import (
	"math/big"
	"testing"

	"fairlink/api"
	"fairlink/step"
)

const (
	leastInt    = -1 << 63
	greatestInt = 1<<63 - 1
)

func is(t *testing.T, interval, count, want int) {
	t.Helper()
	if got := step.Of(interval, count); got != want {
		t.Errorf("P9: the step for %d at Interval %d: %d; want %d", count, interval, got, want)
	}
}

// sought is the step as the document says it, with numbers of any length.
func sought(interval, count int) int {
	x := big.NewInt(int64(interval))
	x.Mul(x, x)
	x.Div(x, big.NewInt(int64(min(count, 1<<32-1))))
	return int(x.Sqrt(x).Int64())
}

func TestExample8(t *testing.T) {
	is(t, 200, 1, 200)
	is(t, 200, 2, 141)
	is(t, 200, 3, 115)
	is(t, 200, 4, 100)
}

func TestSmallIntervals(t *testing.T) {
	is(t, 1, 1, 1)
	is(t, 1, 2, 0)
	is(t, 1, greatestInt, 0)
	is(t, 2, 4, 1)
	is(t, 2, 5, 0)
	is(t, 3, 2, 2)
	is(t, 65535, 1<<32-1, 0)
	is(t, 65536, 1<<32-1, 1)
	is(t, 65536, 1<<32-2, 1)
}

// The squares of these have up to 80 bits.
func TestGreatIntervals(t *testing.T) {
	for _, x := range []struct{ interval, count, want int }{
		{4294967295, 3, 2479700523}, {4294967295, 999999937, 135818}, {4294967296, 1, 4294967296}, {4294967296, 2, 3037000499},
		{4294967296, 5, 1920767766}, {4294967297, 65537, 16777088}, {4294967297, 65536, 16777216}, {3037000500, 65535, 11863373},
		{6074001000, 3, 3506826112}, {6074001000, 100, 607400100}, {68719476735, 4, 34359738367}, {68719476735, 3, 39675208391},
		{549755826233, 5, 245858279696}, {549755826233, 2147483648, 11863283}, {1099511627775, 1, 1099511627775}, {1099511627775, 65535, 4295000064},
		{1099511627776, 1, 1099511627776}, {1099511627776, 2, 777472127993}, {1099511627776, 4, 549755813888}, {1099511627776, 999999937, 34769611},
	} {
		is(t, x.interval, x.count, x.want)
	}
}

// At these intervals one count more or less makes a difference even where counts no longer matter.
func TestCountsAroundTheGreatest(t *testing.T) {
	is(t, 1<<33-2, 1<<32-3, 131072)
	is(t, 1<<33-2, 1<<32-2, 131072)
	is(t, 1<<33-2, 1<<32-1, 131071)
	for _, count := range []int{1<<32 - 2, 1<<32 - 1, 1 << 32, 1<<32 + 1, 1 << 33, 1 << 34, 1<<62 + 5, greatestInt} {
		is(t, 1<<33-1, count, 131072)
		is(t, 1<<40, count, 16777216)
	}
}

// Where the square root is a whole number, the step is just that; with an interval of one less it is less.
func TestWholeRoots(t *testing.T) {
	for _, root := range []int{2, 3, 10, 255, 256, 4099, 65535} {
		for _, x := range []int{1, 2, 99, 65536, 1<<24 - 1, 1 << 24} {
			is(t, root*x, root*root, x)
			is(t, root*x-1, root*root, x-1)
			is(t, root*x, root*root-1, sought(root*x, root*root-1))
			is(t, root*x, root*root+1, sought(root*x, root*root+1))
		}
	}
}

func TestEdgesOfAllSizes(t *testing.T) {
	for i := 0; i <= 40; i++ {
		for _, interval := range []int{1<<i - 1, 1 << i, 1<<i + 1} {
			if interval < 1 || interval > api.MaxSpan {
				continue
			}
			for j := 0; j <= 62; j++ {
				for _, count := range []int{max(1, 1<<j-1), 1 << j, 1<<j + 1} {
					is(t, interval, count, sought(interval, count))
				}
			}
		}
	}
}

func TestManySteps(t *testing.T) {
	state := uint64(1)
	for i := 0; i < 20000; i++ {
		state = state*6364136223846793005 + 1442695040888963407
		interval := 1 + int(state>>24)>>(i%40)
		state = state*6364136223846793005 + 1442695040888963407
		count := 1 + int(state>>1)>>(i*7%62)
		is(t, interval, count, sought(interval, count))
	}
}

func TestEveryCountOfSomeIntervals(t *testing.T) {
	for _, interval := range []int{1, 2, 7, 200, 12345, 1<<40 - 1, 1 << 40} {
		for count := 1; count <= 3000; count++ {
			is(t, interval, count, sought(interval, count))
		}
	}
}

func TestWrongNumbers(t *testing.T) {
	for _, interval := range []int{leastInt, -200, -1, 0, api.MaxSpan + 1, greatestInt} {
		is(t, interval, 1, 0)
		is(t, interval, 0, 0)
		is(t, interval, -1, 0)
	}
	for _, count := range []int{leastInt, -1 << 32, -1, 0} {
		is(t, 200, count, 0)
	}
}
