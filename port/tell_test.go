package port_test

import (
	"testing"

	"fairlink/api"
)

func TestHeldAndBacklog(t *testing.T) {
	p := open(t, easy())
	arrive(t, p, filled('a', 60), 0, "[0S0.0/60]")
	held(t, p, 0, 0)
	backlog(t, p, 0, 0, 0)
	arrive(t, p, filled('b', 30), 1, "[]")
	held(t, p, 1, 94)
	backlog(t, p, 0, 1, 30)
	arrive(t, p, "c", 2, "[]")
	held(t, p, 2, 159)
	backlog(t, p, 0, 2, 31)
	advance(t, p, 60, "[60S1.0/30]")
	held(t, p, 1, 65)
	backlog(t, p, 0, 1, 1)
	advance(t, p, 30, "[90S2.0/1]")
	held(t, p, 0, 0)
	backlog(t, p, 0, 0, 0)
}

func TestBacklogOfNoSuchBucket(t *testing.T) {
	p := open(t, easy())
	p.Arrive("on the link")
	p.Arrive("waits")
	for _, b := range []int{1, 2, 15, 16, 17, 1 << 32, -1, -2, leastInt, greatestInt} {
		backlog(t, p, b, 0, 0)
	}
	backlog(t, p, 0, 1, 5)
}

func TestCounts(t *testing.T) {
	c := easy()
	c.Packets = 1
	p := open(t, c)
	p.Arrive(filled('a', 60))
	counts(t, p, 1, 1, 0, 0, 0, 0, 60)
	p.Arrive(filled('b', 50))
	counts(t, p, 2, 1, 0, 0, 0, 0, 60)
	p.Arrive(filled('c', 40))
	counts(t, p, 3, 1, 0, 1, 0, 0, 60)
	p.Arrive("")
	p.Arrive(filled('d', 61))
	p.Advance(-1)
	counts(t, p, 3, 1, 0, 1, 0, 0, 60)
	p.Advance(59)
	counts(t, p, 3, 1, 0, 1, 0, 0, 60)
	p.Advance(1)
	counts(t, p, 3, 2, 0, 1, 0, 0, 100)
	p.Advance(api.MaxTime - 60)
	counts(t, p, 3, 2, 0, 1, 0, 0, 100)
}

// Asking changes nothing, however often.
func TestAskingChangesNothing(t *testing.T) {
	p := open(t, easy())
	p.Arrive(filled('a', 60))
	p.Arrive(filled('b', 60))
	p.Advance(30)
	first := see(p)
	for i := 0; i < 3; i++ {
		if again := see(p); again != first {
			t.Errorf("P6: %s became %s", first, again)
		}
	}
	advance(t, p, 30, "[60S1.0/60]")
}
