// Package turn: whose turn it is to give up a frame: the two lists of buckets, and their deficits (P8).
package turn

import "fairlink/api"

// Turns is the lists and the deficits. In its zero value no bucket stands in a list.
type Turns struct {
	fresh    []int // the new list
	old      []int
	listed   [api.MaxBuckets]bool
	deficits [api.MaxBuckets]int
}

// Enter puts a bucket at the end of the new list, with a deficit of a quantum; not, if it stands in a list.
func (t *Turns) Enter(b, quantum int) {
	if b < 0 || b >= api.MaxBuckets || t.listed[b] {
		return
	}
	t.listed[b] = true
	t.deficits[b] = quantum
	t.fresh = append(t.fresh, b)
}

// Next tells whose turn it is; false, if both lists are empty. A bucket whose deficit is not above 0 is passed over: its deficit grows by a quantum, and it goes to the end of the old list.
func (t *Turns) Next(quantum int) (int, bool) {
	// Without a quantum the deficits would never grow, and the loop would not end.
	if quantum < 1 {
		return 0, false
	}
	b, found := t.first()
	for found && t.deficits[b] <= 0 {
		t.deficits[b] += quantum
		t.leaveList()
		t.old = append(t.old, b)
		b, found = t.first()
	}
	return b, found
}

// Pay lets the deficit of a bucket fall by the length of a frame that it has given up.
func (t *Turns) Pay(b, bytes int) {
	if b < 0 || b >= api.MaxBuckets {
		return
	}
	t.deficits[b] -= bytes
}

// Limit lets no deficit be above a quantum: one that is becomes just that.
func (t *Turns) Limit(quantum int) {
	for b := range t.deficits {
		if t.deficits[b] > quantum {
			t.deficits[b] = quantum
		}
	}
}

// Leave lets the first bucket leave its list, as it has no frame to give up. One that was new goes to the end of the old list, if others stand there.
func (t *Turns) Leave() {
	b, found := t.first()
	if !found {
		return
	}
	wasFresh := len(t.fresh) > 0
	t.leaveList()
	if wasFresh && len(t.old) > 0 {
		t.old = append(t.old, b)
		return
	}
	t.listed[b] = false
}

// first is the first bucket of the new list, or, if that is empty, of the old one.
func (t *Turns) first() (int, bool) {
	if len(t.fresh) > 0 {
		return t.fresh[0], true
	}
	if len(t.old) > 0 {
		return t.old[0], true
	}
	return 0, false
}

// leaveList takes the first bucket out of the list in which it stands.
func (t *Turns) leaveList() {
	if len(t.fresh) > 0 {
		t.fresh = t.fresh[1:]
		return
	}
	if len(t.old) > 0 {
		t.old = t.old[1:]
	}
}
