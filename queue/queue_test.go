package queue_test

import (
	"testing"

	"fairlink/queue"
)

func expect(t *testing.T, q *queue.Queue, frames, bytes int) {
	t.Helper()
	if q.Frames() != frames || q.Bytes() != bytes {
		t.Errorf("%d frames, %d bytes; want %d, %d", q.Frames(), q.Bytes(), frames, bytes)
	}
}

func leaves(t *testing.T, q *queue.Queue, id int, bytes string) {
	t.Helper()
	f, found := q.Leave()
	if !found || f.ID != id || f.Bytes != bytes {
		t.Errorf("%v, %v; want %d, %q", f, found, id, bytes)
	}
}

func TestFirstInFirstOut(t *testing.T) {
	q := queue.Queue{}
	expect(t, &q, 0, 0)
	q.Join(queue.Frame{ID: 7, Bytes: "seven"})
	q.Join(queue.Frame{ID: 8, Bytes: ""})
	q.Join(queue.Frame{ID: 9, Bytes: "nine"})
	expect(t, &q, 3, 9)
	leaves(t, &q, 7, "seven")
	expect(t, &q, 2, 4)
	q.Join(queue.Frame{ID: 10, Bytes: "ten"})
	leaves(t, &q, 8, "")
	leaves(t, &q, 9, "nine")
	expect(t, &q, 1, 3)
	leaves(t, &q, 10, "ten")
	expect(t, &q, 0, 0)
}

func TestTimesAreKept(t *testing.T) {
	q := queue.Queue{}
	for id := 0; id < 5; id++ {
		q.Join(queue.Frame{ID: id, Bytes: "frame", Since: 1<<62 - id})
	}
	for id := 0; id < 5; id++ {
		if f, found := q.Leave(); !found || f.Since != 1<<62-id {
			t.Errorf("%v, %v; want one that came at %d", f, found, 1<<62-id)
		}
	}
}

func TestNoneLeavesAnEmptyQueue(t *testing.T) {
	q := queue.Queue{}
	for i := 0; i < 3; i++ {
		if f, found := q.Leave(); found || f != (queue.Frame{}) {
			t.Errorf("%v, %v; want none", f, found)
		}
		expect(t, &q, 0, 0)
	}
	q.Join(queue.Frame{ID: 1, Bytes: "a"})
	leaves(t, &q, 1, "a")
}

func TestManyTimesFull(t *testing.T) {
	q := queue.Queue{}
	for id := 0; id < 1000; id++ {
		q.Join(queue.Frame{ID: id, Bytes: "frame"})
		if id >= 64 {
			leaves(t, &q, id-64, "frame")
		}
	}
	expect(t, &q, 64, 320)
}
