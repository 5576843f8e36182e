package bucket_test

import (
	"fmt"
	"strings"
	"testing"

	"fairlink/api"
	"fairlink/bucket"
	"fairlink/queue"
)

// rules is a configuration of Length 60, in which no frame is marked.
func rules(target, interval int) api.Config {
	return api.Config{Length: 60, Target: target, Interval: interval}
}

// six is an IPv6 frame of 60 bytes with these mark bits.
func six(bits int) string {
	b := make([]byte, 60)
	b[0], b[1], b[5], b[6] = 0x60, byte(bits<<4), 20, 17
	return string(b)
}

// since makes a bucket of frames of such lengths that came at a time; their numbers begin with 0.
func since(at int, lengths ...int) *bucket.Bucket {
	b := &bucket.Bucket{}
	more(b, 0, at, lengths...)
	return b
}

func more(b *bucket.Bucket, id, at int, lengths ...int) {
	for i, n := range lengths {
		b.Join(queue.Frame{ID: id + i, Bytes: strings.Repeat("x", n), Since: at})
	}
}

// long is a bucket of very many frames that came long ago.
func long() *bucket.Bucket {
	b := &bucket.Bucket{}
	for id := 0; id < 1000; id++ {
		b.Join(queue.Frame{ID: id, Bytes: six(0), Since: -1 << 40})
	}
	return b
}

// gives sees what a bucket gives up now: each frame that is dropped as D and its number, the one that goes out as S or M and its number.
func gives(t *testing.T, b *bucket.Bucket, c api.Config, now int, want string) queue.Frame {
	t.Helper()
	g := b.GiveUp(c, now)
	var words []string
	for _, f := range g.Dropped {
		words = append(words, fmt.Sprint("D", f.ID))
	}
	switch {
	case g.Found && g.Marked:
		words = append(words, fmt.Sprint("M", g.Frame.ID))
	case g.Found:
		words = append(words, fmt.Sprint("S", g.Frame.ID))
	case g.Frame != (queue.Frame{}) || g.Marked:
		t.Errorf("P9: at %d: nothing is given up, and yet there is %v", now, g.Frame)
	}
	if got := strings.Join(words, " "); got != want {
		t.Errorf("P9: at %d: %q; want %q", now, got, want)
	}
	return g.Frame
}

// drops sees how many frames are dropped as one of a long bucket is given up.
func drops(t *testing.T, b *bucket.Bucket, c api.Config, now, want int) {
	t.Helper()
	g := b.GiveUp(c, now)
	if len(g.Dropped) != want || !g.Found || g.Marked {
		t.Errorf("P9: at %d: %d are dropped, then %v; want %d", now, len(g.Dropped), g.Frame, want)
	}
}

// rest lets a bucket give up a frame that has not waited long enough: ABOVE is nothing then, and the bucket is not DROPPING.
func rest(t *testing.T, b *bucket.Bucket, c api.Config, now int) {
	t.Helper()
	c.Target = 1 << 62
	drops(t, b, c, now, 0)
}

// begins lets a bucket that rests drop a frame at a time, so that it is DROPPING.
func begins(t *testing.T, b *bucket.Bucket, c api.Config, at int) {
	t.Helper()
	drops(t, b, c, at-c.Interval, 0)
	drops(t, b, c, at, 1)
}

func has(t *testing.T, b *bucket.Bucket, frames, bytes int) {
	t.Helper()
	if b.Frames() != frames || b.Bytes() != bytes {
		t.Errorf("%d frames, %d bytes; want %d, %d", b.Frames(), b.Bytes(), frames, bytes)
	}
}
