package port_test

import (
	"strings"
	"testing"

	"fairlink/api"
	"fairlink/port"
)

// change is one number of a configuration that is set anew.
type change struct {
	field string
	value int
}

func changed(c api.Config, list []change) api.Config {
	for _, x := range list {
		switch x.field {
		case "Buckets":
			c.Buckets = x.value
		case "Quantum":
			c.Quantum = x.value
		case "Packets":
			c.Packets = x.value
		case "Memory":
			c.Memory = x.value
		case "Length":
			c.Length = x.value
		case "Target":
			c.Target = x.value
		case "Interval":
			c.Interval = x.value
		case "Tau":
			c.Tau = x.value
		}
	}
	return c
}

func refuses(t *testing.T, c api.Config) {
	t.Helper()
	if p, e := port.New(c); p != nil || e != api.ErrConfig {
		t.Errorf("P3: New(%+v): %v, %v; want nil, ErrConfig", c, p, e)
	}
}

// justKept is changes of easy with which each limit is just kept.
func justKept() [][]change {
	return [][]change{
		{{"Buckets", 1}}, {{"Buckets", 16}},
		{{"Quantum", 1}}, {{"Quantum", 1000}},
		{{"Packets", 1}}, {{"Packets", 64}},
		{{"Length", 20}}, {{"Length", 200}},
		{{"Memory", 60 + 64}}, {{"Memory", 65536}},
		{{"Length", 20}, {"Memory", 84}}, {{"Length", 200}, {"Memory", 264}},
		{{"Target", 1}}, {{"Target", 1}, {"Interval", 1}}, {{"Target", 500}, {"Interval", 500}},
		{{"Target", 1 << 40}, {"Interval", 1 << 40}}, {{"Target", 1}, {"Interval", 1 << 40}},
		{{"Tau", 1}}, {{"Tau", 1 << 20}},
	}
}

// justBroken is changes with which each is just broken.
func justBroken() [][]change {
	return [][]change{
		{{"Buckets", 0}}, {{"Buckets", 17}},
		{{"Quantum", 0}}, {{"Quantum", 1001}},
		{{"Packets", 0}}, {{"Packets", 65}},
		{{"Length", 19}}, {{"Length", 201}},
		{{"Memory", 60 + 63}}, {{"Memory", 65537}},
		{{"Length", 20}, {"Memory", 83}}, {{"Length", 200}, {"Memory", 263}},
		{{"Target", 0}}, {{"Target", 501}, {"Interval", 500}},
		{{"Target", 0}, {"Interval", 0}}, {{"Target", 1}, {"Interval", 0}},
		{{"Target", 1}, {"Interval", 1<<40 + 1}}, {{"Target", 1<<40 + 1}, {"Interval", 1<<40 + 1}},
		{{"Tau", 0}}, {{"Tau", 1<<20 + 1}},
	}
}

// farOff is changes to numbers that lie far beyond the limits.
func farOff() [][]change {
	list := [][]change{
		{{"Length", greatestInt}, {"Memory", leastInt}}, {{"Length", greatestInt}, {"Memory", 65536}},
		{{"Target", greatestInt}, {"Interval", greatestInt}}, {{"Buckets", 0}, {"Tau", 0}},
	}
	for _, field := range []string{"Buckets", "Quantum", "Packets", "Memory", "Length", "Target", "Interval", "Tau"} {
		for _, n := range []int{-1, leastInt, leastInt + 1, greatestInt, greatestInt - 1, 1 << 32, 1<<32 + 60} {
			if n >= 1<<32 && n <= api.MaxSpan && (field == "Target" || field == "Interval") {
				continue
			}
			list = append(list, []change{{field, n}})
		}
	}
	return list
}

// rightKeys and wrongKeys have KeyLen bytes and have not.
func rightKeys() []string {
	return []string{strings.Repeat("\x00", 16), strings.Repeat("\xff", 16), strings.Repeat("ä", 8)}
}

func wrongKeys() []string {
	return []string{"", "x", key[:15], key + "x", strings.Repeat("ä", 16), strings.Repeat("k", 1<<20)}
}

// unsound is configurations of all the ways in which a limit is broken.
func unsound() []api.Config {
	list := []api.Config{{}}
	for _, l := range append(justBroken(), farOff()...) {
		list = append(list, changed(easy(), l))
	}
	for _, k := range wrongKeys() {
		c := easy()
		c.Key = k
		list = append(list, c)
	}
	return list
}

func TestNewTakesEachLimitJustKept(t *testing.T) {
	for _, l := range justKept() {
		open(t, changed(easy(), l))
	}
	for _, k := range rightKeys() {
		c := easy()
		c.Key = k
		open(t, c)
	}
}

func TestNewRefusesEachLimitBroken(t *testing.T) {
	for _, c := range unsound() {
		refuses(t, c)
	}
}

func TestNewPort(t *testing.T) {
	for _, ecn := range []bool{false, true} {
		c := easy()
		c.ECN = ecn
		p := open(t, c)
		now(t, p, 0, false)
		held(t, p, 0, 0)
		backlog(t, p, 0, 0, 0)
		counts(t, p, 0, 0, 0, 0, 0, 0, 0)
		arrive(t, p, "first", 0, "[0S0.0/5]")
	}
}
