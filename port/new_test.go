package port_test

import (
	"strings"
	"testing"

	"fairlink/api"
	"fairlink/port"
)

// change is one number of a configuration that is set anew.
type change struct {
	field string
	value int
}

func changed(c api.Config, list []change) api.Config {
	for _, x := range list {
		switch x.field {
		case "Buckets":
			c.Buckets = x.value
		case "Quantum":
			c.Quantum = x.value
		case "Packets":
			c.Packets = x.value
		case "Memory":
			c.Memory = x.value
		case "Length":
			c.Length = x.value
		case "Target":
			c.Target = x.value
		case "Interval":
			c.Interval = x.value
		case "Tau":
			c.Tau = x.value
		}
	}
	return c
}

func refuses(t *testing.T, c api.Config) {
	t.Helper()
	if p, e := port.New(c); p != nil || e != api.ErrConfig {
		t.Errorf("P3: New(%+v): %v, %v; want nil, ErrConfig", c, p, e)
	}
}

func TestNewTakesEachLimitJustKept(t *testing.T) {
	for _, l := range [][]change{
		{{"Buckets", 1}}, {{"Buckets", 16}},
		{{"Quantum", 1}}, {{"Quantum", 1000}},
		{{"Packets", 1}}, {{"Packets", 64}},
		{{"Length", 20}}, {{"Length", 200}},
		{{"Memory", 60 + 64}}, {{"Memory", 65536}},
		{{"Length", 20}, {"Memory", 84}}, {{"Length", 200}, {"Memory", 264}},
		{{"Target", 1}}, {{"Target", 1}, {"Interval", 1}}, {{"Target", 500}, {"Interval", 500}},
		{{"Target", 1 << 40}, {"Interval", 1 << 40}}, {{"Target", 1}, {"Interval", 1 << 40}},
		{{"Tau", 1}}, {{"Tau", 1 << 20}},
	} {
		open(t, changed(easy(), l))
	}
}

func TestNewRefusesEachLimitJustBroken(t *testing.T) {
	for _, l := range [][]change{
		{{"Buckets", 0}}, {{"Buckets", 17}},
		{{"Quantum", 0}}, {{"Quantum", 1001}},
		{{"Packets", 0}}, {{"Packets", 65}},
		{{"Length", 19}}, {{"Length", 201}},
		{{"Memory", 60 + 63}}, {{"Memory", 65537}},
		{{"Length", 20}, {"Memory", 83}}, {{"Length", 200}, {"Memory", 263}},
		{{"Target", 0}}, {{"Target", 501}, {"Interval", 500}},
		{{"Target", 0}, {"Interval", 0}}, {{"Target", 1}, {"Interval", 0}},
		{{"Target", 1}, {"Interval", 1<<40 + 1}}, {{"Target", 1<<40 + 1}, {"Interval", 1<<40 + 1}},
		{{"Tau", 0}}, {{"Tau", 1<<20 + 1}},
	} {
		refuses(t, changed(easy(), l))
	}
}

func TestNewRefusesFarNumbers(t *testing.T) {
	for _, field := range []string{"Buckets", "Quantum", "Packets", "Memory", "Length", "Target", "Interval", "Tau"} {
		for _, n := range []int{-1, leastInt, leastInt + 1, greatestInt, greatestInt - 1, 1 << 32, 1<<32 + 60} {
			if n >= 1<<32 && n <= api.MaxSpan && (field == "Target" || field == "Interval") {
				continue
			}
			refuses(t, changed(easy(), []change{{field, n}}))
		}
	}
	refuses(t, changed(easy(), []change{{"Length", greatestInt}, {"Memory", leastInt}}))
	refuses(t, changed(easy(), []change{{"Length", greatestInt}, {"Memory", 65536}}))
	refuses(t, changed(easy(), []change{{"Target", greatestInt}, {"Interval", greatestInt}}))
	refuses(t, changed(easy(), []change{{"Buckets", 0}, {"Tau", 0}}))
	refuses(t, api.Config{})
}

func TestNewKey(t *testing.T) {
	c := easy()
	for _, c.Key = range []string{strings.Repeat("\x00", 16), strings.Repeat("\xff", 16), strings.Repeat("ä", 8)} {
		open(t, c)
	}
	for _, c.Key = range []string{"", "x", key[:15], key + "x", strings.Repeat("ä", 16), strings.Repeat("k", 1<<20)} {
		refuses(t, c)
	}
}

func TestNewPort(t *testing.T) {
	for _, ecn := range []bool{false, true} {
		c := easy()
		c.ECN = ecn
		p := open(t, c)
		now(t, p, 0, false)
		held(t, p, 0, 0)
		backlog(t, p, 0, 0, 0)
		counts(t, p, 0, 0, 0, 0, 0, 0, 0)
		arrive(t, p, "first", 0, "[0S0.0/5]")
	}
}
