package port

import "fairlink/api"

// sound tells whether a configuration keeps all limits (P3).
func sound(c api.Config) bool {
	return soundSizes(c) && soundTimes(c) && len(c.Key) == api.KeyLen
}

func soundSizes(c api.Config) bool {
	if c.Buckets < 1 || c.Buckets > api.MaxBuckets {
		return false
	}
	if c.Quantum < 1 || c.Quantum > api.MaxQuantum {
		return false
	}
	if c.Packets < 1 || c.Packets > api.MaxPackets {
		return false
	}
	// Length comes before Memory: only a Length within its limits can be added to without going round.
	if c.Length < api.MinLen || c.Length > api.MaxLen {
		return false
	}
	return c.Memory >= c.Length+api.Over && c.Memory <= api.MaxMemory
}

func soundTimes(c api.Config) bool {
	if c.Target < 1 || c.Target > c.Interval {
		return false
	}
	if c.Interval > api.MaxSpan {
		return false
	}
	return c.Tau >= 1 && c.Tau <= api.MaxTau
}
