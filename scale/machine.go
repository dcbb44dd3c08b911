package scale

import "jigworks/api"

// machine is what tests a box.
type machine interface {
	// reads returns what the machine can read of a box that has some list.
	reads(b api.Box, has list) spread
}

// weigher is a scale.
type weigher struct{ err spread }

func (w weigher) reads(b api.Box, has list) spread {
	var parts []spread
	for kind, k := range b.Kinds {
		parts = append(parts, spread(k.Weight).times(k.Many+has[kind]))
	}
	return sum(spread.plus, w.err.plus(spread(b.Bag)), parts...)
}

// counter is a camera that counts the pieces of a set of kinds.
type counter struct {
	kinds int
	err   spread
}

func (c counter) reads(b api.Box, has list) spread {
	var parts []spread
	for kind, k := range b.Kinds {
		if c.kinds>>kind&1 == 1 {
			parts = append(parts, just(k.Many+has[kind]))
		}
	}
	return sum(spread.plus, c.err, parts...)
}

// machineOf returns the machine of a valid test.
func machineOf(t api.Test) machine {
	if t.How == api.TestCamera {
		return counter{kinds: t.Kinds, err: spread(t.Err)}
	}
	return weigher{err: spread(t.Err)}
}

// couldPass returns whether a box that has some list could pass a test.
func couldPass(b api.Box, t api.Test, has list) bool {
	return machineOf(t).reads(b, has).meets(spread(t.Pass))
}

// tellsApart returns whether a test reads no number of one list that it can also read of another one.
func tellsApart(b api.Box, t api.Test, some, others []list) bool {
	m := machineOf(t)
	var read []spread
	for _, has := range some {
		read = append(read, m.reads(b, has))
	}
	for _, has := range others {
		s := m.reads(b, has)
		for _, r := range read {
			if s.meets(r) {
				return false
			}
		}
	}
	return true
}
