package scan

import (
	"math/bits"

	"jigworks/api"
)

// set is a set of cells, or of scans, by bits.
type set int

func (s set) has(n int) bool { return s>>n&1 == 1 }

func (s set) with(n int) set { return s | 1<<n }

// or returns what is in one of two sets, and returns what is in both.
func (s set) or(t set) set { return s | t }

func (s set) and(t set) set { return s & t }

func (s set) many() int { return bits.OnesCount(uint(s)) }

// places is the set of the cells of each scan.
type places [api.MaxScans]set

func (p *places) add(scan, cell int) { p[scan] = p[scan].with(cell) }

// cells returns the places of a scan as a number.
func (p places) cells(scan int) int { return int(p[scan]) }
