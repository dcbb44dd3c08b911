package scan

import "jigworks/api"

// common is something that two sides must have in common if both can be the same one.
type common interface{ exists() bool }

type (
	// kinds are the kinds of two sides.
	kinds [2]int
	// spans are what is known of one number of two sides.
	spans [2]api.Span
)

func (k kinds) exists() bool { return k[0] == k[1] }

func (s spans) exists() bool { return s[0].Lo <= s[1].Hi && s[1].Lo <= s[0].Hi }

// canBeSame returns whether two sides can be the same one.
func canBeSame(a, b api.Edge) bool {
	l := []common{kinds{a.Kind, b.Kind}}
	if a.Kind != api.EdgeFlat {
		l = append(l, spans{a.At, b.At}, spans{a.Wide, b.Wide}, spans{a.Deep, b.Deep})
	}
	return every(common.exists, l...)
}
