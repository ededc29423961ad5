package axiom

import "fencepost/api"

// Alone answers what each axiom alone tells of a candidate that may be, whether those ahead of it are broken or not: Judge never tells the pair axiom's first half, as the others are broken wherever that is.
func Alone(c api.Cand) [3]api.Judged {
	v, _ := look(c)
	return [...]api.Judged{v.order(), v.value(), v.pair()}
}
