package stamp_test

import (
	"math"
	"math/rand/v2"
	"testing"

	"distraint/api"
	"distraint/stamp"
)

const top = 1 << 32

// bare is the stamp of a lot that backed nobody before.
func bare(v, since int) api.Stamp { return api.Stamp{Validator: v, Since: since, Prior: -1} }

func of(v, since, prior, from int) api.Stamp {
	return api.Stamp{Validator: v, Since: since, Prior: prior, From: from}
}

// numbers tells a stamp's four numbers, in the order in which they count.
func numbers(s api.Stamp) [4]int { return [4]int{s.Validator, s.Since, s.Prior, s.From} }

func made(n [4]int) api.Stamp { return of(n[0], n[1], n[2], n[3]) }

// bounds are the least and the most that each number may be.
func bounds() [4][2]int { return [4][2]int{{0, 31}, {1, 4294967296}, {-1, 31}, {0, 4294967296}} }

// isValid tells what the chapter's words say of a stamp.
func isValid(s api.Stamp) bool {
	if s.Validator < 0 || s.Validator > 31 || s.Since < 1 || s.Since > 4294967296 {
		return false
	}
	if s.Prior == -1 {
		return s.From == 0
	}
	return s.Prior >= 0 && s.Prior <= 31 && s.Prior != s.Validator && s.From >= 1 && s.From <= s.Since
}

// wrong tells the error that P12.1 names for a stamp.
func wrong(s api.Stamp) api.Errno {
	for i, n := range numbers(s) {
		if n < bounds()[i][0] || n > bounds()[i][1] {
			return api.ErrRange
		}
	}
	switch {
	case s.Prior == s.Validator:
		return api.ErrArg
	case s.Prior == -1 && s.From > 0, s.Prior >= 0 && s.From == 0:
		return api.ErrState
	case s.From > s.Since:
		return api.ErrOrder
	}
	return api.OK
}

// far are numbers that are neither a validator nor a height.
func far() []int {
	return []int{math.MinInt, math.MinInt + 1, -top - 1, -top, -2, top + 1, 2 * top, math.MaxInt - 1, math.MaxInt}
}

// validators are numbers at and around the bounds of validators; heights are those of heights.
func validators() []int { return append(far(), -1, 0, 1, 2, 30, 31, 32, 33, 287) }

func heights() []int { return append(far(), -1, 0, 1, 2, 9, 127, 128, top-1, top) }

// edges are stamps of all these numbers.
func edges() (l []api.Stamp) {
	for _, v := range validators() {
		for _, since := range heights() {
			for _, prior := range validators() {
				for _, from := range heights() {
					l = append(l, of(v, since, prior, from))
				}
			}
		}
	}
	return l
}

// valids are the edges that are valid, and some more.
func valids() []api.Stamp {
	l := []api.Stamp{bare(2, 9), of(2, 9, 1, 5), of(2, 9, 1, 9), of(2, 9, 1, 8), bare(7, 16383), of(8, 16384, 9, 16383), of(16, 1<<21, 15, 1<<21-1), of(1, 1<<28, 0, 1<<28-1)}
	for _, s := range edges() {
		if isValid(s) {
			l = append(l, s)
		}
	}
	return l
}

// invalids are stamps that break one rule each, and some that break several.
func invalids() []api.Stamp {
	l := []api.Stamp{{}, of(2, 9, 2, 5), of(2, 9, -1, 5), of(2, 9, 1, 0), of(2, 9, 1, 10), bare(2, 0), bare(2, -1), bare(-1, 9), bare(32, 9), bare(2, top+1), of(-1, 9, 1, 5), of(32, 9, 1, 5), of(2, top+1, 1, 5), of(2, 0, 1, 1), of(2, 9, -2, 5), of(2, 9, -2, 0), of(2, 9, 32, 5), of(2, 9, 1, -1), of(2, 9, 1, top+1), of(-1, 9, -1, 0), of(2, 9, 2, 10), of(2, 9, 2, 0), of(2, 9, -1, 10), of(2, 9, -1, -1)}
	for _, n := range far() {
		l = append(l, of(n, 9, 1, 5), of(2, n, 1, 5), of(2, 9, n, 5), of(2, 9, 1, n), of(n, n, n, n))
	}
	return l
}

// source draws the same numbers in every run.
func source(seed uint64) *rand.Rand { return rand.New(rand.NewPCG(seed, 12)) }

// height draws a height; short ones are as likely as long ones.
func height(r *rand.Rand) int { return 1 + r.IntN(1<<r.IntN(33)) }

// drawn draws a valid stamp.
func drawn(r *rand.Rand) api.Stamp {
	s := bare(r.IntN(32), height(r))
	if r.IntN(3) > 0 {
		s.Prior, s.From = (s.Validator+1+r.IntN(31))%32, 1+r.IntN(s.Since)
		if r.IntN(4) == 0 {
			s.From = s.Since
		}
	}
	return s
}

// TestCheck: P12.1, written out: each rule alone, at its bounds and one beyond.
func TestCheck(t *testing.T) {
	for _, x := range []struct {
		s   api.Stamp
		err api.Errno
	}{
		{of(2, 9, 1, 5), api.OK}, {bare(2, 9), api.OK},
		{of(-1, 9, 1, 5), api.ErrRange}, {of(0, 9, 1, 5), api.OK}, {of(31, 9, 1, 5), api.OK}, {of(32, 9, 1, 5), api.ErrRange},
		{bare(-1, 9), api.ErrRange}, {bare(0, 9), api.OK}, {bare(31, 9), api.OK}, {bare(32, 9), api.ErrRange},
		{bare(2, 0), api.ErrRange}, {bare(2, 1), api.OK}, {bare(2, 4294967296), api.OK}, {bare(2, 4294967297), api.ErrRange},
		{of(2, 0, 1, 1), api.ErrRange}, {of(2, 1, 1, 1), api.OK}, {of(2, 4294967296, 1, 1), api.OK}, {of(2, 4294967297, 1, 1), api.ErrRange},
		{of(2, 9, -2, 5), api.ErrRange}, {of(2, 9, -2, 0), api.ErrRange}, {of(2, 9, -1, 0), api.OK}, {of(2, 9, 0, 5), api.OK}, {of(2, 9, 31, 5), api.OK}, {of(2, 9, 32, 5), api.ErrRange}, {of(2, 9, 32, 0), api.ErrRange},
		{of(2, 9, 1, -1), api.ErrRange}, {of(2, 9, -1, -1), api.ErrRange}, {of(2, 9, 1, 0), api.ErrState}, {of(2, 9, 1, 1), api.OK},
		{of(2, 4294967296, 1, 4294967296), api.OK}, {of(2, 4294967296, 1, 4294967297), api.ErrRange}, {of(2, 9, 1, 4294967297), api.ErrRange}, {of(2, 9, 1, 4294967296), api.ErrOrder},
		{of(2, 9, 2, 5), api.ErrArg}, {of(0, 9, 0, 5), api.ErrArg}, {of(31, 9, 31, 5), api.ErrArg}, {of(31, 9, 30, 5), api.OK}, {of(30, 9, 31, 5), api.OK},
		{of(2, 9, -1, 1), api.ErrState}, {of(2, 9, -1, 5), api.ErrState}, {of(2, 9, -1, 9), api.ErrState}, {of(2, 9, 0, 0), api.ErrState}, {of(2, 9, 31, 0), api.ErrState},
		{of(2, 9, 1, 8), api.OK}, {of(2, 9, 1, 9), api.OK}, {of(2, 9, 1, 10), api.ErrOrder}, {of(2, 1, 1, 2), api.ErrOrder}, {of(2, 4294967295, 1, 4294967296), api.ErrOrder},
		{api.Stamp{}, api.ErrRange},
	} {
		if err := stamp.Check(x.s); err != x.err {
			t.Errorf("Check(%v): %v; want %v", x.s, err, x.err)
		}
	}
}

// TestCheckOrder: P12.1, written out: several rules at once, of which the first one counts.
func TestCheckOrder(t *testing.T) {
	for _, x := range []struct {
		s   api.Stamp
		err api.Errno
	}{
		{of(-1, 9, -1, 0), api.ErrRange}, {of(32, 9, 32, 5), api.ErrRange}, {of(2, 0, 2, 5), api.ErrRange}, {of(2, top+1, 2, 5), api.ErrRange}, {of(2, 9, 2, -1), api.ErrRange}, {of(2, 9, 2, top+1), api.ErrRange}, // and Prior is Validator
		{of(-1, 9, 1, 0), api.ErrRange}, {of(2, 0, -1, 5), api.ErrRange}, {of(2, 9, 32, 0), api.ErrRange}, {of(2, 9, -1, top+1), api.ErrRange}, // and Prior and From disagree
		{of(32, 9, 1, 10), api.ErrRange}, {of(2, 0, 1, 10), api.ErrRange}, {of(2, 9, -2, 10), api.ErrRange}, {of(2, 9, 1, top+1), api.ErrRange}, // and From is above Since
		{of(2, 9, 2, 0), api.ErrArg},     // and From is 0
		{of(2, 9, 2, 10), api.ErrArg},    // and above Since
		{of(2, 9, -1, 10), api.ErrState}, // and above Since
		{of(-1, 0, -1, 5), api.ErrRange},
	} {
		if err := stamp.Check(x.s); err != x.err {
			t.Errorf("Check(%v): %v; want %v", x.s, err, x.err)
		}
	}
}

// TestCheckEdges: P12.1, by the chapter's words; OK is what they call valid.
func TestCheckEdges(t *testing.T) {
	seen := map[api.Errno]int{}
	for _, s := range edges() {
		err := stamp.Check(s)
		if err != wrong(s) || (err == api.OK) != isValid(s) {
			t.Errorf("Check(%v): %v; want %v", s, err, wrong(s))
		}
		seen[err]++
	}
	for _, err := range []api.Errno{api.OK, api.ErrRange, api.ErrArg, api.ErrState, api.ErrOrder} {
		if seen[err] < 50 {
			t.Errorf("%v: only %d of the edges", err, seen[err])
		}
	}
}

// TestCheckDrawn: P12.1: valid stamps, and those of which one number is another one.
func TestCheckDrawn(t *testing.T) {
	r := source(1)
	for range 20000 {
		s := drawn(r)
		if err := stamp.Check(s); err != api.OK {
			t.Fatalf("Check(%v): %v", s, err)
		}
		n := numbers(s)
		n[r.IntN(4)] = height(r) - 2
		if err := stamp.Check(made(n)); err != wrong(made(n)) {
			t.Fatalf("Check(%v): %v; want %v", n, err, wrong(made(n)))
		}
	}
}
