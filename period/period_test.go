package period_test

import (
	"math"
	"sort"
	"testing"

	"distraint/api"
	"distraint/params"
	"distraint/period"
)

// top is the greatest height, and the greatest epoch.
const top = 4294967296

// request is a call of the package: how it is asked, and what the chapter's words tell where params, heights and epochs are valid. True is 1, false 0; a call that takes one number alone leaves y aside.
type request struct {
	name      string
	pair      bool
	ask, want func(p api.Params, x, y int) (int, api.Errno)
}

// requests are all calls of the package.
func requests() []request {
	return []request{
		{"Epoch", false, one(period.Epoch), one(epoch)},
		{"First", false, one(period.First), one(first)},
		{"Last", false, one(period.Last), one(last)},
		{"Low", false, one(period.Low), one(low)},
		{"Floor", false, one(period.Floor), one(floor)},
		{"Ripe", true, two(period.Ripe), two(ripe)},
		{"Alive", true, two(period.Alive), two(alive)},
		{"Noted", true, two(period.Noted), two(noted)},
		{"Aged", true, lone(period.Aged), lone(aged)},
		{"Until", false, one(period.Until), one(until)},
	}
}

func one(f func(p api.Params, x int) (int, api.Errno)) func(p api.Params, x, y int) (int, api.Errno) {
	return func(p api.Params, x, y int) (int, api.Errno) { return f(p, x) }
}

func two(f func(p api.Params, x, y int) (bool, api.Errno)) func(p api.Params, x, y int) (int, api.Errno) {
	return func(p api.Params, x, y int) (int, api.Errno) {
		is, err := f(p, x, y)
		if is {
			return 1, err
		}
		return 0, err
	}
}

func lone(f func(p api.Params, x, y int) api.Errno) func(p api.Params, x, y int) (int, api.Errno) {
	return func(p api.Params, x, y int) (int, api.Errno) { return 0, f(p, x, y) }
}

// epoch is the first one that does not end ahead of h.
func epoch(p api.Params, h int) (int, api.Errno) {
	return sort.Search(top, func(e int) bool { return (e+1)*p.EpochLen >= h }), api.OK
}

func first(p api.Params, e int) (int, api.Errno) {
	if h := e*p.EpochLen + 1; h <= top {
		return h, api.OK
	}
	return 0, api.ErrRange
}

func last(p api.Params, e int) (int, api.Errno) {
	if _, err := first(p, e); err != api.OK {
		return 0, err
	}
	if h := (e + 1) * p.EpochLen; h <= top {
		return h, api.OK
	}
	return top, api.OK
}

func low(p api.Params, h int) (int, api.Errno) {
	e, _ := epoch(p, h)
	if e+1 < p.Window {
		return 0, api.OK
	}
	return e + 1 - p.Window, api.OK
}

func floor(p api.Params, h int) (int, api.Errno) {
	if h <= p.Window*p.EpochLen {
		return 1, api.OK
	}
	return h - p.Window*p.EpochLen + 1, api.OK
}

func ripe(p api.Params, c, h int) (bool, api.Errno)  { return h >= c+p.Unbonding, api.OK }
func alive(p api.Params, c, h int) (bool, api.Errno) { return h <= c+p.Unbonding, api.OK }
func noted(p api.Params, g, h int) (bool, api.Errno) { return h >= g && h < g+p.CorrWindow, api.OK }
func until(p api.Params, h int) (int, api.Errno)     { return h + p.JailTime, api.OK }

func aged(p api.Params, g, h int) api.Errno {
	if g > h {
		return api.ErrAhead
	}
	if h > g+p.MaxAge {
		return api.ErrOld
	}
	return api.OK
}

// isEpoch tells whether x is an epoch in this call, and not a height.
func (r request) isEpoch() bool { return r.name == "First" || r.name == "Last" }

// within tells whether the numbers of the call are in range.
func (r request) within(x, y int) bool {
	if r.isEpoch() {
		return x >= 0 && x <= top
	}
	return x >= 1 && x <= top && (!r.pair || y >= 1 && y <= top)
}

// others tells numbers for y, of a list of them: of a call that takes one number alone, any will do.
func (r request) others(l []int) []int {
	if r.pair {
		return l
	}
	return []int{0}
}

// tells: the call tells this.
func (r request) tells(t *testing.T, p api.Params, x, y, n int, err api.Errno) {
	t.Helper()
	if is, e := r.ask(p, x, y); is != n || e != err {
		t.Errorf("%s(%+v, %d, %d): %d, %v; want %d, %v", r.name, p, x, y, is, e, n, err)
	}
}

// tellsTrue: the call tells what the chapter's words do.
func (r request) tellsTrue(t *testing.T, p api.Params, x, y int) {
	t.Helper()
	if !r.within(x, y) {
		r.tells(t, p, x, y, 0, api.ErrRange)
		return
	}
	n, err := r.want(p, x, y)
	r.tells(t, p, x, y, n, err)
}

// odd are valid params of which no two values are alike.
func odd() api.Params {
	return api.Params{Unbonding: 40, MaxAge: 30, EpochLen: 7, Window: 5, Entries: 3, MaxActive: 2, JailTime: 25, Base: 11, Mult: 13, CorrWindow: 17, Reward: 19}
}

// of tells odd params with some of them changed.
func of(change func(p *api.Params)) api.Params {
	p := odd()
	change(&p)
	return p
}

// wild are numbers in range and out of it, for heights and for epochs.
func wild() []int {
	return []int{math.MinInt, math.MinInt + 1, -top - 1, -top, -1048576, -2, -1, 0, 1, 2, 50, 1048577, top - 1, top, top + 1, top + 2, 2 * top, 1<<53 + 1, math.MaxInt - 1048576, math.MaxInt - 1, math.MaxInt}
}

// outOfBounds are params of which one field is out of its bounds, or several are.
func outOfBounds() []api.Params {
	var l []api.Params
	for _, set := range []func(p *api.Params, n int){
		func(p *api.Params, n int) { p.Unbonding = n },
		func(p *api.Params, n int) { p.EpochLen = n },
		func(p *api.Params, n int) { p.Window = n },
		func(p *api.Params, n int) { p.Entries = n },
		func(p *api.Params, n int) { p.MaxActive = n },
		func(p *api.Params, n int) { p.JailTime = n },
		func(p *api.Params, n int) { p.CorrWindow = n },
	} {
		for _, n := range []int{math.MinInt, -1, 0, 1048577, top, math.MaxInt} {
			l = append(l, of(func(p *api.Params) { set(p, n) }))
		}
	}
	for _, n := range []int{math.MinInt, -1, 1048577, math.MaxInt} {
		l = append(l, of(func(p *api.Params) { p.MaxAge = n }))
	}
	return append(l,
		api.Params{},
		of(func(p *api.Params) { p.EpochLen = 1001 }),
		of(func(p *api.Params) { p.Window = 257 }),
		of(func(p *api.Params) { p.Entries = 17 }),
		of(func(p *api.Params) { p.MaxActive = 33 }),
		of(func(p *api.Params) { p.Base = 1000000001 }),
		of(func(p *api.Params) { p.Mult = 1001 }),
		of(func(p *api.Params) { p.Reward = math.MaxUint64 }),
		of(func(p *api.Params) { p.MaxAge, p.EpochLen = 41, 0 }),
		of(func(p *api.Params) { p.MaxAge, p.Reward = 41, 1000000001 }),
	)
}

// outOfOrder are params that would be valid if MaxAge were not greater than Unbonding.
func outOfOrder() []api.Params {
	return []api.Params{
		of(func(p *api.Params) { p.MaxAge = 41 }),
		of(func(p *api.Params) { p.Unbonding = 29 }),
		of(func(p *api.Params) { p.Unbonding, p.MaxAge = 1, 2 }),
		of(func(p *api.Params) { p.Unbonding, p.MaxAge = 1048575, 1048576 }),
		of(func(p *api.Params) { p.Unbonding, p.MaxAge, p.EpochLen = 1, 1048576, 1000 }),
	}
}

// TestParams: P8.1: params that are not valid are told ahead of all else, whatever the heights and epochs are.
func TestParams(t *testing.T) {
	for _, r := range requests() {
		for _, x := range wild() {
			for _, y := range r.others(wild()) {
				for _, p := range outOfBounds() {
					r.tells(t, p, x, y, 0, api.ErrRange)
				}
				for _, p := range outOfOrder() {
					r.tells(t, p, x, y, 0, api.ErrOrder)
				}
			}
		}
	}
}

// TestRange: P8.1: a height or an epoch that is out of range, each one by itself and both.
func TestRange(t *testing.T) {
	for _, p := range []api.Params{odd(), params.Default(), of(func(p *api.Params) { p.EpochLen = 1 })} {
		for _, r := range requests() {
			for _, x := range wild() {
				for _, y := range r.others(wild()) {
					r.tellsTrue(t, p, x, y)
				}
			}
		}
	}
}

// TestRangeEdges: P8.1: the edges of both ranges, written out; both numbers of a pair are checked before they are compared.
func TestRangeEdges(t *testing.T) {
	p := of(func(p *api.Params) { p.EpochLen = 1 })
	for _, r := range requests() {
		for _, x := range []int{math.MinInt, -1, 0, 1, top, top + 1, math.MaxInt} {
			_, err := r.ask(p, x, 1)
			isHeight, isEpoch := x == 1 || x == top, x == 0 || x == 1
			want := api.ErrRange
			if r.isEpoch() && isEpoch || !r.isEpoch() && isHeight {
				want = api.OK
			}
			if r.name == "Aged" && x == top {
				want = api.ErrAhead
			}
			if err != want {
				t.Errorf("%s(%+v, %d, 1): %v; want %v", r.name, p, x, err, want)
			}
		}
		for _, y := range []int{math.MinInt, -1, 0, top + 1, math.MaxInt} {
			if r.pair {
				r.tells(t, p, 1, y, 0, api.ErrRange)
				r.tells(t, p, top, y, 0, api.ErrRange)
				r.tells(t, p, y, 1, 0, api.ErrRange)
				r.tells(t, p, y, top, 0, api.ErrRange)
				r.tells(t, p, y, y, 0, api.ErrRange)
			}
		}
	}
}

// TestExamples: the chapter's table.
func TestExamples(t *testing.T) {
	p := params.Default()
	none := api.Params{}
	rows := map[string][]struct {
		p    api.Params
		x, y int
		n    int
		err  api.Errno
	}{
		"Epoch": {{p, 1, 0, 0, api.OK}, {p, 10, 0, 0, api.OK}, {p, 11, 0, 1, api.OK}, {p, 0, 0, 0, api.ErrRange}, {p, 4294967297, 0, 0, api.ErrRange}, {none, 1, 0, 0, api.ErrRange}},
		"First": {{p, 1, 0, 11, api.OK}, {p, 4294967296, 0, 0, api.ErrRange}, {p, -1, 0, 0, api.ErrRange}},
		"Last":  {{p, 1, 0, 20, api.OK}},
		"Low":   {{p, 1, 0, 0, api.OK}, {p, 95, 0, 2, api.OK}},
		"Floor": {{p, 5, 0, 1, api.OK}, {p, 95, 0, 16, api.OK}},
		"Until": {{p, 30, 0, 50, api.OK}},
		"Ripe":  {{p, 7, 106, 0, api.OK}, {p, 7, 107, 1, api.OK}},
		"Alive": {{p, 7, 107, 1, api.OK}, {p, 7, 108, 0, api.OK}},
		"Aged":  {{p, 5, 105, 0, api.OK}, {p, 5, 106, 0, api.ErrOld}, {p, 6, 5, 0, api.ErrAhead}},
		"Noted": {{p, 50, 99, 1, api.OK}, {p, 50, 100, 0, api.OK}},
	}
	for _, r := range requests() {
		if len(rows[r.name]) == 0 {
			t.Error("no example of", r.name)
		}
		for _, x := range rows[r.name] {
			r.tells(t, x.p, x.x, x.y, x.n, x.err)
		}
	}
}
