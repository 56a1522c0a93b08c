package share_test

import (
	"math/big"
	"slices"
	"testing"

	"distraint/api"
	"distraint/share"
)

const (
	m    = 1<<64 - 1
	most = 1 << 62
)

func of(tokens, shares uint64) api.Pool { return api.Pool{Tokens: tokens, Shares: shares} }

// answer is what a call returns; Check has no number, and Check, Value and Price have no pool.
type answer struct {
	pool api.Pool
	n    uint64
	err  api.Errno
}

func refused(err api.Errno) answer { return answer{err: err} }

func whole(n uint64) *big.Int { return new(big.Int).SetUint64(n) }

// scaled tells a times b divided by c, rounded down.
func scaled(a, b, c uint64) *big.Int {
	p := new(big.Int).Mul(whole(a), whole(b))
	return p.Div(p, whole(c))
}

// checked tells what the chapter's words say of a pool.
func checked(p api.Pool) api.Errno {
	switch {
	case p.Tokens > p.Shares:
		return api.ErrOrder
	case p.Tokens > 4611686018427387904:
		return api.ErrOver
	case p.Tokens == 0 && p.Shares != 0:
		return api.ErrState
	}
	return api.OK
}

// request is one of the six calls, and what the chapter's words say of it for a pool that is valid.
type request struct {
	name string
	ask  func(p api.Pool, n uint64) answer
	want func(p api.Pool, n uint64) answer
}

func number(call func(api.Pool, uint64) (uint64, api.Errno)) func(api.Pool, uint64) answer {
	return func(p api.Pool, n uint64) answer {
		is, err := call(p, n)
		return answer{n: is, err: err}
	}
}

func change(call func(api.Pool, uint64) (api.Pool, uint64, api.Errno)) func(api.Pool, uint64) answer {
	return func(p api.Pool, n uint64) answer {
		after, is, err := call(p, n)
		return answer{after, is, err}
	}
}

func requests() []request {
	return []request{
		{"Check", func(p api.Pool, n uint64) answer { return answer{err: share.Check(p)} }, func(p api.Pool, n uint64) answer { return answer{} }},
		{"Value", number(share.Value), wantValue},
		{"Price", number(share.Price), wantPrice},
		{"Join", change(share.Join), wantJoin},
		{"Leave", change(share.Leave), wantLeave},
		{"Cut", change(share.Cut), wantCut},
	}
}

// get tells the request of a name.
func get(name string) request {
	l := requests()
	return l[slices.IndexFunc(l, func(r request) bool { return r.name == name })]
}

// exactPrice tells the price of an amount, however large it is.
func exactPrice(p api.Pool, a uint64) *big.Int {
	if p.Tokens == 0 {
		return whole(a)
	}
	return scaled(a, p.Shares, p.Tokens)
}

func wantValue(p api.Pool, x uint64) answer {
	if x > p.Shares {
		return refused(api.ErrPoor)
	}
	if p.Shares == 0 {
		return answer{}
	}
	return answer{n: scaled(x, p.Tokens, p.Shares).Uint64()}
}

func wantPrice(p api.Pool, a uint64) answer {
	if n := exactPrice(p, a); n.IsUint64() {
		return answer{n: n.Uint64()}
	}
	return refused(api.ErrOver)
}

func wantJoin(p api.Pool, a uint64) answer {
	if a == 0 {
		return refused(api.ErrDust)
	}
	price := exactPrice(p, a)
	tokens := new(big.Int).Add(whole(p.Tokens), whole(a))
	shares := new(big.Int).Add(whole(p.Shares), price)
	if tokens.Cmp(whole(4611686018427387904)) > 0 || !price.IsUint64() || !shares.IsUint64() {
		return refused(api.ErrOver)
	}
	return answer{of(tokens.Uint64(), shares.Uint64()), price.Uint64(), api.OK}
}

func wantLeave(p api.Pool, x uint64) answer {
	value := wantValue(p, x)
	if value.err != api.OK {
		return value
	}
	if value.n == 0 {
		return refused(api.ErrDust)
	}
	return answer{of(p.Tokens-value.n, p.Shares-x), value.n, api.OK}
}

func wantCut(p api.Pool, ppb uint64) answer {
	if ppb > 1000000000 {
		return refused(api.ErrRange)
	}
	n := scaled(p.Tokens, ppb, 1000000000).Uint64()
	if n == p.Tokens {
		return answer{of(0, 0), n, api.OK}
	}
	return answer{of(p.Tokens-n, p.Shares), n, api.OK}
}

// is: a call answers this.
func (r request) is(t *testing.T, p api.Pool, n uint64, want answer) {
	t.Helper()
	if got := r.ask(p, n); got != want {
		t.Errorf("%s(%v, %d): %v; want %v", r.name, p, n, got, want)
	}
}

// holds: a call answers what the chapter's words say.
func (r request) holds(t *testing.T, p api.Pool, n uint64) {
	t.Helper()
	want := refused(checked(p))
	if want.err == api.OK {
		want = r.want(p, n)
	}
	r.is(t, p, n, want)
}

// row is a call, written out.
type row struct {
	name string
	pool api.Pool
	n    uint64
	want answer
}

func written(t *testing.T, rows []row) {
	t.Helper()
	for _, x := range rows {
		get(x.name).is(t, x.pool, x.n, x.want)
	}
}

// TestExamples: the chapter's table, each of its rows.
func TestExamples(t *testing.T) {
	written(t, []row{
		{"Join", of(0, 0), 10, answer{of(10, 10), 10, api.OK}},
		{"Join", of(9, 10), 9, answer{of(18, 20), 10, api.OK}},
		{"Join", of(9, 10), 1, answer{of(10, 11), 1, api.OK}},
		{"Join", of(9, 10), 0, refused(api.ErrDust)},
		{"Leave", of(9, 10), 9, answer{of(1, 1), 8, api.OK}},
		{"Leave", of(9, 10), 1, refused(api.ErrDust)},
		{"Leave", of(9, 10), 10, answer{of(0, 0), 9, api.OK}},
		{"Leave", of(9, 10), 11, refused(api.ErrPoor)},
		{"Cut", of(9, 10), 500000000, answer{of(5, 10), 4, api.OK}},
		{"Cut", of(9, 10), 1000000000, answer{of(0, 0), 9, api.OK}},
		{"Cut", of(9, 10), 0, answer{of(9, 10), 0, api.OK}},
		{"Cut", of(9, 10), 1000000001, refused(api.ErrRange)},
		{"Check", of(10, 9), 0, refused(api.ErrOrder)},
		{"Check", of(4611686018427387905, 9223372036854775808), 0, refused(api.ErrOver)},
		{"Check", of(0, 1), 0, refused(api.ErrState)},
		{"Check", of(0, 0), 0, answer{}},
		{"Value", of(9, 10), 5, answer{n: 4}},
		{"Value", of(0, 0), 0, answer{n: 0}},
		{"Value", of(0, 0), 1, refused(api.ErrPoor)},
		{"Price", of(9, 10), 5, answer{n: 5}},
		{"Price", of(1, 9223372036854775808), 2, refused(api.ErrOver)},
		{"Join", of(4611686018427387904, 4611686018427387904), 1, refused(api.ErrOver)},
	})
}
