package share_test

import (
	"testing"

	"distraint/api"
)

// valids are pools that are valid: the empty one, small ones, and those at the bounds of tokens and of shares.
func valids() []api.Pool {
	return []api.Pool{
		of(0, 0), of(1, 1), of(1, 2), of(1, 3), of(2, 2), of(2, 3), of(3, 7), of(9, 10), of(10, 10), of(7, 1000),
		of(999999999, 1000000000), of(1000000000, 1000000000), of(1000000001, 3000000000), of(1, 1000000001),
		of(1, 1<<63-1), of(1, 1<<63), of(1, m-1), of(1, m), of(2, m), of(3, m-1), of(3, m), of(1<<32, 1<<63), of(1<<32+1, 1<<63+1),
		of(most-2, most-1), of(most-1, most-1), of(most-1, most), of(most-1, m), of(most, most), of(most, most+1), of(most, 1<<63), of(most, m-1), of(most, m),
	}
}

// wrongs are pools that are not valid, by the error that is told of them.
func wrongs() map[api.Errno][]api.Pool {
	return map[api.Errno][]api.Pool{
		api.ErrOrder: {
			of(1, 0), of(2, 1), of(10, 9), of(1000, 7), of(most, 0), of(most, 1), of(most, most-1), of(most-1, most-2),
			of(most+1, 0), of(most+1, most), of(most+2, most+1), of(1<<63, most), of(1<<63, 1<<63-1), of(m, 0), of(m, 1), of(m, most), of(m, m-1), // too many tokens too
		},
		api.ErrOver: {
			of(most+1, most+1), of(most+1, most+2), of(most+1, 1<<63), of(most+1, m), of(most+2, m), of(1<<63, 1<<63), of(1<<63, m), of(m-1, m), of(m, m),
		},
		api.ErrState: {
			of(0, 1), of(0, 2), of(0, 9), of(0, 1000000000), of(0, most-1), of(0, most), of(0, most+1), of(0, 1<<63), of(0, m-1), of(0, m),
		},
	}
}

// edges are amounts, shares and billionths at which something turns over, and those around what a pool has.
func edges(p api.Pool) []uint64 {
	l := []uint64{
		0, 1, 2, 3, 4, 9, 10, 11, 500000000, 999999998, 999999999, 1000000000, 1000000001, 1000000002, 2000000000,
		1<<32 - 1, 1 << 32, 1<<32 + 1, most - 1, most, most + 1, 1<<63 - 1, 1 << 63, 1<<63 + 1, m - 2, m - 1, m,
	}
	for _, n := range []uint64{p.Tokens, p.Shares, p.Tokens / 2, p.Shares / 2, p.Shares / 3, most - p.Tokens, m - p.Shares, p.Shares - p.Tokens} {
		l = append(l, n-1, n, n+1)
	}
	if p.Tokens > 0 && p.Shares > 0 {
		worth := p.Shares / p.Tokens                   // how many shares a token is worth
		dear := scaled(m, p.Tokens, p.Shares)          // how many tokens come to 2^64 - 1 shares
		full := scaled(m-p.Shares, p.Tokens, p.Shares) // how many tokens come to all shares that the pool has room for
		for _, n := range []uint64{worth, 2 * worth, dear.Uint64(), full.Uint64()} {
			l = append(l, n-1, n, n+1, n+2)
		}
	}
	return l
}

// TestCheck: P11.1: which pools are valid, and why others are not: each rule alone, and the first two at once (the third one excludes both).
func TestCheck(t *testing.T) {
	for _, p := range valids() {
		get("Check").is(t, p, 0, answer{})
	}
	for err, l := range wrongs() {
		for _, p := range l {
			get("Check").is(t, p, 0, refused(err))
		}
	}
}

// TestCheckEdges: P11.1: all pools of edges, by the chapter's words.
func TestCheckEdges(t *testing.T) {
	for _, tokens := range edges(api.Pool{}) {
		for _, shares := range edges(api.Pool{}) {
			get("Check").holds(t, of(tokens, shares), 0)
		}
	}
}

// TestWrongPools: P11.1 to P11.4: of a pool that is not valid, that is told ahead of all else, and nothing else is told.
func TestWrongPools(t *testing.T) {
	for err, l := range wrongs() {
		for _, p := range l {
			for _, r := range requests() {
				for _, n := range edges(p) {
					r.is(t, p, n, refused(err))
				}
			}
		}
	}
}

// TestEdges: P11.1 to P11.4: each call of each valid pool, by the chapter's words.
func TestEdges(t *testing.T) {
	for _, p := range valids() {
		for _, r := range requests() {
			for _, n := range edges(p) {
				r.holds(t, p, n)
			}
		}
	}
}

// TestSmallPools: P11.1 to P11.4: all pools of few shares, valid or not, with all small numbers.
func TestSmallPools(t *testing.T) {
	for shares := range uint64(13) {
		for tokens := range uint64(14) {
			for _, r := range requests() {
				for n := range uint64(30) {
					r.holds(t, of(tokens, shares), n)
					if r.name == "Cut" {
						r.holds(t, of(tokens, shares), n*34567890)
						r.holds(t, of(tokens, shares), 1000000000/(n+1))
						r.holds(t, of(tokens, shares), 1000000000/(n+1)+1)
					}
				}
			}
		}
	}
}
