package share_test

import (
	"testing"

	"distraint/api"
)

// TestJoinTokens: P11.2, written out: nothing, and amounts that bring the tokens to just 2^62, to one more, and around 2^64.
func TestJoinTokens(t *testing.T) {
	written(t, []row{
		{"Join", of(0, 0), 0, refused(api.ErrDust)},
		{"Join", of(1, 1), 0, refused(api.ErrDust)},
		{"Join", of(1, m), 0, refused(api.ErrDust)},
		{"Join", of(most, most), 0, refused(api.ErrDust)},
		{"Join", of(most, m), 0, refused(api.ErrDust)},
		{"Join", of(0, 0), 1, answer{of(1, 1), 1, api.OK}},
		{"Join", of(0, 0), most - 1, answer{of(most-1, most-1), most - 1, api.OK}},
		{"Join", of(0, 0), most, answer{of(most, most), most, api.OK}},
		{"Join", of(0, 0), most + 1, refused(api.ErrOver)},
		{"Join", of(0, 0), m, refused(api.ErrOver)},
		{"Join", of(1, 1), most - 2, answer{of(most-1, most-1), most - 2, api.OK}},
		{"Join", of(1, 1), most - 1, answer{of(most, most), most - 1, api.OK}},
		{"Join", of(1, 1), most, refused(api.ErrOver)},
		{"Join", of(1, 1), m - 1, refused(api.ErrOver)},
		{"Join", of(1, 1), m, refused(api.ErrOver)}, // together just 2^64
		{"Join", of(9, 10), 4611686018427387895, answer{of(most, 5124095576030431004), 5124095576030430994, api.OK}},
		{"Join", of(9, 10), 4611686018427387896, refused(api.ErrOver)},
		{"Join", of(most-1, most), 1, answer{of(most, most+1), 1, api.OK}},
		{"Join", of(most-1, most), 2, refused(api.ErrOver)},
		{"Join", of(most, most), 1, refused(api.ErrOver)},
		{"Join", of(most, most), m, refused(api.ErrOver)},
		{"Join", of(most, most), m - most + 1, refused(api.ErrOver)}, // together just 2^64
	})
}

// TestJoinShares: P11.2, written out: amounts whose price is rounded down, and those whose price, or the shares together with it, are just 2^64 - 1 or one more. (As a pool has as many shares as tokens, only the price of nothing is 0.)
func TestJoinShares(t *testing.T) {
	written(t, []row{
		{"Join", of(9, 10), 1, answer{of(10, 11), 1, api.OK}},
		{"Join", of(9, 10), 8, answer{of(17, 18), 8, api.OK}},
		{"Join", of(9, 10), 10, answer{of(19, 21), 11, api.OK}},
		{"Join", of(2, 3), 1, answer{of(3, 4), 1, api.OK}},
		{"Join", of(2, 3), 2, answer{of(4, 6), 3, api.OK}},
		{"Join", of(most-1, most), 1, answer{of(most, most+1), 1, api.OK}},
		{"Join", of(1, 1<<63-1), 1, answer{of(2, m-1), 1<<63 - 1, api.OK}},
		{"Join", of(1, 1<<63), 1, refused(api.ErrOver)}, // together 2^64
		{"Join", of(1, 1<<63), 2, refused(api.ErrOver)}, // the price is 2^64
		{"Join", of(1, 6148914691236517205), 2, answer{of(3, m), 12297829382473034410, api.OK}},
		{"Join", of(1, 6148914691236517205), 3, refused(api.ErrOver)}, // the price is 2^64 - 1
		{"Join", of(1, 6148914691236517205), 4, refused(api.ErrOver)},
		{"Join", of(1, 6148914691236517206), 2, refused(api.ErrOver)},
		{"Join", of(2, 12297829382473034409), 1, answer{of(3, m-2), 6148914691236517204, api.OK}},
		{"Join", of(2, 12297829382473034410), 1, answer{of(3, m), 6148914691236517205, api.OK}},
		{"Join", of(2, 12297829382473034411), 1, refused(api.ErrOver)}, // together 2^64, as the price is rounded down
		{"Join", of(1, m), 1, refused(api.ErrOver)},                    // the price is 2^64 - 1
		{"Join", of(1, m), 2, refused(api.ErrOver)},
		{"Join", of(most/2, m/2), most / 2, answer{of(most, m-1), m / 2, api.OK}},
		{"Join", of(most/2, m/2+1), most / 2, refused(api.ErrOver)},
		{"Join", of(most-1, m-4), 1, answer{of(most, m-1), 3, api.OK}},
		{"Join", of(most-1, m-3), 1, refused(api.ErrOver)},
	})
}

// TestLeave: P11.3, written out: no shares, those that are worth less than 1, all of them, and one more than there are.
func TestLeave(t *testing.T) {
	written(t, []row{
		{"Leave", of(0, 0), 0, refused(api.ErrDust)},
		{"Leave", of(0, 0), 1, refused(api.ErrPoor)},
		{"Leave", of(0, 0), m, refused(api.ErrPoor)},
		{"Leave", of(1, 1), 0, refused(api.ErrDust)},
		{"Leave", of(1, 1), 1, answer{of(0, 0), 1, api.OK}},
		{"Leave", of(1, 1), 2, refused(api.ErrPoor)},
		{"Leave", of(1, 10), 9, refused(api.ErrDust)},
		{"Leave", of(1, 10), 10, answer{of(0, 0), 1, api.OK}},
		{"Leave", of(9, 10), 0, refused(api.ErrDust)},
		{"Leave", of(9, 10), 2, answer{of(8, 8), 1, api.OK}},
		{"Leave", of(9, 10), 5, answer{of(5, 5), 4, api.OK}},
		{"Leave", of(10, 10), 1, answer{of(9, 9), 1, api.OK}},
		{"Leave", of(10, 10), 9, answer{of(1, 1), 9, api.OK}},
		{"Leave", of(3, 30), 9, refused(api.ErrDust)},
		{"Leave", of(3, 30), 10, answer{of(2, 20), 1, api.OK}},
		{"Leave", of(3, 30), 19, answer{of(2, 11), 1, api.OK}},
		{"Leave", of(1, m), m - 1, refused(api.ErrDust)},
		{"Leave", of(1, m), m, answer{of(0, 0), 1, api.OK}},
		{"Leave", of(1, m-1), m, refused(api.ErrPoor)},
		{"Leave", of(most, most), most, answer{of(0, 0), most, api.OK}},
		{"Leave", of(most, most), most - 1, answer{of(1, 1), most - 1, api.OK}},
		{"Leave", of(most, most), most + 1, refused(api.ErrPoor)},
		{"Leave", of(most, m), 3, refused(api.ErrDust)},
		{"Leave", of(most, m), 4, answer{of(most-1, m-4), 1, api.OK}},
		{"Leave", of(most, m), m, answer{of(0, 0), most, api.OK}},
	})
}

// TestLastShares: P11.3: the tokens run out only with the shares: whoever leaves one share or more behind leaves a token with them.
func TestLastShares(t *testing.T) {
	written(t, []row{
		{"Leave", of(2, 10), 9, answer{of(1, 1), 1, api.OK}},
		{"Leave", of(2, 10), 5, answer{of(1, 5), 1, api.OK}},
		{"Leave", of(9, 10), 9, answer{of(1, 1), 8, api.OK}},
		{"Leave", of(9, 1000), 999, answer{of(1, 1), 8, api.OK}},
		{"Leave", of(9, 1000), 889, answer{of(1, 111), 8, api.OK}},
		{"Leave", of(9, 1000), 888, answer{of(2, 112), 7, api.OK}},
		{"Leave", of(2, m), m - 1, answer{of(1, 1), 1, api.OK}},
		{"Leave", of(most, m), m - 1, answer{of(1, 1), most - 1, api.OK}},
		{"Leave", of(most, m), m - 3, answer{of(1, 3), most - 1, api.OK}},
		{"Leave", of(most, m), m - 4, answer{of(2, 4), most - 2, api.OK}},
	})
	for _, p := range valids() {
		for _, x := range edges(p) {
			after := get("Leave").ask(p, x)
			if after.err == api.OK && (after.pool.Tokens == 0) != (x == p.Shares) {
				t.Errorf("Leave(%v, %d): %v", p, x, after)
			}
		}
	}
}

// TestCut: P11.4, written out: no billionths, one, all and one more, what is rounded down, and pools of which no tokens are left.
func TestCut(t *testing.T) {
	written(t, []row{
		{"Cut", of(0, 0), 0, answer{}},
		{"Cut", of(0, 0), 1, answer{}},
		{"Cut", of(0, 0), 1000000000, answer{}},
		{"Cut", of(0, 0), 1000000001, refused(api.ErrRange)},
		{"Cut", of(0, 0), m, refused(api.ErrRange)},
		{"Cut", of(1, 1), 0, answer{of(1, 1), 0, api.OK}},
		{"Cut", of(1, 1), 1, answer{of(1, 1), 0, api.OK}},
		{"Cut", of(1, 1), 999999999, answer{of(1, 1), 0, api.OK}},
		{"Cut", of(1, 1), 1000000000, answer{of(0, 0), 1, api.OK}},
		{"Cut", of(1, 1), 1000000001, refused(api.ErrRange)},
		{"Cut", of(1, m), 1000000000, answer{of(0, 0), 1, api.OK}},
		{"Cut", of(1, m), 999999999, answer{of(1, m), 0, api.OK}},
		{"Cut", of(9, 10), 1, answer{of(9, 10), 0, api.OK}},
		{"Cut", of(9, 10), 111111111, answer{of(9, 10), 0, api.OK}},
		{"Cut", of(9, 10), 111111112, answer{of(8, 10), 1, api.OK}},
		{"Cut", of(9, 10), 888888888, answer{of(2, 10), 7, api.OK}},
		{"Cut", of(9, 10), 888888889, answer{of(1, 10), 8, api.OK}},
		{"Cut", of(9, 10), 999999999, answer{of(1, 10), 8, api.OK}},
		{"Cut", of(9, 10), 1 << 63, refused(api.ErrRange)},
		{"Cut", of(9, 10), m, refused(api.ErrRange)},
		{"Cut", of(999999999, 1000000000), 1, answer{of(999999999, 1000000000), 0, api.OK}},
		{"Cut", of(1000000000, 1000000000), 1, answer{of(999999999, 1000000000), 1, api.OK}},
		{"Cut", of(1000000000, m), 999999999, answer{of(1, m), 999999999, api.OK}},
		{"Cut", of(most, most), 0, answer{of(most, most), 0, api.OK}},
		{"Cut", of(most, most), 1, answer{of(4611686013815701886, most), 4611686018, api.OK}},
		{"Cut", of(most, m), 500000000, answer{of(2305843009213693952, m), 2305843009213693952, api.OK}},
		{"Cut", of(most, m), 999999999, answer{of(4611686019, m), 4611686013815701885, api.OK}},
		{"Cut", of(most, m), 1000000000, answer{of(0, 0), most, api.OK}},
		{"Cut", of(most, m), 1000000001, refused(api.ErrRange)},
	})
}
