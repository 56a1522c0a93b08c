package share_test

import (
	"testing"

	"distraint/api"
)

// TestValue: P11.1, written out: no shares, all of them, one more than there are, and what is rounded down.
func TestValue(t *testing.T) {
	written(t, []row{
		{"Value", of(0, 0), 0, answer{}},
		{"Value", of(0, 0), 1, refused(api.ErrPoor)},
		{"Value", of(0, 0), m, refused(api.ErrPoor)},
		{"Value", of(1, 1), 0, answer{}},
		{"Value", of(1, 1), 1, answer{n: 1}},
		{"Value", of(1, 1), 2, refused(api.ErrPoor)},
		{"Value", of(1, 10), 9, answer{}},
		{"Value", of(1, 10), 10, answer{n: 1}},
		{"Value", of(9, 10), 0, answer{}},
		{"Value", of(9, 10), 1, answer{}},
		{"Value", of(9, 10), 2, answer{n: 1}},
		{"Value", of(9, 10), 9, answer{n: 8}},
		{"Value", of(9, 10), 10, answer{n: 9}},
		{"Value", of(9, 10), 11, refused(api.ErrPoor)},
		{"Value", of(9, 10), m, refused(api.ErrPoor)},
		{"Value", of(10, 10), 7, answer{n: 7}},
		{"Value", of(1, m), 0, answer{}},
		{"Value", of(1, m), m - 1, answer{}},
		{"Value", of(1, m), m, answer{n: 1}},
		{"Value", of(1, m-1), m, refused(api.ErrPoor)},
		{"Value", of(2, m), 9223372036854775807, answer{}},
		{"Value", of(2, m), 9223372036854775808, answer{n: 1}},
		{"Value", of(most, most), most, answer{n: most}},
		{"Value", of(most, most), most + 1, refused(api.ErrPoor)},
		{"Value", of(most, most), 5, answer{n: 5}},
		{"Value", of(most, m), m, answer{n: most}},
		{"Value", of(most, m), m - 1, answer{n: 4611686018427387903}},
		{"Value", of(most, m), 3, answer{}},
		{"Value", of(most, m), 4, answer{n: 1}},
		{"Value", of(most-1, m), 4, answer{}},
		{"Value", of(most-1, m), 5, answer{n: 1}},
	})
}

// TestPrice: P11.1, written out: nothing, what is rounded down, and both sides of 2^64, in the empty pool too, where every amount is its own price.
func TestPrice(t *testing.T) {
	written(t, []row{
		{"Price", of(0, 0), 0, answer{}},
		{"Price", of(0, 0), 1, answer{n: 1}},
		{"Price", of(0, 0), 7, answer{n: 7}},
		{"Price", of(0, 0), most + 1, answer{n: most + 1}},
		{"Price", of(0, 0), m - 1, answer{n: m - 1}},
		{"Price", of(0, 0), m, answer{n: m}},
		{"Price", of(1, 1), 0, answer{}},
		{"Price", of(1, 1), m, answer{n: m}},
		{"Price", of(9, 10), 0, answer{}},
		{"Price", of(9, 10), 1, answer{n: 1}},
		{"Price", of(9, 10), 8, answer{n: 8}},
		{"Price", of(9, 10), 9, answer{n: 10}},
		{"Price", of(9, 10), 17, answer{n: 18}},
		{"Price", of(9, 10), 16602069666338596453, answer{n: 18446744073709551614}},
		{"Price", of(9, 10), 16602069666338596454, answer{n: m}},
		{"Price", of(9, 10), 16602069666338596455, refused(api.ErrOver)},
		{"Price", of(1, 9223372036854775808), 1, answer{n: 9223372036854775808}},
		{"Price", of(1, 9223372036854775808), 2, refused(api.ErrOver)},
		{"Price", of(1, 6148914691236517205), 3, answer{n: m}},
		{"Price", of(1, 6148914691236517205), 4, refused(api.ErrOver)},
		{"Price", of(1, 6148914691236517206), 3, refused(api.ErrOver)},
		{"Price", of(1, m), 0, answer{}},
		{"Price", of(1, m), 1, answer{n: m}},
		{"Price", of(1, m), 2, refused(api.ErrOver)},
		{"Price", of(1, m), m, refused(api.ErrOver)},
		{"Price", of(2, m), 1, answer{n: 9223372036854775807}},
		{"Price", of(2, m), 2, answer{n: m}},
		{"Price", of(2, m), 3, refused(api.ErrOver)},
		{"Price", of(most, most), most + 5, answer{n: most + 5}},
		{"Price", of(most, most), m, answer{n: m}},
		{"Price", of(most, m), 1, answer{n: 3}},
		{"Price", of(most, m), most, answer{n: m}},
		{"Price", of(most, m), most + 1, refused(api.ErrOver)},
	})
}
