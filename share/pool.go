package share

import (
	"math"

	"distraint/api"
	"distraint/fixnum"
)

// A pool is api's, with what can be done to it: each operation leaves it as it is, and tells a new one.
type pool api.Pool

func (p pool) check() api.Errno {
	return first(
		unless(p.Tokens > p.Shares, api.ErrOrder),
		unless(p.Tokens > api.MaxSupply, api.ErrOver),
		unless(p.Tokens == 0 && p.Shares > 0, api.ErrState),
	)
}

// rate tells how many tokens how many shares are worth: all of them, or one for one in the empty pool, where there is nothing to divide by.
func (p pool) rate() (tokens, shares) {
	if p == (pool{}) {
		return 1, 1
	}
	return tokens(p.Tokens), shares(p.Shares)
}

func (p pool) value(x shares) (tokens, api.Errno) {
	if err := first(p.check, unless(x > shares(p.Shares), api.ErrPoor)); err != api.OK {
		return 0, err
	}
	worth, of := p.rate()
	return exchange(x, of, worth)
}

func (p pool) price(a tokens) (shares, api.Errno) {
	if err := p.check(); err != api.OK {
		return 0, err
	}
	of, worth := p.rate()
	return exchange(a, of, worth)
}

func (p pool) join(a tokens) (pool, shares, api.Errno) {
	price, priceless := p.price(a)
	err := first(
		p.check,
		unless(a == 0, api.ErrDust),
		told(priceless),
		room(tokens(p.Tokens), a, api.MaxSupply),
		room(shares(p.Shares), price, math.MaxUint64),
	)
	if err != api.OK {
		return pool{}, 0, err
	}
	return pool{Tokens: p.Tokens + uint64(a), Shares: p.Shares + uint64(price)}, price, api.OK
}

// leave need not look for shares that stay without tokens: the value is all tokens only if x is all shares.
func (p pool) leave(x shares) (pool, tokens, api.Errno) {
	value, worthless := p.value(x)
	if err := first(told(worthless), unless(value == 0, api.ErrDust)); err != api.OK {
		return pool{}, 0, err
	}
	return pool{Tokens: p.Tokens - uint64(value), Shares: p.Shares - uint64(x)}, value, api.OK
}

func (p pool) cut(ppb uint64) (pool, tokens, api.Errno) {
	part, wrong := fixnum.Part(p.Tokens, ppb)
	if err := first(p.check, told(wrong)); err != api.OK {
		return pool{}, 0, err
	}
	if part == p.Tokens {
		return pool{}, tokens(part), api.OK
	}
	return pool{Tokens: p.Tokens - part, Shares: p.Shares}, tokens(part), api.OK
}
