package stake_test

import (
	"maps"
	"math/big"
	"slices"

	"distraint/api"
	"distraint/bank"
	"distraint/holding"
	"distraint/hop"
	"distraint/params"
	"distraint/queue"
	"distraint/roster"
)

// checked tells what the chapter's words say of a ledger; of its parts, what their layers say.
func checked(x api.Ledger) api.Errno {
	if err, _ := params.Check(x.Params); err != api.OK {
		return err
	}
	if x.Height < 1 || x.Height > 4294967296 {
		return api.ErrRange
	}
	if err := bank.Check(x.Bank); err != api.OK {
		return err
	}
	if err := holding.Check(x.Holding); err != api.OK {
		return err
	}
	if err, _ := queue.Check(x.Entries); err != api.OK {
		return err
	}
	if err, _ := hop.Check(x.Hops); err != api.OK {
		return err
	}
	if err, _ := roster.Check(x.Validators); err != api.OK {
		return err
	}
	if !exist(x) {
		return api.ErrUnknown
	}
	if isAhead(x) {
		return api.ErrAhead
	}
	bonded, unbonding := new(big.Int), new(big.Int)
	for _, c := range x.Holding.Classes {
		bonded.Add(bonded, number(c.Pool.Tokens))
	}
	for _, e := range x.Entries {
		unbonding.Add(unbonding, number(e.Balance))
	}
	if bonded.Cmp(number(x.Bank.Pools[0])) != 0 || unbonding.Cmp(number(x.Bank.Pools[1])) != 0 {
		return api.ErrState
	}
	return api.OK
}

func number(n uint64) *big.Int { return new(big.Int).SetUint64(n) }

// exist tells whether all accounts and all validators of x exist.
func exist(x api.Ledger) bool {
	account := func(n int) bool { return n >= 0 && n < len(x.Bank.Liquid) }
	backs := func(v int) bool { return v >= 0 && v < len(x.Validators) }
	known := func(t api.Stamp) bool { return backs(t.Validator) && (t.Prior == -1 || backs(t.Prior)) }
	for _, c := range x.Holding.Classes {
		if !known(c.Stamp) {
			return false
		}
	}
	for _, p := range x.Holding.Positions {
		if !account(p.Owner) {
			return false
		}
	}
	for _, e := range x.Entries {
		if !account(e.Owner) || !known(e.Stamp) {
			return false
		}
	}
	for _, h := range x.Hops {
		if !account(h.Owner) || !backs(h.Src) || !backs(h.Dst) {
			return false
		}
	}
	for _, v := range x.Validators {
		if !account(v.Operator) {
			return false
		}
	}
	return true
}

func isAhead(x api.Ledger) bool {
	for _, c := range x.Holding.Classes {
		if c.Stamp.Since > x.Height {
			return true
		}
	}
	for _, e := range x.Entries {
		if e.Stamp.Since > x.Height || e.Created > x.Height {
			return true
		}
	}
	for _, h := range x.Hops {
		if h.Created > x.Height {
			return true
		}
	}
	return false
}

// place is where an owner has shares.
type place struct {
	owner int
	stamp api.Stamp
}

// model is a valid ledger by the chapters' words: what is in its holding is in two maps instead.
type model struct {
	api.Ledger
	pools  map[api.Stamp]api.Pool
	shares map[place]uint64
}

func modelOf(x api.Ledger) *model {
	m := &model{copied(x), map[api.Stamp]api.Pool{}, map[place]uint64{}}
	for _, c := range x.Holding.Classes {
		m.pools[c.Stamp] = c.Pool
	}
	for _, p := range x.Holding.Positions {
		m.shares[place{p.Owner, p.Stamp}] = p.Shares
	}
	return m
}

// ledger tells the ledger that m is.
func (m *model) ledger() api.Ledger {
	x := copied(m.Ledger)
	x.Holding = api.Holding{}
	for s, p := range m.pools {
		if p.Tokens > 0 {
			x.Holding.Classes = append(x.Holding.Classes, api.Class{Stamp: s, Pool: p})
		}
	}
	for at, n := range m.shares {
		if n > 0 && m.pools[at.stamp].Tokens > 0 {
			x.Holding.Positions = append(x.Holding.Positions, part(at.owner, at.stamp, n))
		}
	}
	ordered(&x.Holding)
	return x
}

func (m *model) isAccount(n int) bool   { return n >= 0 && n < len(m.Bank.Liquid) }
func (m *model) isValidator(v int) bool { return v >= 0 && v < len(m.Validators) }
func (m *model) isFree(v int) bool      { return m.Validators[v].Status == 1 || m.Validators[v].Status == 2 }

// floor tells a times b by c, rounded down.
func floor(a, b, c uint64) *big.Int {
	n := new(big.Int).Mul(number(a), number(b))
	return n.Div(n, number(c))
}

// stamps tells all stamps that lots have, in order.
func (m *model) stamps() []api.Stamp {
	return slices.SortedFunc(maps.Keys(m.pools), func(a, b api.Stamp) int { return slices.Compare(numbers(a), numbers(b)) })
}

// tokens tells what backs each validator.
func (m *model) tokens() []uint64 {
	l := make([]uint64, len(m.Validators))
	for s, p := range m.pools {
		l[s.Validator] += p.Tokens
	}
	return l
}

// own tells the own stake of a validator.
func (m *model) own(v int) (n uint64) {
	for at, x := range m.shares {
		if at.owner == m.Validators[v].Operator && at.stamp.Validator == v {
			p := m.pools[at.stamp]
			n += floor(x, p.Tokens, p.Shares).Uint64()
		}
	}
	return n
}

// falls applies the shortfall rule to a validator if from is its operator.
func (m *model) falls(from, v int) {
	x := &m.Validators[v]
	if x.Operator == from && m.isFree(v) && m.own(v) < x.MinSelf {
		x.Status, x.Until = 3, max(x.Until, m.Height+m.Params.JailTime)
	}
}

// take takes an amount from an account into the bonded pool.
func (m *model) take(from int, a uint64) api.Errno {
	if m.Bank.Liquid[from] < a {
		return api.ErrPoor
	}
	m.Bank.Liquid[from] -= a
	m.Bank.Pools[0] += a
	return api.OK
}

// join gives an owner a more in a class, and tells the shares.
func (m *model) join(owner int, s api.Stamp, a uint64) (uint64, api.Errno) {
	p, is := m.pools[s]
	if !is && len(m.pools) == 1024 {
		return 0, api.ErrFull
	}
	if a == 0 {
		return 0, api.ErrDust
	}
	price := number(a)
	if is {
		price = floor(a, p.Shares, p.Tokens)
	}
	if sum := new(big.Int).Add(price, number(p.Shares)); sum.Cmp(number(great)) > 0 {
		return 0, api.ErrOver
	}
	m.pools[s] = api.Pool{Tokens: p.Tokens + a, Shares: p.Shares + price.Uint64()}
	m.shares[place{owner, s}] += price.Uint64()
	return price.Uint64(), api.OK
}

// leave takes x shares of an owner out of a class, and tells their value.
func (m *model) leave(owner int, s api.Stamp, x uint64) (uint64, api.Errno) {
	has, is := m.shares[place{owner, s}]
	switch {
	case !is:
		return 0, api.ErrUnknown
	case has < x:
		return 0, api.ErrPoor
	}
	p := m.pools[s]
	value := floor(x, p.Tokens, p.Shares).Uint64()
	if value == 0 {
		return 0, api.ErrDust
	}
	m.pools[s] = api.Pool{Tokens: p.Tokens - value, Shares: p.Shares - x}
	m.shares[place{owner, s}] -= x
	if has == x {
		delete(m.shares, place{owner, s})
	}
	if p.Shares == x {
		delete(m.pools, s)
	}
	return value, api.OK
}

func (m *model) transfer(from, to int, a uint64) told {
	switch {
	case !m.isAccount(from), !m.isAccount(to):
		return refused(api.ErrUnknown)
	case from == to, a == 0:
		return refused(api.ErrArg)
	case m.Bank.Liquid[from] < a:
		return refused(api.ErrPoor)
	}
	m.Bank.Liquid[from] -= a
	m.Bank.Liquid[to] += a
	return told{}
}

func (m *model) create(from int, minSelf, a uint64) told {
	switch {
	case !m.isAccount(from):
		return refused(api.ErrUnknown)
	case minSelf == 0:
		return refused(api.ErrArg)
	case slices.ContainsFunc(m.Validators, func(x api.Validator) bool { return x.Operator == from }):
		return refused(api.ErrDouble)
	case len(m.Validators) == 32:
		return refused(api.ErrFull)
	case a < minSelf:
		return refused(api.ErrPoor)
	}
	m.Validators = append(m.Validators, api.Validator{Operator: from, MinSelf: minSelf, Status: 1})
	v := len(m.Validators) - 1
	got := m.bond(from, v, a)
	if got.err != api.OK {
		return got
	}
	return told{v: v, n: got.n}
}

func (m *model) bond(from, v int, a uint64) told {
	if err := m.take(from, a); err != api.OK {
		return refused(err)
	}
	n, err := m.join(from, bare(v, m.Height), a)
	return told{n: n, err: err}
}

func (m *model) delegate(from, v int, a uint64) told {
	switch {
	case !m.isAccount(from), !m.isValidator(v):
		return refused(api.ErrUnknown)
	case m.Validators[v].Status == 4:
		return refused(api.ErrTomb)
	}
	return m.bond(from, v, a)
}

func (m *model) undelegate(from int, t api.Stamp, x uint64) told {
	a, err := m.leave(from, t, x)
	if err != api.OK {
		return refused(err)
	}
	live := 0
	for _, e := range m.Entries {
		if e.Owner == from && e.Stamp.Validator == t.Validator {
			live++
		}
	}
	switch {
	case live >= m.Params.Entries:
		return refused(api.ErrCap)
	case len(m.Entries) == 32768:
		return refused(api.ErrFull)
	}
	m.Entries = append(m.Entries, entry(from, t, m.Height, a, a))
	m.Bank.Pools[0] -= a
	m.Bank.Pools[1] += a
	m.falls(from, t.Validator)
	return told{n: a}
}

func (m *model) redelegate(from int, t api.Stamp, x uint64, to int) told {
	a, err := m.leave(from, t, x)
	if err != api.OK {
		return refused(err)
	}
	switch {
	case !m.isValidator(to):
		return refused(api.ErrUnknown)
	case m.Validators[to].Status == 4:
		return refused(api.ErrTomb)
	case to == t.Validator:
		return refused(api.ErrArg)
	case t.Prior != -1 && m.Height <= t.Since+m.Params.Unbonding:
		return refused(api.ErrChain)
	}
	live := 0
	for _, h := range m.Hops {
		if h.Owner == from && h.Src == t.Validator && h.Dst == to {
			live++
		}
	}
	switch {
	case live >= m.Params.Entries:
		return refused(api.ErrCap)
	case len(m.Hops) == 4096:
		return refused(api.ErrLong)
	}
	m.Hops = append(m.Hops, jump(from, t.Validator, to, m.Height))
	after := hopped(to, m.Height, t.Validator, t.Since)
	n, err := m.join(from, after, a)
	if err != api.OK {
		return refused(err)
	}
	m.falls(from, t.Validator)
	return told{lot: api.Lot{Stamp: after, Amount: a, Shares: n}}
}

func (m *model) unjail(from, v int) told {
	if !m.isValidator(v) {
		return refused(api.ErrUnknown)
	}
	x := &m.Validators[v]
	switch {
	case x.Operator != from:
		return refused(api.ErrAuth)
	case x.Status == 4:
		return refused(api.ErrTomb)
	case x.Status != 3:
		return refused(api.ErrState)
	case m.Height < x.Until:
		return refused(api.ErrJailed)
	case m.own(v) < x.MinSelf:
		return refused(api.ErrPoor)
	}
	x.Status = 1
	return told{}
}

func (m *model) tick() told {
	if m.Height == 4294967296 {
		return refused(api.ErrRange)
	}
	tock := api.Tock{Height: m.Height}
	var entries []api.Entry
	for _, e := range m.Entries {
		if m.Height < e.Created+m.Params.Unbonding {
			entries = append(entries, e)
			continue
		}
		m.Bank.Pools[1] -= e.Balance
		m.Bank.Liquid[e.Owner] += e.Balance
		tock.Paid = append(tock.Paid, e)
	}
	var hops []api.Hop
	for _, h := range m.Hops {
		if m.Height < h.Created+m.Params.Unbonding {
			hops = append(hops, h)
		} else {
			tock.Hops = append(tock.Hops, h)
		}
	}
	m.Entries, m.Hops = entries, hops
	for v, is := range m.richest() {
		switch was := m.Validators[v].Status == 2; {
		case is && !was:
			m.Validators[v].Status = 2
			tock.In = append(tock.In, v)
		case was && !is:
			m.Validators[v].Status = 1
			tock.Out = append(tock.Out, v)
		}
	}
	m.Height++
	return told{tock: tock}
}

// richest tells who is to be active: each who may be and has tokens, unless as many as there may be are richer.
func (m *model) richest() (in []bool) {
	tokens := m.tokens()
	may := func(v int) bool { return m.isFree(v) && tokens[v] > 0 }
	for v := range m.Validators {
		richer := 0
		for u := range m.Validators {
			if may(u) && (tokens[u] > tokens[v] || tokens[u] == tokens[v] && u < v) {
				richer++
			}
		}
		in = append(in, may(v) && richer < m.Params.MaxActive)
	}
	return in
}

// backed tells whether a lot of s backed v at h, which was undelegated at until, or never, if that is 0.
func backed(s api.Stamp, v, h, until int) bool {
	now := s.Validator == v && s.Since <= h && (until == 0 || h <= until)
	past := s.Prior == v && s.From <= h && h <= s.Since
	return now || past
}

func (m *model) cut(v, h int, ppb, keep uint64) told {
	if !m.isValidator(v) {
		return refused(api.ErrUnknown)
	}
	if h < 1 || h > 4294967296 || ppb > 1000000000 || keep > 1000000000 {
		return refused(api.ErrRange)
	}
	var toll api.Toll
	for _, s := range m.stamps() {
		if !backed(s, v, h, 0) {
			continue
		}
		p := m.pools[s]
		lost := floor(p.Tokens, ppb, 1000000000).Uint64()
		toll.Classes = append(toll.Classes, api.Loss{Stamp: s, Amount: lost})
		toll.Bonded += lost
		m.pools[s] = api.Pool{Tokens: p.Tokens - lost, Shares: p.Shares}
	}
	for i, e := range m.Entries {
		if !backed(e.Stamp, v, h, e.Created) {
			continue
		}
		lost := floor(e.Balance, ppb, 1000000000).Uint64()
		toll.Entries = append(toll.Entries, api.Shave{At: i, Amount: lost})
		toll.Unbonding += lost
		m.Entries[i].Balance -= lost
	}
	toll.Kept = floor(toll.Bonded+toll.Unbonding, keep, 1000000000).Uint64()
	toll.Burned = toll.Bonded + toll.Unbonding - toll.Kept
	m.Bank.Pools[0] -= toll.Bonded
	m.Bank.Pools[1] -= toll.Unbonding
	m.Bank.Pools[2] += toll.Burned
	m.Bank.Pools[3] += toll.Kept
	return told{toll: toll}
}

func (m *model) punish(v, class int) told {
	switch {
	case class != 1 && class != 2:
		return refused(api.ErrArg)
	case !m.isValidator(v):
		return refused(api.ErrUnknown)
	}
	x := &m.Validators[v]
	switch {
	case x.Status == 4:
		return refused(api.ErrTomb)
	case class == 2 && x.Propose:
		return refused(api.ErrPunished)
	case class == 2:
		x.Propose, x.Status = true, 3
	default:
		x.Attest, x.Status = true, 4
	}
	x.Until = max(x.Until, m.Height+m.Params.JailTime)
	return told{}
}

func (m *model) grant(account int, a uint64) told {
	switch {
	case !m.isAccount(account):
		return refused(api.ErrUnknown)
	case m.Bank.Pools[3] < a:
		return refused(api.ErrPoor)
	}
	m.Bank.Pools[3] -= a
	m.Bank.Liquid[account] += a
	return told{}
}
