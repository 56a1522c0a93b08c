package active

import "container/heap"

// bag has the numbers of validators, in no order of its own: it is what a heap asks for, but for Less.
type bag []int

func (b bag) Len() int      { return len(b) }
func (b bag) Swap(i, j int) { b[i], b[j] = b[j], b[i] }
func (b *bag) Push(x any)   { *b = append(*b, x.(int)) }

func (b *bag) Pop() any {
	last := len(*b) - 1
	x := (*b)[last]
	*b = (*b)[:last]
	return x
}

// ranking is a heap of validators that have tokens, the richest on top.
type ranking struct {
	bag
	tokens []uint64
}

// Less tells whether one is richer than another one: so the heap's least one is the richest.
func (r *ranking) Less(i, j int) bool {
	a, b := r.bag[i], r.bag[j]
	if r.tokens[a] == r.tokens[b] {
		return a < b
	}
	return r.tokens[a] > r.tokens[b]
}

// next takes the richest validator out.
func (r *ranking) next() int { return heap.Pop(r).(int) }

// eligible tells all validators that may be chosen and have tokens.
func eligible(tokens []uint64, may []bool) *ranking {
	r := &ranking{tokens: tokens}
	for v, n := range tokens {
		if can, ok := at(may, v); ok && can && n > 0 {
			heap.Push(r, v)
		}
	}
	return r
}
