package huff

import "container/heap"

// tree: symbols whose codes begin alike, and how often they come, all told.
type tree struct {
	times   int
	symbols []int
}

// join: both trees as one.
func join(a, b tree) tree {
	return tree{a.times + b.times, append(a.symbols, b.symbols...)}
}

// forest: a heap of trees, of which the one that comes least often is next.
type forest []tree

func (f forest) Len() int      { return len(f) }
func (f forest) Swap(i, j int) { f[i], f[j] = f[j], f[i] }

// Less: no two trees begin with the same symbol, so there is always just one that is next.
func (f forest) Less(i, j int) bool {
	if f[i].times != f[j].times {
		return f[i].times < f[j].times
	}
	return f[i].symbols[0] < f[j].symbols[0]
}

func (f *forest) Push(t any) { *f = append(*f, t.(tree)) }

func (f *forest) Pop() any {
	last := len(*f) - 1
	t := (*f)[last]
	*f = (*f)[:last]
	return t
}

// next: the tree that comes least often; it waits no more.
func (f *forest) next() tree { return heap.Pop(f).(tree) }

// plant: a tree of each symbol that comes.
func plant(counts []int) *forest {
	f := new(forest)
	for s, n := range counts {
		if n > 0 {
			heap.Push(f, tree{n, []int{s}})
		}
	}
	return f
}

// depths: how deep each symbol stands when all trees are one.
// (None is beyond MaxLong: at depth n all counts together are at least the Fibonacci number n+2, so with MaxSymbols times MaxTimes n is at most 37.)
func depths(counts []int) []int {
	deep := make([]int, len(counts))
	f := plant(counts)
	if f.Len() == 1 { // joined with nothing, it would have no code
		deep[f.next().symbols[0]] = 1
	}
	for f.Len() > 1 {
		both := join(f.next(), f.next())
		for _, s := range both.symbols {
			deep[s]++
		}
		heap.Push(f, both)
	}
	return deep
}
