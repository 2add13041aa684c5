package code

import "pleach/api"

// pair is two lists of one length by where they lie.
type pair[T any] struct {
	a, b *T
	many int
}

// twins tells whether two lists are the same: each two of their parts by themselves, and all that these hold. Trees such as nothing makes may hold themselves, share their parts, or be deeper than calls can go: so no two lists are held against each other twice, and none is within the call for another one.
func twins[T any](a, b []T, alike func(x, y T) bool, parts func(x T) []T) bool {
	seen := map[pair[T]]struct{}{}
	todo := [][2][]T{{a, b}}
	for len(todo) > 0 {
		a, b := todo[len(todo)-1][0], todo[len(todo)-1][1]
		todo = todo[:len(todo)-1]
		if len(a) != len(b) {
			return false
		}
		if len(a) == 0 || &a[0] == &b[0] {
			continue
		}
		at := pair[T]{&a[0], &b[0], len(a)}
		if _, ok := seen[at]; ok {
			continue
		}
		seen[at] = struct{}{}
		for i := range a {
			if !alike(a[i], b[i]) {
				return false
			}
			todo = append(todo, [2][]T{parts(a[i]), parts(b[i])})
		}
	}
	return true
}

func sameNumbers(a, b api.Code) bool { return a.Op == b.Op && a.A == b.A && a.B == b.B }

func sameTerm(a, b api.Term) bool { return a.K == b.K && a.N == b.N && a.S == b.S && a.T == b.T }

func sameNode(a, b api.Node) bool { return a.K == b.K && a.N == b.N && a.S == b.S && a.T == b.T }

// termsOf are the terms of a code's instructions.
func termsOf(p api.Prog) []api.Term {
	var l []api.Term
	for _, c := range p.Ops {
		l = append(l, c.T)
	}
	return l
}

// treesOf are the trees of a code's instructions, of each as many: its clauses stand under a node of their own.
func treesOf(p api.Prog) []api.Node {
	var l []api.Node
	for _, c := range p.Ops {
		l = append(l, c.P, api.Node{L: c.L})
	}
	return l
}
