package serial

import (
	"slices"

	"topiary/api"
)

// Join is a tree in which texts that are next to one another are one.
func Join(t api.Tree) api.Tree {
	// A list and no calls of itself: a tree may be deeper than calls can be.
	left := []*api.Tree{&t}
	for len(left) > 0 {
		n := left[len(left)-1]
		left = left[:len(left)-1]
		n.Attrs, n.Kids = slices.Clone(n.Attrs), joined(n.Kids)
		for i := range n.Kids {
			left = append(left, &n.Kids[i])
		}
	}
	return t
}

// joined are kids whose texts are joined, in a new list; what is in the kids is as it was.
func joined(kids []api.Tree) []api.Tree {
	var l []api.Tree
	for _, k := range kids {
		last := len(l) - 1
		switch {
		case k.Kind == api.Text && k.Text == "":
			// It is gone, and parts no others.
		case last >= 0 && fit(l[last], k):
			l[last].Text += k.Text
		default:
			l = append(l, k)
		}
	}
	return l
}

// fit tells whether two nodes are texts of which one can be made.
func fit(a, b api.Tree) bool {
	return a.Kind == api.Text && b.Kind == api.Text && len(a.Text)+len(b.Text) <= api.MaxText
}
