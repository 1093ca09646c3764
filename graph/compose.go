package graph

import "grommet/api"

// composer makes nodes of a tree that may be, in the order of its text.
type composer struct {
	nodes    []api.Node
	anchored map[string]int // the place of the last value with each Anchor
}

// place is that of a value's node, which is made with all within it, or of an Alias that of the value it means.
func (c *composer) place(t api.Tree) (int, api.Errno) {
	if t.Kind == api.Alias {
		return c.meant(t.Anchor)
	}
	at := len(c.nodes)
	c.nodes = append(c.nodes, api.Node{Kind: t.Kind, Text: t.Text})
	if t.Anchor != "" {
		// Ahead of the Kids, which may mean what is around them.
		c.anchored[t.Anchor] = at
	}
	kids, e := c.places(t)
	c.nodes[at].Kids = kids
	return at, e
}

func (c *composer) meant(name string) (int, api.Errno) {
	at, ok := c.anchored[name]
	if !ok {
		return 0, api.ErrName
	}
	return at, api.OK
}

// places are those of a value's Kids.
func (c *composer) places(t api.Tree) ([]int, api.Errno) {
	var places []int
	keys := set[key]{}
	for i, kid := range t.Kids {
		if isKeyPlace(t.Kind, i) && !keys.add(key{kid.Kind, kid.Text}) {
			return nil, api.ErrThere
		}
		at, e := c.place(kid)
		if e != api.OK {
			return nil, e
		}
		places = append(places, at)
	}
	return places, api.OK
}
