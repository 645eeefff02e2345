package syntax

import "bre/api"

// Sizes are cut at this one: a pattern that holds a part of it is too big in any case, and no product of intervals gets too great for an int.
const tooBig = api.MaxSize + 1

func rowSize(items []Item) int {
	size := 1
	for i := range items {
		size += itemSize(&items[i])
		if size > tooBig {
			size = tooBig
		}
	}
	return size
}

func itemSize(x *Item) int {
	switch x.Kind {
	case Group:
		inner := rowSize(x.Row)
		return 1 + inner
	case Repeat:
		return repeatSize(x)
	}
	return 1
}

func repeatSize(x *Item) int {
	size := 0
	for i := range x.Row {
		size += itemSize(&x.Row[i])
	}
	size = 1 + copies(x)*size
	if size > tooBig {
		return tooBig
	}
	return size
}

// copies: how often a repeated item's size counts.
func copies(x *Item) int {
	k := x.Most
	if k == NoMost {
		k = x.Least + 1
	}
	if k < 1 {
		k = 1
	}
	return k
}
