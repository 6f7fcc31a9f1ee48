package tree_test

import (
	"testing"

	"bursary/api"
	"bursary/tree"
)

// P13.3: a row whose key is there: one group, the leaf with the row in its place; full pages on the way stay as they are.
func TestPutOfAKeyThatIsThere(t *testing.T) {
	r := at(0, 51, -9, "new")
	full := ids(45, 50, 51, 52)
	full.Rows[2] = r
	check(t, "a full leaf", put(t, forest(three()), r), answer{groups: []api.Group{group(pages{63: full})}})
	check(t, "a full root", put(t, forest(pages{0: ids(45, 50, 51, 52)}), r), answer{groups: []api.Group{group(pages{0: full})}})
	check(t, "a root of one row", put(t, forest(pages{0: ids(51)}), r), answer{groups: []api.Group{group(pages{0: leaf(r)})}})
	check(t, "the same row again", put(t, forest(three()), rowOf(key(0, 10))), answer{groups: []api.Group{group(pages{1: ids(10, 11)})}})
	for name, f := range goodForests() {
		for _, old := range rowsByWords(f) {
			r := api.Row{Key: old.Key, Val: -9, Note: "new"}
			got := put(t, f, r)
			check(t, name, got, putByWords(f, r))
			if len(got.groups) != 1 || len(got.groups[0].Sheets) != 1 {
				t.Fatalf("%s: %v, want one page", name, got)
			}
		}
	}
}

// P13.3: rows whose key is not there, in leaves that have room, with no full kid on the way: one group, the leaf with it among the others.
func TestPutOfAKeyThatIsNotThere(t *testing.T) {
	one := func(num int, c api.Content) answer { return answer{groups: []api.Group{group(pages{num: c})}} }
	check(t, "none", put(t, tree.New(), rowOf(key(0, 7))), one(0, ids(7)))
	check(t, "ahead", put(t, forest(pages{0: ids(7, 8, 9)}), rowOf(key(0, 0))), one(0, ids(0, 7, 8, 9)))
	check(t, "between", put(t, forest(pages{0: ids(6, 8, 9)}), rowOf(key(0, 7))), one(0, ids(6, 7, 8, 9)))
	check(t, "behind", put(t, forest(pages{0: ids(6, 8, 9)}), rowOf(key(2, 65535))), one(0, leaf(append(ids(6, 8, 9).Rows, rowOf(key(2, 65535)))...)))
	f := forest(three())
	check(t, "three deep, the first leaf", put(t, f, rowOf(key(0, 0))), one(1, ids(0, 10, 11)))
	check(t, "just below the next leaf", put(t, f, rowOf(key(0, 19))), one(1, ids(10, 11, 19)))
	check(t, "at the next leaf's Least", put(t, f, rowOf(key(0, 20))), one(7, ids(20, 25, 30, 35)))
	check(t, "just below the next inner page", put(t, f, rowOf(key(0, 39))), one(7, ids(25, 30, 35, 39)))
	check(t, "the last leaf", put(t, f, rowOf(key(2, 65535))), one(5, leaf(append(ids(85, 90).Rows, rowOf(key(2, 65535)))...)))
}

// P13.3: the root, a full leaf: its parts stand at the two least free numbers, the step is the upper one's least key; then the row goes into either of both.
func TestPutSplitsARootThatIsALeaf(t *testing.T) {
	f := forest(pages{0: ids(10, 20, 30, 40)})
	split := group(pages{0: inner(to(0, 1), to(30, 2)), 1: ids(10, 20), 2: ids(30, 40)})
	for id, last := range map[uint16]api.Group{
		5:  group(pages{1: ids(5, 10, 20)}),
		29: group(pages{1: ids(10, 20, 29)}),
		31: group(pages{2: ids(30, 31, 40)}),
		50: group(pages{2: ids(30, 40, 50)}),
	} {
		check(t, "Put", put(t, f, rowOf(key(0, id))), answer{groups: []api.Group{split, last}})
	}
}

// P13.3: the root, a full inner page: so, and what stays and the upper part are inner pages, the upper one's first Least is zero.
func TestPutSplitsARootThatIsInner(t *testing.T) {
	f := forest(pages{0: inner(to(0, 1), to(20, 3), to(40, 5), to(60, 2)), 1: ids(1, 2), 3: ids(21, 22), 5: ids(41, 42), 2: ids(61, 62)})
	split := group(pages{0: inner(to(0, 4), to(40, 6)), 4: inner(to(0, 1), to(20, 3)), 6: inner(to(0, 5), to(60, 2))})
	for id, last := range map[uint16]api.Group{
		0:  group(pages{1: ids(0, 1, 2)}),
		39: group(pages{3: ids(21, 22, 39)}),
		40: group(pages{5: ids(40, 41, 42)}),
		63: group(pages{2: ids(61, 62, 63)}),
	} {
		check(t, "Put", put(t, f, rowOf(key(0, id))), answer{groups: []api.Group{split, last}})
	}
}

// P13.3: a full leaf below: what stays is in its page, the upper part at the least free number, and the page adopts it behind it; the row goes into either.
func TestPutSplitsALeaf(t *testing.T) {
	f := forest(three())
	split := group(pages{4: inner(to(0, 63), to(51, 3), to(60, 2), to(80, 5)), 63: ids(45, 50), 3: ids(51, 52)})
	check(t, "into what stays", put(t, f, rowOf(key(0, 40))), answer{groups: []api.Group{split, group(pages{63: ids(40, 45, 50)})}})
	check(t, "into the upper part", put(t, f, rowOf(key(0, 55))), answer{groups: []api.Group{split, group(pages{3: ids(51, 52, 55)})}})
	f = forest(pages{0: inner(to(0, 9), to(30, 3)), 9: ids(1, 2, 3, 4), 3: ids(31, 32, 33, 34)})
	split = group(pages{0: inner(to(0, 9), to(30, 3), to(33, 1)), 3: ids(31, 32), 1: ids(33, 34)})
	check(t, "the last one", put(t, f, rowOf(key(0, 35))), answer{groups: []api.Group{split, group(pages{1: ids(33, 34, 35)})}})
}

// P13.3: a full inner page below: so; then its kid for the key is looked for in the part that has it.
func TestPutSplitsAnInnerPage(t *testing.T) {
	four := pages{
		0:  inner(to(0, 10), to(50, 11)),
		10: inner(to(0, 1), to(10, 2), to(20, 3), to(30, 4)), 11: inner(to(0, 5), to(60, 6)),
		1: ids(1, 2), 2: ids(11, 12), 3: ids(21, 22), 4: ids(31, 32), 5: ids(51, 52), 6: ids(61, 62),
	}
	f := forest(four)
	split := group(pages{0: inner(to(0, 10), to(20, 7), to(50, 11)), 10: inner(to(0, 1), to(10, 2)), 7: inner(to(0, 3), to(30, 4))})
	check(t, "into what stays", put(t, f, rowOf(key(0, 19))), answer{groups: []api.Group{split, group(pages{2: ids(11, 12, 19)})}})
	check(t, "into the upper part", put(t, f, rowOf(key(0, 20))), answer{groups: []api.Group{split, group(pages{3: ids(20, 21, 22)})}})
	check(t, "beside it", put(t, f, rowOf(key(0, 50))), answer{groups: []api.Group{group(pages{5: ids(50, 51, 52)})}})
}

// P13.3: several full pages on one way, the root and the leaf among them: a group each, from the root on; numbers are given out one behind the other.
func TestPutSplitsSeveral(t *testing.T) {
	f := forest(pages{
		0:  inner(to(0, 10), to(50, 11), to(70, 12), to(90, 13)),
		10: inner(to(0, 1), to(10, 2), to(20, 3), to(30, 4)),
		11: inner(to(0, 5), to(60, 6)), 12: inner(to(0, 20), to(80, 21)), 13: inner(to(0, 22), to(95, 23)),
		1: ids(1, 2), 2: ids(11, 12), 3: ids(21, 22, 23, 24), 4: ids(31, 32), 5: ids(51, 52), 6: ids(61, 62),
		20: ids(71, 72), 21: ids(81, 82), 22: ids(91, 92), 23: ids(96, 97),
	})
	check(t, "Put", put(t, f, rowOf(key(0, 25))), answer{groups: []api.Group{
		group(pages{0: inner(to(0, 7), to(70, 8)), 7: inner(to(0, 10), to(50, 11)), 8: inner(to(0, 12), to(90, 13))}),
		group(pages{7: inner(to(0, 10), to(20, 9), to(50, 11)), 10: inner(to(0, 1), to(10, 2)), 9: inner(to(0, 3), to(30, 4))}),
		group(pages{9: inner(to(0, 3), to(23, 14), to(30, 4)), 3: ids(21, 22), 14: ids(23, 24)}),
		group(pages{14: ids(23, 24, 25)}),
	}})
}

// P13.3: only what is full and on the way is split; a root that gets full by what it adopts is not, for then its kid is the page.
func TestPutSplitsNoOthers(t *testing.T) {
	f := forest(pages{0: inner(to(0, 1), to(20, 2), to(40, 3)), 1: ids(1, 2, 3, 4), 2: ids(21, 22, 23, 24), 3: ids(41, 42, 43, 44)})
	got := put(t, f, rowOf(key(0, 25)))
	check(t, "the root gets full", got, answer{groups: []api.Group{
		group(pages{0: inner(to(0, 1), to(20, 2), to(23, 4), to(40, 3)), 2: ids(21, 22), 4: ids(23, 24)}),
		group(pages{4: ids(23, 24, 25)}),
	}})
	f = apply(t, f, got.groups...).forest
	check(t, "then the root is split", put(t, f, rowOf(key(0, 26))), answer{groups: []api.Group{
		group(pages{0: inner(to(0, 5), to(23, 6)), 5: inner(to(0, 1), to(20, 2)), 6: inner(to(0, 4), to(40, 3))}),
		group(pages{4: ids(23, 24, 25, 26)}),
	}})
}

// P13.3: just as many free pages as are asked for on the way, one fewer, one more: two for a full root, one for each other full page, whichever of these come together.
func TestPutWithFewFreePages(t *testing.T) {
	r := rowOf(key(0, 11)) // into the first leaf
	done, not := 0, 0
	for _, fans := range allFans(4, 5) {
		asks := asked(fans)
		for used := 64 - asks - 1; used <= 64; used++ {
			n, there := filled(used, fans)
			if !there {
				continue
			}
			f := plain(n)
			if freeOf(t, f) != 64-used {
				t.Fatalf("%v: %d pages are free, want %d", fans, freeOf(t, f), 64-used)
			}
			got := put(t, f, r)
			if 64-used < asks {
				not++
				refused(t, "too few", got, api.ErrFull)
				continue
			}
			done++
			check(t, "enough", got, putByWords(f, r))
			if left := freeOf(t, apply(t, f, got.groups...).forest); left != 64-used-asks {
				t.Fatalf("%v: %d of %d pages are left, want %d fewer", fans, left, 64-used, asks)
			}
		}
	}
	if done < 200 || not < 200 {
		t.Fatalf("%d were put, %d not", done, not)
	}
}

// P13.3: where no page is free at all, a row whose key is there is put all the same, and so is one that asks for none.
func TestPutWithoutFreePages(t *testing.T) {
	f := plain(nd(each(4, 4, 4, 4), each(4, 4, 4, 4), each(4, 4, 4, 4)))
	if freeOf(t, f) != 0 {
		t.Fatalf("%d pages are free", freeOf(t, f))
	}
	old := at(0, 10, -9, "new")
	check(t, "a key that is there", put(t, f, old), answer{groups: []api.Group{group(pages{3: leaf(old, rowOf(key(0, 20)))})}})
	refused(t, "a full kid on the way", put(t, f, rowOf(key(0, 11))), api.ErrFull)
	f = goodForests()["as many pages as there may be"]
	refused(t, "a full root", put(t, f, rowOf(key(0, 11))), api.ErrFull)
	n, _ := filled(64, []int{2, 2, 2, 2, 3})
	check(t, "nothing full on the way", put(t, plain(n), rowOf(key(0, 11))), putByWords(plain(n), rowOf(key(0, 11))))
}
