package tree_test

import (
	"testing"

	"bursary/api"
	"bursary/tree"
)

// taken is the answer of a Take of a row of these tests.
func taken(id uint16, l ...api.Group) answer {
	return answer{groups: l, row: rowOf(key(0, id))}
}

// P13.3: keys that are not there: below, between, and above all that are; of each good forest.
func TestTakeOfAKeyThatIsNotThere(t *testing.T) {
	refused(t, "of none", take(t, tree.New(), key(0, 0)), api.ErrNone)
	for name, f := range goodForests() {
		for _, k := range around(rowsByWords(f)) {
			if _, e := tree.Get(f, k); e != api.OK {
				refused(t, name, take(t, f, k), api.ErrNone)
			}
		}
	}
}

// P13.3: of a root that is a leaf: one group, it without the row; the first, a middle one, the last; the last one of all, too.
func TestTakeOfARootThatIsALeaf(t *testing.T) {
	f := forest(pages{0: ids(1, 2, 3)})
	check(t, "the first one", take(t, f, key(0, 1)), taken(1, group(pages{0: ids(2, 3)})))
	check(t, "a middle one", take(t, f, key(0, 2)), taken(2, group(pages{0: ids(1, 3)})))
	check(t, "the last one", take(t, f, key(0, 3)), taken(3, group(pages{0: ids(1, 2)})))
	check(t, "the only one", take(t, forest(pages{0: ids(7)}), key(0, 7)), taken(7, group(pages{0: leaf()})))
}

// P13.3: where no kid on the way is small: one group, the leaf.
func TestTakeWithNoSmallKid(t *testing.T) {
	f := plain(nd(nd(lfs(3, 3, 3)...), nd(lfs(2, 4, 2)...)))
	check(t, "the first leaf", take(t, f, nth(0)), taken(10, group(pages{2: ids(20, 30)})))
	check(t, "a middle one", take(t, f, nth(4)), taken(50, group(pages{3: ids(40, 60)})))
	check(t, "the last one there", take(t, f, nth(8)), taken(90, group(pages{4: ids(70, 80)})))
	g := plain(nd(nd(lfs(3, 3, 3)...), nd(lfs(2, 4, 2)...)))
	check(t, "beside small ones", take(t, g, nth(12)), taken(130, group(pages{7: ids(120, 140, 150)})))
}

// P13.3: a small leaf with a neighbour behind it, both together no more than a full one: joined in its page, that one's is free, and the page is without it.
func TestTakeJoinsWithTheNeighbourBehind(t *testing.T) {
	f := forest(pages{0: inner(to(0, 9), to(20, 3), to(40, 5)), 9: ids(1, 2), 3: ids(21, 22), 5: ids(41, 42, 43)})
	joined := group(pages{0: inner(to(0, 9), to(40, 5)), 9: ids(1, 2, 21, 22), 3: free})
	check(t, "the first one", take(t, f, key(0, 1)), taken(1, joined, group(pages{9: ids(2, 21, 22)})))
	check(t, "its last one", take(t, f, key(0, 2)), taken(2, joined, group(pages{9: ids(1, 21, 22)})))
	f = forest(pages{0: inner(to(0, 9), to(20, 3), to(40, 5)), 9: ids(1, 2, 3, 4), 3: ids(21, 22), 5: ids(41, 42)})
	joined = group(pages{0: inner(to(0, 9), to(20, 3)), 3: ids(21, 22, 41, 42), 5: free})
	check(t, "a middle one, not with the one ahead", take(t, f, key(0, 21)), taken(21, joined, group(pages{3: ids(22, 41, 42)})))
}

// P13.3: the last kid has a neighbour ahead only: joined in that one's page, its own is free.
func TestTakeJoinsWithTheNeighbourAhead(t *testing.T) {
	f := forest(pages{0: inner(to(0, 9), to(20, 3), to(40, 5)), 9: ids(1, 2), 3: ids(21, 22), 5: ids(41, 42)})
	joined := group(pages{0: inner(to(0, 9), to(20, 3)), 3: ids(21, 22, 41, 42), 5: free})
	check(t, "its first one", take(t, f, key(0, 41)), taken(41, joined, group(pages{3: ids(21, 22, 42)})))
	check(t, "the last one", take(t, f, key(0, 42)), taken(42, joined, group(pages{3: ids(21, 22, 41)})))
}

// P13.3: more together than a full one: levelled, one row goes over, and the page has the new step; with the neighbour behind, and with the one ahead.
func TestTakeLevels(t *testing.T) {
	f := forest(pages{0: inner(to(0, 9), to(20, 3)), 9: ids(1, 2), 3: ids(22, 23, 24)})
	levelled := group(pages{0: inner(to(0, 9), to(23, 3)), 9: ids(1, 2, 22), 3: ids(23, 24)})
	check(t, "with three behind", take(t, f, key(0, 1)), taken(1, levelled, group(pages{9: ids(2, 22)})))
	f = forest(pages{0: inner(to(0, 9), to(20, 3)), 9: ids(1, 2), 3: ids(22, 23, 24, 25)})
	levelled = group(pages{0: inner(to(0, 9), to(23, 3)), 9: ids(1, 2, 22), 3: ids(23, 24, 25)})
	check(t, "with four behind", take(t, f, key(0, 2)), taken(2, levelled, group(pages{9: ids(1, 22)})))
	f = forest(pages{0: inner(to(0, 9), to(20, 3)), 9: ids(1, 2, 3), 3: ids(22, 23)})
	levelled = group(pages{0: inner(to(0, 9), to(3, 3)), 9: ids(1, 2), 3: ids(3, 22, 23)})
	check(t, "with three ahead", take(t, f, key(0, 22)), taken(22, levelled, group(pages{3: ids(3, 23)})))
	f = forest(pages{0: inner(to(0, 9), to(20, 3)), 9: ids(1, 2, 3, 4), 3: ids(22, 23)})
	levelled = group(pages{0: inner(to(0, 9), to(4, 3)), 9: ids(1, 2, 3), 3: ids(4, 22, 23)})
	check(t, "with four ahead", take(t, f, key(0, 23)), taken(23, levelled, group(pages{3: ids(4, 22)})))
}

// P13.3: the root's only two kids, joined: the root holds both, their pages are free, and it goes on with the root, a leaf then.
func TestTakeJoinsInTheRoot(t *testing.T) {
	f := forest(pages{0: inner(to(0, 9), to(20, 3)), 9: ids(1, 2), 3: ids(21, 22)})
	joined := group(pages{0: ids(1, 2, 21, 22), 3: free, 9: free})
	check(t, "the first one", take(t, f, key(0, 1)), taken(1, joined, group(pages{0: ids(2, 21, 22)})))
	check(t, "the last one", take(t, f, key(0, 22)), taken(22, joined, group(pages{0: ids(1, 2, 21)})))
}

// P13.3: so of inner kids: the root has all of theirs then, the step as the Least of the one in the middle; and of these a small one is fed in its turn.
func TestTakeJoinsInnerKidsInTheRoot(t *testing.T) {
	f := forest(pages{
		0: inner(to(0, 4), to(30, 2)), 4: inner(to(0, 8), to(11, 6)), 2: inner(to(0, 5), to(41, 7)),
		8: ids(1, 2), 6: ids(12, 13), 5: ids(31, 32, 33), 7: ids(41, 42),
	})
	root := group(pages{0: inner(to(0, 8), to(11, 6), to(30, 5), to(41, 7)), 4: free, 2: free})
	check(t, "joined then", take(t, f, key(0, 2)), taken(2, root,
		group(pages{0: inner(to(0, 8), to(30, 5), to(41, 7)), 8: ids(1, 2, 12, 13), 6: free}), group(pages{8: ids(1, 12, 13)})))
	check(t, "levelled then", take(t, f, key(0, 12)), taken(12, root,
		group(pages{0: inner(to(0, 8), to(11, 6), to(32, 5), to(41, 7)), 6: ids(12, 13, 31), 5: ids(32, 33)}), group(pages{6: ids(13, 31)})))
	check(t, "nothing then", take(t, f, key(0, 33)), taken(33, root, group(pages{5: ids(31, 32)})))
	check(t, "levelled with the one ahead", take(t, f, key(0, 41)), taken(41, root,
		group(pages{0: inner(to(0, 8), to(11, 6), to(30, 5), to(33, 7)), 5: ids(31, 32), 7: ids(33, 41, 42)}), group(pages{7: ids(33, 42)})))
}

// P13.3: small inner pages: joined by the step, or levelled, the kid that goes over with its Least; then the kid for the key in what the page is then.
func TestTakeFeedsInnerPages(t *testing.T) {
	shape := pages{
		0:  inner(to(0, 10), to(40, 11), to(80, 12)),
		10: inner(to(0, 1), to(20, 2)), 11: inner(to(0, 3), to(60, 4)), 12: inner(to(0, 5), to(90, 6), to(95, 7)),
		1: ids(1, 2, 3), 2: ids(21, 22, 23), 3: ids(41, 42, 43), 4: ids(61, 62, 63), 5: ids(81, 82, 83), 6: ids(91, 92, 93), 7: ids(96, 97, 98),
	}
	f := forest(shape)
	check(t, "joined", take(t, f, key(0, 21)), taken(21,
		group(pages{0: inner(to(0, 10), to(80, 12)), 10: inner(to(0, 1), to(20, 2), to(40, 3), to(60, 4)), 11: free}), group(pages{2: ids(22, 23)})))
	check(t, "levelled with the one behind", take(t, f, key(0, 61)), taken(61,
		group(pages{0: inner(to(0, 10), to(40, 11), to(90, 12)), 11: inner(to(0, 3), to(60, 4), to(80, 5)), 12: inner(to(0, 6), to(95, 7))}), group(pages{4: ids(62, 63)})))
	f = forest(with(shape, pages{11: inner(to(0, 3), to(60, 4), to(70, 8)), 8: ids(71, 72, 73), 12: inner(to(0, 5), to(90, 6)), 7: free}))
	check(t, "levelled with the one ahead", take(t, f, key(0, 83)), taken(83,
		group(pages{0: inner(to(0, 10), to(40, 11), to(70, 12)), 11: inner(to(0, 3), to(60, 4)), 12: inner(to(0, 8), to(80, 5), to(90, 6))}), group(pages{5: ids(81, 82)})))
}

// P13.3: several small pages on one way: a group each, from the root on; what is joined may be joined, levelled on below.
func TestTakeFeedsSeveral(t *testing.T) {
	f := plain(least(4)) // pages 1: 2 (3 4) 5 (6 7); 8: 9 (10 11) 12 (13 14); the leaves have 10 20, 30 40 and so on
	check(t, "Take", take(t, f, key(0, 60)), taken(60,
		group(pages{0: inner(to(0, 2), to(50, 5), to(90, 9), to(130, 12)), 1: free, 8: free}),
		group(pages{0: inner(to(0, 2), to(50, 5), to(130, 12)), 5: inner(to(0, 6), to(70, 7), to(90, 10), to(110, 11)), 9: free}),
		group(pages{5: inner(to(0, 6), to(90, 10), to(110, 11)), 6: ids(50, 60, 70, 80), 7: free}),
		group(pages{6: ids(50, 70, 80)})))
}

// P13.3: each key of each good forest, held against the words: the first, the last, and all between.
func TestTakeOfEachKey(t *testing.T) {
	for name, f := range goodForests() {
		for _, r := range rowsByWords(f) {
			got := take(t, f, r.Key)
			check(t, name, got, takeByWords(f, r.Key))
			if got.row != r {
				t.Fatalf("%s: %v was taken, want %v", name, got.row, r)
			}
		}
	}
}

// P13.3: Take asks for no free pages.
func TestTakeWithoutFreePages(t *testing.T) {
	n, _ := filled(64, []int{2, 2, 2, 2, 2})
	f := plain(n)
	if freeOf(t, f) != 0 {
		t.Fatalf("%d pages are free", freeOf(t, f))
	}
	for _, r := range rowsByWords(f) {
		check(t, "Take", expectOK(t, "Take", take(t, f, r.Key)), takeByWords(f, r.Key))
	}
}
