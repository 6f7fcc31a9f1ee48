package tree_test

import (
	"testing"

	"bursary/api"
	"bursary/tree"
)

// P13.3: Put and Take of many forests, those to which no Puts and Takes lead from New among them: at each key, and beside it, group by group as the words say.
func TestPutAndTakeOfMany(t *testing.T) {
	var d dice
	puts, takes, refusals := map[int]int{}, map[int]int{}, 0
	for n := range 900 {
		f := d.anyForest()
		if n%3 == 0 {
			f = d.crowdedForest()
		}
		all := rowsByWords(f)
		for range 6 {
			k := nth(d.throw(len(all) + 3))
			k.Id += uint16(d.throw(10))
			r := api.Row{Key: k, Val: int64(d.throw(9)), Note: "put"}
			got := put(t, f, r)
			check(t, "Put", got, putByWords(f, r))
			puts[len(got.groups)]++
			if got.e != api.OK {
				refusals++
			}
			got = take(t, f, k)
			check(t, "Take", got, takeByWords(f, k))
		}
		for range 6 {
			k := nth(d.throw(len(all) + 1))
			got := take(t, f, k)
			check(t, "Take", got, takeByWords(f, k))
			takes[len(got.groups)]++
		}
	}
	for n := 1; n <= 4; n++ {
		if puts[n] < 20 || takes[n] < 20 {
			t.Fatalf("groups: of Put %v, of Take %v", puts, takes)
		}
	}
	if refusals < 5 {
		t.Fatalf("%d were refused", refusals)
	}
}

// state is a forest's text: unlike forests have unlike ones.
func state(f api.Forest) string {
	var out []byte
	for num, c := range f.Pages {
		if c.Kind == api.KindFree {
			continue
		}
		out = append(out, byte(num), byte(c.Kind))
		for _, r := range c.Rows {
			out = append(out, byte(r.Key.Id))
		}
		for _, k := range c.Kids {
			out = append(out, byte(k.Least.Id), byte(k.Page))
		}
		out = append(out, 255)
	}
	return string(out)
}

// P13.3: all forests to which Puts and Takes of few keys lead from New, and each Put and Take of each of these keys there, as the words say.
func TestAllForestsOfFewKeys(t *testing.T) {
	const keys, most = 9, 4000
	met := map[string]struct{}{state(tree.New()): {}}
	next := []api.Forest{tree.New()}
	for len(next) > 0 && len(met) < most {
		f := next[0]
		next = next[1:]
		for id := range uint16(keys) {
			k := key(0, id)
			l, e := tree.Put(f, rowOf(k))
			check(t, "Put", answer{groups: l, e: e}, putByWords(f, rowOf(k)))
			there := len(l) == 1 && len(l[0].Sheets) == 1
			m, r, e := tree.Take(f, k)
			check(t, "Take", answer{groups: m, row: r, e: e}, takeByWords(f, k))
			if e == api.OK && !there {
				t.Fatalf("Put of a key that is there: %v", l)
			}
			for _, groups := range [][]api.Group{l, m} {
				g, e := tree.Apply(f, groups...)
				if e != api.OK {
					t.Fatalf("Apply: error %d", e)
				}
				if _, again := met[state(g)]; !again {
					met[state(g)] = struct{}{}
					next = append(next, g)
				}
			}
		}
	}
	if len(met) < most {
		t.Fatalf("%d forests were met", len(met))
	}
}
