package arena

import (
	"math"
	"math/rand"
	"reflect"
	"slices"
	"testing"

	"ossuary/api"
)

func node(to ...int) *Node { return &Node{To: to} }

func same(a, b []int) bool { return len(a) == 0 && len(b) == 0 || reflect.DeepEqual(a, b) }

func yielding(l ...int) func(func(int) bool) {
	return func(yield func(int) bool) {
		for _, r := range l {
			if !yield(r) {
				return
			}
		}
	}
}

func TestMakeAndGet(t *testing.T) {
	a := New()
	if a.Count() != 0 || a.Depth() != 0 || a.Get(1) != nil {
		t.Errorf("a new arena has %d cells, %d roots", a.Count(), a.Depth())
	}
	n1, n2 := node(), node()
	if r := a.Make(n1); r != 1 {
		t.Errorf("the first cell is %d", r)
	}
	if r := a.Make(n2); r != 2 {
		t.Errorf("the second cell is %d", r)
	}
	if r := a.Make(nil); r != 0 || a.Count() != 2 {
		t.Errorf("Make(nil) = %d, %d cells", r, a.Count())
	}
	if a.Get(1) != n1 || a.Get(2) != n2 {
		t.Error("Get returns another body")
	}
	for _, r := range []int{0, -1, 3, math.MaxInt, math.MinInt} {
		if a.Get(r) != nil {
			t.Errorf("Get(%d) isn't nil", r)
		}
	}
}

func TestRoots(t *testing.T) {
	a := New()
	for range 4 {
		a.Make(node())
	}
	l := []int{1, 2, 3}
	a.Push(l...)
	l[0] = 4
	a.Push()
	if a.Depth() != 3 {
		t.Errorf("Depth = %d", a.Depth())
	}
	for _, n := range []int{0, -1, math.MinInt} {
		a.Pop(n)
		if a.Depth() != 3 {
			t.Errorf("after Pop(%d) Depth = %d", n, a.Depth())
		}
	}
	a.Pop(1)
	if got := a.Collect(nil); !same(got, []int{3, 4}) || a.Depth() != 2 {
		t.Errorf("Collect = %v, Depth %d", got, a.Depth())
	}
	a.Pop(math.MaxInt)
	if a.Depth() != 0 {
		t.Errorf("Depth = %d", a.Depth())
	}
	a.Push(2, 2, 99, 0, -5)
	a.Pop(1)
	if got := a.Collect(nil); !same(got, []int{1}) || a.Count() != 1 {
		t.Errorf("Collect = %v, %d cells", got, a.Count())
	}
}

func TestNumbersAreUsedAgain(t *testing.T) {
	a := New()
	for range 6 {
		a.Make(node())
	}
	a.Push(1, 3, 4, 6)
	a.Collect(nil)
	a.Pop(4)
	a.Push(1, 6)
	if got := a.Collect(nil); !same(got, []int{3, 4}) {
		t.Errorf("Collect = %v", got)
	}
	for _, want := range []int{3, 4, 2, 5, 7, 8} {
		if r := a.Make(node()); r != want {
			t.Errorf("Make = %d, not %d", r, want)
		}
	}
}

func TestCirclesAreFreed(t *testing.T) {
	a := New()
	a.Make(node(2))
	a.Make(node(1))
	if got := a.Collect(nil); !same(got, []int{1, 2}) || a.Count() != 0 || a.Get(1) != nil {
		t.Errorf("Collect = %v, %d cells", got, a.Count())
	}
	if got := a.Collect(nil); len(got) != 0 {
		t.Errorf("a second time: %v", got)
	}
}

func TestReferencesAndMore(t *testing.T) {
	a := New()
	a.Make(node(3, 0, -1, 100, math.MaxInt, math.MinInt))
	a.Make(node())
	a.Make(node(4, 1))
	a.Make(node())
	a.Make(node(2))
	a.Push(1)
	if got := a.Collect(yielding(2, 2, 0, 77)); !same(got, []int{5}) {
		t.Errorf("Collect = %v", got)
	}
	if got := a.Collect(nil); !same(got, []int{2}) {
		t.Errorf("Collect = %v", got)
	}
}

func TestPairs(t *testing.T) {
	a := New()
	table := &Node{Table: [][2]int{{2, 3}, {3, 4}, {6, 7}, {0, 8}, {99, 9}, {10, 1}}}
	a.Make(table)
	for range 9 {
		a.Make(node())
	}
	a.Push(1, 2)
	if got := a.Collect(nil); !same(got, []int{5, 6, 7, 10}) {
		t.Errorf("Collect = %v", got)
	}
	if want := [][2]int{{2, 3}, {3, 4}, {0, 8}, {99, 9}}; !reflect.DeepEqual(table.Table, want) {
		t.Errorf("the table is %v", table.Table)
	}
}

// A pair whose key is reachable only by its own value, or whose table isn't reachable, references nothing.
func TestPairsThatReferenceNothing(t *testing.T) {
	a := New()
	a.Make(&Node{Table: [][2]int{{2, 3}}})
	a.Make(node())
	a.Make(node(2))
	a.Make(&Node{Table: [][2]int{{1, 5}}})
	a.Make(node())
	a.Push(1)
	if got := a.Collect(nil); !same(got, []int{2, 3, 4, 5}) {
		t.Errorf("Collect = %v", got)
	}
}

// A value may make the key of another pair reachable, of an earlier table or of a later one.
func TestPairsInAChain(t *testing.T) {
	for _, order := range [][]int{{1, 2}, {2, 1}} {
		a := New()
		a.Make(&Node{Table: [][2]int{{4, 5}, {3, 4}}})
		a.Make(&Node{Table: [][2]int{{5, 6}, {6, 3}}})
		for range 4 {
			a.Make(node())
		}
		a.Push(order...)
		if got := a.Collect(yielding(3)); len(got) != 0 {
			t.Errorf("Collect = %v", got)
		}
		if got := a.Collect(nil); !same(got, []int{3, 4, 5, 6}) {
			t.Errorf("Collect = %v", got)
		}
	}
}

func TestWeakBodies(t *testing.T) {
	a := New()
	w := &Node{Faint: []int{2, 3, 0, -4, 50, 1, 2}}
	gone := &Node{Faint: []int{2}}
	a.Make(w)
	a.Make(node())
	a.Make(node())
	a.Make(gone)
	a.Push(1, 3)
	if got := a.Collect(nil); !same(got, []int{2, 4}) {
		t.Errorf("Collect = %v", got)
	}
	if want := []int{0, 3, 0, -4, 50, 1, 0}; !reflect.DeepEqual(w.Faint, want) {
		t.Errorf("Faint = %v", w.Faint)
	}
	if gone.Ends != 1 || w.Ends != 0 {
		t.Errorf("Ends = %d, %d", gone.Ends, w.Ends)
	}
}

// What is told in a Gone or Clear depends on all cells being freed, or none.
type witness struct {
	arena *Arena
	other int
	log   *[]string
}

func (w *witness) Each(func(int) bool) {}

func (w *witness) Gone() {
	state := "free"
	if w.arena.Get(w.other) != nil {
		state = "there"
	}
	*w.log = append(*w.log, state)
}

func TestGonersComeLast(t *testing.T) {
	a := New()
	var log []string
	a.Make(&witness{a, 2, &log})
	a.Make(&witness{a, 1, &log})
	a.Collect(nil)
	if !reflect.DeepEqual(log, []string{"free", "free"}) {
		t.Errorf("log = %v", log)
	}
	a.Collect(nil)
	if len(log) != 2 {
		t.Error("told twice")
	}
}

func TestTooManyCells(t *testing.T) {
	a := New()
	n := node()
	for i := range 4 * api.MaxCells {
		if r := a.Make(n); r != i+1 {
			t.Fatalf("Make = %d, not %d", r, i+1)
		}
	}
	if r := a.Make(n); r != 0 || a.Count() != 4*api.MaxCells {
		t.Errorf("Make = %d, %d cells", r, a.Count())
	}
	a.Push(7)
	if got := a.Collect(nil); len(got) != 4*api.MaxCells-1 {
		t.Errorf("%d cells are freed", len(got))
	}
	if r := a.Make(n); r != 1 {
		t.Errorf("Make = %d", r)
	}
}

func TestNodeMethods(t *testing.T) {
	n := &Node{To: []int{1, 2}, Table: [][2]int{{1, 2}, {3, 4}}, Faint: []int{5, 6}}
	calls := 0
	n.Each(func(int) bool { calls++; return false })
	n.Pairs(func(int, int) bool { calls++; return false })
	if calls != 2 {
		t.Errorf("%d calls after they were told to stop", calls)
	}
	table, faint := n.Table, n.Faint
	odd := func(r int) bool { return r%2 == 1 }
	n.Drop(func(r int) bool { return r == 1 })
	n.Clear(odd)
	n.Gone()
	want := &Node{To: []int{1, 2}, Table: [][2]int{{3, 4}}, Faint: []int{0, 6}, Ends: 1}
	if !reflect.DeepEqual(n, want) {
		t.Errorf("%v", n)
	}
	if table[0] != [2]int{1, 2} || faint[0] != 5 {
		t.Error("slices that were passed were changed")
	}
	var none *Node
	none.Each(nil)
	none.Pairs(nil)
	none.Drop(nil)
	none.Clear(nil)
	none.Gone()
}

func TestNilArena(t *testing.T) {
	var a *Arena
	a.Push(1, 2)
	a.Pop(1)
	if a.Make(node()) != 0 || a.Count() != 0 || a.Depth() != 0 || a.Get(1) != nil || a.Collect(yielding(1)) != nil {
		t.Error("a nil arena has something")
	}
}

// reachable is the definition, applied until nothing is added.
func reachable(a *Arena, cells []int, roots []int) map[int]bool {
	in := map[int]bool{}
	for _, r := range roots {
		in[r] = true
	}
	for changed := true; changed; {
		before := len(in)
		for _, c := range cells {
			if !in[c] {
				continue
			}
			n := a.Get(c).(*Node)
			for _, r := range n.To {
				in[r] = true
			}
			for _, p := range n.Table {
				if in[p[0]] || !slices.Contains(cells, p[0]) {
					in[p[1]] = true
				}
			}
		}
		changed = len(in) > before
	}
	return in
}

func TestRandomGraphs(t *testing.T) {
	rnd := rand.New(rand.NewSource(4))
	for range 2000 {
		a := New()
		var cells, roots []int
		for range 1 + rnd.Intn(3) {
			for range rnd.Intn(12) {
				n := &Node{}
				for range rnd.Intn(3) {
					n.To = append(n.To, rnd.Intn(16))
					n.Table = append(n.Table, [2]int{rnd.Intn(16), rnd.Intn(16)})
					n.Faint = append(n.Faint, rnd.Intn(16))
				}
				cells = append(cells, a.Make(n))
			}
			roots = []int{rnd.Intn(16), rnd.Intn(16)}
			a.Push(roots[0])
			checkCollection(t, a, cells, roots)
			a.Pop(1)
			cells = slices.DeleteFunc(cells, func(r int) bool { return a.Get(r) == nil })
		}
	}
}

func checkCollection(t *testing.T, a *Arena, cells, roots []int) {
	t.Helper()
	in := reachable(a, cells, roots)
	dead := func(r int) bool { return slices.Contains(cells, r) && !in[r] }
	var want []int
	expected := map[int]*Node{}
	for _, r := range cells {
		if dead(r) {
			want = append(want, r)
			continue
		}
		n := *a.Get(r).(*Node)
		n.Table = slices.DeleteFunc(slices.Clone(n.Table), func(p [2]int) bool { return dead(p[0]) })
		n.Faint = slices.Clone(n.Faint)
		for i, f := range n.Faint {
			if dead(f) {
				n.Faint[i] = 0
			}
		}
		expected[r] = &n
	}
	slices.Sort(want)
	if got := a.Collect(yielding(roots[1])); !same(got, want) {
		t.Fatalf("Collect = %v, not %v", got, want)
	}
	for r, n := range expected {
		got := a.Get(r).(*Node)
		if !slices.Equal(got.Table, n.Table) || !slices.Equal(got.Faint, n.Faint) || got.Ends != 0 {
			t.Fatalf("cell %d is %v, not %v", r, got, n)
		}
	}
	if a.Count() != len(expected) {
		t.Fatalf("Count = %d, not %d", a.Count(), len(expected))
	}
}
