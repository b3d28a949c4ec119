package otable

import (
	"fmt"
	"math/rand"
	"slices"
	"strings"
	"testing"

	"ossuary/api"
	"ossuary/text"
	"ossuary/value"
)

var (
	a = text.Val("a")
	b = text.Val("b")
	c = text.Val("c")
)

func whole(n int) api.Val { return api.Val{K: api.Int, N: int64(n)} }

// keys lists what a cursor still returns, and closes it by that.
func keys(cur *Cursor) []api.Val {
	var l []api.Val
	for {
		k, _, _, ok := cur.Next()
		if !ok {
			return l
		}
		l = append(l, k)
	}
}

func checkKeys(t *testing.T, got []api.Val, want ...api.Val) {
	t.Helper()
	if !slices.Equal(got, want) {
		t.Errorf("keys are %v, not %v", got, want)
	}
}

func TestEntries(t *testing.T) {
	tab := New()
	if v, f, ok := tab.Get(a); v != (api.Val{}) || f != 0 || ok || tab.Len() != 0 {
		t.Errorf("Get = %v, %d, %v", v, f, ok)
	}
	tab.Put(a, whole(1), 7)
	tab.Put(b, whole(2), 0)
	tab.Put(a, whole(3), 5)
	if v, f, ok := tab.Get(a); v != whole(3) || f != 5 || !ok {
		t.Errorf("Get = %v, %d, %v", v, f, ok)
	}
	if v, f, ok := tab.Get(b); v != whole(2) || f != 0 || !ok || tab.Len() != 2 {
		t.Errorf("Get = %v, %d, %v", v, f, ok)
	}
	checkKeys(t, keys(tab.Cursor()), a, b)
	if !tab.Delete(a) || tab.Delete(a) || tab.Delete(c) || tab.Len() != 1 {
		t.Error("Delete")
	}
	if v, f, ok := tab.Get(a); v != (api.Val{}) || f != 0 || ok {
		t.Errorf("Get = %v, %d, %v", v, f, ok)
	}
	tab.Put(a, whole(4), 1)
	checkKeys(t, keys(tab.Cursor()), b, a)
	tab.Clear()
	if _, _, ok := tab.Get(b); ok || tab.Len() != 0 || tab.Delete(b) {
		t.Error("Clear")
	}
	checkKeys(t, keys(tab.Cursor()))
	tab.Put(c, whole(5), 2)
	checkKeys(t, keys(tab.Cursor()), c)
}

func TestKeysAreSameZero(t *testing.T) {
	tab := New()
	l := []api.Val{{K: api.NegZero}, {K: api.NaN}, {}, {K: api.Null}, value.Truth(false), text.Val("0"), value.Object(1), value.Symbol(1), {K: api.Empty}, {K: api.Inf, N: 1}, {K: api.Inf, N: -1}}
	for i, k := range l {
		tab.Put(k, whole(i), i)
	}
	for i, k := range l {
		if v, f, ok := tab.Get(k); v != whole(i) || f != i || !ok {
			t.Errorf("Get(%v) = %v, %d, %v", k, v, f, ok)
		}
	}
	if v, _, ok := tab.Get(whole(0)); v != whole(0) || !ok || tab.Len() != len(l) {
		t.Errorf("Get(0) = %v, %v", v, ok)
	}
	tab.Put(whole(0), api.Val{K: api.NegZero}, 9)
	if k, v, f, ok := tab.Cursor().Next(); k != whole(0) || v.K != api.NegZero || f != 9 || !ok {
		t.Errorf("the first entry is %v, %v, %d, %v", k, v, f, ok)
	}
	if !tab.Delete(api.Val{K: api.NegZero}) || tab.Len() != len(l)-1 {
		t.Error("-0 isn't deleted")
	}
}

func TestCursorSeesChanges(t *testing.T) {
	tab := New()
	tab.Put(a, whole(1), 7)
	tab.Put(b, whole(2), 7)
	cur := tab.Cursor()
	if k, v, f, ok := cur.Next(); k != a || v != whole(1) || f != 7 || !ok {
		t.Errorf("Next = %v, %v, %d, %v", k, v, f, ok)
	}
	tab.Delete(b)
	tab.Put(c, whole(3), 1)
	tab.Put(b, whole(4), 2)
	tab.Put(a, whole(5), 3)
	if k, v, f, ok := cur.Next(); k != c || v != whole(3) || f != 1 || !ok {
		t.Errorf("Next = %v, %v, %d, %v", k, v, f, ok)
	}
	tab.Put(b, whole(6), 4)
	if k, v, f, ok := cur.Next(); k != b || v != whole(6) || f != 4 || !ok {
		t.Errorf("Next = %v, %v, %d, %v", k, v, f, ok)
	}
	tab.Delete(a)
	tab.Put(a, whole(7), 0)
	checkKeys(t, keys(cur), a)
	tab.Put(text.Val("d"), whole(8), 0)
	if k, v, f, ok := cur.Next(); k != (api.Val{}) || v != (api.Val{}) || f != 0 || ok || cur.Open() {
		t.Errorf("a closed cursor returns %v, %v, %d, %v", k, v, f, ok)
	}
}

func TestCursorAfterClear(t *testing.T) {
	tab := New()
	tab.Put(a, whole(1), 0)
	tab.Put(b, whole(1), 0)
	first, second, closed := tab.Cursor(), tab.Cursor(), tab.Cursor()
	first.Next()
	closed.Close()
	tab.Clear()
	tab.Put(c, whole(1), 0)
	tab.Put(a, whole(1), 0)
	checkKeys(t, keys(first), c, a)
	checkKeys(t, keys(second), c, a)
	checkKeys(t, keys(closed))
}

func TestOpenAndClose(t *testing.T) {
	tab := New()
	cur, other := tab.Cursor(), tab.Cursor()
	if !cur.Open() || !other.Open() || tab.Storage() != 2 {
		t.Errorf("open: %v, %v, storage %d", cur.Open(), other.Open(), tab.Storage())
	}
	cur.Close()
	cur.Close()
	if cur.Open() || !other.Open() || tab.Storage() != 1 {
		t.Errorf("open: %v, %v, storage %d", cur.Open(), other.Open(), tab.Storage())
	}
	tab.Put(a, a, 0)
	if _, _, _, ok := cur.Next(); ok {
		t.Error("a closed cursor goes on")
	}
	checkKeys(t, keys(other), a)
	if other.Open() || tab.Storage() != 1 {
		t.Errorf("at the end: open: %v, storage %d", other.Open(), tab.Storage())
	}
}

func TestAll(t *testing.T) {
	tab := New()
	tab.Put(a, whole(1), 0)
	tab.Put(b, whole(2), 0)
	var log []string
	for k, v := range tab.All() {
		log = append(log, fmt.Sprint(text.Go(k.S), v.N))
		if k == a {
			tab.Delete(b)
			tab.Put(c, whole(3), 0)
		}
	}
	if got := strings.Join(log, " "); got != "a1 c3" {
		t.Errorf("All yields %s", got)
	}
	all := tab.All()
	for range 2 {
		n := 0
		for range all {
			n++
			if tab.Storage() < 3 {
				t.Error("an iteration has no cursor")
			}
			break
		}
		if n != 1 {
			t.Errorf("%d entries", n)
		}
	}
	func() {
		defer func() { _ = recover() }()
		for range tab.All() {
			panic("left")
		}
	}()
	if len(tab.cursors) != 0 {
		t.Errorf("%d cursors stay open", len(tab.cursors))
	}
}

func TestNil(t *testing.T) {
	var tab *Table
	var cur *Cursor
	tab.Put(a, a, 0)
	tab.Clear()
	for range tab.All() {
		t.Error("a nil table has an entry")
	}
	if v, f, ok := tab.Get(a); v != (api.Val{}) || f != 0 || ok || tab.Delete(a) || tab.Len() != 0 || tab.Storage() != 0 {
		t.Error("a nil table has something")
	}
	if k, v, f, ok := tab.Cursor().Next(); k != (api.Val{}) || v != (api.Val{}) || f != 0 || ok {
		t.Error("a nil table has an entry")
	}
	cur.Close()
	if _, _, _, ok := cur.Next(); ok || cur.Open() {
		t.Error("a nil cursor is open")
	}
}

func TestManyEntries(t *testing.T) {
	tab := New()
	cur := tab.Cursor()
	for i := range 20000 {
		tab.Put(whole(i), whole(-i), i)
		checkStorage(t, tab, 1)
	}
	for i := range 10000 {
		if k, _, _, ok := cur.Next(); !ok || k != whole(i) {
			t.Fatalf("Next = %v, %v", k, ok)
		}
	}
	for i := range 20000 {
		if i%100 != 0 {
			tab.Delete(whole(i))
			checkStorage(t, tab, 1)
		}
	}
	for i := 10000; i < 20000; i += 100 {
		if k, v, f, ok := cur.Next(); !ok || k != whole(i) || v != whole(-i) || f != i {
			t.Fatalf("Next = %v, %v, %d, %v", k, v, f, ok)
		}
	}
	if _, _, _, ok := cur.Next(); ok {
		t.Error("there are more")
	}
}

func checkStorage(t *testing.T, tab *Table, open int) {
	t.Helper()
	if s := tab.Storage(); s < tab.Len() || s > 5*tab.Len()+open+16 {
		t.Fatalf("storage %d for %d entries and %d open cursors", s, tab.Len(), open)
	}
}

// An item of the model never moves: what was deleted stays, and a cursor counts from the first item.
type item struct {
	key, val api.Val
	flags    int
	there    bool
}

type model struct {
	items   []item
	cursors []int // -1: closed
}

func (m *model) find(k api.Val) int {
	return slices.IndexFunc(m.items, func(x item) bool { return x.there && value.SameZero(x.key, k) })
}

func (m *model) next(i int) (item, bool) {
	for m.cursors[i] >= 0 && m.cursors[i] < len(m.items) {
		x := m.items[m.cursors[i]]
		m.cursors[i]++
		if x.there {
			return x, true
		}
	}
	m.cursors[i] = -1
	return item{}, false
}

func TestRandomOperations(t *testing.T) {
	rnd := rand.New(rand.NewSource(5))
	for range 300 {
		tab, m := New(), &model{}
		var cursors []*Cursor
		for step := range 400 {
			k := whole(rnd.Intn(30))
			if k.N == 0 && rnd.Intn(2) == 0 {
				k = api.Val{K: api.NegZero}
			}
			switch op := rnd.Intn(100); {
			case op < 35:
				randomPut(tab, m, k, whole(step), rnd.Intn(8))
			case op < 65:
				i := m.find(k)
				if tab.Delete(k) != (i >= 0) {
					t.Fatalf("Delete(%v)", k)
				}
				if i >= 0 {
					m.items[i].there = false
				}
			case op < 66:
				tab.Clear()
				for i := range m.items {
					m.items[i].there = false
				}
			case op < 75:
				cursors = append(cursors, tab.Cursor())
				m.cursors = append(m.cursors, 0)
			case op < 78 && len(cursors) > 0:
				i := rnd.Intn(len(cursors))
				cursors[i].Close()
				m.cursors[i] = -1
			case len(cursors) > 0:
				i := rnd.Intn(len(cursors))
				x, there := m.next(i)
				k, v, f, ok := cursors[i].Next()
				if ok != there || k != x.key || v != x.val || f != x.flags {
					t.Fatalf("Next = %v, %v, %d, %v, not %v", k, v, f, ok, x)
				}
			}
			checkModel(t, tab, m, cursors, k)
		}
	}
}

func randomPut(tab *Table, m *model, k, v api.Val, flags int) {
	tab.Put(k, v, flags)
	if i := m.find(k); i >= 0 {
		m.items[i].val, m.items[i].flags = v, flags
	} else {
		m.items = append(m.items, item{value.Key(k), v, flags, true})
	}
}

func checkModel(t *testing.T, tab *Table, m *model, cursors []*Cursor, k api.Val) {
	t.Helper()
	open, count := 0, 0
	for i, cur := range cursors {
		if cur.Open() != (m.cursors[i] >= 0) {
			t.Fatalf("cursor %d: open %v", i, cur.Open())
		}
		if cur.Open() {
			open++
		}
	}
	for _, x := range m.items {
		if x.there {
			count++
		}
	}
	if tab.Len() != count {
		t.Fatalf("Len = %d, not %d", tab.Len(), count)
	}
	checkStorage(t, tab, open)
	i := m.find(k)
	v, f, ok := tab.Get(k)
	if ok != (i >= 0) || ok && (v != m.items[i].val || f != m.items[i].flags) {
		t.Fatalf("Get(%v) = %v, %d, %v", k, v, f, ok)
	}
}
