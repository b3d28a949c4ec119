package promise_test

import (
	"strings"
	"testing"

	"ossuary/api"
	"ossuary/heap"
	"ossuary/promise"
	"ossuary/text"
	"ossuary/value"
	"ossuary/vm"
)

func TestPromises(t *testing.T) {
	for _, c := range [][2]string{
		{`Promise.resolve(1).then(print); print(2);`, "2; 1"}, {`new Promise((y, n) => { print("now"); y(1); y(2); n(3); throw 4; }).then(print, (e) => print("no", e)); print("sync");`, "now; sync; 1"}, {`new Promise((y, n) => { n(1); y(2); }).then(print, (e) => print("refused", e));`, "refused 1"}, {`new Promise(() => { throw new Error("x"); }).catch(print);`, "Error: x"}, {`let p = new Promise(() => {}); p.then(print); print(p);`, "[Promise]"},
		{`Promise.resolve(1).then((x) => x + 1).then((x) => { print(x); throw "e"; }).then(print).catch((e) => { print("caught", e); return "back"; }).then(print);`, "2; caught e; back"}, {`Promise.resolve(1).then().then(5, 6).then(print); Promise.reject(2).then(print).catch().catch(print);`, "1; 2"}, {`Promise.reject(1);`, ""}, {`Promise.reject(1).then(print, (e) => { throw e + 1; }).catch(print);`, "2"},
		{`let p = Promise.resolve(1); p.then(() => print("a")).then(() => print("c")).then(() => print("e")); p.then(() => print("b")).then(() => print("d"));`, "a; b; c; d; e"}, {`queueMicrotask(() => { print(1); queueMicrotask(() => print(3)); }); queueMicrotask(() => print(2)); print(0);`, "0; 1; 2; 3"}, {`queueMicrotask(function (...a) { print(this, a.length); });`, "undefined 0"},
		{`let p = Promise.resolve(9); print(Promise.resolve(p) === p, Promise.reject(p) === p); new Promise((y) => y(p)).then((x) => print("adopted", x)); p.then(() => print(1)).then(() => print(2)).then(() => print(3));`, "true false; 1; 2; adopted 9; 3"}, {`let t = {then(y, n) { print("then", this === t, typeof n); y("v"); n("no"); }}; Promise.resolve(t).then(print); print("first");`, "first; then true function; v"}, {`Promise.resolve({then(y) { y({then(z) { z("deep"); }}); throw "ignored"; }}).then(print);`, "deep"}, {`Promise.resolve({then() { throw "thrown"; }}).catch(print);`, "thrown"}, {`Promise.resolve({then: 1}).then((o) => print(o.then)); Promise.resolve(() => 1).then(print);`, "1; function "}, {`Promise.reject({then() { print("never"); }}).catch((o) => print(typeof o));`, "object"},
		{`let y; let p = new Promise((a) => { y = a; }); y(p); p.catch((e) => print(e instanceof TypeError));`, "true"}, {`let p = Promise.resolve().then(() => p); p.catch((e) => print(e instanceof TypeError));`, "true"}, {`let y; let p = new Promise((a) => { y = a; }); p.then((x) => print("a", x)); p.then((x) => print("b", x)); y(1); p.then((x) => print("c", x)); y(2);`, "a 1; b 1; c 1"}, {`let n; let p = new Promise((a, b) => { n = b; }); p.catch((x) => print("a", x)); n(1); p.then(print, (x) => print("b", x));`, "a 1; b 1"},
		{`Promise(() => 1);`, " ! TypeError"}, {`new Promise();`, " ! TypeError"}, {`new Promise({});`, " ! TypeError"}, {`Promise.prototype.then.call({});`, " ! TypeError"}, {`Promise.prototype.catch.call(undefined);`, " ! TypeError"}, {`Promise.prototype.catch.call(1);`, " ! TypeError"}, {`queueMicrotask();`, " ! TypeError"}, {`queueMicrotask("f");`, " ! TypeError"}, {`Promise.prototype.catch.call({then(f, g) { print(f, g); return 7; }}, 5);`, "undefined 5"},
		{`Promise.resolve.call(Object, 1);`, " ! end 6"}, {`let r = Promise.resolve; r(1);`, " ! TypeError"}, {`Promise.reject.call(function () {}, 1);`, " ! end 6"}, {`class P extends Promise {} P.resolve(1);`, " ! end 6"}, {`Promise.reject.call(1, 1);`, " ! TypeError"},
		{`class P extends Promise { then(f, g) { print("my then"); return super.then(f, g); } } let p = new P((y) => y(4)); print(p instanceof P, p); p.then(print); p.catch(print); Promise.resolve(p).then((x) => print("r", x));`, "true [Promise]; my then; my then; 4; my then; r 4"}, {`let p = Promise.resolve(1); p.constructor = Object; print(Promise.resolve(p) === p); p.constructor = null; print(Promise.resolve(p) === p); p.constructor = undefined; p.then(print);`, "false; false; 1"}, {`let p = Promise.resolve(1); p.constructor = 1; p.then(print);`, " ! TypeError"}, {`let o = Promise.resolve(5); o.then = (y) => y("own"); Promise.resolve().then(() => o).then(print);`, "own"},
		{`queueMicrotask(() => { throw new RangeError("job"); }); queueMicrotask(() => print("never"));`, " ! RangeError: job"}, {`Promise.resolve().then(() => { throw 1; }); print("fine");`, "fine"}, {`Promise.resolve().then(() => 1 / 2).then(print);`, " ! end 6"}, {`new Promise(() => 1 / 2);`, " ! end 6"}, {`Promise.resolve({then() { 1 / 2; }});`, " ! end 6"}, {`new Promise((y, n) => { for (const f of [y, n]) { print(f.length, f.name === "", f.hasOwnProperty("prototype")); try { new f(); } catch (e) { print(e instanceof TypeError); } } }).then(print);`, "1 true false; true; 1 true false; true"}, {`new queueMicrotask(print);`, " ! TypeError"},
		{`function* g() { for (let i = 0; ; i++) print("g", yield i); } let i = g(); i.next(); let loop = (n) => n && Promise.resolve(n).then((x) => { i.next(x); return loop(n - 1); }); loop(3).then(() => print("end"));`, "g 3; g 2; g 1; end"}, {`let a = []; for (let i = 0; i < 5; i++) new Promise((y) => queueMicrotask(() => y({i}))).then((o) => { a.push(o.i); if (o.i === 4) print(a); });`, "[0, 1, 2, 3, 4]"},
	} {
		check(t, c[0], c[1])
	}
}

func TestThen(t *testing.T) {
	m := world(wide, api.Script{All: true})
	values := m.Env(m.World).Vals
	ctor := values[len(values)-2]
	p, _ := method(t, m, ctor, "resolve", whole(5))
	q := promise.Then(m, p, values[4], api.Val{})
	if m.Class(q) != heap.Promise || q == p || len(m.Jobs) != 1 || m.Jobs[0].Kind != promise.React {
		t.Fatalf("Then = %v, jobs %v", q, m.Jobs)
	}
	m.Hold(q)
	j := m.Jobs[0]
	m.Jobs = nil
	if v, end := promise.Run(m, j); v != (api.Val{}) || end != vm.Fine || strings.Join(m.Trace, " ") != "5" {
		t.Errorf("Run = %v, %d, %v", v, end, m.Trace)
	}
	for _, v := range []api.Val{{}, whole(1), m.Object()} {
		if got := promise.Then(m, v, values[4], values[4]); got != (api.Val{}) {
			t.Errorf("Then of %v is %v", v, got)
		}
	}
	if m.Depth() != 1 {
		t.Errorf("%d roots", m.Depth())
	}
}

// Jobs of kind 0 call a function with their arguments; what it throws is thrown by Run.
func TestRun(t *testing.T) {
	m := world(wide, api.Script{All: true})
	values := m.Env(m.World).Vals
	print := values[4]
	if v, end := promise.Run(m, vm.Job{Fn: print, Args: []api.Val{whole(1), whole(2)}}); v != (api.Val{}) || end != vm.Fine || m.Trace[0] != "1 2" {
		t.Errorf("Run = %v, %d, %v", v, end, m.Trace)
	}
	if v, end := promise.Run(m, vm.Job{Fn: whole(1)}); end != vm.Threw || m.Class(v) != heap.Error {
		t.Errorf("Run = %v, %d", v, end)
	}
	if promise.React != 1 || promise.Follow != 2 || promise.First != 400 || promise.Last != 499 || promise.Names != "Promise queueMicrotask" {
		t.Error("the constants")
	}
	for i, c := range []struct {
		f    api.Val
		name string
		n    int
	}{{values[len(values)-2], "Promise", 1}, {values[len(values)-1], "queueMicrotask", 1}} {
		length, _ := m.Member(c.f, "length")
		name, _ := m.Member(c.f, "name")
		if length != whole(c.n) || name != text.Val(c.name) {
			t.Errorf("%d: %v, %v", i, name, length)
		}
	}
	for of, methods := range map[api.Val]string{value.Object(m.Protos[vm.PromiseProto]): "then2 catch1", values[len(values)-2]: "resolve1 reject1"} {
		for _, w := range strings.Fields(methods) {
			f, flags, _ := m.Of(of).Own(text.Val(w[:len(w)-1]))
			if n, _ := m.Member(f, "length"); flags != heap.Hidden || n != whole(int(w[len(w)-1]-'0')) {
				t.Errorf("%s: %d, %v", w, flags, n)
			}
		}
	}
}

// P0: nothing panics, whatever is asked of it.
func TestStrangeCalls(t *testing.T) {
	for id := promise.First - 1; id <= promise.Last+1; id++ {
		for i := range 7 {
			m := world(wide, api.Script{})
			values := m.Env(m.World).Vals
			f, p := values[4], values[len(values)-2]
			made, _ := method(t, m, p, "resolve")
			args := []api.Val{{}, m.Iterator, m.Array([]api.Val{whole(1)}), m.Object(), made, p, f}
			promise.Do(m, id, vm.Call{This: args[i], Args: args[:i]})
			promise.Do(m, id, vm.Call{This: args[i], Args: args[i:], Target: p, Fn: m.Of(f)})
			promise.Do(m, id, vm.Call{This: p, Args: args[i:]})
			for kind := -1; kind < 4; kind++ {
				promise.Run(m, vm.Job{Kind: kind, Fn: args[i], Args: args[:i]})
				promise.Run(m, vm.Job{Kind: kind, Fn: args[6-i], Args: args[i:]})
			}
			promise.Then(m, args[i], args[i], args[6-i])
		}
		promise.Do(nil, id, vm.Call{})
	}
	promise.Run(nil, vm.Job{})
	if promise.World(nil) != nil || promise.Then(nil, api.Val{}, api.Val{}, api.Val{}) != (api.Val{}) {
		t.Error("nil makes something")
	}
}
