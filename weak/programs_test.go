package weak_test

import "testing"

// The expected lines are what another implementation of the language prints.
func TestPrograms(t *testing.T) {
	for _, c := range [][2]string{
		{`let w = new WeakMap(); let k = {}; print(w.set(k, 1) === w, w.get(k), w.has(k), w.get({}), w.has(1), w.get(1), w.delete(1), w.delete(k), w.delete(k), w.has(k)); for (const f of [() => w.set(1, 2), () => WeakMap(), () => WeakSet(), () => WeakRef({}), () => new WeakRef(1), () => new WeakRef(), () => new WeakSet([1]), () => FinalizationRegistry(() => 1), () => new FinalizationRegistry(), () => new FinalizationRegistry({}), () => WeakMap.prototype.get.call(new Map(), k), () => WeakSet.prototype.has.call(w, k), () => WeakRef.prototype.deref.call({}), () => new WeakMap([[1, 2]]), () => new WeakMap([1])]) { try { f(); print("no"); } catch (e) { print(e instanceof TypeError); } } let s = new WeakSet([k]); print(s.has(k), s.add(w) === s, s.has(w), s.delete(w), s.has(w), s.has(1), new WeakMap([[k, 5]]).get(k)); try { s.add(1); } catch (e) { print(e instanceof TypeError); } let r = new WeakRef(k); print(r.deref() === k, new WeakRef(print).deref() === print, WeakMap.length, WeakRef.length, FinalizationRegistry.length, WeakRef.prototype.deref.length, FinalizationRegistry.prototype.register.length, WeakMap.name, FinalizationRegistry.name);`, `true 1 true undefined false undefined false true false false; true; true; true; true; true; true; true; true; true; true; true; true; true; true; true; true true true true false false 5; true; true true 0 1 1 0 2 WeakMap FinalizationRegistry`},
		{`let f = new FinalizationRegistry(print); let t = {}, u = {}; print(f.register(t, 1), f.register(t, 2, u), f.register(u, 3, u), f.unregister(u), f.unregister(u), f.unregister({})); for (const g of [() => f.register(1, 2), () => f.register(t, t), () => f.register(t, 1, 1), () => f.unregister(1), () => f.unregister(undefined), () => f.unregister(), () => FinalizationRegistry.prototype.register.call({}, t, 1), () => f.register(t, 1, null), () => f.register()]) { try { g(); print("no"); } catch (e) { print(e instanceof TypeError); } } class R extends FinalizationRegistry {} print(new R(() => 1) instanceof R, new R(() => 1)); class W extends WeakRef {} print(new W(t).deref() === t); class WM extends WeakMap { set(k, v) { print("wm set"); return super.set(k, v); } } new WM([[t, 1]]);`, `undefined undefined undefined true false false; true; true; true; true; true; true; true; true; true; true [FinalizationRegistry]; true; wm set`},
	} {
		check(t, c[0], c[1])
	}
}
