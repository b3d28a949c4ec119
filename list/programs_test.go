package list_test

import "testing"

// The expected lines are what another implementation of the language prints.
func TestPrograms(t *testing.T) {
	for _, c := range [][2]string{
		{`print([1, [2], "a"], Array.isArray([]), Array.isArray({}), Array.isArray(), Array(1, 2), Array("a"), new Array("x", "y"), Array(), Array.of(1, 2, 3), Array.of());`, `[1, [2], a] true false false [1, 2] [a] [x, y] [] [1, 2, 3] []`},
		{`[1, , 3].forEach((x, i, a) => print(x, i, a.length)); print([1, , 3].map((x) => x + 1), [1, 2].map((x, i, a) => a === undefined ? 0 : i), [3, 4, 3].indexOf(3), [3, 4, 3].indexOf(3, 1), [3].indexOf(4), [1, , 2].indexOf(undefined), [NaN].indexOf(NaN), [0].indexOf(-0), [1, 2, 3].indexOf(3, -1), [1, 2, 3].indexOf(1, -9), [1].indexOf(1, 5), [].indexOf(1, Infinity), [1].indexOf(1, -Infinity), [1].indexOf(1, Infinity), [1].indexOf(1, NaN), [1].indexOf(1, null), [1, 1].indexOf(1, true));`, `1 0 3; 3 2 3; [2, , 4] [0, 1] 0 2 -1 -1 -1 0 2 0 -1 -1 0 -1 0 0 1`},
		{`print([1, null, undefined, , "x", true].join(), [1, 2].join("-"), [].join(), [1].join("x"), [1, 2].join(undefined), [1, 2].join(null), [1, 2].join("")); print([1, 2, 3, 4].slice(1, 3), [1, 2, 3].slice(-2), [1, 2, 3].slice(1), [1, 2, 3].slice(), [1, , 3].slice(0, 2), [1, 2].slice(5), [1, 2, 3].slice(2, 1), [1, 2, 3].slice(0, -1), [1, 2, 3].slice(-9, 9), [1, 2].slice(undefined, undefined));`, `1,,,,x,true 1-2  1 1,2 1null2 12; [2, 3] [2, 3] [2, 3] [1, 2, 3] [1, ] [] [] [1, 2] [1, 2, 3] [1, 2]`},
		{`let a = [1, 2, 3]; a.forEach((x) => { if (x === 1) { a.pop(); a.push(9); } print(x); }); let b = [1, 2, 3]; print(b.map((x) => { b.length = 1; return x; })); let c = [1]; c.forEach(function (x) { print(this === c, this === undefined); }, c); [1].forEach(function () { print(this === undefined); }); try { [].forEach(1); } catch (e) { print(e instanceof TypeError); } try { [1].map(); } catch (e) { print(e instanceof TypeError); } try { [1].map(() => { throw 7; }); } catch (e) { print(e); }`, `1; 2; 9; [1, , ]; true false; true; true; true; 7`},
	} {
		check(t, c[0], c[1])
	}
}
