package tests

import (
	"fmt"
	"math"
	"math/big"
	"math/rand"
	"slices"
	"strings"
	"testing"

	"loop.example/s0083/impl"
)

// noughts are the bytes of the least record.
var noughts = strings.Repeat("\x00", 64)

// runCode is what Run should tell beside that code, when so many words were begun.
func runCode(steps, code int64) impl.RunOut {
	return impl.RunOut{Steps: steps, Code: code}
}

// bottom tells the lowest 32 bits of a number without bounds.
func bottom(n *big.Int) int64 {
	return new(big.Int).Mod(n, big.NewInt(1<<32)).Int64()
}

// reckoned is what a word of that name should make of A and the number beside it, as chapter 6 has it.
func reckoned(name string, a, n int64) int64 {
	x, y, out := big.NewInt(a), big.NewInt(n), new(big.Int)
	switch name {
	case "add":
		out.Add(x, y)
	case "sub":
		out.Sub(x, y)
	case "mul":
		out.Mul(x, y)
	case "div":
		out.Quo(x, y)
	case "or":
		out.Or(x, y)
	case "and":
		out.And(x, y)
	case "xor":
		out.Xor(x, y)
	case "left":
		out.Lsh(x, uint(n))
	case "right":
		out.Rsh(x, uint(n))
	case "neg":
		out.Neg(x)
	}
	return bottom(out)
}

// looked is what a word of that name should see.
func looked(name string, a, n int64) bool {
	return map[string]bool{"eq": a == n, "gt": a > n, "ge": a >= n, "set": a&n != 0}[name]
}

// state is what a program can come to know of the machine.
type state struct {
	a, x  int64
	cells map[int64]int64
}

// rowOfCode is the row of chapter 3 of that code; one without a name, if there is none.
func rowOfCode(code int64) opRow {
	rows := opRows()
	at := slices.IndexFunc(rows, func(o opRow) bool { return o.code == code })
	if at < 0 {
		return opRow{}
	}
	return rows[at]
}

// beside tells a word's name as its twin with K has it, and the number that stands beside A: K, or X.
func beside(s *state, o opRow, k int64) (string, int64) {
	if !o.k && strings.HasSuffix(o.name, "x") && o.name != "tax" {
		return strings.TrimSuffix(o.name, "x"), s.x
	}
	return o.name, k
}

// done does the word of that row to the state, but for where it goes on; its code is that of chapter 6.
func done(s *state, o opRow, k int64, bytes string) int64 {
	name, n := beside(s, o, k)
	held, written := s.cells[k]
	cell := slices.Contains([]string{"mem", "memx", "store", "storex"}, name)
	shift := name == "left" || name == "right"
	switch {
	case name == "":
		return impl.ErrSyntax
	case cell && k > 15, shift && k > 31, name == "div" && k == 0, name == "load" && (k%4 != 0 || k > 60):
		return impl.ErrRange
	case (name == "mem" || name == "memx") && !written:
		return impl.ErrNone
	}
	switch name {
	case "load":
		s.a = int64(bytes[k]) + int64(bytes[k+1])*256 + int64(bytes[k+2])*256*256 + int64(bytes[k+3])*256*256*256
	case "imm":
		s.a = k
	case "immx":
		s.x = k
	case "mem":
		s.a = held
	case "memx":
		s.x = held
	case "store":
		s.cells[k] = s.a
	case "storex":
		s.cells[k] = s.x
	case "tax":
		s.x = s.a
	case "txa":
		s.a = s.x
	case "add", "sub", "mul", "div", "or", "and", "xor", "left", "right", "neg":
		s.a = reckoned(name, s.a, n)
	}
	return impl.OK
}

// ran is what Run should tell of right words, and 64 bytes.
func ran(l []impl.Insn, bytes string) impl.RunOut {
	s := &state{cells: map[int64]int64{}}
	at := int64(0)
	for steps := int64(1); ; steps++ {
		if at >= int64(len(l)) {
			return runCode(steps-1, impl.ErrShort)
		}
		x := l[at]
		o := rowOfCode(x.Code)
		if code := done(s, o, x.K, bytes); code != impl.OK {
			return runCode(steps, code)
		}
		name, n := beside(s, o, x.K)
		switch {
		case name == "ret":
			return impl.RunOut{Ret: x.K, Steps: steps}
		case name == "reta":
			return impl.RunOut{Ret: s.a, Steps: steps}
		case name == "jump":
			at += x.K
		case o.looks && looked(name, s.a, n):
			at += x.Yes
		case o.looks:
			at += x.No
		}
		at++
	}
}

// loadNumbers are what is loaded of loadBytes: each place another one.
func loadNumbers() []int64 {
	l := make([]int64, 16)
	for i := range l {
		l[i] = int64(0x01020304*(i+1)) ^ 0xf0000000
	}
	return l
}

func loadBytes() string {
	var b []byte
	for _, n := range loadNumbers() {
		b = append(b, byte(n), byte(n>>8), byte(n>>16), byte(n>>24))
	}
	return string(b)
}

// prelude lays words ahead, that fill each cell but the last five with 1000 and its number, X, and then A.
func prelude(a, x int64) []impl.Insn {
	var l []impl.Insn
	for k := range int64(11) {
		l = append(l, impl.Insn{Code: impl.OpImm, K: 1000 + k}, impl.Insn{Code: impl.OpStore, K: k})
	}
	return append(l, impl.Insn{Code: impl.OpImmX, K: x}, impl.Insn{Code: impl.OpImm, K: a})
}

// after holds a word against what should be known of the machine behind it, when it began with this A and X.
func after(t *testing.T, w impl.Insn, a, x int64, want state) {
	t.Helper()
	l := append(prelude(a, x), w)
	steps := int64(len(l))
	tell := func(what string, out impl.RunOut, words ...impl.Insn) {
		t.Helper()
		same(t, fmt.Sprint(rowOfCode(w.Code).name, w, a, x, " then ", what), impl.Run(append(slices.Clone(l), words...), loadBytes()), out)
	}
	tell("A", impl.RunOut{Ret: want.a, Steps: steps + 1}, impl.Insn{Code: impl.OpRetA})
	tell("X", impl.RunOut{Ret: want.x, Steps: steps + 2}, impl.Insn{Code: impl.OpTxa}, impl.Insn{Code: impl.OpRetA})
	for k := range int64(16) {
		held, written := want.cells[k]
		switch {
		case written:
		case k < 11:
			held = 1000 + k
		default:
			tell(fmt.Sprint("no cell ", k), runCode(steps+1, impl.ErrNone), impl.Insn{Code: impl.OpMem, K: k}, impl.Insn{Code: impl.OpRetA})
			continue
		}
		tell(fmt.Sprint("cell ", k), impl.RunOut{Ret: held, Steps: steps + 2}, impl.Insn{Code: impl.OpMem, K: k}, impl.Insn{Code: impl.OpRetA})
	}
}

func TestRunWhatEachWordDoes(t *testing.T) {
	const a, x = 0x80000006, 0xc0000003
	cell := func(k, n int64) map[int64]int64 { return map[int64]int64{k: n} }
	seen := map[int64]bool{}
	for _, c := range []struct {
		code, k int64
		want    state
	}{
		{impl.OpLoad, 0, state{loadNumbers()[0], x, nil}},
		{impl.OpLoad, 20, state{loadNumbers()[5], x, nil}},
		{impl.OpLoad, 60, state{loadNumbers()[15], x, nil}},
		{impl.OpImm, 77, state{77, x, nil}},
		{impl.OpImmX, 77, state{a, 77, nil}},
		{impl.OpMem, 9, state{1009, x, nil}},
		{impl.OpMemX, 9, state{a, 1009, nil}},
		{impl.OpStore, 9, state{a, x, cell(9, a)}},
		{impl.OpStore, 13, state{a, x, cell(13, a)}},
		{impl.OpStoreX, 9, state{a, x, cell(9, x)}},
		{impl.OpStoreX, 15, state{a, x, cell(15, x)}},
		{impl.OpAdd, 5, state{0x8000000b, x, nil}},
		{impl.OpSub, 5, state{0x80000001, x, nil}},
		{impl.OpMul, 3, state{0x80000012, x, nil}},
		{impl.OpDiv, 4, state{0x20000001, x, nil}},
		{impl.OpOr, 9, state{0x8000000f, x, nil}},
		{impl.OpAnd, 12, state{4, x, nil}},
		{impl.OpLeft, 4, state{0x60, x, nil}},
		{impl.OpRight, 2, state{0x20000001, x, nil}},
		{impl.OpNeg, 9, state{0x7ffffffa, x, nil}},
		{impl.OpXor, 0x8000000c, state{10, x, nil}},
		{impl.OpAddX, 5, state{0x40000009, x, nil}},
		{impl.OpSubX, 5, state{0xc0000003, x, nil}},
		{impl.OpAndX, 12, state{0x80000002, x, nil}},
		{impl.OpOrX, 9, state{0xc0000007, x, nil}},
		{impl.OpJump, 0, state{a, x, nil}},
		{impl.OpEq, 5, state{a, x, nil}}, {impl.OpGt, 5, state{a, x, nil}},
		{impl.OpGe, 5, state{a, x, nil}}, {impl.OpSet, 5, state{a, x, nil}},
		{impl.OpEqX, 5, state{a, x, nil}}, {impl.OpGtX, 5, state{a, x, nil}},
		{impl.OpGeX, 5, state{a, x, nil}}, {impl.OpSetX, 5, state{a, x, nil}},
		{impl.OpTax, 9, state{a, a, nil}},
		{impl.OpTxa, 9, state{x, x, nil}},
	} {
		seen[c.code] = true
		after(t, impl.Insn{Code: c.code, K: c.k}, a, x, c.want)
	}
	same(t, "all but those that end", len(seen), 32)
	// What stands behind them is not begun, and what their table line does not name has no say.
	l := append(prelude(a, x), impl.Insn{Code: impl.OpRet, Yes: 3, No: 4, K: 77}, impl.Insn{Code: 99})
	same(t, "ret", impl.Run(l, noughts), impl.RunOut{Ret: 77, Steps: 25})
	l[24].Code = impl.OpRetA
	same(t, "reta", impl.Run(l, noughts), impl.RunOut{Ret: a, Steps: 25})
}

// The words that do not look go on behind themselves, whatever Yes and No they have.
func TestRunYesAndNoOfWordsThatDoNotLook(t *testing.T) {
	for _, o := range opRows() {
		if o.looks {
			continue
		}
		for _, n := range [][2]int64{{0, 0}, {1, 0}, {0, 1}, {255, 255}} {
			l := prog(t, "imm 7;store 8;tax;imm 9;ret 1;reta;reta")
			l[4] = impl.Insn{Code: o.code, Yes: n[0], No: n[1], K: 8}
			want := ran(l, loadBytes())
			same(t, fmt.Sprint(l[4]), impl.Run(l, loadBytes()), want)
			l[4].Yes, l[4].No = 0, 0
			same(t, fmt.Sprint("without ", n, l[4]), impl.Run(l, loadBytes()), want)
		}
	}
}

// edges are numbers of 32 bits at which something could go wrong.
func edges() []int64 {
	return []int64{0, 1, 2, 3, 5, 30, 31, 32, 33, 255, 256, 65535, 65536, 65537, 1<<31 - 1, 1 << 31, 1<<31 + 1,
		0xaaaaaaaa, 0x55555555, impl.MaxWord - 1, impl.MaxWord}
}

func TestRunNumbersOf32Bits(t *testing.T) {
	for _, c := range []struct {
		lines string
		want  int64
	}{
		{"imm 4294967295;add 1;reta", 0},
		{"imm 4294967295;add 4294967295;reta", 4294967294},
		{"imm 4294967294;add 1;reta", 4294967295},
		{"imm 3;sub 5;reta", 4294967294},
		{"imm 0;sub 1;reta", 4294967295},
		{"imm 0;sub 4294967295;reta", 1},
		{"imm 5;sub 5;reta", 0},
		{"imm 4294967295;mul 2;reta", 4294967294},
		{"imm 4294967295;mul 4294967295;reta", 1},
		{"imm 65536;mul 65536;reta", 0},
		{"imm 65535;mul 65537;reta", 4294967295},
		{"imm 4294967295;div 1;reta", 4294967295},
		{"imm 4294967295;div 2;reta", 2147483647},
		{"imm 4294967294;div 4294967295;reta", 0},
		{"imm 4294967295;div 4294967295;reta", 1},
		{"imm 7;div 2;reta", 3},
		{"imm 0;neg;reta", 0},
		{"imm 1;neg;reta", 4294967295},
		{"imm 2147483648;neg;reta", 2147483648},
		{"imm 4294967295;neg;reta", 1},
		{"imm 1;left 31;reta", 2147483648},
		{"imm 3;left 31;reta", 2147483648},
		{"imm 2;left 31;reta", 0},
		{"imm 4294967295;left 0;reta", 4294967295},
		{"imm 4294967295;left 1;reta", 4294967294},
		{"imm 4294967295;right 0;reta", 4294967295},
		{"imm 4294967295;right 31;reta", 1},
		{"imm 2147483647;right 31;reta", 0},
		{"imm 1;left 31;right 30;neg;reta", 4294967294},
		// What does not fit is gone when another word looks, stores or divides.
		{"imm 4294967295;add 2;eq 0 1 1;ret 7;ret 8", 7},
		{"imm 4294967295;add 2;tax;imm 0;addx;reta", 1},
		{"imm 0;sub 1;right 31;reta", 1},
		{"imm 0;sub 1;gt 0 1 5;ret 7;ret 8", 7},
		{"imm 65536;mul 65536;set 1 0 4294967295;ret 7;ret 8", 7},
		{"imm 3;left 31;right 31;reta", 1},
		{"imm 4294967295;add 6;store 2;imm 0;mem 2;div 2;reta", 2},
		{"imm 5;neg;tax;imm 0;add 4;addx;reta", 4294967295},
		{"immx 4294967295;imm 2;addx;reta", 1},
		{"immx 5;imm 3;subx;reta", 4294967294},
	} {
		l := prog(t, c.lines)
		out := impl.Run(l, noughts)
		same(t, c.lines, out.Ret, c.want)
		same(t, c.lines, out.Code, int64(impl.OK))
	}
}

func TestRunReckonsLikeNumbersWithoutBounds(t *testing.T) {
	names := []string{"add", "sub", "mul", "div", "or", "and", "xor", "left", "right", "neg", "addx", "subx", "andx", "orx"}
	for _, a := range edges() {
		for _, n := range edges() {
			for _, name := range names {
				l := prog(t, fmt.Sprintf("immx 12;imm %d;tax;reta", a))
				o := rowOfCode(impl.OpOf(name))
				l[2] = impl.Insn{Code: o.code, K: n}
				twin := name
				if strings.HasSuffix(name, "x") && name != "xor" {
					// The twin of X looks at X alone.
					l[0].K, l[2].K, twin = n, 12, strings.TrimSuffix(name, "x")
				}
				want := runCode(3, impl.ErrRange)
				if (name != "div" || n != 0) && (name != "left" && name != "right" || n <= 31) {
					want = impl.RunOut{Ret: reckoned(twin, a, n), Steps: 4}
				}
				same(t, fmt.Sprint(name, " ", a, n), impl.Run(l, noughts), want)
			}
		}
	}
}

func TestRunEachShift(t *testing.T) {
	for k := int64(0); k <= 300; k++ {
		for _, code := range []int64{impl.OpLeft, impl.OpRight} {
			l := []impl.Insn{{K: 0x90000009}, {Code: code, K: k}, {Code: impl.OpRetA}}
			want := runCode(2, impl.ErrRange)
			if k <= 31 {
				want = impl.RunOut{Ret: reckoned(impl.OpName(code), 0x90000009, k), Steps: 3}
			}
			same(t, fmt.Sprint(code, k), impl.Run(l, noughts), want)
		}
	}
}

// Nothing but the numbers that are held against each other says which way is gone: they are never below 0.
func TestRunLooks(t *testing.T) {
	for _, o := range opRows() {
		if !o.looks {
			continue
		}
		for _, n := range edges() {
			for _, a := range append(edges(), max(n-1, 0), min(n+1, impl.MaxWord)) {
				name := strings.TrimSuffix(o.name, "x")
				l := []impl.Insn{{Code: impl.OpImmX, K: 12}, {K: a}, {Code: o.code, Yes: 1, No: 3, K: n},
					{Code: 99}, {Code: impl.OpRet, K: 11}, {Code: 99}, {Code: impl.OpRet, K: 22}}
				if name != o.name {
					l[0].K, l[2].K = n, 12
				}
				want := impl.RunOut{Ret: 22, Steps: 4}
				if looked(name, a, n) {
					want.Ret = 11
				}
				same(t, fmt.Sprint(o.name, " ", a, n), impl.Run(l, noughts), want)
			}
		}
	}
}

func TestRunLooksOneMoreAndOneLess(t *testing.T) {
	for _, c := range []struct {
		name             string
		less, like, more int64
	}{
		{"eq", 0, 1, 0}, {"gt", 0, 0, 1}, {"ge", 0, 1, 1},
	} {
		for _, n := range []int64{1, 2, 100, 1<<31 - 1, 1 << 31, 1<<31 + 1, impl.MaxWord - 1} {
			for i, want := range []int64{c.less, c.like, c.more} {
				a := n - 1 + int64(i)
				same(t, fmt.Sprint(c.name, a, n), impl.Run(prog(t, fmt.Sprintf("imm %d;%s 1 0 %d;ret 0;ret 1", a, c.name, n)), noughts), impl.RunOut{Ret: want, Steps: 3})
				same(t, fmt.Sprint(c.name, "x", a, n), impl.Run(prog(t, fmt.Sprintf("immx %d;imm %d;%sx 1 0;ret 0;ret 1", n, a, c.name)), noughts), impl.RunOut{Ret: want, Steps: 4})
			}
		}
	}
	for bit := range 32 {
		n := int64(1) << bit
		for _, a := range []int64{n, n - 1, impl.MaxWord, impl.MaxWord - n, 0} {
			want := a >> bit & 1
			same(t, fmt.Sprint("set", a, n), impl.Run(prog(t, fmt.Sprintf("imm %d;set 1 0 %d;ret 0;ret 1", a, n)), noughts).Ret, want)
			same(t, fmt.Sprint("setx", a, n), impl.Run(prog(t, fmt.Sprintf("immx %d;imm %d;setx 1 0;ret 0;ret 1", n, a)), noughts).Ret, want)
		}
	}
}

// marked is a program of that many words, each of which ends with another answer: its place and 1000.
func marked(size int) []impl.Insn {
	l := make([]impl.Insn, size)
	for at := range l {
		l[at] = impl.Insn{Code: impl.OpRet, K: int64(1000 + at)}
	}
	return l
}

// comesTo is what Run should tell of a marked program, when its one other word leads to that place.
func comesTo(l []impl.Insn, to int64) impl.RunOut {
	if to < int64(len(l)) {
		return impl.RunOut{Ret: 1000 + to, Steps: 2}
	}
	return runCode(1, impl.ErrShort)
}

func TestRunHowFarYesAndNoLead(t *testing.T) {
	for _, size := range []int{1, 2, 3, 7, 200, 255, 256, 257, 258, impl.MaxList} {
		last := int64(size - 2) // so far behind the first word the last one stands
		for _, o := range opRows() {
			if !o.looks {
				continue
			}
			// A and X are 0: eq and ge hold, gt and set do not.
			holds := strings.HasPrefix(o.name, "eq") || strings.HasPrefix(o.name, "ge")
			for _, far := range []int64{0, 1, last - 1, last, last + 1, last + 2, 254, 255} {
				if far < 0 || far > 255 {
					continue
				}
				l := marked(size)
				other := 255 - far
				l[0] = impl.Insn{Code: o.code, Yes: other, No: far}
				if holds {
					l[0] = impl.Insn{Code: o.code, Yes: far, No: other}
				}
				same(t, fmt.Sprint(o.name, size, far), impl.Run(l, noughts), comesTo(l, far+1))
			}
		}
	}
}

func TestRunHowFarJumpsLead(t *testing.T) {
	for _, size := range []int{1, 2, 3, 7, 256, 257, 258, impl.MaxList} {
		last := int64(size - 2)
		for _, far := range []int64{0, 1, last - 1, last, last + 1, last + 2, 255, 256, impl.MaxList, 65535, 65536,
			1<<31 - 2, 1<<31 - 1, 1 << 31, impl.MaxWord - int64(size), impl.MaxWord - 1, impl.MaxWord} {
			if far < 0 {
				continue
			}
			l := marked(size)
			l[0] = impl.Insn{Code: impl.OpJump, K: far}
			same(t, fmt.Sprint(size, far), impl.Run(l, noughts), comesTo(l, far+1))
		}
	}
	// From the last word there is no way on, from wherever it is come to.
	same(t, "from the last word", impl.Run(prog(t, "imm 1;imm 2;jump 0"), noughts), runCode(3, impl.ErrShort))
	same(t, "far from the last word", impl.Run(prog(t, "imm 1;imm 2;jump 4294967295"), noughts), runCode(3, impl.ErrShort))
	same(t, "what is jumped over is not done", impl.Run(prog(t, "imm 1;jump 2;imm 2;ret 9;reta"), noughts), impl.RunOut{Ret: 1, Steps: 3})
}

func TestRunLoads(t *testing.T) {
	l := []impl.Insn{{K: 7}, {Code: impl.OpLoad}, {Code: impl.OpRetA}}
	places := []int64{1 << 16, 1 << 31, 1<<31 + 4, impl.MaxWord - 3, impl.MaxWord}
	for k := int64(0); k <= 300; k++ {
		places = append(places, k)
	}
	for _, k := range places {
		l[1].K = k
		want := runCode(2, impl.ErrRange)
		if k%4 == 0 && k <= 60 {
			want = impl.RunOut{Ret: loadNumbers()[k/4], Steps: 3}
		}
		same(t, fmt.Sprint("load ", k), impl.Run(l, loadBytes()), want)
	}
	full := strings.Repeat("\xff", 64)
	same(t, "all ones", impl.Run(prog(t, "load 60;reta"), full), impl.RunOut{Ret: impl.MaxWord, Steps: 2})
	same(t, "all ones and one", impl.Run(prog(t, "load 0;add 1;reta"), full), impl.RunOut{Steps: 3})
}

func TestRunCells(t *testing.T) {
	for _, k := range []int64{0, 1, 7, 14, 15, 16, 17, 31, 32, 64, 65, 256, 1 << 16, 1 << 31, impl.MaxWord} {
		for _, code := range []int64{impl.OpStore, impl.OpStoreX} {
			want := impl.RunOut{Ret: 9, Steps: 3}
			if k > 15 {
				want = runCode(2, impl.ErrRange)
			}
			same(t, fmt.Sprint(code, k), impl.Run([]impl.Insn{{}, {Code: code, K: k}, {Code: impl.OpRet, K: 9}}, noughts), want)
		}
		for _, code := range []int64{impl.OpMem, impl.OpMemX} {
			want := runCode(2, impl.ErrNone)
			if k > 15 {
				want = runCode(2, impl.ErrRange)
			}
			same(t, fmt.Sprint(code, k), impl.Run([]impl.Insn{{K: 5}, {Code: code, K: k}, {Code: impl.OpRet, K: 9}}, noughts), want)
		}
	}
}

func TestRunCellsThatWereNotWritten(t *testing.T) {
	for _, c := range []struct {
		lines string
		want  impl.RunOut
	}{
		{"mem 3;ret 1", runCode(1, impl.ErrNone)},
		{"memx 3;ret 1", runCode(1, impl.ErrNone)},
		{"mem 3;store 3;ret 1", runCode(1, impl.ErrNone)},
		{"imm 5;store 2;mem 3;ret 1", runCode(3, impl.ErrNone)},
		{"imm 5;store 4;mem 3;ret 1", runCode(3, impl.ErrNone)},
		// What is written is 0, but it is written.
		{"store 3;imm 5;mem 3;reta", impl.RunOut{Steps: 4}},
		{"storex 3;immx 5;memx 3;txa;reta", impl.RunOut{Steps: 5}},
		// Just the way that is gone counts.
		{"eq 0 1 0;store 3;mem 3;ret 1", impl.RunOut{Ret: 1, Steps: 4}},
		{"eq 0 1 1;store 3;mem 3;ret 1", runCode(2, impl.ErrNone)},
		{"jump 1;store 3;mem 3;ret 1", runCode(2, impl.ErrNone)},
		{"jump 1;mem 3;ret 1", impl.RunOut{Ret: 1, Steps: 2}},
		// The last one that was written, and each cell by itself.
		{"imm 5;store 3;imm 6;store 3;imm 7;mem 3;reta", impl.RunOut{Ret: 6, Steps: 7}},
		{"imm 5;store 0;imm 6;store 15;mem 0;reta", impl.RunOut{Ret: 5, Steps: 6}},
		{"imm 5;immx 6;store 0;storex 1;memx 0;mem 1;reta", impl.RunOut{Ret: 6, Steps: 7}},
		{"imm 5;immx 6;store 0;storex 1;memx 0;mem 1;subx;reta", impl.RunOut{Ret: 1, Steps: 8}},
	} {
		same(t, c.lines, impl.Run(prog(t, c.lines), noughts), c.want)
	}
}

func TestRunOfWordsWithoutAName(t *testing.T) {
	for code := int64(0); code <= 65535; code++ {
		if rowOfCode(code).name != "" {
			continue
		}
		l := []impl.Insn{{}, {Code: code, Yes: 255, No: 255, K: 8}, {Code: impl.OpRet}}
		same(t, fmt.Sprint(code), impl.Run(l, noughts), runCode(2, impl.ErrSyntax))
	}
	for _, code := range namelessCodes() {
		alone := []impl.Insn{{Code: code}}
		same(t, fmt.Sprint("alone ", code), impl.Run(alone, noughts), runCode(1, impl.ErrSyntax))
		over := []impl.Insn{{Code: impl.OpJump, K: 1}, {Code: code}, {Code: impl.OpRet, K: 3}, {Code: code}}
		same(t, fmt.Sprint("not come to ", code), impl.Run(over, noughts), impl.RunOut{Ret: 3, Steps: 2})
	}
}

func TestRunTheFirstFaultOnTheWay(t *testing.T) {
	for _, c := range []struct {
		lines string
		want  impl.RunOut
	}{
		{"div 0;mem 3;left 32;load 2", runCode(1, impl.ErrRange)},
		{"mem 3;div 0;left 32;load 2", runCode(1, impl.ErrNone)},
		{"mem 16;mem 3", runCode(1, impl.ErrRange)},
		{"imm 1;jump 1;div 0;right 32", runCode(3, impl.ErrRange)},
		{"imm 1;jump 4;div 0;right 32", runCode(2, impl.ErrShort)},
		{"imm 1;eq 0 1 1;ret 5;div 0", impl.RunOut{Ret: 5, Steps: 3}},
		{"imm 1;eq 0 1 2;ret 5;div 0", runCode(3, impl.ErrRange)},
		{"imm 1", runCode(1, impl.ErrShort)},
		{"imm 1;tax;txa;neg", runCode(4, impl.ErrShort)},
		{"imm 1;eq 1 0 1;ret 5", runCode(2, impl.ErrShort)},
		{"imm 1;eq 0 1 1;ret 5", impl.RunOut{Ret: 5, Steps: 3}},
		{"load 60;ret 5", impl.RunOut{Ret: 5, Steps: 2}},
		{"load 64;ret 5", runCode(1, impl.ErrRange)},
	} {
		same(t, c.lines, impl.Run(prog(t, c.lines), noughts), c.want)
	}
}

// A word that is not right is refused wherever it stands, ahead of all that would be wrong on the way.
func TestRunOfWordsThatAreNotRight(t *testing.T) {
	for _, x := range wrongInsns() {
		for at := range 4 {
			for _, first := range []impl.Insn{{Code: impl.OpRet, K: 5}, {Code: 99}, {Code: impl.OpDiv}, {Code: impl.OpMem}, {Code: impl.OpJump, K: 9}} {
				l := []impl.Insn{first, {}, {}, {Code: impl.OpRetA}}
				l[at] = x
				same(t, fmt.Sprint(x, at, first), impl.Run(l, noughts), runCode(0, impl.ErrForm))
			}
		}
		l := make([]impl.Insn, impl.MaxList)
		l[impl.MaxList-1] = x
		same(t, fmt.Sprint(x, " at the end of MaxList"), impl.Run(l, noughts), runCode(0, impl.ErrForm))
		same(t, fmt.Sprint(x, " with too few bytes"), impl.Run(l, ""), runCode(0, impl.ErrForm))
		same(t, fmt.Sprint(x, " of more"), impl.Run(append(l, x), noughts), runCode(0, impl.ErrSize))
	}
}

func TestRunHowManyBytes(t *testing.T) {
	good := prog(t, "ret 5")
	for _, c := range []struct {
		size int
		want impl.RunOut
	}{
		{0, runCode(0, impl.ErrForm)}, {1, runCode(0, impl.ErrForm)}, {60, runCode(0, impl.ErrForm)},
		{63, runCode(0, impl.ErrForm)}, {64, impl.RunOut{Ret: 5, Steps: 1}}, {65, runCode(0, impl.ErrForm)},
		{72, runCode(0, impl.ErrForm)}, {128, runCode(0, impl.ErrForm)}, {impl.MaxBytes, runCode(0, impl.ErrForm)},
		{impl.MaxBytes + 1, runCode(0, impl.ErrSize)}, {impl.MaxBytes + 64, runCode(0, impl.ErrSize)}, {100000, runCode(0, impl.ErrSize)},
	} {
		bytes := strings.Repeat("\x06", c.size)
		same(t, fmt.Sprint(c.size), impl.Run(good, bytes), c.want)
		want := c.want
		if c.size == 64 {
			want = runCode(0, impl.ErrShort)
		}
		same(t, fmt.Sprint(c.size, " without words"), impl.Run(nil, bytes), want)
		same(t, fmt.Sprint(c.size, " with words that are not right"), impl.Run([]impl.Insn{{K: -1}}, bytes).Code, max(c.want.Code, impl.ErrForm))
		same(t, fmt.Sprint(c.size, " with too many words"), impl.Run(make([]impl.Insn, impl.MaxList+1), bytes), runCode(0, impl.ErrSize))
	}
}

func TestRunHowManyWords(t *testing.T) {
	same(t, "no list", impl.Run(nil, noughts), runCode(0, impl.ErrShort))
	same(t, "no words", impl.Run([]impl.Insn{}, noughts), runCode(0, impl.ErrShort))
	for _, size := range []int{1, 2, 3, 100, impl.MaxList - 1, impl.MaxList} {
		l := padded(size, 0)
		same(t, fmt.Sprint(size, " words"), impl.Run(l, noughts), impl.RunOut{Steps: int64(size)})
		l[size-1] = impl.Insn{Code: impl.OpAdd, K: 1}
		same(t, fmt.Sprint(size, " words without an end"), impl.Run(l, noughts), runCode(int64(size), impl.ErrShort))
	}
	for _, size := range []int{impl.MaxList + 1, impl.MaxList + 2, 2 * impl.MaxList, 100000} {
		same(t, fmt.Sprint(size, " words"), impl.Run(padded(size, 0), noughts), runCode(0, impl.ErrSize))
		same(t, fmt.Sprint(size, " words, of which the first ends"), impl.Run(marked(size), noughts), runCode(0, impl.ErrSize))
		same(t, fmt.Sprint(size, " words on no record"), impl.RunOn(padded(size, 0), impl.Record{}), runCode(0, impl.ErrSize))
	}
}

func TestRunBeginsWithNoughts(t *testing.T) {
	for range 2 {
		same(t, "A", impl.Run(prog(t, "reta"), loadBytes()), impl.RunOut{Steps: 1})
		same(t, "X", impl.Run(prog(t, "imm 7;txa;reta"), loadBytes()), impl.RunOut{Steps: 3})
		for k := range int64(16) {
			same(t, fmt.Sprint("cell ", k), impl.Run([]impl.Insn{{Code: impl.OpMem, K: k}, {Code: impl.OpRet}}, loadBytes()), runCode(1, impl.ErrNone))
		}
		// Were anything kept of this, the next time round would tell.
		full := append(prelude(impl.MaxWord, 5), impl.Insn{Code: impl.OpRetA})
		same(t, "between", impl.Run(full, loadBytes()), impl.RunOut{Ret: impl.MaxWord, Steps: 25})
	}
}

func TestRunOnRecords(t *testing.T) {
	r := rand.New(rand.NewSource(16))
	l := make([]impl.Insn, 2)
	for _, x := range someRecords()[:300] {
		for i, want := range halves(x) {
			l[0], l[1] = impl.Insn{Code: impl.OpLoad, K: int64(4 * i)}, impl.Insn{Code: impl.OpRetA}
			same(t, fmt.Sprint(4*i, x), impl.RunOn(l, x), impl.RunOut{Ret: want, Steps: 2})
		}
		p := someProgram(r, 1+r.Intn(12))
		same(t, fmt.Sprint(p, x), impl.RunOn(p, x), impl.Run(p, recordBytes(x)))
	}
	asked := impl.Record{Nr: 2, Arch: 7, Args: []impl.Word{{Low: 5}, {High: 1}, {}, {}, {}, {High: 3, Low: 4}}}
	for _, c := range []struct {
		lines string
		want  impl.RunOut
	}{
		{"load 0;eq 0 1 2;ret 7;ret 8", impl.RunOut{Ret: 7, Steps: 3}},
		{"load 0;eq 0 1 3;ret 7;ret 8", impl.RunOut{Ret: 8, Steps: 3}},
		{"load 4;reta", impl.RunOut{Ret: 7, Steps: 2}},
		{"load 60;mul 10;tax;load 56;addx;reta", impl.RunOut{Ret: 34, Steps: 6}},
	} {
		same(t, c.lines, impl.RunOn(prog(t, c.lines), asked), c.want)
	}
}

func TestRunOnRecordsThatAreNotRight(t *testing.T) {
	for _, x := range wrongRecords() {
		same(t, fmt.Sprint(x), impl.RunOn(prog(t, "ret 5"), x), runCode(0, impl.ErrForm))
		same(t, fmt.Sprint("without words ", x), impl.RunOn(nil, x), runCode(0, impl.ErrForm))
		same(t, fmt.Sprint("words that are not right ", x), impl.RunOn([]impl.Insn{{Code: math.MinInt64}}, x), runCode(0, impl.ErrForm))
	}
	right := impl.Record{Args: make([]impl.Word, 6)}
	for _, x := range wrongInsns() {
		same(t, fmt.Sprint(x), impl.RunOn([]impl.Insn{{Code: impl.OpRet}, x}, right), runCode(0, impl.ErrForm))
	}
}

// bold puts numbers of all sizes where they keep no word from being let by.
func bold(r *rand.Rand, l []impl.Insn) {
	for at := range l {
		switch rowOfCode(l[at].Code).name {
		case "imm", "immx", "add", "sub", "mul", "or", "and", "xor", "eq", "gt", "ge", "set", "ret":
			l[at].K = edge(r, impl.MaxWord)
		case "div":
			l[at].K = 1 + edge(r, impl.MaxWord-1)
		}
	}
}

// allWordsRight tells whether each word keeps within the limits of chapter 3.
func allWordsRight(l []impl.Insn) bool {
	return !slices.ContainsFunc(l, func(x impl.Insn) bool { return !impl.InsnRight(x) })
}

func TestRunOfAnyProgram(t *testing.T) {
	r := rand.New(rand.NewSource(17))
	told := map[int64]int{}
	for i := range 30000 {
		l := someProgram(r, 1+r.Intn(14))
		switch i % 4 {
		case 0:
			bold(r, l)
		case 1:
			l = append(l[:len(l)-1], namedProg(r, 2)...)
		case 2:
			// Without the word that ends it, and further on what is never looked for.
			l[len(l)-1].Code = edge(r, 200)
		}
		x := anyRecord(r)
		want := runCode(0, impl.ErrForm)
		if allWordsRight(l) {
			want = ran(l, recordBytes(x))
		}
		told[want.Code]++
		same(t, fmt.Sprint(l, x), impl.Run(l, recordBytes(x)), want)
		same(t, fmt.Sprint(l, x), impl.RunOn(l, x), want)
	}
	for _, code := range []int64{impl.OK, impl.ErrForm, impl.ErrSyntax, impl.ErrRange, impl.ErrNone, impl.ErrShort} {
		if told[code] < 200 {
			t.Errorf("code %d was told but %d times: %v", code, told[code], told)
		}
	}
}

// answers fails unless a program that is let by answers, in no more steps than it has words.
func answers(t *testing.T, l []impl.Insn, x impl.Record) {
	t.Helper()
	out := impl.RunOn(l, x)
	if out.Code != impl.OK || out.Steps < 1 || out.Steps > int64(len(l)) || out.Ret < 0 || out.Ret > impl.MaxWord {
		t.Errorf("%v on %v: got %+v", l, x, out)
	}
	same(t, fmt.Sprint(l, x), out, ran(l, recordBytes(x)))
}

func TestPromise5WhatIsLetByAnswers(t *testing.T) {
	r := rand.New(rand.NewSource(18))
	edgeRecords := someRecords()[:2]
	many, codes := 0, map[int64]bool{}
	for range 20000 {
		l := someProgram(r, 1+r.Intn(16))
		bold(r, l)
		if impl.Check(l).Code != impl.OK {
			continue
		}
		many++
		for _, x := range l {
			codes[x.Code] = true
		}
		for _, x := range append(edgeRecords, anyRecord(r), anyRecord(r)) {
			answers(t, l, x)
		}
	}
	same(t, "codes in what is let by", len(codes), 34)
	if many < 3000 {
		t.Errorf("but %d programs were let by", many)
	}
}

func TestPromise5LongProgramsAnswer(t *testing.T) {
	r := rand.New(rand.NewSource(19))
	for range 300 {
		size := impl.MaxList - r.Intn(3)
		var l []impl.Insn
		// All cells first, that it be let by whatever is read of them.
		for k := range int64(16) {
			l = append(l, impl.Insn{Code: impl.OpStore, K: k})
		}
		for at := len(l); at < size-1; at++ {
			x := someWord(r, at, size)
			switch {
			case x.Code == impl.OpRet || x.Code == impl.OpRetA:
				x = impl.Insn{Code: impl.OpLoad, K: 4 * r.Int63n(16)}
			case x.Code == impl.OpJump:
				x.K = min(x.K, r.Int63n(4))
			case rowOfCode(x.Code).looks:
				x.Yes, x.No = min(x.Yes, r.Int63n(9), 255), min(x.No, r.Int63n(9), 255)
			}
			l = append(l, x)
		}
		l = append(l, impl.Insn{Code: impl.OpRetA})
		bold(r, l)
		same(t, "let by", impl.Check(l), impl.CheckOut{})
		for range 5 {
			answers(t, l, anyRecord(r))
		}
	}
	most := padded(impl.MaxList, 0)
	same(t, "each word once", impl.RunOn(most, anyRecord(r)), impl.RunOut{Steps: impl.MaxList})
}

func TestRunChangesNothing(t *testing.T) {
	l := prog(t, "load 0;store 3;eq 0 1 2;add 4;mem 3;reta")
	x := anyRecord(rand.New(rand.NewSource(20)))
	words, args := slices.Clone(l), slices.Clone(x.Args)
	first := impl.RunOn(l, x)
	impl.Run(prog(t, "imm 9;store 3;immx 8;memx 3;div 0;reta"), noughts)
	same(t, "told again", impl.RunOn(l, x), first)
	if !slices.Equal(l, words) || !slices.Equal(x.Args, args) {
		t.Errorf("a call changed what was handed in")
	}
}
