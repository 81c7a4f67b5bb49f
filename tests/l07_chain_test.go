package tests

import (
	"cmp"
	"encoding/binary"
	"fmt"
	"math/big"
	"math/rand"
	"slices"
	"strconv"
	"strings"
	"testing"

	"loop.example/s0083/impl"
)

// testWords are the codes that a test may have, by the words of this file.
func testWords() map[string]int64 {
	return map[string]int64{"eq": impl.OpEq, "gt": impl.OpGt, "ge": impl.OpGe}
}

// nodes makes a chain of words: of an NdRet "ret" and K, of an NdTest Off (with & and Mask, if that is not MaxWord), the test, K, Yes and No.
func nodes(t *testing.T, words string) []impl.Node {
	t.Helper()
	number := func(digits string) int64 {
		n, err := strconv.ParseInt(digits, 10, 64)
		if err != nil {
			t.Fatal(err)
		}
		return n
	}
	var l []impl.Node
	for one := range strings.SplitSeq(words, ";") {
		f := strings.Fields(one)
		if f[0] == "ret" {
			l = append(l, impl.Node{Kind: impl.NdRet, K: number(f[1])})
			continue
		}
		off, mask, masked := strings.Cut(f[0], "&")
		x := impl.Node{Kind: impl.NdTest, Off: number(off), Mask: impl.MaxWord, Op: testWords()[f[1]], K: number(f[2]), Yes: number(f[3]), No: number(f[4])}
		if masked {
			x.Mask = number(mask)
		}
		l = append(l, x)
	}
	return l
}

// sameNodes fails unless two chains are alike node by node.
func sameNodes(t *testing.T, what string, got, want []impl.Node) {
	t.Helper()
	if !slices.Equal(got, want) {
		t.Errorf("%s: got\n%s\nwant\n%s", what, nodeLines(got), nodeLines(want))
	}
}

// nodeLines shows a chain, a node a line.
func nodeLines(l []impl.Node) string {
	var out strings.Builder
	for at, x := range l {
		fmt.Fprintf(&out, "%3d %+v\n", at, x)
	}
	return out.String()
}

// labelled is a node, and the names of those to which it leads; its own name is that of the place where it stands.
type labelled struct {
	name string
	node impl.Node
	yes  string
	no   string
}

func labelledTest(name string, off, mask, op, k int64, yes, no string) labelled {
	return labelled{name, impl.Node{Kind: impl.NdTest, Off: off, Mask: mask, Op: op, K: k}, yes, no}
}

func labelledRet(name string, k int64) labelled {
	return labelled{name: name, node: impl.Node{Kind: impl.NdRet, K: k}}
}

// testsOf is what chapter 8 says of the tests of a comparison, from the first one on.
func testsOf(name string, c impl.Cmp, yes, no string) []labelled {
	const all = impl.MaxWord
	low, high := 16+8*c.Arg, 20+8*c.Arg
	if c.Op == impl.CpNe || c.Op == impl.CpLt || c.Op == impl.CpLe {
		yes, no = no, yes
	}
	switch c.Op {
	case impl.CpMasked:
		return []labelled{labelledTest(name, high, c.Mask.High, impl.OpEq, c.Val.High, name+" low", no), labelledTest(name+" low", low, c.Mask.Low, impl.OpEq, c.Val.Low, yes, no)}
	case impl.CpEq, impl.CpNe:
		return []labelled{labelledTest(name, high, all, impl.OpEq, c.Val.High, name+" low", no), labelledTest(name+" low", low, all, impl.OpEq, c.Val.Low, yes, no)}
	}
	op := int64(impl.OpGe)
	if c.Op == impl.CpGt || c.Op == impl.CpLe {
		op = impl.OpGt
	}
	return []labelled{
		labelledTest(name, high, all, impl.OpGt, c.Val.High, yes, name+" alike"),
		labelledTest(name+" alike", high, all, impl.OpEq, c.Val.High, name+" low", no),
		labelledTest(name+" low", low, all, op, c.Val.Low, yes, no),
	}
}

// chainOf is what chapter 8 says of a right policy's chain, laid from its beginning to its end, and by names in place of places.
func chainOf(p impl.Policy) []impl.Node {
	byNr := map[int64][]impl.Rule{}
	var nrs []int64
	for _, r := range p.Rules {
		if byNr[r.Nr] == nil {
			nrs = append(nrs, r.Nr)
		}
		byNr[r.Nr] = append(byNr[r.Nr], r)
	}
	slices.Sort(nrs)
	nameOfNr := func(i int) string {
		if i == len(nrs) {
			return "Default"
		}
		return fmt.Sprint("Nr ", i)
	}
	l := []labelled{labelledTest("Arch", 4, impl.MaxWord, impl.OpEq, p.Arch, nameOfNr(0), "Bad")}
	for i, nr := range nrs {
		l = append(l, labelledTest(nameOfNr(i), 0, impl.MaxWord, impl.OpEq, nr, fmt.Sprint("rule ", i, 0, 0), nameOfNr(i+1)))
		rules := byNr[nr]
		slices.SortStableFunc(rules, func(a, b impl.Rule) int { return cmp.Compare(a.Action, b.Action) })
		for j, r := range rules {
			next := "Default"
			if j+1 < len(rules) {
				next = fmt.Sprint("rule ", i, j+1, 0)
			}
			for k, c := range r.Cmps {
				l = append(l, testsOf(fmt.Sprint("rule ", i, j, k), c, fmt.Sprint("rule ", i, j, k+1), next)...)
			}
			l = append(l, labelledRet(fmt.Sprint("rule ", i, j, len(r.Cmps)), r.Action))
		}
	}
	return placed(append(l, labelledRet("Bad", p.Bad), labelledRet("Default", p.Default)))
}

// placed gives the nodes the places of those to which they lead.
func placed(l []labelled) []impl.Node {
	places := map[string]int64{"": 0}
	for at, x := range l {
		places[x.name] = int64(at)
	}
	var out []impl.Node
	for _, x := range l {
		x.node.Yes, x.node.No = places[x.yes], places[x.no]
		out = append(out, x.node)
	}
	return out
}

// chainRan is what chapter 8 says of a right chain and a right record, and whether each node was come to.
func chainRan(l []impl.Node, x impl.Record, seen []bool) int64 {
	bytes := []byte(recordBytes(x))
	at := int64(0)
	for {
		seen[at] = true
		n := l[at]
		if n.Kind == impl.NdRet {
			return n.K
		}
		asked := int64(binary.LittleEndian.Uint32(bytes[n.Off:])) & n.Mask
		holds := map[int64]bool{impl.OpEq: asked == n.K, impl.OpGt: asked > n.K, impl.OpGe: asked >= n.K}[n.Op]
		if holds {
			at = n.Yes
		} else {
			at = n.No
		}
	}
}

// waysTo counts, in numbers without bounds, the ways to each node of a right chain, and cuts them.
func waysTo(l []impl.Node) []int64 {
	count := make([]*big.Int, len(l))
	for at := range l {
		count[at] = big.NewInt(0)
		if at == 0 {
			count[at].SetInt64(1)
		}
		for from, x := range l[:at] {
			if x.Kind == impl.NdTest && x.Yes == int64(at) {
				count[at].Add(count[at], count[from])
			}
			if x.Kind == impl.NdTest && x.No == int64(at) {
				count[at].Add(count[at], count[from])
			}
		}
	}
	var out []int64
	for _, n := range count {
		if n.Cmp(big.NewInt(1000000)) > 0 {
			n = big.NewInt(1000000)
		}
		out = append(out, n.Int64())
	}
	return out
}

// someTest is a test that may stand at each place but the last one of so many.
func someTest(at, size int) impl.Node {
	return impl.Node{Kind: impl.NdTest, Off: 4, Mask: 255, Op: impl.OpGt, K: 9, Yes: int64(at + 1), No: int64(size - 1)}
}

// chainWith tells a chain of answers, with that node at a place.
func chainWith(size, at int, x impl.Node) []impl.Node {
	l := slices.Repeat([]impl.Node{{Kind: impl.NdRet, K: 77}}, size)
	l[at] = x
	return l
}

// steps tells a chain of so many nodes, each of which leads to the next one by both ways, but the last one.
func steps(size int) []impl.Node {
	var l []impl.Node
	for at := range int64(size) - 1 {
		l = append(l, impl.Node{Kind: impl.NdTest, Op: impl.OpGe, Yes: at + 1, No: at + 1})
	}
	return append(l, impl.Node{Kind: impl.NdRet, K: 5})
}

// rightNodes holds nodes at their limits that may stand at the second place of four.
func rightNodes() []impl.Node {
	var l []impl.Node
	for _, k := range []int64{0, 1, 255, 1 << 31, impl.MaxWord} {
		l = append(l, impl.Node{Kind: impl.NdRet, K: k})
		for _, op := range testWords() {
			for _, mask := range []int64{0, 1, 1 << 31, impl.MaxWord} {
				l = append(l, impl.Node{Kind: impl.NdTest, Mask: mask, Op: op, K: k, Yes: 2, No: 2})
			}
			for off := int64(0); off <= 60; off += 4 {
				l = append(l, impl.Node{Kind: impl.NdTest, Off: off, Mask: 3, Op: op, K: k, Yes: 3, No: 2})
			}
			l = append(l, impl.Node{Kind: impl.NdTest, Op: op, K: k, Yes: 2, No: 3}, impl.Node{Kind: impl.NdTest, Op: op, K: k, Yes: 3, No: 3})
		}
	}
	return l
}

// notHalves holds numbers that are none of 32 bits.
func notHalves() []int64 {
	return []int64{-1, -4, impl.MaxWord + 1, -impl.MaxWord, 1<<32 + 4, 1 << 40, -1 << 63, 1<<63 - 1}
}

// wrongNodes holds nodes that may not stand at the second place of four, each by one thing alone.
func wrongNodes() []impl.Node {
	test := impl.Node{Kind: impl.NdTest, Off: 8, Mask: 3, Op: impl.OpEq, K: 1, Yes: 2, No: 3}
	ret := impl.Node{Kind: impl.NdRet, K: 1}
	var l []impl.Node
	with := func(x impl.Node, change func(*impl.Node)) {
		change(&x)
		l = append(l, x)
	}
	for _, n := range notHalves() {
		with(test, func(x *impl.Node) { x.Mask = n })
		with(test, func(x *impl.Node) { x.K = n })
		with(test, func(x *impl.Node) { x.Off = n })
		with(test, func(x *impl.Node) { x.Yes = n })
		with(test, func(x *impl.Node) { x.No = n })
		with(ret, func(x *impl.Node) { x.K = n })
	}
	for _, kind := range append(notHalves(), 0, 3, 4, 1<<32+impl.NdTest, 1<<32+impl.NdRet) {
		with(test, func(x *impl.Node) { x.Kind = kind })
		with(ret, func(x *impl.Node) { x.Kind = kind })
		l = append(l, impl.Node{Kind: kind})
	}
	with(test, func(x *impl.Node) { x.Kind = impl.NdRet })
	with(ret, func(x *impl.Node) { x.Kind = impl.NdTest })
	for _, off := range []int64{-8, 1, 2, 3, 5, 6, 7, 58, 59, 61, 62, 63, 64, 65, 68, 128, 1<<32 + 8} {
		with(test, func(x *impl.Node) { x.Off = off })
	}
	for _, to := range []int64{0, 1, 4, 5, 400, -2, 1<<32 + 2, 1<<32 + 3} {
		with(test, func(x *impl.Node) { x.Yes = to })
		with(test, func(x *impl.Node) { x.No = to })
		with(test, func(x *impl.Node) { x.Yes, x.No = to, to })
	}
	for _, o := range opRows() {
		if o.code != impl.OpEq && o.code != impl.OpGt && o.code != impl.OpGe {
			with(test, func(x *impl.Node) { x.Op = o.code })
		}
	}
	for _, op := range append(notHalves(), 0, 1, 3, 22, 38, 54, 1<<32+impl.OpEq, 65536+impl.OpGt) {
		with(test, func(x *impl.Node) { x.Op = op })
	}
	for _, n := range []int64{1, 2, 3, 4, impl.OpEq, impl.MaxWord, -1} {
		with(ret, func(x *impl.Node) { x.Off = n })
		with(ret, func(x *impl.Node) { x.Mask = n })
		with(ret, func(x *impl.Node) { x.Op = n })
		with(ret, func(x *impl.Node) { x.Yes = n })
		with(ret, func(x *impl.Node) { x.No = n })
	}
	return l
}

// isRight tells whether all three functions take a chain as right, or none of them: of another one there is no answer, and there are no ways.
func isRight(t *testing.T, what string, l []impl.Node, want bool) {
	t.Helper()
	same(t, what+": ChainRight", impl.ChainRight(l), want)
	same(t, what+": ChainRun has an answer", impl.ChainRun(l, impl.Record{Args: make([]impl.Word, 6)}) != -1, want)
	size := 0
	if want {
		size = len(l)
	}
	same(t, what+": how many ChainWays", len(impl.ChainWays(l)), size)
}

func TestChainConstants(t *testing.T) {
	same(t, "NdTest", impl.NdTest, 1)
	same(t, "NdRet", impl.NdRet, 2)
}

func TestChainRightOfNodes(t *testing.T) {
	for _, x := range rightNodes() {
		isRight(t, fmt.Sprintf("%+v", x), chainWith(4, 1, x), true)
	}
	for _, x := range wrongNodes() {
		what := fmt.Sprintf("%+v", x)
		isRight(t, what, chainWith(4, 1, x), false)
		// A node that is come to, and one between many that are right.
		isRight(t, what+" behind a test", append(nodes(t, "0 eq 0 1 1"), chainWith(4, 1, x)[1:]...), false)
		isRight(t, what+" between many", slices.Concat(chainWith(4, 1, x), steps(200)), false)
	}
}

func TestChainRightOfPlaces(t *testing.T) {
	for size := 1; size <= 6; size++ {
		for at := range size {
			for yes := -2; yes <= size+2; yes++ {
				for no := -2; no <= size+2; no++ {
					x := impl.Node{Kind: impl.NdTest, Op: impl.OpEq, Yes: int64(yes), No: int64(no)}
					want := yes > at && yes < size && no > at && no < size
					isRight(t, fmt.Sprint(size, at, yes, no), chainWith(size, at, x), want)
				}
			}
		}
	}
	for _, at := range []int{0, 1, 198, 398, 399} {
		for _, to := range []int{0, at - 1, at, at + 1, 398, 399, 400, 401} {
			for _, x := range []impl.Node{
				{Kind: impl.NdTest, Op: impl.OpGt, Yes: int64(to), No: 399},
				{Kind: impl.NdTest, Op: impl.OpGe, Yes: 399, No: int64(to)},
			} {
				isRight(t, fmt.Sprint(at, x), chainWith(400, at, x), to > at && to < 400 && at < 399)
			}
		}
	}
}

func TestChainRightOfSizes(t *testing.T) {
	isRight(t, "no node", nil, false)
	isRight(t, "an empty list", []impl.Node{}, false)
	isRight(t, "a zero node", make([]impl.Node, 1), false)
	isRight(t, "a test alone", []impl.Node{{Kind: impl.NdTest, Op: impl.OpEq, Yes: 1, No: 1}}, false)
	for _, size := range []int{1, 2, 3, 255, 256, 399, 400, 401, 402, 800, 100000} {
		isRight(t, fmt.Sprint(size, " answers"), chainWith(size, 0, impl.Node{Kind: impl.NdRet}), size <= 400)
		isRight(t, fmt.Sprint(size, " steps"), steps(size), size <= 400)
		isRight(t, fmt.Sprint(size, " nodes, the last one a test"), chainWith(size, size-1, someTest(size-1, size)), false)
	}
	for _, size := range []int{2, 10, 400} {
		for at := range size {
			wrong := steps(size)
			wrong[at].Mask = -1
			isRight(t, fmt.Sprint("the one that is not right: ", at, " of ", size), wrong, false)
		}
	}
}

func TestChainOfOneComparison(t *testing.T) {
	mask := impl.Word{High: 3, Low: 12}
	for op, want := range map[int64]string{
		impl.CpEq:     "4 eq 7 1 5; 0 eq 2 2 6; 28 eq 5 3 6; 24 eq 6 4 6; ret 9; ret 1; ret 100",
		impl.CpNe:     "4 eq 7 1 5; 0 eq 2 2 6; 28 eq 5 3 4; 24 eq 6 6 4; ret 9; ret 1; ret 100",
		impl.CpLt:     "4 eq 7 1 6; 0 eq 2 2 7; 28 gt 5 7 3; 28 eq 5 4 5; 24 ge 6 7 5; ret 9; ret 1; ret 100",
		impl.CpLe:     "4 eq 7 1 6; 0 eq 2 2 7; 28 gt 5 7 3; 28 eq 5 4 5; 24 gt 6 7 5; ret 9; ret 1; ret 100",
		impl.CpGt:     "4 eq 7 1 6; 0 eq 2 2 7; 28 gt 5 5 3; 28 eq 5 4 7; 24 gt 6 5 7; ret 9; ret 1; ret 100",
		impl.CpGe:     "4 eq 7 1 6; 0 eq 2 2 7; 28 gt 5 5 3; 28 eq 5 4 7; 24 ge 6 5 7; ret 9; ret 1; ret 100",
		impl.CpMasked: "4 eq 7 1 5; 0 eq 2 2 6; 28&3 eq 5 3 6; 24&12 eq 6 4 6; ret 9; ret 1; ret 100",
	} {
		c := impl.Cmp{Arg: 1, Op: op, Val: impl.Word{High: 5, Low: 6}}
		if op == impl.CpMasked {
			c.Mask = mask
		}
		p := impl.Policy{Arch: 7, Default: 100, Bad: 1, Rules: []impl.Rule{{Nr: 2, Action: 9, Cmps: []impl.Cmp{c}}}}
		sameNodes(t, fmt.Sprint("Op ", op), impl.ChainOf(p), nodes(t, want))
		for arg := range int64(6) {
			l := nodes(t, want)
			for at := range l {
				if l[at].Off >= 24 {
					l[at].Off += 8 * (arg - 1)
				}
			}
			p.Rules[0].Cmps[0].Arg = arg
			sameNodes(t, fmt.Sprint("Op ", op, " of Arg ", arg), impl.ChainOf(p), l)
		}
	}
	all := impl.Word{High: impl.MaxWord, Low: impl.MaxWord}
	for _, c := range []struct {
		mask impl.Word
		want string
	}{
		{all, "28 eq 5 3 6; 24 eq 6 4 6"},
		{impl.Word{}, "28&0 eq 5 3 6; 24&0 eq 6 4 6"},
		{impl.Word{Low: impl.MaxWord}, "28&0 eq 5 3 6; 24 eq 6 4 6"},
	} {
		rule := impl.Rule{Nr: 2, Action: 9, Cmps: []impl.Cmp{{Arg: 1, Op: impl.CpMasked, Mask: c.mask, Val: impl.Word{High: 5, Low: 6}}}}
		p := impl.Policy{Arch: 7, Default: 100, Bad: 1, Rules: []impl.Rule{rule}}
		sameNodes(t, fmt.Sprint("Mask ", c.mask), impl.ChainOf(p), nodes(t, "4 eq 7 1 5; 0 eq 2 2 6; "+c.want+"; ret 9; ret 1; ret 100"))
	}
}

func TestChainOfSmallPolicies(t *testing.T) {
	eq := func(arg, high, low int64) impl.Cmp {
		return impl.Cmp{Arg: arg, Op: impl.CpEq, Val: impl.Word{High: high, Low: low}}
	}
	ne := func(arg, high, low int64) impl.Cmp {
		return impl.Cmp{Arg: arg, Op: impl.CpNe, Val: impl.Word{High: high, Low: low}}
	}
	gt := impl.Cmp{Arg: 0, Op: impl.CpGt, Val: impl.Word{Low: 4}}
	masked := impl.Cmp{Arg: 1, Op: impl.CpMasked, Mask: impl.Word{High: 3}, Val: impl.Word{High: 1}}
	for _, c := range []struct {
		what  string
		rules []impl.Rule
		want  string
	}{
		{"no rules", nil, "4 eq 7 2 1; ret 1; ret 100"},
		{"a rule without Cmps", []impl.Rule{{Nr: 2, Action: 9}}, "4 eq 7 1 3; 0 eq 2 2 4; ret 9; ret 1; ret 100"},
		{"an Action of 0, and of MaxWord", []impl.Rule{{Nr: impl.MaxWord}, {Action: impl.MaxWord}},
			"4 eq 7 1 5; 0 eq 0 2 3; ret 4294967295; 0 eq 4294967295 4 6; ret 0; ret 1; ret 100"},
		{"three Nrs, in no order", []impl.Rule{{Nr: 5, Action: 30}, {Nr: 3, Action: 20}, {Nr: 4, Action: 40}},
			"4 eq 7 1 7; 0 eq 3 2 3; ret 20; 0 eq 4 4 5; ret 40; 0 eq 5 6 8; ret 30; ret 1; ret 100"},
		{"two rules of one Nr, the less one first", []impl.Rule{{Nr: 2, Action: 8, Cmps: []impl.Cmp{eq(0, 1, 2)}}, {Nr: 2, Action: 9, Cmps: []impl.Cmp{eq(5, 3, 4)}}},
			"4 eq 7 1 8; 0 eq 2 2 9; 20 eq 1 3 5; 16 eq 2 4 5; ret 8; 60 eq 3 6 9; 56 eq 4 7 9; ret 9; ret 1; ret 100"},
		{"the greater one first", []impl.Rule{{Nr: 2, Action: 9, Cmps: []impl.Cmp{eq(5, 3, 4)}}, {Nr: 2, Action: 8, Cmps: []impl.Cmp{eq(0, 1, 2)}}},
			"4 eq 7 1 8; 0 eq 2 2 9; 20 eq 1 3 5; 16 eq 2 4 5; ret 8; 60 eq 3 6 9; 56 eq 4 7 9; ret 9; ret 1; ret 100"},
		{"like Actions: the first one is asked first", []impl.Rule{{Nr: 2, Action: 9, Cmps: []impl.Cmp{eq(0, 1, 2)}}, {Nr: 2, Action: 9, Cmps: []impl.Cmp{eq(5, 3, 4)}}},
			"4 eq 7 1 8; 0 eq 2 2 9; 20 eq 1 3 5; 16 eq 2 4 5; ret 9; 60 eq 3 6 9; 56 eq 4 7 9; ret 9; ret 1; ret 100"},
		{"like Actions, in the other order", []impl.Rule{{Nr: 2, Action: 9, Cmps: []impl.Cmp{eq(5, 3, 4)}}, {Nr: 2, Action: 9, Cmps: []impl.Cmp{eq(0, 1, 2)}}},
			"4 eq 7 1 8; 0 eq 2 2 9; 60 eq 3 3 5; 56 eq 4 4 5; ret 9; 20 eq 1 6 9; 16 eq 2 7 9; ret 9; ret 1; ret 100"},
		{"what holds of all stands ahead", []impl.Rule{{Nr: 2, Action: 9, Cmps: []impl.Cmp{eq(0, 1, 2)}}, {Nr: 2, Action: 3}},
			"4 eq 7 1 6; 0 eq 2 2 7; ret 3; 20 eq 1 4 7; 16 eq 2 5 7; ret 9; ret 1; ret 100"},
		{"two Cmps", []impl.Rule{{Nr: 2, Action: 9, Cmps: []impl.Cmp{gt, masked}}},
			"4 eq 7 1 8; 0 eq 2 2 9; 20 gt 0 5 3; 20 eq 0 4 9; 16 gt 4 5 9; 28&3 eq 1 6 9; 24&0 eq 0 7 9; ret 9; ret 1; ret 100"},
		{"three Cmps, and a rule behind", []impl.Rule{{Nr: 2, Action: 8, Cmps: []impl.Cmp{eq(0, 1, 2), ne(3, 3, 4), eq(5, 5, 6)}}, {Nr: 2, Action: 9}},
			"4 eq 7 1 10; 0 eq 2 2 11; 20 eq 1 3 9; 16 eq 2 4 9; 44 eq 3 5 6; 40 eq 4 9 6; 60 eq 5 7 9; 56 eq 6 8 9; ret 8; ret 9; ret 1; ret 100"},
		{"an Action more than Default, and one that is Bad", []impl.Rule{{Nr: 2, Action: 101}, {Nr: 2, Action: 1, Cmps: []impl.Cmp{eq(0, 1, 2)}}},
			"4 eq 7 1 6; 0 eq 2 2 7; 20 eq 1 3 5; 16 eq 2 4 5; ret 1; ret 101; ret 1; ret 100"},
		{"several of two Nrs", []impl.Rule{{Nr: 4, Action: 9}, {Nr: 2, Action: 9, Cmps: []impl.Cmp{gt}}, {Nr: 2, Action: 5, Cmps: []impl.Cmp{masked}}, {Nr: 4, Action: 6, Cmps: []impl.Cmp{masked}}},
			"4 eq 7 1 14; 0 eq 2 2 9; 28&3 eq 1 3 5; 24&0 eq 0 4 5; ret 5; 20 gt 0 8 6; 20 eq 0 7 15; 16 gt 4 8 15; ret 9; " +
				"0 eq 4 10 15; 28&3 eq 1 11 13; 24&0 eq 0 12 13; ret 6; ret 9; ret 1; ret 100"},
	} {
		p := impl.Policy{Arch: 7, Default: 100, Bad: 1, Rules: c.rules}
		want := nodes(t, c.want)
		sameNodes(t, c.what, impl.ChainOf(p), want)
		same(t, c.what+": right", impl.ChainRight(want), true)
	}
	sameNodes(t, "all noughts", impl.ChainOf(impl.Policy{}), nodes(t, "4 eq 0 2 1; ret 0; ret 0"))
	const most = impl.MaxWord
	sameNodes(t, "at the limits", impl.ChainOf(impl.Policy{Arch: most, Default: most, Bad: most}), nodes(t, "4 eq 4294967295 2 1; ret 4294967295; ret 4294967295"))
}

func TestChainOfAnyPolicy(t *testing.T) {
	r := rand.New(rand.NewSource(31))
	longest := 0
	for range 1500 {
		p := anyPolicy(t, r, r.Intn(impl.MaxRules+1))
		l := impl.ChainOf(p)
		sameNodes(t, fmt.Sprint(p), l, chainOf(p))
		same(t, "right", impl.ChainRight(l), true)
		longest = max(longest, len(l))
	}
	same(t, fmt.Sprint("the longest one has many nodes: ", longest), longest > 100, true)
	for _, rule := range rightRules() {
		p := impl.Policy{Arch: 7, Default: 77, Bad: 1, Rules: []impl.Rule{{Nr: 2, Action: 8}, rule, {Nr: 2, Action: 10}}}
		sameNodes(t, fmt.Sprint(p), impl.ChainOf(p), chainOf(p))
	}
	for size := range impl.MaxRules + 1 {
		sameNodes(t, fmt.Sprint(size, " rules"), impl.ChainOf(policyOf(size)), chainOf(policyOf(size)))
	}
}

// longestPolicy has as many rules and comparisons as there may be, of the longest kind, each of an Nr of its own.
func longestPolicy() impl.Policy {
	p := impl.Policy{Arch: 7, Default: 100, Bad: 1}
	for i := range int64(impl.MaxRules) {
		var cmps []impl.Cmp
		for arg := range int64(impl.MaxCmps) {
			cmps = append(cmps, impl.Cmp{Arg: 2 * arg, Op: impl.CpLt + (i+arg)%4, Val: impl.Word{High: i, Low: arg}})
		}
		p.Rules = append(p.Rules, impl.Rule{Nr: 90 - i, Action: i, Cmps: cmps})
	}
	return p
}

func TestChainOfTheLongestPolicy(t *testing.T) {
	p := longestPolicy()
	l := impl.ChainOf(p)
	same(t, "how many nodes", len(l), 3+24*(1+1+3*3))
	sameNodes(t, "the longest policy", l, chainOf(p))
	same(t, "right", impl.ChainRight(l), true)
}

func TestChainOfWhatIsNotRight(t *testing.T) {
	for _, p := range wrongPolicies() {
		sameNodes(t, fmt.Sprintf("%.300s", fmt.Sprint(p)), impl.ChainOf(p), nil)
	}
	for _, c := range wrongCmps() {
		p := impl.Policy{Default: 5, Rules: []impl.Rule{{Cmps: []impl.Cmp{c}}}}
		sameNodes(t, fmt.Sprint(p), impl.ChainOf(p), nil)
	}
}

func TestChainRun(t *testing.T) {
	x := impl.Record{Nr: 2, Arch: 7, Ip: impl.Word{High: 8, Low: 9}}
	for arg := range int64(6) {
		x.Args = append(x.Args, impl.Word{High: 10 + arg, Low: 20 + arg})
	}
	// What stands at each Off, and no other one.
	for i, n := range []int64{2, 7, 9, 8, 20, 10, 21, 11, 22, 12, 23, 13, 24, 14, 25, 15} {
		for k := range int64(30) {
			l := nodes(t, fmt.Sprint(4*i, " eq ", k, " 1 2; ret 5; ret 6"))
			same(t, fmt.Sprint(4*i, " is ", k), impl.ChainRun(l, x), map[bool]int64{true: 5, false: 6}[n == k])
		}
	}
	x.Args[0].Low = 0xf0f0f0f0
	x.Args[1].Low = impl.MaxWord
	x.Args[2].Low = 0
	for _, c := range []struct {
		words string
		want  int64
	}{
		{"ret 0", 0}, {"ret 7", 7}, {"ret 4294967295", impl.MaxWord}, {"ret 7; ret 8", 7},
		{"0 eq 2 1 2; ret 5; ret 6", 5}, {"0 eq 2 2 1; ret 5; ret 6", 6}, {"0 eq 2 1 1; ret 5; ret 6", 5}, {"0 eq 2 2 2; ret 5; ret 6", 6},
		{"0 eq 1 1 2; ret 5; ret 6", 6}, {"0 eq 3 1 2; ret 5; ret 6", 6},
		{"0 gt 1 1 2; ret 5; ret 6", 5}, {"0 gt 2 1 2; ret 5; ret 6", 6}, {"0 gt 3 1 2; ret 5; ret 6", 6}, {"0 gt 0 1 2; ret 5; ret 6", 5},
		{"0 ge 1 1 2; ret 5; ret 6", 5}, {"0 ge 2 1 2; ret 5; ret 6", 5}, {"0 ge 3 1 2; ret 5; ret 6", 6}, {"0 ge 0 1 2; ret 5; ret 6", 5},
		// A Mask takes bits away ahead of the test; K keeps all of its own.
		{"16&0 eq 0 1 2; ret 5; ret 6", 5}, {"16&0 gt 0 1 2; ret 5; ret 6", 6}, {"16&0 ge 0 1 2; ret 5; ret 6", 5}, {"16&0 eq 1 1 2; ret 5; ret 6", 6},
		{"16&255 eq 240 1 2; ret 5; ret 6", 5}, {"16&15 eq 0 1 2; ret 5; ret 6", 5}, {"16&15 eq 15 1 2; ret 5; ret 6", 6},
		{"16&255 gt 239 1 2; ret 5; ret 6", 5}, {"16&255 gt 240 1 2; ret 5; ret 6", 6}, {"16&255 ge 240 1 2; ret 5; ret 6", 5}, {"16&255 ge 241 1 2; ret 5; ret 6", 6},
		{"16&255 eq 4042322160 1 2; ret 5; ret 6", 6}, {"16 eq 4042322160 1 2; ret 5; ret 6", 5}, {"16&2147483648 eq 2147483648 1 2; ret 5; ret 6", 5},
		{"24 eq 4294967295 1 2; ret 5; ret 6", 5}, {"24 gt 4294967295 1 2; ret 5; ret 6", 6}, {"24 ge 4294967295 1 2; ret 5; ret 6", 5},
		{"24 gt 4294967294 1 2; ret 5; ret 6", 5}, {"24 gt 2147483647 1 2; ret 5; ret 6", 5}, {"32 ge 2147483648 1 2; ret 5; ret 6", 6},
		{"32 gt 0 1 2; ret 5; ret 6", 6}, {"32 ge 0 1 2; ret 5; ret 6", 5}, {"32 ge 1 1 2; ret 5; ret 6", 6},
		// From test to test, past what is not come to.
		{"0 eq 2 2 4; ret 1; 4 eq 7 3 4; ret 3; ret 4", 3}, {"0 eq 2 2 4; ret 1; 4 eq 8 3 4; ret 3; ret 4", 4}, {"0 eq 3 2 4; ret 1; 4 eq 7 3 4; ret 3; ret 4", 4},
		{"0 eq 3 3 2; ret 1; 4 gt 7 3 4; ret 3; 8 ge 9 5 6; ret 5; ret 6", 5},
	} {
		same(t, c.words, impl.ChainRun(nodes(t, c.words), x), c.want)
	}
	for _, size := range []int{1, 2, 399, 400} {
		same(t, fmt.Sprint(size, " steps"), impl.ChainRun(steps(size), x), 5)
	}
}

func TestChainRunOfWhatIsNotRight(t *testing.T) {
	chains := [][]impl.Node{nodes(t, "ret 5"), nodes(t, "0 eq 2 1 2; ret 5; ret 6"), steps(400), impl.ChainOf(policyOf(3)), nil, chainWith(4, 1, impl.Node{})}
	for _, x := range wrongRecords() {
		for _, l := range chains {
			same(t, fmt.Sprintf("%.300s", fmt.Sprint(x, l)), impl.ChainRun(l, x), -1)
		}
	}
	for _, x := range someRecords() {
		for _, l := range [][]impl.Node{nil, {}, {{}}, steps(401), chainWith(4, 3, impl.Node{}), chainWith(4, 1, impl.Node{Kind: impl.NdRet, K: -1}), chainWith(4, 0, someTest(1, 9))} {
			same(t, fmt.Sprintf("%.300s", fmt.Sprint(l, x)), impl.ChainRun(l, x), -1)
		}
	}
	// What is not right stands where one does not come to.
	same(t, "not come to", impl.ChainRun(append(nodes(t, "ret 5"), impl.Node{}), impl.Record{Args: make([]impl.Word, 6)}), -1)
}

// anyChain is a right chain of so many nodes, which look at what nearRecord often has.
func anyChain(r *rand.Rand, size int) []impl.Node {
	ops := []int64{impl.OpEq, impl.OpGt, impl.OpGe}
	var l []impl.Node
	for at := range int64(size) {
		behind := int64(size) - at - 1
		if behind == 0 || r.Intn(4) == 0 {
			l = append(l, impl.Node{Kind: impl.NdRet, K: edge(r, impl.MaxWord)})
			continue
		}
		x := impl.Node{Kind: impl.NdTest, Off: 4 * r.Int63n(16), Mask: impl.MaxWord, Op: ops[r.Intn(3)], K: r.Int63n(3)}
		if r.Intn(4) == 0 {
			x.Mask = edge(r, impl.MaxWord)
		}
		if r.Intn(6) == 0 {
			x.K = edge(r, impl.MaxWord)
		}
		near := min(behind, 1+r.Int63n(5))
		x.Yes, x.No = at+1+r.Int63n(near), at+1+r.Int63n(near)
		l = append(l, x)
	}
	return l
}

func TestChainRunAndWaysOfAnyChain(t *testing.T) {
	r := rand.New(rand.NewSource(32))
	without, told := 0, map[int64]bool{}
	for i := range 1500 {
		size := 1 + r.Intn(30)
		if i%50 == 0 {
			size = 400
		}
		l := anyChain(r, size)
		what := fmt.Sprintf("%.2000s", nodeLines(l))
		same(t, what, impl.ChainRight(l), true)
		ways := impl.ChainWays(l)
		same(t, what, slices.Equal(ways, waysTo(l)), true)
		for range 10 {
			x := nearRecord(r)
			seen := make([]bool, size)
			want := chainRan(l, x, seen)
			told[want] = true
			same(t, fmt.Sprint(what, x), impl.ChainRun(l, x), want)
			for at, was := range seen {
				if was && ways[at] == 0 {
					t.Errorf("%s: %d was come to, but no way is told", what, at)
				}
			}
		}
		if slices.Contains(ways, 0) {
			without++
		}
	}
	if without < 200 || len(told) < 30 {
		t.Errorf("but %d chains with a node without a way, %d answers", without, len(told))
	}
}

func TestChainWays(t *testing.T) {
	for _, c := range []struct {
		words string
		want  []int64
	}{
		{"ret 5", []int64{1}},
		{"ret 5; ret 6", []int64{1, 0}},
		{"0 eq 2 1 2; ret 5; ret 6", []int64{1, 1, 1}},
		{"0 eq 2 2 1; ret 5; ret 6", []int64{1, 1, 1}},
		{"0 eq 2 1 1; ret 5; ret 6", []int64{1, 2, 0}},
		{"0 eq 2 2 2; ret 5; ret 6", []int64{1, 0, 2}},
		{"0 eq 0 1 2; 0 eq 0 2 2; ret 0", []int64{1, 1, 3}},
		{"0 eq 0 1 2; 0 eq 0 3 2; 0 eq 0 3 4; ret 0; ret 1", []int64{1, 1, 2, 3, 2}},
		// A node to which no way comes brings none to those to which it leads.
		{"0 eq 0 2 3; 0 eq 0 2 3; ret 0; ret 1", []int64{1, 0, 1, 1}},
		{"0 eq 0 3 3; 0 eq 0 2 3; 0 eq 0 3 3; 0 eq 0 4 4; ret 1", []int64{1, 0, 0, 2, 4}},
		{"ret 5; 0 eq 0 2 2; ret 6", []int64{1, 0, 0}},
		// Whatever a test asks, both its ways count.
		{"0&0 eq 1 1 2; 0&0 eq 0 2 3; ret 0; ret 1", []int64{1, 1, 2, 1}},
	} {
		samePlaces(t, c.words, impl.ChainWays(nodes(t, c.words)), c.want)
	}
	for _, size := range []int{1, 2, 20, 21, 22, 40, 65, 70, 130, 400} {
		var want []int64
		for at := range size {
			want = append(want, int64(min(1<<min(at, 30), 1000000)))
		}
		samePlaces(t, fmt.Sprint(size, " steps"), impl.ChainWays(steps(size)), want)
	}
}

// comingTo tells a chain to whose last node one comes by just so many ways, 1 or more: for each bit of that number a node to which one comes by 2 to
// the power of it, and which leads to two more; by one of these to the next bit, twice, and by the other one to the last node, if the number has the bit.
func comingTo(ways int64) []impl.Node {
	top := int64(0)
	for ways>>(top+1) != 0 {
		top++
	}
	other, last := 3*top+1, 3*top+2
	var l []impl.Node
	add := func(yes, no int64) { l = append(l, impl.Node{Kind: impl.NdTest, Op: impl.OpEq, Yes: yes, No: no}) }
	for bit := range top {
		at := 3 * bit
		add(at+1, at+2)
		add(at+3, at+3)
		if ways>>bit&1 == 1 {
			add(last, other)
		} else {
			add(other, other)
		}
	}
	add(last, other)
	return append(l, impl.Node{Kind: impl.NdRet}, impl.Node{Kind: impl.NdRet, K: 1})
}

func TestChainWaysAtTheLimit(t *testing.T) {
	for _, n := range []int64{1, 2, 3, 4, 5, 100, 65535, 65536, 499999, 500000, 500001, 524287, 524288, 999998, 999999, 1000000, 1000001, 1000002,
		1048575, 1048576, 1<<31 - 1, 1 << 31, 1 << 32, 1<<32 + 5, 1<<62 + 1, 1<<63 - 1} {
		l := comingTo(n)
		got := impl.ChainWays(l)
		same(t, fmt.Sprint(n, " ways: how many nodes"), len(got), len(l))
		same(t, fmt.Sprint(n, " ways"), got[len(got)-1], min(n, 1000000))
		same(t, fmt.Sprint(n, " ways, to all nodes"), slices.Equal(got, waysTo(l)), true)
	}
}

func TestChainWaysOfPolicies(t *testing.T) {
	for size := range impl.MaxRules + 1 {
		l := impl.ChainOf(policyOf(size))
		samePlaces(t, fmt.Sprint(size, " rules"), impl.ChainWays(l), waysTo(l))
	}
	l := impl.ChainOf(longestPolicy())
	samePlaces(t, "the longest policy", impl.ChainWays(l), waysTo(l))
	if slices.Contains(impl.ChainWays(l), 0) {
		t.Error("no way comes to a node of a policy's chain")
	}
	for _, p := range wrongPolicies()[:20] {
		samePlaces(t, "of no chain", impl.ChainWays(impl.ChainOf(p)), nil)
	}
}

// asDecided fails unless the questions of a policy come to what it decides of a record.
func asDecided(t *testing.T, p impl.Policy, x impl.Record) int64 {
	t.Helper()
	got, want := impl.ChainRun(impl.ChainOf(p), x), impl.Decide(p, x)
	if got != want || got != decided(p, x) {
		t.Errorf("%+v of %+v: the chain comes to %d, decided is %d", p, x, got, want)
	}
	return got
}

// askedOf tells a record with those Args, one behind the other.
func askedOf(nr, arch int64, args ...impl.Word) impl.Record {
	x := impl.Record{Nr: nr, Arch: arch, Ip: impl.Word{High: 3, Low: 4}, Args: make([]impl.Word, 6)}
	copy(x.Args, args)
	return x
}

// wordsNear tells words that are less than, like, and more than that one, in either half and in both, and those at the limits.
func wordsNear(w impl.Word) []impl.Word {
	l := []impl.Word{{}, {High: impl.MaxWord, Low: impl.MaxWord}, {High: w.High}, {Low: w.Low}, {High: w.High, Low: impl.MaxWord}, {High: impl.MaxWord, Low: w.Low}, {High: w.Low, Low: w.High}}
	for high := w.High - 1; high <= w.High+1; high++ {
		for low := w.Low - 1; low <= w.Low+1; low++ {
			if min(high, low) >= 0 && max(high, low) <= impl.MaxWord {
				l = append(l, impl.Word{High: high, Low: low})
			}
		}
	}
	return l
}

func TestPromise7OfEachComparison(t *testing.T) {
	const most = impl.MaxWord
	vals := []impl.Word{{}, {High: 5, Low: 6}, {High: 5}, {Low: 6}, {High: 1 << 31, Low: 1 << 31}, {High: most, Low: most}, {High: most}, {Low: most}}
	masks := []impl.Word{{}, {High: most, Low: most}, {High: 5, Low: 4}, {High: 4}, {Low: 4}, {Low: most}, {High: most}}
	told := map[string]int{}
	for _, op := range cmpOps() {
		for _, val := range vals {
			for i, mask := range masks {
				if op != impl.CpMasked && i > 0 {
					break
				}
				for arg := range int64(6) {
					c := impl.Cmp{Arg: arg, Op: op, Mask: mask, Val: val}
					p := impl.Policy{Arch: 7, Default: 100, Bad: 1, Rules: []impl.Rule{{Nr: 2, Action: 9, Cmps: []impl.Cmp{c}}}}
					for _, w := range wordsNear(val) {
						x := askedOf(2, 7)
						x.Args[arg] = w
						told[fmt.Sprint(op, " ", asDecided(t, p, x))]++
						x.Args[arg], x.Args[(arg+1)%6] = val, w
						asDecided(t, p, x)
					}
				}
			}
		}
	}
	for _, op := range cmpOps() {
		for _, ret := range []int{9, 100} {
			if told[fmt.Sprint(op, " ", ret)] < 20 {
				t.Errorf("Op %d: %d but %d times", op, ret, told[fmt.Sprint(op, " ", ret)])
			}
		}
	}
}

// opposite tells the number of the comparison that holds where that one does not.
func opposite(op int64) int64 {
	return map[int64]int64{impl.CpEq: impl.CpNe, impl.CpNe: impl.CpEq, impl.CpLt: impl.CpGe, impl.CpGe: impl.CpLt, impl.CpLe: impl.CpGt, impl.CpGt: impl.CpLe}[op]
}

func TestPromise7OfSeveralComparisons(t *testing.T) {
	args := []impl.Word{{High: 1, Low: 2}, {High: 3, Low: 4}, {High: 5, Low: 6}, {High: 7, Low: 8}, {High: 9, Low: 1}, {High: 2, Low: 3}}
	x := askedOf(2, 7, args...)
	// Of each Op one that holds of all Args, and, by its opposite, one that holds of none.
	holding := map[int64]impl.Word{impl.CpLt: {High: 20}, impl.CpLe: {High: 20}, impl.CpGt: {}, impl.CpGe: {}, impl.CpNe: {High: 20}}
	for op, val := range holding {
		for _, on := range [][]int64{{}, {0}, {3}, {5}, {0, 1}, {2, 5}, {4, 5}, {0, 1, 2}, {3, 4, 5}, {0, 2, 4}} {
			for not := range 1 << len(on) {
				var cmps []impl.Cmp
				for i, arg := range on {
					c := impl.Cmp{Arg: arg, Op: op, Val: val}
					if not>>i&1 == 1 {
						c.Op = opposite(op)
					}
					cmps = append(cmps, c)
				}
				want := int64(9)
				if not != 0 {
					want = 30
				}
				p := impl.Policy{Arch: 7, Default: 100, Bad: 1, Rules: []impl.Rule{{Nr: 2, Action: 30}, {Nr: 2, Action: 9, Cmps: cmps}}}
				same(t, fmt.Sprint(on, not, op, " ahead of another"), asDecided(t, p, x), want)
				if not != 0 {
					want = 100
				}
				p.Rules = p.Rules[1:]
				same(t, fmt.Sprint(on, not, op, " alone"), asDecided(t, p, x), want)
			}
		}
	}
	// Three of unlike Ops: all hold, or just one of them does not.
	for not := range 8 {
		w := slices.Clone(args)
		cmps := []impl.Cmp{
			{Arg: 0, Op: impl.CpEq, Val: w[0]},
			{Arg: 2, Op: impl.CpMasked, Mask: impl.Word{High: 4, Low: 2}, Val: impl.Word{High: 4, Low: 2}},
			{Arg: 5, Op: impl.CpLt, Val: impl.Word{High: 2, Low: 4}},
		}
		for i, arg := range []int{0, 2, 5} {
			if not>>i&1 == 1 {
				w[arg] = impl.Word{High: 2, Low: 4}
			}
		}
		p := impl.Policy{Arch: 7, Default: 100, Bad: 1, Rules: []impl.Rule{{Nr: 2, Action: 9, Cmps: cmps}}}
		same(t, fmt.Sprint(not), asDecided(t, p, askedOf(2, 7, w...)), map[bool]int64{true: 9, false: 100}[not == 0])
	}
}

func TestPromise7OfSeveralRules(t *testing.T) {
	const most = impl.MaxWord
	is := func(arg, low int64) []impl.Cmp {
		return []impl.Cmp{{Arg: arg, Op: impl.CpEq, Val: impl.Word{Low: low}}}
	}
	rules := []impl.Rule{
		{Nr: 4, Action: 30, Cmps: is(0, 1)}, {Nr: 4, Action: 20, Cmps: is(1, 1)}, {Nr: 4, Action: 40, Cmps: is(2, 1)}, {Nr: 4, Action: 20, Cmps: is(3, 1)},
		{Nr: 2, Action: 0, Cmps: is(0, 1)}, {Nr: 2, Action: most}, {Nr: 6, Action: 60}, {Nr: 1 << 31, Action: 70}, {Nr: 9, Action: most, Cmps: is(0, 1)}, {Nr: 9, Action: 0, Cmps: is(1, 1)},
	}
	for _, order := range []string{"as they stand", "turned"} {
		for _, arch := range []int64{0, 7, most} {
			for _, byDefault := range []int64{100, 1, most - 1} {
				p := impl.Policy{Arch: arch, Default: byDefault, Bad: 50, Rules: rules}
				for _, nr := range []int64{0, 1, 2, 3, 4, 5, 6, 7, 8, 9, 10, 1<<31 - 1, 1 << 31, 1<<31 + 1, most} {
					for _, other := range []int64{0, 6, 7, 8, most} {
						for ones := range int64(16) {
							x := askedOf(nr, other, impl.Word{Low: ones & 1}, impl.Word{Low: ones >> 1 & 1}, impl.Word{Low: ones >> 2 & 1}, impl.Word{Low: ones >> 3})
							asDecided(t, p, x)
						}
					}
				}
			}
		}
		p := impl.Policy{Arch: 7, Default: 100, Bad: 50, Rules: rules}
		for _, c := range []struct {
			x    impl.Record
			want int64
		}{
			{askedOf(2, 7), most}, {askedOf(2, 7, impl.Word{Low: 1}), 0}, {askedOf(4, 7), 100}, {askedOf(4, 7, impl.Word{Low: 1}), 30},
			{askedOf(4, 7, impl.Word{Low: 1}, impl.Word{Low: 1}), 20}, {askedOf(4, 7, impl.Word{}, impl.Word{}, impl.Word{Low: 1}), 40},
			{askedOf(6, 7), 60}, {askedOf(1<<31, 7), 70}, {askedOf(0, 7), 100}, {askedOf(5, 7), 100}, {askedOf(most, 7), 100}, {askedOf(6, 8), 50}, {askedOf(5, 8), 50},
		} {
			same(t, fmt.Sprint(order, c.x), asDecided(t, p, c.x), c.want)
		}
		slices.Reverse(rules)
	}
}

func TestPromise7OfLikeActions(t *testing.T) {
	on := func(arg int64) impl.Rule {
		return impl.Rule{Nr: 2, Action: 9, Cmps: []impl.Cmp{{Arg: arg, Op: impl.CpGt, Val: impl.Word{Low: 1}}}}
	}
	rules := []impl.Rule{on(0), on(1), on(2), {Nr: 2, Action: 12, Cmps: cmpsOn(4)}, {Nr: 3, Action: 9}}
	for range 10 {
		rules = append(rules[1:], rules[0])
		p := impl.Policy{Arch: 7, Default: 5, Bad: 1, Rules: rules}
		for ones := range int64(8) {
			x := askedOf(2, 7, impl.Word{Low: ones & 1 * 2}, impl.Word{High: ones >> 1 & 1}, impl.Word{Low: ones >> 2 * 2})
			same(t, fmt.Sprint(rules, ones), asDecided(t, p, x), map[bool]int64{true: 12, false: 9}[ones == 0])
			x.Nr = 3
			same(t, fmt.Sprint("Nr 3 ", rules, ones), asDecided(t, p, x), 9)
		}
	}
}

func TestPromise7OfNoRulesAndOfAll(t *testing.T) {
	const most = impl.MaxWord
	for _, p := range []impl.Policy{{}, {Arch: 7, Default: 100, Bad: 1}, {Arch: most, Default: most, Bad: most}, {Arch: 7, Bad: most}, {Arch: 7, Default: most}} {
		for _, arch := range []int64{0, 6, 7, 8, most - 1, most} {
			for _, nr := range []int64{0, 7, most} {
				want := p.Default
				if arch != p.Arch {
					want = p.Bad
				}
				same(t, fmt.Sprint(p, nr, arch), asDecided(t, p, askedOf(nr, arch)), want)
			}
		}
	}
	r := rand.New(rand.NewSource(33))
	for _, p := range []impl.Policy{policyOf(impl.MaxRules), longestPolicy()} {
		same(t, "rules", len(p.Rules), impl.MaxRules)
		for nr := int64(-1); nr < 100; nr++ {
			for range 20 {
				x := nearRecord(r)
				x.Nr, x.Arch = max(nr, 0), 7
				x.Args[0].High = max(0, 90-nr+r.Int63n(3)-1)
				x.Args[2].High, x.Args[4].High = x.Args[0].High, max(0, 90-nr)
				asDecided(t, p, x)
			}
		}
	}
}

func TestPromise7OfAnyPolicyAndRecord(t *testing.T) {
	r := rand.New(rand.NewSource(34))
	told := map[string]int{}
	for range 700 {
		p := anyPolicy(t, r, r.Intn(impl.MaxRules+1))
		l := impl.ChainOf(p)
		for range 40 {
			x := nearRecord(r)
			got, want := impl.ChainRun(l, x), decided(p, x)
			same(t, fmt.Sprint(p, x), got, want)
			same(t, fmt.Sprint(p, x, " by Decide"), got, impl.Decide(p, x))
			switch {
			case x.Arch != p.Arch:
				told["Bad"]++
			case want == p.Default:
				told["Default"]++
			default:
				told["an Action"]++
			}
		}
		asDecided(t, p, anyRecord(r))
	}
	for _, what := range []string{"Bad", "Default", "an Action"} {
		if told[what] < 1000 {
			t.Errorf("%s but %d times: %v", what, told[what], told)
		}
	}
	for _, p := range wrongPolicies() {
		same(t, "of what is not right", impl.ChainRun(impl.ChainOf(p), askedOf(2, 7)), impl.Decide(p, askedOf(2, 7)))
	}
	for _, x := range wrongRecords() {
		p := impl.Policy{Arch: 7, Default: 100, Bad: 1, Rules: []impl.Rule{{Nr: 2, Action: 9}}}
		same(t, "of a record that is not right", impl.ChainRun(impl.ChainOf(p), x), impl.Decide(p, x))
	}
}

func TestPromise7OfTwoNrs(t *testing.T) {
	gt := impl.Cmp{Op: impl.CpGt, Val: impl.Word{Low: 4}}
	masked := impl.Cmp{Arg: 1, Op: impl.CpMasked, Mask: impl.Word{High: 3}, Val: impl.Word{High: 1}}
	p := impl.Policy{Arch: 7, Default: 100, Bad: 1, Rules: []impl.Rule{{Nr: 2, Action: 9, Cmps: []impl.Cmp{gt}}, {Nr: 2, Action: 5, Cmps: []impl.Cmp{masked}}, {Nr: 4, Action: 9}}}
	args := []impl.Word{{Low: 5}, {High: 1}}
	sameNodes(t, "its chain", impl.ChainOf(p), nodes(t, "4 eq 7 1 11; 0 eq 2 2 9; 28&3 eq 1 3 5; 24&0 eq 0 4 5; ret 5; 20 gt 0 8 6; 20 eq 0 7 12; 16 gt 4 8 12; ret 9; 0 eq 4 10 12; ret 9; ret 1; ret 100"))
	for _, c := range []struct{ nr, arch, want int64 }{{2, 7, 5}, {4, 7, 9}, {3, 7, 100}, {4, 6, 1}} {
		same(t, fmt.Sprint(c), asDecided(t, p, askedOf(c.nr, c.arch, args...)), c.want)
	}
}

func TestChainsChangeNothingAndShareNothing(t *testing.T) {
	p, rule := roomy()
	// In no order: whoever sorted them in place would change them.
	slices.Reverse(p.Rules)
	before := copyPolicy(p)
	first := impl.ChainOf(p)
	want := slices.Clone(first)
	samePolicy(t, "ChainOf", impl.PolicyOut{Policy: p}, impl.PolicyOut{Policy: before})
	for i := range first[:cap(first)] {
		first[:cap(first)][i] = impl.Node{Kind: -9}
	}
	samePolicy(t, "ChainOf, then written over", impl.PolicyOut{Policy: p}, impl.PolicyOut{Policy: before})
	sameNodes(t, "once more", impl.ChainOf(p), want)
	slices.Reverse(p.Rules)
	keeps(t, "ChainOf", p, rule)

	l := append(make([]impl.Node, 0, 40), comingTo(900)...)
	nodesBefore := slices.Clone(l[:cap(l)])
	x := impl.Record{Nr: 2, Arch: 7, Args: make([]impl.Word, 6, 9)}
	args := slices.Clone(x.Args[:9])
	ways := impl.ChainWays(l)
	kept := slices.Clone(ways)
	impl.ChainRight(l)
	answer := impl.ChainRun(l, x)
	clear(ways[:cap(ways)])
	samePlaces(t, "ChainWays once more", impl.ChainWays(l), kept)
	same(t, "ChainRun once more", impl.ChainRun(l, x), answer)
	sameNodes(t, "the nodes, and what is behind", l[:cap(l)], nodesBefore)
	same(t, "the record's Args", slices.Equal(x.Args[:9], args), true)
}

func TestChainsOfAnyNumbers(t *testing.T) {
	r := rand.New(rand.NewSource(35))
	some := func(most int64) int64 {
		if r.Intn(15) == 0 {
			return notHalves()[r.Intn(len(notHalves()))]
		}
		return r.Int63n(most)
	}
	fits := func(n int64) bool { return n >= 0 && n <= impl.MaxWord }
	rights := 0
	for range 60000 {
		size := 1 + r.Int63n(4)
		var l []impl.Node
		right := true
		for at := range size {
			x := impl.Node{Kind: 1 + some(2), K: some(9)}
			if x.Kind == impl.NdTest || r.Intn(15) == 0 {
				x.Off, x.Mask, x.Op = 4*some(16)+r.Int63n(20)/19, some(9), []int64{impl.OpEq, impl.OpGt, impl.OpGe, impl.OpSet}[r.Intn(4)]
				x.Yes, x.No = at+1+r.Int63n(max(size-at-1, 1)), at+some(3)
			}
			ret := x.Kind == impl.NdRet && x.Off == 0 && x.Mask == 0 && x.Op == 0 && x.Yes == 0 && x.No == 0
			test := x.Kind == impl.NdTest && x.Off >= 0 && x.Off <= 60 && x.Off%4 == 0 && fits(x.Mask) && x.Op != impl.OpSet && x.Yes > at && x.Yes < size && x.No > at && x.No < size
			right = right && fits(x.K) && (ret || test)
			l = append(l, x)
		}
		what := fmt.Sprintf("%+v", l)
		isRight(t, what, l, right)
		if right {
			rights++
			x := nearRecord(r)
			same(t, what, impl.ChainRun(l, x), chainRan(l, x, make([]bool, size)))
			samePlaces(t, what, impl.ChainWays(l), waysTo(l))
		}
	}
	if rights < 3000 {
		t.Errorf("but %d chains were right", rights)
	}
}
