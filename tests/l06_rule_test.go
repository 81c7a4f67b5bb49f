package tests

import (
	"fmt"
	"math"
	"math/rand"
	"slices"
	"testing"

	"loop.example/s0083/impl"
)

// sameRule tells whether two rules have the same fields; an empty list and none are the same.
func sameRule(a, b impl.Rule) bool {
	return a.Nr == b.Nr && a.Action == b.Action && slices.Equal(a.Cmps, b.Cmps)
}

// samePolicy fails unless the call told just that policy and code.
func samePolicy(t *testing.T, what string, got, want impl.PolicyOut) {
	t.Helper()
	a, b := got.Policy, want.Policy
	if a.Arch != b.Arch || a.Default != b.Default || a.Bad != b.Bad || !slices.EqualFunc(a.Rules, b.Rules, sameRule) || got.Code != want.Code {
		t.Errorf("%s: got %+v, want %+v", what, got, want)
	}
}

// compared is what chapter 7 says of a comparison, of numbers of 64 bits.
func compared(op int64, n, mask, val uint64) bool {
	return []bool{n == val, n != val, n < val, n <= val, n > val, n >= val, n&mask == val}[op-1]
}

// holdsOf is what chapter 7 says of a right rule and a right record.
func holdsOf(r impl.Rule, x impl.Record) bool {
	for _, c := range r.Cmps {
		if !compared(c.Op, bits(x.Args[c.Arg]), bits(c.Mask), bits(c.Val)) {
			return false
		}
	}
	return r.Nr == x.Nr
}

// decided is what chapter 7 says of a right policy and a right record.
func decided(p impl.Policy, x impl.Record) int64 {
	var actions []int64
	for _, r := range p.Rules {
		if holdsOf(r, x) {
			actions = append(actions, r.Action)
		}
	}
	switch {
	case p.Arch != x.Arch:
		return p.Bad
	case len(actions) == 0:
		return p.Default
	}
	return slices.Min(actions)
}

// copyRule and copyPolicy make of what is told once more, in memory of its own.
func copyRule(r impl.Rule) impl.Rule {
	r.Cmps = append([]impl.Cmp{}, r.Cmps...)
	return r
}

func copyPolicy(p impl.Policy) impl.Policy {
	var l []impl.Rule
	for _, r := range p.Rules {
		l = append(l, copyRule(r))
	}
	p.Rules = l
	return p
}

// changedRule and changedPolicy tell a copy with one change.
func changedRule(r impl.Rule, change func(*impl.Rule)) impl.Rule {
	r = copyRule(r)
	change(&r)
	return r
}

func changedPolicy(p impl.Policy, change func(*impl.Policy)) impl.Policy {
	p = copyPolicy(p)
	change(&p)
	return p
}

// cmpOps are the seven comparisons, in the order of their numbers.
func cmpOps() []int64 {
	return []int64{impl.CpEq, impl.CpNe, impl.CpLt, impl.CpLe, impl.CpGt, impl.CpGe, impl.CpMasked}
}

// rightCmps holds a comparison of each Op and Arg, with words at their limits.
func rightCmps() []impl.Cmp {
	most := impl.Word{High: impl.MaxWord, Low: impl.MaxWord}
	var l []impl.Cmp
	for arg := range int64(6) {
		for _, op := range cmpOps() {
			for _, val := range []impl.Word{{}, {Low: 5}, {High: 7}, {High: impl.MaxWord}, {Low: impl.MaxWord}, most} {
				l = append(l, impl.Cmp{Arg: arg, Op: op, Val: val})
			}
		}
		for _, mask := range []impl.Word{{}, {Low: 1}, {High: 1}, {High: impl.MaxWord}, {Low: impl.MaxWord}, most} {
			l = append(l, impl.Cmp{Arg: arg, Op: impl.CpMasked, Mask: mask}, impl.Cmp{Arg: arg, Op: impl.CpMasked, Mask: mask, Val: most})
		}
	}
	return l
}

// wrongCmps holds comparisons that are not right, each by one thing alone.
func wrongCmps() []impl.Cmp {
	var l []impl.Cmp
	for _, op := range cmpOps() {
		for _, arg := range append(wrongHalves(), 6, 7, 8, -2, 1<<32+1) {
			l = append(l, impl.Cmp{Arg: arg, Op: op})
		}
		for _, w := range wrongWords() {
			l = append(l, impl.Cmp{Op: op, Val: w}, impl.Cmp{Arg: 5, Op: op, Mask: w})
		}
		if op == impl.CpMasked {
			continue
		}
		for _, mask := range rightWords() {
			if mask != (impl.Word{}) {
				l = append(l, impl.Cmp{Op: op, Mask: mask}, impl.Cmp{Op: op, Mask: mask, Val: mask})
			}
		}
	}
	for _, op := range append(wrongHalves(), 0, 8, 9, 21, 1<<32+1, 1<<32+7) {
		l = append(l, impl.Cmp{Op: op}, impl.Cmp{Op: op, Mask: impl.Word{Low: 1}})
	}
	return l
}

// cmpsOn tells comparisons with 0 that hold of each word, one for each of these Args.
func cmpsOn(args ...int64) []impl.Cmp {
	var l []impl.Cmp
	for _, arg := range args {
		l = append(l, impl.Cmp{Arg: arg, Op: impl.CpGe})
	}
	return l
}

// rightRules holds rules at their limits.
func rightRules() []impl.Rule {
	l := []impl.Rule{{}, {Nr: impl.MaxWord, Action: impl.MaxWord}, {Nr: impl.MaxWord}, {Action: impl.MaxWord}, {Cmps: []impl.Cmp{}}}
	for _, args := range [][]int64{{0}, {5}, {0, 1}, {0, 5}, {4, 5}, {0, 1, 2}, {0, 2, 5}, {3, 4, 5}, {1, 3, 4}} {
		l = append(l, impl.Rule{Nr: 2, Action: 9, Cmps: cmpsOn(args...)})
	}
	for _, c := range rightCmps() {
		l = append(l, impl.Rule{Nr: 2, Action: 9, Cmps: []impl.Cmp{c}})
	}
	return l
}

// wrongRules holds rules that are not right, each by one thing alone.
func wrongRules() []impl.Rule {
	var l []impl.Rule
	for _, n := range wrongHalves() {
		l = append(l, impl.Rule{Nr: n}, impl.Rule{Action: n}, impl.Rule{Nr: n, Action: n, Cmps: cmpsOn(1)})
	}
	for _, args := range [][]int64{{0, 0}, {1, 1}, {5, 5}, {1, 0}, {5, 4}, {5, 0}, {0, 1, 1}, {0, 0, 1}, {0, 2, 1}, {1, 0, 2},
		{2, 1, 0}, {3, 3, 3}, {1, 2, 1}, {0, 1, 2, 3}, {2, 3, 4, 5}, {0, 1, 2, 2}, {0, 1, 2, 3, 4}, {0, 1, 2, 3, 4, 5}} {
		l = append(l, impl.Rule{Nr: 2, Action: 9, Cmps: cmpsOn(args...)})
	}
	for _, c := range wrongCmps() {
		l = append(l, impl.Rule{Nr: 2, Action: 9, Cmps: []impl.Cmp{c}})
	}
	for at := range 3 {
		for _, c := range []impl.Cmp{{}, {Arg: int64(at), Op: 8}, {Arg: int64(at), Op: impl.CpEq, Mask: impl.Word{Low: 1}},
			{Arg: int64(at), Op: impl.CpEq, Val: impl.Word{High: -1}}, {Arg: 6, Op: impl.CpEq}, {Arg: -1, Op: impl.CpEq}} {
			cmps := cmpsOn(0, 1, 2)
			cmps[at] = c
			l = append(l, impl.Rule{Nr: 2, Action: 9, Cmps: cmps})
		}
	}
	for _, size := range []int{impl.MaxList, impl.MaxList + 1, 100000} {
		l = append(l, impl.Rule{Nr: 2, Action: 9, Cmps: slices.Repeat(cmpsOn(1), size)})
	}
	return l
}

// manyRules tells so many unlike rules, none with an Action of 100.
func manyRules(size int) []impl.Rule {
	var l []impl.Rule
	for i := range int64(size) {
		l = append(l, impl.Rule{Nr: i % 3, Action: 200 + i, Cmps: cmpsOn(i % 6)})
	}
	return l
}

// policyOf tells a policy of so many rules.
func policyOf(size int) impl.Policy {
	return impl.Policy{Arch: 7, Default: 100, Bad: 1, Rules: manyRules(size)}
}

// wrongPolicies holds policies that are not right, each by one thing alone.
func wrongPolicies() []impl.Policy {
	var l []impl.Policy
	p := policyOf(3)
	for _, n := range wrongHalves() {
		l = append(l, changedPolicy(p, func(p *impl.Policy) { p.Arch = n }), changedPolicy(p, func(p *impl.Policy) { p.Default = n }),
			changedPolicy(p, func(p *impl.Policy) { p.Bad = n }), impl.Policy{Arch: n, Default: n, Bad: n})
	}
	for _, r := range wrongRules() {
		for at := range 3 {
			l = append(l, changedPolicy(p, func(p *impl.Policy) { p.Rules[at] = copyRule(r) }))
		}
	}
	for _, size := range []int{impl.MaxRules + 1, impl.MaxRules + 2, impl.MaxList, impl.MaxList + 1, 10000} {
		l = append(l, policyOf(size))
	}
	full := policyOf(impl.MaxRules)
	for a := range impl.MaxRules {
		l = append(l, changedPolicy(full, func(p *impl.Policy) { p.Rules[a].Action = 100 }))
		for b := range a {
			l = append(l, changedPolicy(full, func(p *impl.Policy) { p.Rules[a] = copyRule(p.Rules[b]) }))
		}
	}
	bare := impl.Rule{Nr: 2, Action: 9}
	return append(l, impl.Policy{Default: 9, Rules: []impl.Rule{bare}}, impl.Policy{Rules: []impl.Rule{bare, bare}},
		impl.Policy{Rules: []impl.Rule{{Nr: 2, Action: 9, Cmps: []impl.Cmp{}}, bare}})
}

func TestRuleConstants(t *testing.T) {
	got := [...]int{impl.MaxRules, impl.MaxCmps, impl.CpEq, impl.CpNe, impl.CpLt, impl.CpLe, impl.CpGt, impl.CpGe, impl.CpMasked}
	same(t, "constants", got, [...]int{24, 3, 1, 2, 3, 4, 5, 6, 7})
}

func TestCmpRight(t *testing.T) {
	for _, c := range rightCmps() {
		same(t, fmt.Sprint(c), impl.CmpRight(c), true)
	}
	for _, c := range append(wrongCmps(), impl.Cmp{}) {
		same(t, fmt.Sprint(c), impl.CmpRight(c), false)
	}
	for _, w := range rightWords() {
		same(t, fmt.Sprint("Val ", w), impl.CmpRight(impl.Cmp{Op: impl.CpEq, Val: w}), true)
		same(t, fmt.Sprint("Mask ", w), impl.CmpRight(impl.Cmp{Op: impl.CpMasked, Mask: w}), true)
	}
}

func TestCmpHoldsLessEqualAndMore(t *testing.T) {
	val := impl.Word{High: 7, Low: 5}
	words := []impl.Word{
		{High: 7, Low: 4}, {High: 6, Low: 5}, {High: 6, Low: impl.MaxWord}, // less, the last one by its upper half alone
		{High: 7, Low: 5},
		{High: 7, Low: 6}, {High: 8, Low: 5}, {High: 8}, // more, the last one by its upper half alone
	}
	for op, want := range map[int64]string{
		impl.CpEq: "...x...", impl.CpNe: "xxx.xxx", impl.CpLt: "xxx....", impl.CpLe: "xxxx...", impl.CpGt: "....xxx", impl.CpGe: "...xxxx",
		impl.CpMasked: "...x...",
	} {
		c := impl.Cmp{Op: op, Val: val}
		if op == impl.CpMasked {
			c.Mask = impl.Word{High: impl.MaxWord, Low: impl.MaxWord}
		}
		for i, w := range words {
			same(t, fmt.Sprint(c, w), impl.CmpHolds(c, w), want[i] == 'x')
		}
	}
}

func TestCmpHoldsMasked(t *testing.T) {
	for _, c := range []struct {
		mask, val, w impl.Word
		want         bool
	}{
		{impl.Word{Low: 12}, impl.Word{Low: 4}, impl.Word{Low: 4}, true},
		{impl.Word{Low: 12}, impl.Word{Low: 4}, impl.Word{High: 9, Low: 0xfffffff7}, true},
		{impl.Word{Low: 12}, impl.Word{Low: 4}, impl.Word{Low: 8}, false},
		{impl.Word{Low: 12}, impl.Word{Low: 4}, impl.Word{Low: 12}, false},
		{impl.Word{High: 12}, impl.Word{High: 4}, impl.Word{High: 5, Low: 99}, true},
		{impl.Word{High: 12}, impl.Word{High: 4}, impl.Word{Low: 4}, false},
		{impl.Word{High: 12}, impl.Word{Low: 4}, impl.Word{High: 4, Low: 4}, false},
		{impl.Word{High: 3, Low: 5}, impl.Word{High: 1, Low: 4}, impl.Word{High: 5, Low: 6}, true},
		{impl.Word{High: 3, Low: 5}, impl.Word{High: 1, Low: 4}, impl.Word{High: 5, Low: 7}, false},
		{impl.Word{High: 3, Low: 5}, impl.Word{High: 1, Low: 4}, impl.Word{High: 7, Low: 6}, false},
		// Without a bit of the Mask each word has the Val of none, and no word another one.
		{impl.Word{}, impl.Word{}, impl.Word{High: 5, Low: 6}, true},
		{impl.Word{}, impl.Word{Low: 1}, impl.Word{Low: 1}, false},
		// A Val has bits that the Mask has not: right, but it holds of no word.
		{impl.Word{Low: 1}, impl.Word{Low: 3}, impl.Word{Low: 3}, false},
		{impl.Word{Low: 1}, impl.Word{High: 1, Low: 1}, impl.Word{High: 1, Low: 1}, false},
		{impl.Word{High: impl.MaxWord, Low: impl.MaxWord}, impl.Word{High: 5, Low: 6}, impl.Word{High: 5, Low: 6}, true},
		{impl.Word{High: impl.MaxWord, Low: impl.MaxWord}, impl.Word{High: 5, Low: 6}, impl.Word{High: 6, Low: 5}, false},
	} {
		same(t, fmt.Sprint(c), impl.CmpHolds(impl.Cmp{Op: impl.CpMasked, Mask: c.mask, Val: c.val}, c.w), c.want)
	}
}

func TestCmpHoldsOfAnyWords(t *testing.T) {
	words := rightWords()
	r := rand.New(rand.NewSource(21))
	for range 30 {
		words = append(words, anyWord(r))
	}
	for _, val := range words {
		for _, w := range words {
			for _, op := range cmpOps()[:6] {
				c := impl.Cmp{Arg: r.Int63n(6), Op: op, Val: val}
				same(t, fmt.Sprint(c, w), impl.CmpHolds(c, w), compared(op, bits(w), 0, bits(val)))
			}
			for _, mask := range []impl.Word{{}, {High: impl.MaxWord, Low: impl.MaxWord}, val, w, anyWord(r)} {
				c := impl.Cmp{Arg: r.Int63n(6), Op: impl.CpMasked, Mask: mask, Val: val}
				same(t, fmt.Sprint(c, w), impl.CmpHolds(c, w), compared(impl.CpMasked, bits(w), bits(mask), bits(val)))
				c.Val = impl.WordAnd(mask, w)
				same(t, fmt.Sprint(c, w), impl.CmpHolds(c, w), true)
			}
		}
	}
}

func TestPromise6OfAComparisonAndItsOppositeOneHolds(t *testing.T) {
	words := rightWords()
	r := rand.New(rand.NewSource(22))
	for range 50 {
		words = append(words, anyWord(r))
	}
	opposites := [][2]int64{{impl.CpEq, impl.CpNe}, {impl.CpLt, impl.CpGe}, {impl.CpLe, impl.CpGt}}
	for _, val := range words {
		for _, w := range words {
			holds := func(op int64) bool { return impl.CmpHolds(impl.Cmp{Op: op, Val: val}, w) }
			for _, o := range opposites {
				same(t, fmt.Sprint(o, val, w), holds(o[0]) != holds(o[1]), true)
			}
			same(t, fmt.Sprint("no more: less or equal ", val, w), holds(impl.CpLe), holds(impl.CpLt) || holds(impl.CpEq))
			same(t, fmt.Sprint("unlike: less or more ", val, w), holds(impl.CpNe), holds(impl.CpLt) != holds(impl.CpGt))
		}
	}
}

func TestCmpHoldsOfWhatIsNotRight(t *testing.T) {
	for _, c := range append(wrongCmps(), impl.Cmp{}) {
		for _, w := range []impl.Word{{}, {Low: 1}, {High: 1, Low: 1}, {High: impl.MaxWord, Low: impl.MaxWord}, c.Val, c.Mask} {
			same(t, fmt.Sprint(c, w), impl.CmpHolds(c, w), false)
		}
	}
	for _, w := range wrongWords() {
		for _, c := range rightCmps() {
			same(t, fmt.Sprint(c, w), impl.CmpHolds(c, w), false)
		}
		for _, op := range cmpOps() {
			same(t, fmt.Sprint(op, w, " like Val"), impl.CmpHolds(impl.Cmp{Op: op, Val: w}, w), false)
		}
	}
}

func TestRuleRight(t *testing.T) {
	for _, r := range rightRules() {
		same(t, fmt.Sprint(r), impl.RuleRight(r), true)
	}
	for _, r := range wrongRules() {
		same(t, fmt.Sprintf("%.200s", fmt.Sprint(r)), impl.RuleRight(r), false)
	}
	// Of all lists of up to four Args just those are right that rise, and are no more than three.
	for a := range int64(6) {
		for b := range int64(6) {
			same(t, fmt.Sprint(a, b), impl.RuleRight(impl.Rule{Cmps: cmpsOn(a, b)}), a < b)
			for c := range int64(6) {
				same(t, fmt.Sprint(a, b, c), impl.RuleRight(impl.Rule{Cmps: cmpsOn(a, b, c)}), a < b && b < c)
				same(t, fmt.Sprint(a, b, c, 5), impl.RuleRight(impl.Rule{Cmps: cmpsOn(a, b, c, 5)}), false)
			}
		}
	}
}

func TestRuleSame(t *testing.T) {
	rules := append(rightRules(), manyRules(impl.MaxRules)...)
	for _, a := range rules {
		for _, b := range rules {
			same(t, fmt.Sprint(a, b), impl.RuleSame(a, copyRule(b)), sameRule(a, b))
		}
	}
	one := impl.Rule{Nr: 2, Action: 9, Cmps: []impl.Cmp{
		{Arg: 1, Op: impl.CpMasked, Mask: impl.Word{High: 3, Low: 5}, Val: impl.Word{High: 1, Low: 4}},
		{Arg: 4, Op: impl.CpMasked, Mask: impl.Word{High: 3, Low: 5}, Val: impl.Word{High: 1, Low: 4}},
	}}
	for i, change := range []func(*impl.Rule){
		func(r *impl.Rule) { r.Nr++ },
		func(r *impl.Rule) { r.Action++ },
		func(r *impl.Rule) { r.Cmps = nil },
		func(r *impl.Rule) { r.Cmps = r.Cmps[:1] },
		func(r *impl.Rule) { r.Cmps = r.Cmps[1:] },
		func(r *impl.Rule) { r.Cmps = append(r.Cmps, cmpsOn(5)...) },
		func(r *impl.Rule) { r.Cmps[0].Arg = 2 },
		func(r *impl.Rule) { r.Cmps[1].Arg = 5 },
		func(r *impl.Rule) { r.Cmps[0].Mask.High++ },
		func(r *impl.Rule) { r.Cmps[1].Mask.Low++ },
		func(r *impl.Rule) { r.Cmps[1].Val.High++ },
		func(r *impl.Rule) { r.Cmps[0].Val.Low++ },
		func(r *impl.Rule) { r.Cmps[1].Op, r.Cmps[1].Mask = impl.CpEq, impl.Word{} },
	} {
		other := changedRule(one, change)
		same(t, fmt.Sprint("right ", i), impl.RuleRight(other), true)
		same(t, fmt.Sprint("changed ", i), impl.RuleSame(one, other), false)
		same(t, fmt.Sprint("changed, the other way round ", i), impl.RuleSame(other, one), false)
		same(t, fmt.Sprint("both changed ", i), impl.RuleSame(other, copyRule(other)), true)
	}
}

func TestRuleSameOfWhatIsNotRight(t *testing.T) {
	for _, a := range wrongRules() {
		what := fmt.Sprintf("%.200s", fmt.Sprint(a))
		same(t, what, impl.RuleSame(a, copyRule(a)), false)
		for _, b := range rightRules()[:9] {
			same(t, what, impl.RuleSame(a, b), false)
			same(t, what, impl.RuleSame(b, a), false)
		}
	}
}

func TestRuleHolds(t *testing.T) {
	x := impl.Record{Nr: 2, Arch: 7, Ip: impl.Word{High: 8, Low: 9}}
	for arg := range int64(6) {
		x.Args = append(x.Args, impl.Word{High: 10 + arg, Low: 20 + arg})
	}
	is := func(arg int64) impl.Cmp { return impl.Cmp{Arg: arg, Op: impl.CpEq, Val: x.Args[arg]} }
	isNot := func(arg int64) impl.Cmp { return impl.Cmp{Arg: arg, Op: impl.CpNe, Val: x.Args[arg]} }
	for _, nr := range []int64{0, 1, 2, 3, 7, impl.MaxWord} {
		same(t, fmt.Sprint("no Cmps, Nr ", nr), impl.RuleHolds(impl.Rule{Nr: nr, Action: 9}, x), nr == 2)
		same(t, fmt.Sprint("a Cmp, Nr ", nr), impl.RuleHolds(impl.Rule{Nr: nr, Cmps: []impl.Cmp{is(3)}}, x), nr == 2)
	}
	for arg := range int64(6) {
		for other := range int64(6) {
			c := impl.Cmp{Arg: arg, Op: impl.CpEq, Val: x.Args[other]}
			same(t, fmt.Sprint("its own Arg ", arg, other), impl.RuleHolds(impl.Rule{Nr: 2, Cmps: []impl.Cmp{c}}, x), arg == other)
		}
	}
	for _, args := range [][]int64{{0, 1, 2}, {3, 4, 5}, {0, 2, 5}} {
		for not := range 8 {
			var l []impl.Cmp
			for i, arg := range args {
				if not>>i&1 == 1 {
					l = append(l, isNot(arg))
				} else {
					l = append(l, is(arg))
				}
			}
			r := impl.Rule{Nr: 2, Action: 9, Cmps: l}
			same(t, fmt.Sprint("all of them ", r), impl.RuleHolds(r, x), not == 0)
		}
	}
	for _, arch := range []int64{0, 8, impl.MaxWord} {
		x.Arch = arch
		same(t, fmt.Sprint("of whatever Arch ", arch), impl.RuleHolds(impl.Rule{Nr: 2, Cmps: []impl.Cmp{is(1)}}, x), true)
	}
}

func TestRuleHoldsOfWhatIsNotRight(t *testing.T) {
	x := impl.Record{Nr: 2, Arch: 7, Args: make([]impl.Word, 6)}
	for _, r := range wrongRules() {
		x.Nr = max(0, min(r.Nr, impl.MaxWord))
		same(t, fmt.Sprintf("%.200s", fmt.Sprint(r)), impl.RuleHolds(r, x), false)
	}
	for _, x := range wrongRecords() {
		for _, cmps := range [][]impl.Cmp{nil, cmpsOn(0), cmpsOn(5), {{Arg: 3, Op: impl.CpNe, Val: impl.Word{Low: 8}}}} {
			same(t, fmt.Sprintf("%.200s", fmt.Sprint(x)), impl.RuleHolds(impl.Rule{Nr: x.Nr, Cmps: cmps}, x), false)
		}
	}
}

func TestPolicyRight(t *testing.T) {
	for size := range impl.MaxRules + 1 {
		same(t, fmt.Sprint(size, " rules"), impl.PolicyRight(policyOf(size)), true)
	}
	const most = impl.MaxWord
	for _, p := range []impl.Policy{{}, {Arch: most}, {Default: most}, {Bad: most}, {Arch: most, Default: most, Bad: most},
		{Rules: []impl.Rule{}}, {Default: 1, Rules: []impl.Rule{{}}}, {Rules: []impl.Rule{{Action: most}}},
		// Bad may be an Action, and Default.
		{Bad: 9, Rules: []impl.Rule{{Action: 9}}}, {Default: 9, Bad: 9, Rules: []impl.Rule{{Nr: 9}}},
		// Rules may be alike in all but one thing.
		{Rules: []impl.Rule{{Action: 9}, {Action: 8}, {Nr: 1, Action: 9}, {Action: 9, Cmps: cmpsOn(0)}, {Action: 9, Cmps: cmpsOn(1)}, {Action: 9, Cmps: cmpsOn(0, 1)}}},
	} {
		same(t, fmt.Sprint(p), impl.PolicyRight(p), true)
	}
	for _, r := range rightRules() {
		same(t, fmt.Sprint(r), impl.PolicyRight(impl.Policy{Default: 77, Rules: []impl.Rule{{Nr: 5, Action: 6}, r}}), true)
	}
	for _, p := range wrongPolicies() {
		same(t, fmt.Sprintf("%.300s", fmt.Sprint(p)), impl.PolicyRight(p), false)
	}
}

func TestPolicyAdd(t *testing.T) {
	for size := range impl.MaxRules + 1 {
		p := policyOf(size)
		r := impl.Rule{Nr: 2, Action: 9, Cmps: cmpsOn(1, 4)}
		want := impl.PolicyOut{Policy: changedPolicy(p, func(p *impl.Policy) { p.Rules = append(p.Rules, r) })}
		if size == impl.MaxRules {
			want = impl.PolicyOut{Code: impl.ErrFull}
		}
		samePolicy(t, fmt.Sprint("behind ", size), impl.PolicyAdd(p, r), want)
		for at, there := range p.Rules {
			samePolicy(t, fmt.Sprint("there already ", size, at), impl.PolicyAdd(p, copyRule(there)), impl.PolicyOut{Policy: p})
		}
		r.Action = p.Default
		samePolicy(t, fmt.Sprint("Default ", size), impl.PolicyAdd(p, r), impl.PolicyOut{Code: impl.ErrState})
		r.Nr = -1
		samePolicy(t, fmt.Sprint("not right, and Default ", size), impl.PolicyAdd(p, r), impl.PolicyOut{Code: impl.ErrForm})
	}
	for _, r := range rightRules() {
		p := impl.Policy{Arch: impl.MaxWord, Default: 77, Bad: 9}
		samePolicy(t, fmt.Sprint("the first one ", r), impl.PolicyAdd(p, r), impl.PolicyOut{Policy: changedPolicy(p, func(p *impl.Policy) { p.Rules = []impl.Rule{r} })})
	}
	for _, action := range []int64{0, 9, impl.MaxWord} {
		samePolicy(t, fmt.Sprint("Default ", action), impl.PolicyAdd(impl.Policy{Default: action}, impl.Rule{Action: action}), impl.PolicyOut{Code: impl.ErrState})
	}
	none := impl.Policy{Default: 1, Rules: []impl.Rule{{Cmps: []impl.Cmp{}}}}
	samePolicy(t, "an empty list and none are the same", impl.PolicyAdd(none, impl.Rule{}), impl.PolicyOut{Policy: none})
}

func TestPolicyAddOfWhatIsNotRight(t *testing.T) {
	want := impl.PolicyOut{Code: impl.ErrForm}
	for _, p := range wrongPolicies() {
		rules := append([]impl.Rule{{Nr: 6, Action: 6}, {Nr: 6, Action: p.Default}, {Nr: -1}}, p.Rules[:min(2, len(p.Rules))]...)
		for _, r := range rules {
			samePolicy(t, fmt.Sprintf("%.200s", fmt.Sprint(r, p)), impl.PolicyAdd(p, r), want)
		}
	}
	for _, r := range wrongRules() {
		for _, p := range []impl.Policy{{}, policyOf(3), policyOf(impl.MaxRules), {Default: r.Action}} {
			samePolicy(t, fmt.Sprintf("%.200s", fmt.Sprint(r, p)), impl.PolicyAdd(p, r), want)
		}
	}
}

func TestPolicyDrop(t *testing.T) {
	for size := range impl.MaxRules + 1 {
		p := policyOf(size)
		for at := range size {
			want := impl.PolicyOut{Policy: changedPolicy(p, func(p *impl.Policy) { p.Rules = slices.Delete(p.Rules, at, at+1) })}
			samePolicy(t, fmt.Sprint(at, " of ", size), impl.PolicyDrop(p, int64(at)), want)
		}
		last := int64(size)
		for _, at := range []int64{last, last + 1, impl.MaxRules, -1, -last, -last - 1, 1 << 31, 1 << 32, 1<<32 + 1, -1 << 32, math.MinInt64, math.MaxInt64} {
			if at < 0 || at >= last {
				samePolicy(t, fmt.Sprint(at, " of ", size), impl.PolicyDrop(p, at), impl.PolicyOut{Code: impl.ErrNone})
			}
		}
	}
	p := policyOf(4)
	for _, left := range []int{3, 2, 1, 0} {
		p = impl.PolicyDrop(p, 0).Policy
		samePolicy(t, "the first one, again and again", impl.PolicyOut{Policy: p}, impl.PolicyOut{Policy: changedPolicy(policyOf(4), func(p *impl.Policy) { p.Rules = p.Rules[4-left:] })})
	}
	samePolicy(t, "none is left", impl.PolicyDrop(p, 0), impl.PolicyOut{Code: impl.ErrNone})
	for _, p := range wrongPolicies() {
		for _, at := range []int64{0, 1, int64(len(p.Rules)) - 1, int64(len(p.Rules)), -1} {
			samePolicy(t, fmt.Sprintf("%.200s", fmt.Sprint(at, p)), impl.PolicyDrop(p, at), impl.PolicyOut{Code: impl.ErrForm})
		}
	}
}

func TestDecide(t *testing.T) {
	eq := func(arg, low int64) impl.Cmp { return impl.Cmp{Arg: arg, Op: impl.CpEq, Val: impl.Word{Low: low}} }
	p := impl.Policy{Arch: 7, Default: 100, Bad: 50, Rules: []impl.Rule{
		{Nr: 2, Action: 30, Cmps: []impl.Cmp{eq(0, 1)}},
		{Nr: 2, Action: 20, Cmps: []impl.Cmp{eq(1, 1)}},
		{Nr: 2, Action: 40, Cmps: []impl.Cmp{eq(2, 1)}},
		{Nr: 2, Action: 200, Cmps: []impl.Cmp{eq(3, 1)}},
		{Nr: 3, Action: 0},
		{Nr: 4, Action: impl.MaxWord},
		{Nr: 5, Action: 50},
	}}
	asked := func(nr, arch int64, lows ...int64) impl.Record {
		x := impl.Record{Nr: nr, Arch: arch, Args: make([]impl.Word, 6)}
		for i, low := range lows {
			x.Args[i].Low = low
		}
		return x
	}
	for _, c := range []struct {
		x    impl.Record
		want int64
	}{
		{asked(2, 7), 100}, {asked(2, 7, 1), 30}, {asked(2, 7, 0, 1), 20}, {asked(2, 7, 0, 0, 1), 40},
		{asked(2, 7, 1, 1), 20}, {asked(2, 7, 1, 0, 1), 30}, {asked(2, 7, 0, 1, 1), 20}, {asked(2, 7, 1, 1, 1, 1), 20},
		// More than Default, where no other one holds: Default is for none.
		{asked(2, 7, 0, 0, 0, 1), 200}, {asked(2, 7, 0, 0, 1, 1), 40}, {asked(4, 7), impl.MaxWord},
		{asked(3, 7), 0}, {asked(5, 7), 50}, {asked(6, 7), 100}, {asked(0, 7), 100}, {asked(impl.MaxWord, 7), 100},
		{asked(2, 8, 1, 1), 50}, {asked(3, 8), 50}, {asked(2, 0), 50}, {asked(4, impl.MaxWord), 50}, {asked(7, 2, 1), 50},
	} {
		same(t, fmt.Sprint(c.x), impl.Decide(p, c.x), c.want)
	}
	bare := impl.Policy{Arch: 7, Default: 100, Bad: 50}
	same(t, "no rules", impl.Decide(bare, asked(2, 7)), 100)
	same(t, "no rules, another Arch", impl.Decide(bare, asked(2, 8)), 50)
	same(t, "all noughts", impl.Decide(impl.Policy{}, asked(0, 0)), 0)
	same(t, "at the limits", impl.Decide(impl.Policy{Arch: impl.MaxWord, Default: impl.MaxWord}, asked(impl.MaxWord, impl.MaxWord)), impl.MaxWord)
	same(t, "Bad at the limit", impl.Decide(impl.Policy{Bad: impl.MaxWord}, asked(0, 1)), impl.MaxWord)
}

func TestDecideOfWhatIsNotRight(t *testing.T) {
	x := impl.Record{Nr: 2, Arch: 7, Args: make([]impl.Word, 6)}
	for _, p := range wrongPolicies() {
		same(t, fmt.Sprintf("%.300s", fmt.Sprint(p)), impl.Decide(p, x), -1)
		x.Arch = max(0, min(p.Arch, impl.MaxWord))
		same(t, fmt.Sprintf("its Arch, %.300s", fmt.Sprint(p)), impl.Decide(p, x), -1)
	}
	for _, x := range wrongRecords() {
		for _, p := range []impl.Policy{{}, {Arch: 7}, {Arch: x.Arch}, policyOf(3), policyOf(impl.MaxRules), {Arch: 7, Rules: []impl.Rule{{Nr: x.Nr, Action: 9}}}} {
			same(t, fmt.Sprintf("%.300s", fmt.Sprint(x, p)), impl.Decide(p, x), -1)
		}
	}
	same(t, "neither", impl.Decide(impl.Policy{Arch: -1}, impl.Record{}), -1)
}

// nearWord picks one of a few words, so that comparisons often meet what they are held against.
func nearWord(r *rand.Rand) impl.Word {
	if r.Intn(12) == 0 {
		return anyWord(r)
	}
	return impl.Word{High: r.Int63n(3), Low: r.Int63n(3)}
}

// anyRule is a right rule of one of a few Nrs, its Action unlike Default.
func anyRule(r *rand.Rand, without int64) impl.Rule {
	rule := impl.Rule{Nr: r.Int63n(3), Action: r.Int63n(9)}
	if rule.Action == without {
		rule.Action = impl.MaxWord - without
	}
	for arg := range int64(6) {
		if r.Intn(3) == 0 && len(rule.Cmps) < impl.MaxCmps {
			c := impl.Cmp{Arg: arg, Op: 1 + r.Int63n(7), Val: nearWord(r)}
			if c.Op == impl.CpMasked {
				c.Mask = nearWord(r)
			}
			rule.Cmps = append(rule.Cmps, c)
		}
	}
	return rule
}

// anyPolicy is a right policy of up to so many rules, put together by PolicyAdd.
func anyPolicy(t *testing.T, r *rand.Rand, size int) impl.Policy {
	t.Helper()
	p := impl.Policy{Arch: r.Int63n(2), Default: r.Int63n(9), Bad: edge(r, impl.MaxWord)}
	for range size {
		out := impl.PolicyAdd(p, anyRule(r, p.Default))
		same(t, "Code of PolicyAdd", out.Code, impl.OK)
		p = out.Policy
	}
	return p
}

// nearRecord is a right record, of which rules of anyRule often hold.
func nearRecord(r *rand.Rand) impl.Record {
	x := impl.Record{Nr: r.Int63n(3), Ip: anyWord(r)}
	if r.Intn(8) == 0 {
		x.Arch = edge(r, impl.MaxWord)
	}
	for range 6 {
		x.Args = append(x.Args, nearWord(r))
	}
	return x
}

func TestDecideOfAnyPolicy(t *testing.T) {
	r := rand.New(rand.NewSource(23))
	told := map[string]int{}
	for range 400 {
		p := anyPolicy(t, r, r.Intn(impl.MaxRules+1))
		same(t, "right", impl.PolicyRight(p), true)
		for range 30 {
			x := nearRecord(r)
			held := 0
			for _, rule := range p.Rules {
				want := holdsOf(rule, x)
				same(t, fmt.Sprint(rule, x), impl.RuleHolds(rule, x), want)
				if want {
					held++
				}
			}
			same(t, fmt.Sprint(p, x), impl.Decide(p, x), decided(p, x))
			told[fmt.Sprint("Bad ", x.Arch != p.Arch, ", held ", min(held, 2))]++
		}
	}
	for _, what := range []string{"Bad true, held 0", "Bad true, held 2", "Bad false, held 0", "Bad false, held 1", "Bad false, held 2"} {
		if told[what] < 200 {
			t.Errorf("%s: but %d times: %v", what, told[what], told)
		}
	}
}

// Where no rule held, the first one that holds is told in place of Default, be it less or not: chapter 7 says so.
func TestPromise6OneRuleMore(t *testing.T) {
	r := rand.New(rand.NewSource(24))
	told := map[string]int{}
	for range 3000 {
		p := anyPolicy(t, r, r.Intn(impl.MaxRules))
		rule := anyRule(r, p.Default)
		more := impl.PolicyAdd(p, rule).Policy
		for range 8 {
			x := nearRecord(r)
			before, after := impl.Decide(p, x), impl.Decide(more, x)
			held := slices.ContainsFunc(p.Rules, func(o impl.Rule) bool { return impl.RuleHolds(o, x) })
			what := "does not hold"
			want := before
			switch {
			case x.Arch != p.Arch:
				what = "another Arch"
			case impl.RuleHolds(rule, x) && held:
				what = "holds beside another"
				want = min(before, rule.Action)
			case impl.RuleHolds(rule, x):
				what = "holds alone"
				want = rule.Action
			}
			if after < before {
				what += ", less"
			}
			told[what]++
			same(t, fmt.Sprint(what, p, rule, x), after, want)
			if (held || p.Default > rule.Action) && after > before {
				t.Errorf("%v and %v of %v: got %d, more than %d", p, rule, x, after, before)
			}
		}
	}
	for _, what := range []string{"does not hold", "another Arch", "holds beside another", "holds beside another, less", "holds alone", "holds alone, less"} {
		if told[what] < 50 {
			t.Errorf("%s: but %d times: %v", what, told[what], told)
		}
	}
	same(t, "cases", len(told), 6)
}

func TestPromise6OneRuleLess(t *testing.T) {
	r := rand.New(rand.NewSource(25))
	for range 500 {
		p := anyPolicy(t, r, 1+r.Intn(12))
		if len(p.Rules) == 0 {
			continue
		}
		at := r.Intn(len(p.Rules))
		left := impl.PolicyDrop(p, int64(at)).Policy
		back := impl.PolicyAdd(left, p.Rules[at])
		same(t, "Code", back.Code, impl.OK)
		for range 10 {
			x := nearRecord(r)
			same(t, fmt.Sprint(left, x), impl.Decide(left, x), decided(left, x))
			if !impl.RuleHolds(p.Rules[at], x) {
				same(t, fmt.Sprint("did not hold ", p, at, x), impl.Decide(left, x), impl.Decide(p, x))
			}
			same(t, fmt.Sprint("dropped, and added behind ", p, at, x), impl.Decide(back.Policy, x), impl.Decide(p, x))
		}
	}
}

func TestPromise6InWhateverOrderRulesStand(t *testing.T) {
	r := rand.New(rand.NewSource(26))
	for range 600 {
		p := anyPolicy(t, r, r.Intn(impl.MaxRules+1))
		mixed := copyPolicy(p)
		r.Shuffle(len(mixed.Rules), func(i, j int) { mixed.Rules[i], mixed.Rules[j] = mixed.Rules[j], mixed.Rules[i] })
		turned := copyPolicy(p)
		slices.Reverse(turned.Rules)
		same(t, "right", impl.PolicyRight(mixed) && impl.PolicyRight(turned), true)
		for range 20 {
			x := nearRecord(r)
			want := impl.Decide(p, x)
			same(t, fmt.Sprint("mixed ", p, x), impl.Decide(mixed, x), want)
			same(t, fmt.Sprint("turned ", p, x), impl.Decide(turned, x), want)
		}
	}
	// All orders of a few rules, all of which hold.
	rules := []impl.Rule{{Action: 5}, {Action: 3}, {Action: 9}, {Action: 3, Cmps: cmpsOn(0)}}
	for i := range 256 {
		order := []int{i % 4, i / 4 % 4, i / 16 % 4, i / 64}
		p := impl.Policy{Default: 4}
		for _, at := range order {
			p = impl.PolicyAdd(p, rules[at]).Policy
		}
		if len(p.Rules) == 4 {
			same(t, fmt.Sprint(order), impl.Decide(p, impl.Record{Args: make([]impl.Word, 6)}), 3)
		}
	}
}

// roomy tells a policy, and a rule, whose lists have room behind them that others could write in.
func roomy() (impl.Policy, impl.Rule) {
	room := append(make([]impl.Cmp, 0, 20), cmpsOn(0, 1, 2)...)
	p := policyOf(5)
	p.Rules = append(make([]impl.Rule, 0, 20), p.Rules...)
	for at := range p.Rules {
		p.Rules[at].Cmps = room[:at%4]
	}
	return p, impl.Rule{Nr: 8, Action: 8, Cmps: room[:2]}
}

// keeps fails unless a policy and a rule, and what there is behind their lists, are what they were.
func keeps(t *testing.T, what string, p impl.Policy, r impl.Rule) {
	t.Helper()
	want, rule := roomy()
	behind := impl.PolicyOut{Policy: impl.Policy{Rules: p.Rules[:cap(p.Rules)]}}
	samePolicy(t, what, behind, impl.PolicyOut{Policy: impl.Policy{Rules: want.Rules[:cap(want.Rules)]}})
	samePolicy(t, what, impl.PolicyOut{Policy: p}, impl.PolicyOut{Policy: want})
	if !slices.Equal(r.Cmps[:cap(r.Cmps)], rule.Cmps[:cap(rule.Cmps)]) {
		t.Errorf("%s: a list within was changed", what)
	}
}

// overwrite writes into all that an answer has, and into the room behind.
func overwrite(p impl.Policy) {
	for _, r := range p.Rules[:cap(p.Rules)] {
		for i := range r.Cmps[:cap(r.Cmps)] {
			r.Cmps[:cap(r.Cmps)][i] = impl.Cmp{Arg: -9}
		}
	}
	for i := range p.Rules[:cap(p.Rules)] {
		p.Rules[:cap(p.Rules)][i] = impl.Rule{Nr: -9}
	}
}

func TestRulesChangeNothingAndShareNothing(t *testing.T) {
	p, r := roomy()
	x := impl.Record{Nr: 8, Arch: 7, Args: make([]impl.Word, 6, 9)}
	args := slices.Clone(x.Args[:9])
	for _, c := range []struct {
		what string
		call func() impl.PolicyOut
	}{
		{"PolicyAdd", func() impl.PolicyOut { return impl.PolicyAdd(p, r) }},
		{"PolicyAdd of one that is there", func() impl.PolicyOut { return impl.PolicyAdd(p, p.Rules[3]) }},
		{"PolicyDrop of the first", func() impl.PolicyOut { return impl.PolicyDrop(p, 0) }},
		{"PolicyDrop of one between", func() impl.PolicyOut { return impl.PolicyDrop(p, 2) }},
		{"PolicyDrop of the last", func() impl.PolicyOut { return impl.PolicyDrop(p, 4) }},
	} {
		out := c.call()
		same(t, c.what, out.Code, impl.OK)
		keeps(t, c.what, p, r)
		// Its lists share no memory: what is written into one is not seen in another one.
		for at := range out.Policy.Rules {
			one := impl.PolicyOut{Policy: copyPolicy(out.Policy)}
			one.Policy.Rules[at].Cmps = nil
			clear(out.Policy.Rules[at].Cmps[:cap(out.Policy.Rules[at].Cmps)])
			out.Policy.Rules[at].Cmps = nil
			samePolicy(t, fmt.Sprint(c.what, " its list ", at), impl.PolicyOut{Policy: out.Policy}, one)
		}
		out = c.call()
		overwrite(out.Policy)
		keeps(t, c.what+", then written over", p, r)
	}
	impl.Decide(p, x)
	impl.RuleHolds(r, x)
	impl.RuleSame(r, p.Rules[2])
	impl.PolicyRight(p)
	keeps(t, "Decide and others", p, r)
	if !slices.Equal(x.Args[:9], args) {
		t.Errorf("a call changed the record's Args")
	}
}

func TestRulesOfAnyNumbers(t *testing.T) {
	r := rand.New(rand.NewSource(27))
	some := func() int64 {
		if r.Intn(12) == 0 {
			return wrongHalves()[r.Intn(8)]
		}
		return r.Int63n(7)
	}
	someW := func() impl.Word { return impl.Word{High: some(), Low: some()} }
	rightWord := func(w impl.Word) bool { return min(w.High, w.Low) >= 0 && max(w.High, w.Low) <= impl.MaxWord }
	rights := 0
	for range 20000 {
		rule, right := impl.Rule{Nr: some(), Action: some()}, true
		for range r.Intn(4) {
			c := impl.Cmp{Arg: some(), Op: some(), Val: someW()}
			if r.Intn(3) == 0 {
				c.Op, c.Mask = impl.CpMasked, someW()
			}
			rightCmp := c.Arg >= 0 && c.Arg <= 5 && c.Op >= 1 && c.Op <= 7 && rightWord(c.Val) && rightWord(c.Mask)
			same(t, fmt.Sprint(c), impl.CmpRight(c), rightCmp)
			right = right && rightCmp
			rule.Cmps = append(rule.Cmps, c)
		}
		for i := 1; i < len(rule.Cmps); i++ {
			right = right && rule.Cmps[i-1].Arg < rule.Cmps[i].Arg
		}
		right = right && rightWord(impl.Word{High: rule.Nr, Low: rule.Action})
		same(t, fmt.Sprint(rule), impl.RuleRight(rule), right)
		p := impl.Policy{Arch: some(), Default: some(), Bad: some(), Rules: []impl.Rule{rule}}
		right = right && rightWord(impl.Word{High: p.Arch, Low: p.Bad}) && rightWord(impl.Word{High: p.Default}) && p.Default != rule.Action
		same(t, fmt.Sprint(p), impl.PolicyRight(p), right)
		x := nearRecord(r)
		want := int64(-1)
		if right {
			rights++
			want = decided(p, x)
		}
		same(t, fmt.Sprint(p, x), impl.Decide(p, x), want)
	}
	if rights < 2000 {
		t.Errorf("but %d policies were right", rights)
	}
}
