package tests

import (
	"fmt"
	"math/rand"
	"regexp"
	"slices"
	"strconv"
	"strings"
	"testing"

	"loop.example/s0083/impl"
)

// ruleIs fails unless RuleRead tells just that of a text.
func ruleIs(t *testing.T, text string, want impl.RuleOut) {
	t.Helper()
	got := impl.RuleRead(text)
	if !sameRule(got.Rule, want.Rule) || got.Code != want.Code {
		t.Errorf("%.300q: got %+v, want %+v", text, got, want)
	}
}

// policyIs fails unless PolicyRead tells just that of a text.
func policyIs(t *testing.T, text string, want impl.PolicyOut) {
	t.Helper()
	samePolicy(t, fmt.Sprintf("%.300q", text), impl.PolicyRead(text), want)
}

// isNoRule fails unless a text without a line feed is refused, alone and as a line of a policy, whatever lines stand around it.
func isNoRule(t *testing.T, text string) {
	t.Helper()
	ruleIs(t, text, impl.RuleOut{Code: impl.ErrSyntax})
	isNoPolicy(t, "policy 7 100 1\nrule "+text+"\n")
	isNoPolicy(t, "policy 7 100 1\nrule 8 8\nrule "+text+"\nrule 9 9\n")
}

// isNoPolicy fails unless a text is refused.
func isNoPolicy(t *testing.T, text string) {
	t.Helper()
	policyIs(t, text, impl.PolicyOut{Code: impl.ErrSyntax})
}

// isRule fails unless that rule is read of a text, alone and as a line of a policy.
func isRule(t *testing.T, text string, want impl.Rule) {
	t.Helper()
	ruleIs(t, text, impl.RuleOut{Rule: want})
	policyIs(t, "policy 7 77 1\nrule "+text+"\n", impl.PolicyOut{Policy: impl.Policy{Arch: 7, Default: 77, Bad: 1, Rules: []impl.Rule{want}}})
}

// cmpName tells the word of a comparison, and one that is none for another Op.
func cmpName(op int64) string {
	name := map[int64]string{1: "eq", 2: "ne", 3: "lt", 4: "le", 5: "gt", 6: "ge", 7: "masked"}[op]
	if name == "" {
		return fmt.Sprint("op", op)
	}
	return name
}

// textOfRule writes a rule as chapter 11 says, and one that is not right likewise: with a Mask where none belongs, if it has one.
func textOfRule(r impl.Rule) string {
	var out strings.Builder
	fmt.Fprint(&out, r.Nr, " ", r.Action)
	for _, c := range r.Cmps {
		fmt.Fprint(&out, " ", c.Arg, " ", cmpName(c.Op))
		if c.Op == impl.CpMasked || c.Mask != (impl.Word{}) {
			fmt.Fprintf(&out, " %d:%d", c.Mask.High, c.Mask.Low)
		}
		fmt.Fprintf(&out, " %d:%d", c.Val.High, c.Val.Low)
	}
	return out.String()
}

// textOfPolicy writes a policy as chapter 11 says, be it right or not.
func textOfPolicy(p impl.Policy) string {
	var out strings.Builder
	fmt.Fprintf(&out, "policy %d %d %d\n", p.Arch, p.Default, p.Bad)
	for _, r := range p.Rules {
		fmt.Fprintf(&out, "rule %s\n", textOfRule(r))
	}
	return out.String()
}

// formOf makes a pattern of a whole text of one where N stands for a number, and W for a WordText.
func formOf(form string) *regexp.Regexp {
	form = strings.ReplaceAll(form, "W", "N:N")
	return regexp.MustCompile(strings.ReplaceAll(form, "N", "(0|[1-9][0-9]{0,9})"))
}

var (
	headForm = formOf(`^policy N N N\n$`)
	ruleForm = formOf(`^N N((?: [0-5] (?:eq|ne|lt|le|gt|ge|masked W) W){0,3})$`)
	cmpForm  = formOf(` ([0-5]) (eq|ne|lt|le|gt|ge|masked W) W`)
)

// numberOf reads what a pattern let by, and notes what has more than 32 bits.
func numberOf(digits string, right *bool) int64 {
	n, err := strconv.ParseInt(digits, 10, 64)
	*right = *right && err == nil && n <= impl.MaxWord
	return n
}

// ruleOf is what chapter 11 says of a rule's text, by patterns.
func ruleOf(text string) (impl.Rule, bool) {
	m := ruleForm.FindStringSubmatch(text)
	if m == nil {
		return impl.Rule{}, false
	}
	right := true
	r := impl.Rule{Nr: numberOf(m[1], &right), Action: numberOf(m[2], &right)}
	ahead := int64(-1)
	for _, f := range cmpForm.FindAllStringSubmatch(m[3], -1) {
		name, mask, masked := strings.Cut(f[2], " ")
		c := impl.Cmp{Arg: numberOf(f[1], &right), Val: impl.Word{High: numberOf(f[5], &right), Low: numberOf(f[6], &right)}}
		for _, op := range cmpOps() {
			if cmpName(op) == name {
				c.Op = op
			}
		}
		if masked {
			high, low, _ := strings.Cut(mask, ":")
			c.Mask = impl.Word{High: numberOf(high, &right), Low: numberOf(low, &right)}
		}
		right = right && c.Arg > ahead
		ahead = c.Arg
		r.Cmps = append(r.Cmps, c)
	}
	return r, right
}

// policyRead is what PolicyRead should tell of at most MaxBytes bytes, by patterns of whole lines.
func policyRead(text string) impl.PolicyOut {
	wrong := impl.PolicyOut{Code: impl.ErrSyntax}
	lines := strings.SplitAfter(text, "\n")
	m := headForm.FindStringSubmatch(lines[0])
	if m == nil || lines[len(lines)-1] != "" || len(lines)-2 > impl.MaxRules {
		return wrong
	}
	right := true
	p := impl.Policy{Arch: numberOf(m[1], &right), Default: numberOf(m[2], &right), Bad: numberOf(m[3], &right)}
	for _, line := range lines[1 : len(lines)-1] {
		rest, begins := strings.CutPrefix(strings.TrimSuffix(line, "\n"), "rule ")
		r, is := ruleOf(rest)
		there := slices.ContainsFunc(p.Rules, func(other impl.Rule) bool { return sameRule(other, r) })
		right = right && begins && is && !there && r.Action != p.Default
		p.Rules = append(p.Rules, r)
	}
	if !right {
		return wrong
	}
	return impl.PolicyOut{Policy: p}
}

// ruleRead is what RuleRead should tell of at most MaxBytes bytes.
func ruleRead(text string) impl.RuleOut {
	r, right := ruleOf(text)
	if !right {
		return impl.RuleOut{Code: impl.ErrSyntax}
	}
	return impl.RuleOut{Rule: r}
}

// longestText tells the policy that has the longest text of all, and that text.
func longestText() (impl.Policy, string) {
	most := impl.Word{High: impl.MaxWord, Low: impl.MaxWord}
	p := impl.Policy{Arch: impl.MaxWord, Default: impl.MaxWord, Bad: impl.MaxWord}
	for i := range int64(impl.MaxRules) {
		var cmps []impl.Cmp
		for arg := range int64(impl.MaxCmps) {
			cmps = append(cmps, impl.Cmp{Arg: 2 * arg, Op: impl.CpMasked, Mask: most, Val: most})
		}
		p.Rules = append(p.Rules, impl.Rule{Nr: impl.MaxWord, Action: impl.MaxWord - 1 - i, Cmps: cmps})
	}
	return p, textOfPolicy(p)
}

func TestRuleReadOfEachWord(t *testing.T) {
	val := impl.Word{High: 3, Low: 4}
	for text, c := range map[string]impl.Cmp{
		"5 eq 3:4":                           {Arg: 5, Op: impl.CpEq, Val: val},
		"4 ne 3:4":                           {Arg: 4, Op: impl.CpNe, Val: val},
		"3 lt 3:4":                           {Arg: 3, Op: impl.CpLt, Val: val},
		"2 le 3:4":                           {Arg: 2, Op: impl.CpLe, Val: val},
		"1 gt 3:4":                           {Arg: 1, Op: impl.CpGt, Val: val},
		"0 ge 3:4":                           {Arg: 0, Op: impl.CpGe, Val: val},
		"1 masked 1:2 3:4":                   {Arg: 1, Op: impl.CpMasked, Mask: impl.Word{High: 1, Low: 2}, Val: val},
		"0 masked 0:0 3:4":                   {Op: impl.CpMasked, Val: val},
		"0 masked 4294967295:0 0:4294967295": {Op: impl.CpMasked, Mask: impl.Word{High: impl.MaxWord}, Val: impl.Word{Low: impl.MaxWord}},
		"0 eq 0:0":                           {Op: impl.CpEq},
		"0 eq 4294967295:4294967295":         {Op: impl.CpEq, Val: impl.Word{High: impl.MaxWord, Low: impl.MaxWord}},
	} {
		isRule(t, "2 9 "+text, impl.Rule{Nr: 2, Action: 9, Cmps: []impl.Cmp{c}})
	}
}

func TestRuleReadOfRightRules(t *testing.T) {
	isRule(t, "0 0", impl.Rule{})
	isRule(t, "2 9", impl.Rule{Nr: 2, Action: 9})
	isRule(t, "10 1000000000", impl.Rule{Nr: 10, Action: 1000000000})
	isRule(t, "4294967295 4294967295", impl.Rule{Nr: impl.MaxWord, Action: impl.MaxWord})
	isRule(t, "2 9 0 eq 1:2 3 ge 3:4", impl.Rule{Nr: 2, Action: 9, Cmps: []impl.Cmp{
		{Op: impl.CpEq, Val: impl.Word{High: 1, Low: 2}}, {Arg: 3, Op: impl.CpGe, Val: impl.Word{High: 3, Low: 4}}}})
	isRule(t, "2 9 1 lt 1:2 2 masked 3:4 5:6 5 ne 7:8", impl.Rule{Nr: 2, Action: 9, Cmps: []impl.Cmp{
		{Arg: 1, Op: impl.CpLt, Val: impl.Word{High: 1, Low: 2}},
		{Arg: 2, Op: impl.CpMasked, Mask: impl.Word{High: 3, Low: 4}, Val: impl.Word{High: 5, Low: 6}},
		{Arg: 5, Op: impl.CpNe, Val: impl.Word{High: 7, Low: 8}}}})
	// A Val has bits that the Mask has not: it holds of no word, but it is right.
	isRule(t, "2 9 0 masked 1:0 2:0", impl.Rule{Nr: 2, Action: 9, Cmps: []impl.Cmp{
		{Op: impl.CpMasked, Mask: impl.Word{High: 1}, Val: impl.Word{High: 2}}}})
	for _, r := range append(rightRules(), manyRules(impl.MaxRules)...) {
		isRule(t, textOfRule(r), r)
	}
	r := rand.New(rand.NewSource(41))
	for range 3000 {
		rule := anyRule(r, 77)
		isRule(t, textOfRule(rule), rule)
	}
}

func TestRuleReadOfWhatIsNotRight(t *testing.T) {
	for _, r := range wrongRules() {
		text := textOfRule(r)
		code := int64(impl.ErrSyntax)
		if len(text) > impl.MaxBytes {
			code = impl.ErrSize
		}
		ruleIs(t, text, impl.RuleOut{Code: code})
		policyIs(t, "policy 7 77 1\nrule "+text+"\n", impl.PolicyOut{Code: code})
	}
}

func TestRuleReadFaults(t *testing.T) {
	for _, text := range []string{
		"", " ", "2", "2 ", " 2", "9 9 ", " 2 9", "2  9", "2\t9", "2,9", "2 9\n", "\n2 9", "2 9\r", "2 9\x00", "rule 2 9", "2:9", "0:2 9", "2 0:9", "2 9 ;",
		// Words that are none, or of another case, or one in place of another thing.
		"2 9 0 is 0:4", "2 9 0 EQ 0:4", "2 9 0 Eq 0:4", "2 9 0 e 0:4", "2 9 0 eqq 0:4", "2 9 0 eqx 0:4", "2 9 0  0:4", "2 9 0 1 0:4", "2 9 0 == 0:4",
		"2 9 0 mask 0:1 0:4", "2 9 0 masked: 0:1 0:4", "2 9 0 set 0:4", "2 9 0 0 0:4", "2 9 0 7 0:1 0:4", "2 9 eq eq 0:4", "eq 9 0 eq 0:4", "2 eq 0 eq 0:4", "2 9 0 eq eq",
		"2 9 0 eq\x00 0:4", "2 9 0 \xff 0:4", "2 9 0 eq\xff 0:4",
		// Cut off, from the end on and from the beginning on.
		"2 9 0", "2 9 0 ", "2 9 0 eq", "2 9 0 eq ", "2 9 0 eq 0", "2 9 0 eq 0:", "2 9 0 masked", "2 9 0 masked 0:1", "2 9 0 masked 0:1 ", "2 9 0 masked 0:1 0", "2 9 0 masked 0:1 0:",
		"2 9 0 eq :4", "2 9 0 eq :", "2 9 eq 0:4", "2 9 0 0:4", "2 9 0:4", "2 9 0 eq 0:4 1", "2 9 0 eq 0:4 1 eq", "2 9 0 eq 0:4 0:5 1 eq", "2 9 0 eq 0:4 eq 0:5",
		// Words of 64 bits that are none.
		"2 9 0 eq 4", "2 9 0 eq 0:0:4", "2 9 0 eq 0::4", "2 9 0 eq 0:4:", "2 9 0 eq :0:4", "2 9 0 eq 0: 4", "2 9 0 eq 0 :4", "2 9 0 eq 0 : 4", "2 9 0 eq 0 4", "2 9 0 eq 0;4", "2 9 0 eq 0.4",
		// A Mask where none belongs, be it zero or not, and none where one belongs; three words where two belong.
		"2 9 0 eq 0:0 0:4", "2 9 0 eq 0:1 0:4", "2 9 0 ne 0:0 0:4", "2 9 0 lt 0:0 0:4", "2 9 0 le 0:0 0:4", "2 9 0 gt 0:0 0:4", "2 9 0 ge 0:0 0:4",
		"2 9 0 masked 0:4", "2 9 0 masked 0:4 1 eq 0:5", "2 9 0 masked 0:1 0:2 0:3", "2 9 0 eq 0:1 0:2 1 eq 0:5",
		// Args beyond the last one, or which do not rise, and too many.
		"2 9 6 eq 0:4", "2 9 7 eq 0:4", "2 9 10 eq 0:4", "2 9 -1 eq 0:4", "2 9 00 eq 0:4", "2 9 05 eq 0:4", "2 9 0:1 eq 0:4", "2 9 4294967296 eq 0:4", "2 9 4294967295 eq 0:4", "2 9 0 eq 0:4 6 eq 0:4",
		"2 9 0 eq 0:4 0 eq 0:4", "2 9 0 eq 0:4 0 gt 0:3", "2 9 1 eq 0:4 0 eq 0:4", "2 9 0 eq 0:4 1 eq 0:4 1 eq 0:4", "2 9 0 eq 0:4 2 eq 0:4 1 eq 0:4", "2 9 2 eq 0:4 1 eq 0:4 0 eq 0:4",
		"2 9 0 eq 0:4 1 eq 0:4 2 eq 0:4 3 eq 0:4", "2 9 2 eq 0:4 3 eq 0:4 4 eq 0:4 5 eq 0:4", "2 9 0 eq 0:4 1 eq 0:4 2 eq 0:4 3", "2 9 0 eq 0:4 1 eq 0:4 2 eq 0:4 9",
	} {
		if strings.Contains(text, "\n") {
			ruleIs(t, text, impl.RuleOut{Code: impl.ErrSyntax})
			continue
		}
		isNoRule(t, text)
	}
	// No rule, though each line of it were one in a policy.
	ruleIs(t, "2 9\nrule 3 9", impl.RuleOut{Code: impl.ErrSyntax})
	ruleIs(t, "policy 7 100 1\nrule 2 9\n", impl.RuleOut{Code: impl.ErrSyntax})
}

// wrongDigits holds texts that are no numbers from 0 to MaxWord without needless noughts.
func wrongDigits() []string {
	return []string{"", "00", "01", "007", "00000000001", "-1", "-0", "+0", "+1", "- 1", "4294967296", "4294967297", "9999999999", "10000000000", "42949672950",
		"18446744073709551616", "18446744073709551617", "1e1", "0x1", "1.0", "1_0", "1,0", "a", "1a", "a1", "/", "1:", " 1", "1 ", "1\t", "1\x00", "\x801", "\u0661", "\uff11"}
}

func TestRuleReadOfEachNumber(t *testing.T) {
	// Of the numbers the Args stand at 2 and 7; blanks, words and colons are kept as they are.
	parts := []string{"", " ", " ", " masked ", ":", " ", ":", " ", " lt ", ":", ""}
	numbers := []string{"12", "34", "0", "5", "6", "7", "8", "3", "9", "10"}
	text := func(at int, digits string) string {
		l := slices.Clone(numbers)
		l[at] = digits
		var out strings.Builder
		for i, n := range l {
			out.WriteString(parts[i] + n)
		}
		return out.String()
	}
	isRule(t, text(0, "12"), impl.Rule{Nr: 12, Action: 34, Cmps: []impl.Cmp{
		{Op: impl.CpMasked, Mask: impl.Word{High: 5, Low: 6}, Val: impl.Word{High: 7, Low: 8}}, {Arg: 3, Op: impl.CpLt, Val: impl.Word{High: 9, Low: 10}}}})
	for at := range numbers {
		for _, digits := range wrongDigits() {
			isNoRule(t, text(at, digits))
		}
		for _, digits := range []string{"0", "1", "2", "5", "6", "9", "10", "99", "1000000000", "1234567890", "2147483648", "4294967294", "4294967295"} {
			want := ruleRead(text(at, digits))
			ruleIs(t, text(at, digits), want)
			isArg := at == 2 || at == 7
			same(t, text(at, digits), want.Code == impl.OK, !isArg || at == 2 && digits < "3" && len(digits) == 1 || at == 7 && digits < "6" && digits != "0" && len(digits) == 1)
		}
	}
}

func TestRuleReadOfEachBlank(t *testing.T) {
	const text = "2 9 1 lt 1:2 2 masked 3:4 5:6 5 ne 7:8"
	for at := range len(text) {
		// Two, or another one in its place, or one where none belongs.
		for _, other := range []string{"  ", "\t", "\v", "\r", "", "\u00a0", "\u2003", " \t", "_", "\x00"} {
			if text[at] == ' ' {
				isNoRule(t, text[:at]+other+text[at+1:])
			}
		}
		isNoRule(t, text[:at]+" "+text[at:at+1]+" "+text[at+1:])
	}
	for _, other := range []string{" ", "  ", "\t", "\r", "\x00", "\xff"} {
		isNoRule(t, text+other)
		isNoRule(t, other+text)
	}
}

func TestRuleReadOfEachCut(t *testing.T) {
	const text = "2 19 1 lt 1:25 2 masked 3:4 5:6 5 ne 7:84"
	rights := 0
	for from := range len(text) {
		for to := from; to <= len(text); to++ {
			want := ruleRead(text[from:to])
			ruleIs(t, text[from:to], want)
			if want.Code == impl.OK && from == 0 {
				rights++
			}
		}
	}
	// One digit of the Action, and both; and so on for the last digit of the Vals.
	same(t, "beginnings that are rules", rights, 2+2+1+2)
}

func TestPolicyRead(t *testing.T) {
	gt := impl.Cmp{Op: impl.CpGt, Val: impl.Word{Low: 4}}
	masked := impl.Cmp{Arg: 1, Op: impl.CpMasked, Mask: impl.Word{High: 3}, Val: impl.Word{High: 1}}
	for text, want := range map[string]impl.Policy{
		"policy 0 0 0\n":   {},
		"policy 7 100 1\n": {Arch: 7, Default: 100, Bad: 1},
		"policy 4294967295 4294967295 4294967295\n": {Arch: impl.MaxWord, Default: impl.MaxWord, Bad: impl.MaxWord},
		"policy 7 100 1\nrule 2 9\n":                {Arch: 7, Default: 100, Bad: 1, Rules: []impl.Rule{{Nr: 2, Action: 9}}},
		"policy 7 100 1\nrule 2 1\n":                {Arch: 7, Default: 100, Bad: 1, Rules: []impl.Rule{{Nr: 2, Action: 1}}},
		"policy 7 0 1\nrule 0 4294967295\n":         {Arch: 7, Bad: 1, Rules: []impl.Rule{{Action: impl.MaxWord}}},
		"policy 7 100 1\nrule 2 9 0 gt 0:4\nrule 2 5 1 masked 3:0 1:0\nrule 4 9\n": {Arch: 7, Default: 100, Bad: 1, Rules: []impl.Rule{
			{Nr: 2, Action: 9, Cmps: []impl.Cmp{gt}}, {Nr: 2, Action: 5, Cmps: []impl.Cmp{masked}}, {Nr: 4, Action: 9}}},
		// Rules keep the order of their lines, whatever their Nrs and Actions.
		"policy 7 100 1\nrule 4 9\nrule 2 9 0 gt 0:4\nrule 3 1\nrule 2 9\n": {Arch: 7, Default: 100, Bad: 1, Rules: []impl.Rule{
			{Nr: 4, Action: 9}, {Nr: 2, Action: 9, Cmps: []impl.Cmp{gt}}, {Nr: 3, Action: 1}, {Nr: 2, Action: 9}}},
	} {
		policyIs(t, text, impl.PolicyOut{Policy: want})
	}
	for size := range impl.MaxRules + 1 {
		policyIs(t, textOfPolicy(policyOf(size)), impl.PolicyOut{Policy: policyOf(size)})
	}
	policyIs(t, textOfPolicy(longestPolicy()), impl.PolicyOut{Policy: longestPolicy()})
	r := rand.New(rand.NewSource(42))
	for range 1500 {
		p := anyPolicy(t, r, r.Intn(impl.MaxRules+1))
		policyIs(t, textOfPolicy(p), impl.PolicyOut{Policy: p})
	}
}

func TestPolicyReadOfWhatIsNotRight(t *testing.T) {
	for _, p := range wrongPolicies() {
		text := textOfPolicy(p)
		code := int64(impl.ErrSyntax)
		if len(text) > impl.MaxBytes {
			code = impl.ErrSize
		}
		policyIs(t, text, impl.PolicyOut{Code: code})
	}
	for _, size := range []int{25, 26, 100, 300} {
		// Short enough lines, so that these are no texts of more than MaxBytes bytes.
		text := "policy 7 100 1\n"
		for i := range size {
			text += fmt.Sprint("rule ", i, " 1\n")
		}
		isNoPolicy(t, text)
	}
	for _, text := range []string{
		// The same rule twice, next to itself and not, with and without Cmps; and one with Default as its Action.
		"policy 7 100 1\nrule 2 9\nrule 2 9\n", "policy 7 100 1\nrule 2 9\nrule 3 9\nrule 2 9\n",
		"policy 7 100 1\nrule 2 9 0 masked 1:2 3:4\nrule 2 9\nrule 2 9 0 masked 1:2 3:4\n",
		"policy 7 100 1\nrule 2 100\n", "policy 7 100 1\nrule 2 9\nrule 2 100 0 eq 0:4\n", "policy 0 0 0\nrule 2 0\n", "policy 7 100 1\nrule 2 100\nrule 3 9\n",
	} {
		isNoPolicy(t, text)
	}
}

func TestPolicyReadFaults(t *testing.T) {
	for _, text := range []string{
		"", " ", "\n", "\n\n", "policy", "policy\n", "policy \n", "policy 7\n", "policy 7 100\n", "policy 7 100 \n", "policy 7 100 1", "policy 7 100 1 \n", "policy 7 100 1 2\n",
		" policy 7 100 1\n", "policy  7 100 1\n", "policy 7  100 1\n", "policy\t7 100 1\n", "policy 7\t100 1\n", "policy 7 100 1\r\n", "policy 7 100 1\x00\n", "7 100 1\n", "Policy 7 100 1\n",
		"POLICY 7 100 1\n", "polic 7 100 1\n", "policyy 7 100 1\n", "policy7 100 1\n", "rule 7 100 1\n", "rule 7 100\n", "policy 7 100 0:1\n", "policy 7 100 1 0 eq 0:4\n", "2 9",
		"policy policy 7 100 1\n", "policy 7 100 policy\n",
		// A line without its line feed, an empty one, and one ahead of the first, or of that kind behind it.
		"policy 7 100 1\nrule 2 9", "policy 7 100 1\nrule 2 9\nrule 3 9", "policy 7 100 1\nr", "policy 7 100 1\n ", "policy 7 100 1\n\n", "policy 7 100 1\n\nrule 2 9\n",
		"policy 7 100 1\nrule 2 9\n\n", "policy 7 100 1\nrule 2 9\n\nrule 3 9\n", "\npolicy 7 100 1\n", "\npolicy 7 100 1\nrule 2 9\n", "rule 2 9\npolicy 7 100 1\n", "rule 2 9\n", "rule 2 9",
		"rule 2 9\npolicy 7 100 1\nrule 3 9\n", "policy 7 100 1\npolicy 7 100 1\n", "policy 7 100 1\nrule 2 9\npolicy 7 100 1\n", "policy 7 100 1 rule 2 9\n", "policy 7 100 1rule 2 9\n",
		// Lines that begin with another thing than a rule's.
		"policy 7 100 1\nrule\n", "policy 7 100 1\nrule \n", "policy 7 100 1\nrule2 9\n", "policy 7 100 1\n2 9\n", "policy 7 100 1\n rule 2 9\n", "policy 7 100 1\nrule  2 9\n",
		"policy 7 100 1\nrule\t2 9\n", "policy 7 100 1\nRule 2 9\n", "policy 7 100 1\nrules 2 9\n", "policy 7 100 1\nadd 2 9\n", "policy 7 100 1\nrule rule 2 9\n", "policy 7 100 1\n: 2 9\n",
		"policy 7 100 1\nrule 2 9 \n", "policy 7 100 1\nrule 2 9\r\n", "policy 7 100 1\nrule 2 9\x00\n", "policy 7 100 1\nrule 2 9\xff\n", "policy 7 100 1\nrule 2\n", "policy 7 100 1\nrule 2 9 rule 3 9\n",
		"policy 7 100 1\nrule 2 9\v", "policy 7 100 1\nrule 2 9\u2028", "policy 7 100 1\r", "policy 7 100 1\nrule 2\n9\n", "policy 7 100\n1\n",
	} {
		isNoPolicy(t, text)
	}
	for _, digits := range wrongDigits() {
		isNoPolicy(t, "policy "+digits+" 100 1\nrule 2 9\n")
		isNoPolicy(t, "policy 7 "+digits+" 1\n")
		isNoPolicy(t, "policy 7 100 "+digits+"\n")
	}
	// What is wrong with one line alone, at each place among many.
	lines := strings.SplitAfter(strings.TrimSuffix(textOfPolicy(policyOf(impl.MaxRules)), "\n"), "\n")
	lines[len(lines)-1] += "\n"
	policyIs(t, strings.Join(lines, ""), impl.PolicyOut{Policy: policyOf(impl.MaxRules)})
	for at, line := range lines {
		for _, other := range []string{"", "\n", " " + line, strings.TrimSuffix(line, "\n"), strings.TrimSuffix(line, "\n") + " \n", line + "\n", "\n" + line,
			strings.Replace(line, " ", "  ", 1), strings.Replace(line, " ", "", 1), line + line, strings.ToUpper(line)} {
			if other == "" && at > 0 {
				// With one rule less it is a policy still.
				continue
			}
			isNoPolicy(t, strings.Join(slices.Concat(lines[:at], []string{other}, lines[at+1:]), ""))
		}
	}
}

func TestRulesAsTextOfManyBytes(t *testing.T) {
	p, text := longestText()
	same(t, "bytes of the longest text of a policy", len(text), 4504)
	policyIs(t, text, impl.PolicyOut{Policy: p})
	_, rest, _ := strings.Cut(text, "\nrule ")
	rule, _, _ := strings.Cut(rest, "\n")
	isRule(t, rule, p.Rules[0])
	for _, size := range []int{impl.MaxBytes - 1, impl.MaxBytes, impl.MaxBytes + 1, impl.MaxBytes + 2, 100000} {
		code := int64(impl.ErrSyntax)
		if size > impl.MaxBytes {
			code = impl.ErrSize
		}
		fill := func(text, one string) string { return (text + strings.Repeat(one, size))[:size] }
		for _, text := range []string{
			fill("", " "), fill("", "\n"), fill("", "0"), fill("", "\x00"), fill("", "\xff"), fill("", ":"), fill("2 9", " "), fill("2 ", "9"), fill("2 9", "\n"), fill("2 9 0 eq 0:", "0"),
			fill("2 9", " 0 eq 0:4"), fill("2 9 0 masked 1:2", ":3"), fill(rule, " "), fill(text, "\n"), fill(text, "rule 2 9\n"), fill(text, " "), fill("policy 7 100 1\n", "rule 2 9\n"),
			fill("policy 7 100 1\n", "\n"), fill("policy ", "1"), fill("", "policy 7 100 1\n"), fill("policy 7 100 1\nrule 2 9", " 0 eq 0:4"),
		} {
			same(t, "bytes", len(text), size)
			ruleIs(t, text, impl.RuleOut{Code: code})
			policyIs(t, text, impl.PolicyOut{Code: code})
		}
	}
}

// someChange makes one change to a text, of a byte or of a word.
func someChange(r *rand.Rand, text string) string {
	const pick = "0123456789 \n\n   ::eqnltgmaskdru-+\x00"
	if r.Intn(3) == 0 {
		words := strings.Split(text, " ")
		at, other := r.Intn(len(words)), r.Intn(len(words))
		words[at], words[other] = words[other], words[at]
		if r.Intn(2) == 0 {
			words = slices.Delete(words, at, at+1)
		}
		return strings.Join(words, " ")
	}
	at := r.Intn(len(text) + 1)
	behind := min(at+r.Intn(2), len(text))
	one := []string{"", string(pick[r.Intn(len(pick))])}[r.Intn(2)]
	return text[:at] + one + text[behind:]
}

func TestRuleReadOfAnyText(t *testing.T) {
	r := rand.New(rand.NewSource(43))
	told := map[int64]int{}
	for range 40000 {
		text := textOfRule(anyRule(r, 77))
		for range r.Intn(3) {
			text = someChange(r, text)
		}
		want := ruleRead(text)
		told[want.Code]++
		ruleIs(t, text, want)
	}
	if told[impl.OK] < 5000 || told[impl.ErrSyntax] < 5000 {
		t.Errorf("but %v", told)
	}
}

func TestPolicyReadOfAnyText(t *testing.T) {
	r := rand.New(rand.NewSource(44))
	told := map[int64]int{}
	for range 15000 {
		text := textOfPolicy(anyPolicy(t, r, r.Intn(4)))
		for range r.Intn(3) {
			text = someChange(r, text)
		}
		want := policyRead(text)
		told[want.Code]++
		policyIs(t, text, want)
	}
	if told[impl.OK] < 2000 || told[impl.ErrSyntax] < 2000 {
		t.Errorf("but %v", told)
	}
}

func TestWhatIsReadIsNewMemory(t *testing.T) {
	p, _ := longestText()
	p.Rules = append(p.Rules[:5], impl.Rule{Nr: 2, Action: 9})
	text := textOfPolicy(p)
	for at := range p.Rules {
		one := impl.PolicyRead(text)
		want := changedPolicy(p, func(p *impl.Policy) { p.Rules[at].Cmps = nil })
		// Its lists share no memory: what is written into one, and behind it, is not seen in another one.
		clear(one.Policy.Rules[at].Cmps[:cap(one.Policy.Rules[at].Cmps)])
		one.Policy.Rules[at].Cmps = nil
		samePolicy(t, fmt.Sprint("its list ", at), one, impl.PolicyOut{Policy: want})

		rule := impl.RuleRead(textOfRule(p.Rules[at]))
		clear(rule.Rule.Cmps[:cap(rule.Rule.Cmps)])
		isRule(t, textOfRule(p.Rules[at]), p.Rules[at])
	}
	overwrite(impl.PolicyRead(text).Policy)
	policyIs(t, text, impl.PolicyOut{Policy: p})
}

func TestPromise7OfPoliciesThatWereRead(t *testing.T) {
	r := rand.New(rand.NewSource(45))
	for range 200 {
		p := anyPolicy(t, r, r.Intn(impl.MaxRules+1))
		l := impl.ChainOf(impl.PolicyRead(textOfPolicy(p)).Policy)
		sameNodes(t, fmt.Sprint(p), l, chainOf(p))
		for range 20 {
			x := nearRecord(r)
			same(t, fmt.Sprint(p, x), impl.ChainRun(l, x), decided(p, x))
		}
	}
}
