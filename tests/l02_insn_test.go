package tests

import (
	"encoding/binary"
	"fmt"
	"math"
	"math/rand"
	"regexp"
	"slices"
	"strconv"
	"strings"
	"testing"

	"loop.example/s0083/impl"
)

// opRow is one of the thirty-four words as chapter 3 writes it: its code, its name, and what stands behind that in its line.
type opRow struct {
	code  int64
	name  string
	looks bool
	k     bool
}

func opRows() []opRow {
	return []opRow{
		{32, "load", false, true}, {0, "imm", false, true}, {1, "immx", false, true},
		{96, "mem", false, true}, {97, "memx", false, true}, {2, "store", false, true}, {3, "storex", false, true},
		{4, "add", false, true}, {20, "sub", false, true}, {36, "mul", false, true}, {52, "div", false, true},
		{68, "or", false, true}, {84, "and", false, true}, {100, "left", false, true}, {116, "right", false, true},
		{132, "neg", false, false}, {164, "xor", false, true},
		{12, "addx", false, false}, {28, "subx", false, false}, {92, "andx", false, false}, {76, "orx", false, false},
		{5, "jump", false, true},
		{21, "eq", true, true}, {37, "gt", true, true}, {53, "ge", true, true}, {69, "set", true, true},
		{29, "eqx", true, false}, {45, "gtx", true, false}, {61, "gex", true, false}, {77, "setx", true, false},
		{6, "ret", false, true}, {22, "reta", false, false}, {7, "tax", false, false}, {135, "txa", false, false},
	}
}

// sameProg fails unless the call told just that program, code and place; an empty program and none are the same.
func sameProg(t *testing.T, what string, got, want impl.ProgOut) {
	t.Helper()
	if !slices.Equal(got.Prog, want.Prog) || got.Code != want.Code || got.At != want.At {
		t.Errorf("%s: got %+v, want %+v", what, got, want)
	}
}

// bytesOf is the writing of chapter 3, by the standard library.
func bytesOf(l []impl.Insn) string {
	var b []byte
	for _, x := range l {
		b = binary.LittleEndian.AppendUint16(b, uint16(x.Code))
		b = append(b, byte(x.Yes), byte(x.No))
		b = binary.LittleEndian.AppendUint32(b, uint32(x.K))
	}
	return string(b)
}

// lineOf is the line of a word with that row.
func lineOf(o opRow, x impl.Insn) string {
	line := o.name
	if o.looks {
		line += fmt.Sprintf(" %d %d", x.Yes, x.No)
	}
	if o.k {
		line += fmt.Sprintf(" %d", x.K)
	}
	return line + "\n"
}

// textOf is the text of a program of words with names.
func textOf(l []impl.Insn) string {
	var b strings.Builder
	for _, x := range l {
		for _, o := range opRows() {
			if o.code == x.Code {
				b.WriteString(lineOf(o, x))
			}
		}
	}
	return b.String()
}

// edge picks a number from 0 to most, often one near its ends.
func edge(r *rand.Rand, most int64) int64 {
	switch r.Intn(4) {
	case 0:
		return 0
	case 1:
		return most
	case 2:
		return r.Int63n(min(most, 20) + 1)
	}
	return r.Int63n(most + 1)
}

// anyProg is a program of right words, of whatever code.
func anyProg(r *rand.Rand, size int) []impl.Insn {
	l := make([]impl.Insn, size)
	for i := range l {
		l[i] = impl.Insn{Code: edge(r, 65535), Yes: edge(r, 255), No: edge(r, 255), K: edge(r, math.MaxUint32)}
	}
	return l
}

// namedProg is a program of right words with names, in which just what their lines show is not 0.
func namedProg(r *rand.Rand, size int) []impl.Insn {
	l := make([]impl.Insn, size)
	rows := opRows()
	for i := range l {
		o := rows[r.Intn(len(rows))]
		l[i].Code = o.code
		if o.looks {
			l[i].Yes, l[i].No = edge(r, 255), edge(r, 255)
		}
		if o.k {
			l[i].K = edge(r, math.MaxUint32)
		}
	}
	return l
}

// wrongInsns holds words that are not right: each field one beyond its limits, and far beyond.
func wrongInsns() []impl.Insn {
	var l []impl.Insn
	for _, n := range []int64{-1, math.MinInt64, math.MaxInt64, -1 << 32, 1 << 32, 1 << 40} {
		l = append(l, impl.Insn{Code: n}, impl.Insn{Yes: n}, impl.Insn{No: n}, impl.Insn{K: n})
	}
	return append(l, impl.Insn{Code: 65536}, impl.Insn{Yes: 256}, impl.Insn{No: 256}, impl.Insn{Code: 6, Yes: 256, K: 1})
}

func TestWordConstants(t *testing.T) {
	got := []int64{impl.OpLoad, impl.OpImm, impl.OpImmX, impl.OpMem, impl.OpMemX, impl.OpStore, impl.OpStoreX,
		impl.OpAdd, impl.OpSub, impl.OpMul, impl.OpDiv, impl.OpOr, impl.OpAnd, impl.OpLeft, impl.OpRight,
		impl.OpNeg, impl.OpXor, impl.OpAddX, impl.OpSubX, impl.OpAndX, impl.OpOrX, impl.OpJump,
		impl.OpEq, impl.OpGt, impl.OpGe, impl.OpSet, impl.OpEqX, impl.OpGtX, impl.OpGeX, impl.OpSetX,
		impl.OpRet, impl.OpRetA, impl.OpTax, impl.OpTxa}
	rows := opRows()
	same(t, "how many", len(rows), 34)
	for i, o := range rows {
		same(t, o.name, got[i], o.code)
	}
	same(t, "MaxWord", impl.MaxWord, int64(math.MaxUint32))
}

func TestInsnRight(t *testing.T) {
	for _, x := range []impl.Insn{
		{}, {Code: 65535}, {Yes: 255}, {No: 255}, {K: impl.MaxWord}, {Code: 99},
		{Code: 65535, Yes: 255, No: 255, K: impl.MaxWord}, {Code: impl.OpRet, K: 258},
	} {
		same(t, fmt.Sprint(x), impl.InsnRight(x), true)
	}
	for _, x := range wrongInsns() {
		same(t, fmt.Sprint(x), impl.InsnRight(x), false)
	}
}

func TestNamesOfCodes(t *testing.T) {
	want := map[int64]string{}
	for _, o := range opRows() {
		want[o.code] = o.name
	}
	for code := int64(-300); code <= 70000; code++ {
		same(t, "OpName of "+strconv.FormatInt(code, 10), impl.OpName(code), want[code])
	}
	for _, code := range []int64{math.MinInt64, math.MaxInt64, 1 << 32, 1<<32 + 6, 1<<16 + 6, 256 + 6} {
		same(t, "OpName of "+strconv.FormatInt(code, 10), impl.OpName(code), "")
	}
}

func TestCodesOfNames(t *testing.T) {
	for _, o := range opRows() {
		same(t, o.name, impl.OpOf(o.name), o.code)
		for _, name := range []string{strings.ToUpper(o.name), strings.ToUpper(o.name[:1]) + o.name[1:], "op" + o.name,
			o.name + " ", " " + o.name, o.name + "\n", o.name + "\x00", o.name + "xx"} {
			same(t, name, impl.OpOf(name), -1)
		}
	}
	for _, name := range []string{"", "x", "jumpx", "retx", "loadx", "mulx", "a", "l", "32", "\xff",
		strings.Repeat("a", impl.MaxBytes), strings.Repeat("a", impl.MaxBytes+1)} {
		same(t, "no word", impl.OpOf(name), -1)
	}
}

func TestPromise3ProgramsComeBackFromBytes(t *testing.T) {
	r := rand.New(rand.NewSource(4))
	for _, size := range []int{0, 1, 2, 3, 17, 255, 256, impl.MaxList - 1, impl.MaxList} {
		for range 20 {
			l := anyProg(r, size)
			b := impl.ProgBytes(l)
			same(t, "ProgBytes", b, bytesOf(l))
			sameProg(t, "ProgRead", impl.ProgRead(b), impl.ProgOut{Prog: l})
		}
	}
}

func TestPromise3BytesComeBackFromPrograms(t *testing.T) {
	r := rand.New(rand.NewSource(5))
	for _, size := range []int{0, 8, 16, 24, 800, 3192, 3200} {
		for range 20 {
			b := make([]byte, size)
			r.Read(b)
			out := impl.ProgRead(string(b))
			same(t, "Code", out.Code, impl.OK)
			same(t, "ProgBytes", impl.ProgBytes(out.Prog), string(b))
		}
	}
	full := strings.Repeat("\xff", 3200)
	same(t, "all ones", impl.ProgBytes(impl.ProgRead(full).Prog), full)
}

func TestEachByteOfAWord(t *testing.T) {
	for i, want := range []impl.Insn{{Code: 200}, {Code: 51200}, {Yes: 200}, {No: 200},
		{K: 200}, {K: 200 << 8}, {K: 200 << 16}, {K: 200 << 24}} {
		b := []byte{0, 0, 0, 0, 0, 0, 0, 0}
		b[i] = 200
		same(t, "ProgBytes", impl.ProgBytes([]impl.Insn{want}), string(b))
		sameProg(t, "ProgRead", impl.ProgRead(string(b)), impl.ProgOut{Prog: []impl.Insn{want}})
	}
}

func TestProgBytesFaults(t *testing.T) {
	most := make([]impl.Insn, impl.MaxList)
	same(t, "of MaxList", impl.ProgBytes(most), strings.Repeat("\x00", 3200))
	same(t, "of one more", impl.ProgBytes(append(most, impl.Insn{})), "")
	same(t, "of many more", impl.ProgBytes(make([]impl.Insn, 100000)), "")
	same(t, "of none", impl.ProgBytes(nil), "")
	same(t, "of an empty list", impl.ProgBytes([]impl.Insn{}), "")
	right := impl.Insn{Code: impl.OpRet}
	for _, x := range wrongInsns() {
		for _, l := range [][]impl.Insn{{x}, {x, right}, {right, x}, {right, x, right}} {
			same(t, fmt.Sprint(l), impl.ProgBytes(l), "")
		}
	}
}

func TestProgReadFaults(t *testing.T) {
	for _, c := range []struct {
		size int
		code int64
	}{
		{1, impl.ErrShort}, {7, impl.ErrShort}, {9, impl.ErrShort}, {15, impl.ErrShort}, {3199, impl.ErrShort},
		{3201, impl.ErrShort}, {3207, impl.ErrShort}, {7999, impl.ErrShort},
		{3208, impl.ErrFull}, {4000, impl.ErrFull}, {impl.MaxBytes, impl.ErrFull},
		{impl.MaxBytes + 1, impl.ErrSize}, {impl.MaxBytes + 8, impl.ErrSize}, {100000, impl.ErrSize},
	} {
		got := impl.ProgRead(strings.Repeat("\x06", c.size))
		sameProg(t, fmt.Sprint(c.size), got, impl.ProgOut{Code: c.code})
	}
	sameProg(t, "no bytes", impl.ProgRead(""), impl.ProgOut{})
	same(t, "MaxList words", len(impl.ProgRead(strings.Repeat("\x06", 3200)).Prog), impl.MaxList)
}

func TestLinesOfEachWord(t *testing.T) {
	for _, o := range opRows() {
		for _, n := range []impl.Insn{{}, {Yes: 255, No: 1, K: 10}, {Yes: 2, No: 255, K: impl.MaxWord}} {
			x := impl.Insn{Code: o.code, Yes: n.Yes, No: n.No, K: n.K}
			line := lineOf(o, x)
			same(t, o.name, impl.ProgText([]impl.Insn{x}), line)
			want := impl.Insn{Code: o.code}
			if o.looks {
				want.Yes, want.No = x.Yes, x.No
			}
			if o.k {
				want.K = x.K
			}
			sameProg(t, line, impl.ProgParse(line), impl.ProgOut{Prog: []impl.Insn{want}})
		}
	}
	same(t, "as it is written", impl.ProgText([]impl.Insn{
		{Code: 29, Yes: 3, No: 4, K: 5}, {Code: 53, Yes: 3, No: 4, K: 5}, {Code: 12, Yes: 3, No: 4, K: 5},
		{Code: 1, Yes: 3, No: 4, K: 5}, {Code: 5, Yes: 3, No: 4, K: 5}, {Code: 7, Yes: 3, No: 4, K: 5},
	}), "eqx 3 4\nge 3 4 5\naddx\nimmx 5\njump 5\ntax\n")
}

func TestProgramsComeBackFromText(t *testing.T) {
	r := rand.New(rand.NewSource(6))
	for _, size := range []int{0, 1, 2, 3, 17, 200, 300} {
		for range 50 {
			l := namedProg(r, size)
			text := impl.ProgText(l)
			same(t, "ProgText", text, textOf(l))
			sameProg(t, "ProgParse", impl.ProgParse(text), impl.ProgOut{Prog: l})
		}
	}
}

func TestProgTextFaults(t *testing.T) {
	most := make([]impl.Insn, impl.MaxList)
	same(t, "of MaxList", impl.ProgText(most), strings.Repeat("imm 0\n", impl.MaxList))
	same(t, "of one more", impl.ProgText(append(most, impl.Insn{})), "")
	same(t, "of none", impl.ProgText(nil), "")
	right := impl.Insn{Code: impl.OpRet}
	wrong := append(wrongInsns(), impl.Insn{Code: 99}, impl.Insn{Code: 65535}, impl.Insn{Code: 8}, impl.Insn{Code: 256 + 6},
		impl.Insn{Code: impl.OpTax, K: impl.MaxWord + 1}, impl.Insn{Code: impl.OpRet, Yes: 256}, impl.Insn{Code: impl.OpEqX, K: -1})
	for _, x := range wrong {
		for _, l := range [][]impl.Insn{{x}, {x, right}, {right, x}, {right, x, right}} {
			same(t, fmt.Sprint(l), impl.ProgText(l), "")
		}
	}
}

func TestTextsAtTheLimit(t *testing.T) {
	twenty := slices.Repeat([]impl.Insn{{Code: impl.OpEq, Yes: 100, No: 100, K: 10000000}}, impl.MaxList)
	text := impl.ProgText(twenty)
	same(t, "its length", len(text), impl.MaxBytes)
	sameProg(t, "of MaxBytes", impl.ProgParse(text), impl.ProgOut{Prog: twenty})
	twenty[7].K = 100000000
	text = impl.ProgText(twenty)
	same(t, "a text of one byte more", text, textOf(twenty))
	sameProg(t, "of one byte more", impl.ProgParse(text), impl.ProgOut{Code: impl.ErrSize})
	sameProg(t, "of one byte more that is no text", impl.ProgParse(strings.Repeat("a", impl.MaxBytes+1)), impl.ProgOut{Code: impl.ErrSize})
	sameProg(t, "of MaxBytes that is no text", impl.ProgParse(strings.Repeat("a", impl.MaxBytes)), impl.ProgOut{Code: impl.ErrSyntax})
	most := slices.Repeat([]impl.Insn{{Code: impl.OpTax}}, impl.MaxList)
	lines := strings.Repeat("tax\n", impl.MaxList)
	sameProg(t, "of MaxList lines", impl.ProgParse(lines), impl.ProgOut{Prog: most})
	sameProg(t, "of one line more", impl.ProgParse(lines+"tax\n"), impl.ProgOut{Code: impl.ErrSyntax})
	sameProg(t, "of one line feed more", impl.ProgParse(lines+"\n"), impl.ProgOut{Code: impl.ErrSyntax})
	sameProg(t, "of no line", impl.ProgParse(""), impl.ProgOut{})
}

func TestProgParseFaults(t *testing.T) {
	for _, text := range []string{
		"\n", " ", " \n", "a", "ret", "ret 0", "tax", "tax\nret 0", "ret 0\n\n", "\nret 0\n", "ret 0\r\n", "ret 0\n ", "ret 0\ntax",
		"tax 1\n", "tax 0\n", "txa 0\n", "reta 0\n", "neg 0\n", "addx 0\n", "subx 0\n", "andx 0\n", "orx 0\n",
		"eqx 0 0 0\n", "gtx 0 0 0\n", "gex 0 0 0\n", "setx 0 0 0\n", "eqx 0\n", "eqx\n",
		"ret\n", "ret 0 0\n", "jump 0 0 0\n", "eq 0 0\n", "eq 0\n", "eq\n", "eq 0 0 0 0\n",
		"immx\n", "memx\n", "storex\n", "load\n", "load 0 0\n",
		"eq 256 0 1\n", "eq 0 256 1\n", "eq 0 0 4294967296\n", "eq -1 0 1\n", "ret 4294967296\n", "ret 9999999999\n",
		"ret 10000000000\n", "ret 18446744073709551616\n", "ret 99999999999999999999999999\n", "ret -1\n", "ret -0\n", "ret +1\n",
		"ret 00\n", "ret 01\n", "ret 007\n", "eq 00 0 0\n", "eq 0 01 0\n", "ret 0000000000\n", "ret 04294967295\n",
		"ret  0\n", "ret 0 \n", " ret 0\n", "tax \n", " tax\n", "eq 0  0 0\n", "eq 0 0 0 \n", "ret\t0\n", "ret \n", "eq 0 0 \n",
		"Ret 0\n", "RET 0\n", "OpRet 0\n", "rets 0\n", "re 0\n", "6 0\n", " 0\n", "0\n", "ret 0x1\n", "ret 1_0\n", "ret 1.0\n", "ret a\n",
		"ret 1\x00\n", "ret \xd9\xa1\n", "ret 0;tax\n", "ret 0 tax\n", "tax\n\ntax\n", "tax\nfoo\n", "foo\ntax\n", "tax\ntax 0\ntax\n", "foo 1\n",
		"ret /\n", "ret :\n", "ret 1/\n", "ret 1:\n",
	} {
		sameProg(t, strconv.Quote(text), impl.ProgParse(text), impl.ProgOut{Code: impl.ErrSyntax})
	}
	sameProg(t, "limits", impl.ProgParse("eq 255 255 4294967295\nsetx 255 0\nimm 0\n"), impl.ProgOut{
		Prog: []impl.Insn{{Code: 21, Yes: 255, No: 255, K: impl.MaxWord}, {Code: 77, Yes: 255}, {}}})
}

// parsed is what ProgParse should tell of at most MaxBytes bytes, by patterns of whole lines.
func parsed(text string) impl.ProgOut {
	var l []impl.Insn
	lines := strings.SplitAfter(text, "\n")
	for _, line := range lines[:len(lines)-1] {
		x, right := parsedLine(line)
		if !right {
			return impl.ProgOut{Code: impl.ErrSyntax}
		}
		l = append(l, x)
	}
	if lines[len(lines)-1] != "" || len(l) > impl.MaxList {
		return impl.ProgOut{Code: impl.ErrSyntax}
	}
	return impl.ProgOut{Prog: l}
}

var lineForm = regexp.MustCompile(`^([a-z]+)(?: (0|[1-9][0-9]{0,2}) (0|[1-9][0-9]{0,2}))??(?: (0|[1-9][0-9]{0,9}))?\n$`)

func parsedLine(line string) (impl.Insn, bool) {
	m := lineForm.FindStringSubmatch(line)
	if m == nil {
		return impl.Insn{}, false
	}
	for _, o := range opRows() {
		if o.name == m[1] && o.looks == (m[2] != "") && o.k == (m[4] != "") {
			x := impl.Insn{Code: o.code}
			x.Yes, _ = strconv.ParseInt(m[2], 10, 64)
			x.No, _ = strconv.ParseInt(m[3], 10, 64)
			x.K, _ = strconv.ParseInt(m[4], 10, 64)
			return x, x.Yes < 256 && x.No < 256 && x.K < 1<<32
		}
	}
	return impl.Insn{}, false
}

func TestProgParseOfAnyText(t *testing.T) {
	r := rand.New(rand.NewSource(7))
	pick := "0123456789 \n\n  abetx-+\x00"
	for range 30000 {
		b := []byte(textOf(namedProg(r, 1+r.Intn(3))))
		for range r.Intn(3) {
			at := r.Intn(len(b))
			switch r.Intn(3) {
			case 0:
				b[at] = pick[r.Intn(len(pick))]
			case 1:
				b = slices.Insert(b, at, pick[r.Intn(len(pick))])
			case 2:
				b = append(slices.Delete(b, at, at+1), 'x')[:len(b)-1]
			}
			if len(b) == 0 {
				break
			}
		}
		sameProg(t, strconv.Quote(string(b)), impl.ProgParse(string(b)), parsed(string(b)))
	}
}

func TestProgramsAreNewMemory(t *testing.T) {
	l := namedProg(rand.New(rand.NewSource(8)), 50)
	kept := slices.Clone(l)
	b, text := impl.ProgBytes(l), impl.ProgText(l)
	if !slices.Equal(l, kept) {
		t.Errorf("a call changed what was handed in")
	}
	for _, read := range []func() impl.ProgOut{
		func() impl.ProgOut { return impl.ProgRead(b) },
		func() impl.ProgOut { return impl.ProgParse(text) },
	} {
		first := read()
		clear(first.Prog)
		sameProg(t, "told again", read(), impl.ProgOut{Prog: kept})
	}
}
