package tests

import (
	"fmt"
	"math"
	"math/rand"
	"slices"
	"strings"
	"testing"

	"loop.example/s0083/impl"
)

// prog is the program of these lines, parted by semicolons.
func prog(t *testing.T, lines string) []impl.Insn {
	t.Helper()
	out := impl.ProgParse(strings.ReplaceAll(lines, ";", "\n") + "\n")
	if out.Code != impl.OK {
		t.Fatalf("no program: %s", lines)
	}
	return out.Prog
}

// samePlaces fails unless the call told just these places; an empty list and none are the same.
func samePlaces(t *testing.T, what string, got, want []int64) {
	t.Helper()
	if !slices.Equal(got, want) {
		t.Errorf("%s: got %v, want %v", what, got, want)
	}
}

// fault is what Check should tell of that place.
func fault(at int, code int64) impl.CheckOut {
	return impl.CheckOut{At: int64(at), Code: code}
}

// refused fails unless Check tells that, and Ways and Written have nothing to tell of any place.
func refused(t *testing.T, what string, l []impl.Insn, want impl.CheckOut) {
	t.Helper()
	same(t, what, impl.Check(l), want)
	for _, at := range []int64{-1, 0, 1, want.At, int64(len(l)) - 1, int64(len(l))} {
		samePlaces(t, "Ways of what is refused: "+what, impl.Ways(l, at), nil)
		same(t, "Written of what is refused: "+what, impl.Written(l, at), -1)
	}
}

// padded is a program of that many words: some that do nothing, the given ones from that place on, and a last one.
func padded(size, at int, words ...impl.Insn) []impl.Insn {
	l := make([]impl.Insn, size)
	copy(l[at:], words)
	l[size-1] = impl.Insn{Code: impl.OpRet}
	return l
}

// faulty is a word of which Check should tell that code, wherever it stands ahead of the last place.
type faulty struct {
	x    impl.Insn
	code int64
}

// namelessCodes holds right codes without a word: next to those that have one, and at the limits.
func namelessCodes() []int64 {
	return []int64{8, 9, 10, 11, 13, 19, 23, 30, 33, 70, 95, 98, 99, 136, 163, 165, 255, 256 + 6, 1<<15 + 6, 65534, 65535}
}

// faultyWords holds words with a fault that is none of cells that are not written.
func faultyWords() []faulty {
	var l []faulty
	for _, x := range wrongInsns() {
		l = append(l, faulty{x, impl.ErrForm})
	}
	for _, code := range namelessCodes() {
		l = append(l, faulty{impl.Insn{Code: code}, impl.ErrSyntax})
	}
	for _, k := range []int64{1, 2, 3, 5, 7, 58, 59, 61, 62, 63, 64, 68, 1 << 16, impl.MaxWord - 3, impl.MaxWord} {
		l = append(l, faulty{impl.Insn{Code: impl.OpLoad, K: k}, impl.ErrRange})
	}
	for _, k := range []int64{16, 17, 31, 32, 64, 65, 256, 1 << 16, 1 << 31, impl.MaxWord} {
		for _, code := range []int64{impl.OpMem, impl.OpMemX, impl.OpStore, impl.OpStoreX} {
			l = append(l, faulty{impl.Insn{Code: code, K: k}, impl.ErrRange})
		}
	}
	for _, k := range []int64{32, 33, 63, 64, 65, 256, 1 << 31, impl.MaxWord} {
		for _, code := range []int64{impl.OpLeft, impl.OpRight} {
			l = append(l, faulty{impl.Insn{Code: code, K: k}, impl.ErrRange})
		}
	}
	for _, k := range []int64{impl.MaxList, 1 << 16, 1 << 31, impl.MaxWord - 1, impl.MaxWord} {
		l = append(l, faulty{impl.Insn{Code: impl.OpJump, K: k}, impl.ErrRange})
	}
	// A word with more than one fault: the one that is named first.
	return append(l, faulty{impl.Insn{Code: impl.OpDiv}, impl.ErrRange},
		faulty{impl.Insn{Code: 99, K: -1}, impl.ErrForm}, faulty{impl.Insn{Code: 99, Yes: 256}, impl.ErrForm},
		faulty{impl.Insn{Code: 99, Yes: 255, No: 255, K: impl.MaxWord}, impl.ErrSyntax},
		faulty{impl.Insn{Code: impl.OpLoad, No: 256, K: 2}, impl.ErrForm}, faulty{impl.Insn{Code: impl.OpLoad, K: -4}, impl.ErrForm},
		faulty{impl.Insn{Code: impl.OpMem, K: -1}, impl.ErrForm}, faulty{impl.Insn{Code: impl.OpDiv, Yes: -1}, impl.ErrForm},
		faulty{impl.Insn{Code: impl.OpJump, K: -1}, impl.ErrForm}, faulty{impl.Insn{Code: impl.OpJump, K: -5}, impl.ErrForm},
		faulty{impl.Insn{Code: impl.OpEq, Yes: -1}, impl.ErrForm}, faulty{impl.Insn{Code: impl.OpEq, Yes: 255, No: 256}, impl.ErrForm})
}

func TestCheckHowManyWords(t *testing.T) {
	refused(t, "no list", nil, fault(0, impl.ErrForm))
	refused(t, "no words", []impl.Insn{}, fault(0, impl.ErrForm))
	same(t, "MaxList words", impl.Check(padded(impl.MaxList, 0)), impl.CheckOut{})
	refused(t, "MaxList words without an end", make([]impl.Insn, impl.MaxList), fault(impl.MaxList-1, impl.ErrForm))
	for _, size := range []int{impl.MaxList + 1, impl.MaxList + 2, 2 * impl.MaxList, 100000} {
		refused(t, fmt.Sprint(size, " words"), padded(size, 0), fault(0, impl.ErrSize))
		refused(t, fmt.Sprint(size, " words without an end"), make([]impl.Insn, size), fault(0, impl.ErrSize))
		refused(t, fmt.Sprint(size, " words with a fault"), padded(size, 5, impl.Insn{K: -1}), fault(0, impl.ErrSize))
	}
}

func TestCheckTheLastWord(t *testing.T) {
	var others []int64
	for _, o := range opRows() {
		if o.code != impl.OpRet && o.code != impl.OpRetA {
			others = append(others, o.code)
		}
	}
	same(t, "how many others", len(others), 32)
	for _, size := range []int{1, 2, 3, 50, impl.MaxList} {
		l := padded(size, 0)
		for _, code := range []int64{impl.OpRet, impl.OpRetA} {
			l[size-1] = impl.Insn{Code: code, Yes: 255, No: 255, K: impl.MaxWord}
			same(t, fmt.Sprint(size, code), impl.Check(l), impl.CheckOut{})
			for _, x := range []impl.Insn{{K: -1}, {K: impl.MaxWord + 1}, {Yes: 256}, {No: -1}} {
				l[size-1] = impl.Insn{Code: code, Yes: x.Yes, No: x.No, K: x.K}
				refused(t, fmt.Sprint("last but not right", size, l[size-1]), l, fault(size-1, impl.ErrForm))
			}
		}
		for _, code := range append(others, 8, 99, 65535, 65536, -1, 1<<32+6, math.MinInt64, math.MaxInt64) {
			l[size-1] = impl.Insn{Code: code, K: 4}
			refused(t, fmt.Sprint(size, code), l, fault(size-1, impl.ErrForm))
		}
	}
}

func TestCheckTheLastWordAheadOfOtherFaults(t *testing.T) {
	for _, f := range faultyWords() {
		l := padded(9, 2, f.x)
		l[8].Code = impl.OpTax
		refused(t, fmt.Sprint(f.x), l, fault(8, impl.ErrForm))
	}
	refused(t, "a cell", prog(t, "mem 0;ret 0;tax"), fault(2, impl.ErrForm))
	refused(t, "a right end behind", prog(t, "ret 0;jump 0"), fault(1, impl.ErrForm))
}

func TestCheckEachFaultAtEachPlace(t *testing.T) {
	for _, f := range faultyWords() {
		for at := range 5 {
			refused(t, fmt.Sprint(f.x, at), padded(6, at, f.x), fault(at, f.code))
		}
		refused(t, fmt.Sprint(f.x, " of MaxList"), padded(impl.MaxList, impl.MaxList-2, f.x), fault(impl.MaxList-2, f.code))
		refused(t, fmt.Sprint(f.x, " where no way leads"), padded(6, 1, impl.Insn{Code: impl.OpRet}, f.x), fault(2, f.code))
	}
}

func TestCheckTheFirstWordWithAFault(t *testing.T) {
	kinds := []faulty{
		{impl.Insn{K: -1}, impl.ErrForm}, {impl.Insn{Code: 99}, impl.ErrSyntax}, {impl.Insn{Code: impl.OpDiv}, impl.ErrRange},
		{impl.Insn{Code: impl.OpJump, K: 4}, impl.ErrRange}, {impl.Insn{Code: impl.OpEq, Yes: 9}, impl.ErrRange},
	}
	cell := impl.Insn{Code: impl.OpMem, K: 3}
	for _, a := range kinds {
		for _, b := range kinds {
			what := fmt.Sprint(a.x, b.x)
			refused(t, what, padded(6, 1, a.x, b.x), fault(1, a.code))
			refused(t, what, padded(6, 1, a.x, impl.Insn{}, b.x), fault(1, a.code))
		}
		// A cell that is not written is looked for behind all else.
		refused(t, fmt.Sprint(a.x, cell), padded(6, 1, a.x, cell), fault(1, a.code))
		refused(t, fmt.Sprint(cell, a.x), padded(6, 1, cell, a.x), fault(2, a.code))
	}
	for _, x := range []impl.Insn{cell, {Code: impl.OpMemX}} {
		refused(t, "two cells", padded(6, 1, x, cell), fault(1, impl.ErrNone))
		refused(t, "two cells", padded(6, 2, cell, x), fault(2, impl.ErrNone))
	}
}

func TestCheckRanges(t *testing.T) {
	for k := int64(0); k <= 300; k++ {
		var loads, held, shifts, parts int64
		if k%4 != 0 || k > 60 {
			loads = impl.ErrRange
		}
		if k > 15 {
			held = impl.ErrRange
		}
		if k > 31 {
			shifts = impl.ErrRange
		}
		if k == 0 {
			parts = impl.ErrRange
		}
		for code, want := range map[int64]int64{
			impl.OpLoad: loads, impl.OpStore: held, impl.OpStoreX: held, impl.OpLeft: shifts, impl.OpRight: shifts, impl.OpDiv: parts,
		} {
			same(t, fmt.Sprint(code, k), impl.Check(padded(2, 0, impl.Insn{Code: code, K: k})).Code, want)
		}
		for _, code := range []int64{impl.OpMem, impl.OpMemX} {
			l := padded(4, 0, impl.Insn{Code: impl.OpStore, K: k % 16}, impl.Insn{Code: code, K: k})
			if held == impl.OK {
				same(t, fmt.Sprint(code, k), impl.Check(l), impl.CheckOut{})
			} else {
				refused(t, fmt.Sprint(code, k), l, fault(1, held))
			}
		}
	}
	same(t, "the greatest part", impl.Check(padded(2, 0, impl.Insn{Code: impl.OpDiv, K: impl.MaxWord})), impl.CheckOut{})
}

func TestCheckWordsThatHaveNoRange(t *testing.T) {
	for _, o := range opRows() {
		switch o.code {
		case impl.OpLoad, impl.OpMem, impl.OpMemX, impl.OpStore, impl.OpStoreX, impl.OpDiv, impl.OpLeft, impl.OpRight, impl.OpJump:
			continue
		}
		for _, k := range []int64{0, 1, 16, 32, 61, impl.MaxWord} {
			x := impl.Insn{Code: o.code, K: k}
			if !o.looks {
				x.Yes, x.No = 255, 255
			}
			same(t, fmt.Sprint(x), impl.Check(padded(3, 1, x)), impl.CheckOut{})
		}
	}
	for _, x := range []impl.Insn{{Code: impl.OpLoad, K: 60}, {Code: impl.OpStore, K: 15}, {Code: impl.OpDiv, K: 1},
		{Code: impl.OpLeft, K: 31}, {Code: impl.OpRight}, {Code: impl.OpJump}} {
		x.Yes, x.No = 255, 255
		same(t, fmt.Sprint(x), impl.Check(padded(3, 1, x)), impl.CheckOut{})
	}
}

func TestCheckWhereWaysEnd(t *testing.T) {
	for _, size := range []int{2, 3, 7, 200, 257, 258, impl.MaxList} {
		for _, at := range []int{0, 1, size / 2, size - 2} {
			left := int64(size - at - 2) // so far on is the last word
			if at > size-2 {
				continue
			}
			what := fmt.Sprint(size, at)
			l := padded(size, at, impl.Insn{Code: impl.OpJump, K: left})
			same(t, "jump "+what, impl.Check(l), impl.CheckOut{})
			samePlaces(t, "jump "+what, impl.Ways(l, int64(at)), []int64{int64(size - 1)})
			l[at].K++
			refused(t, "jump "+what, l, fault(at, impl.ErrRange))
			checkLooks(t, what, padded(size, 0), at, left)
		}
	}
}

// checkLooks puts each word that looks at that place, and leads its ways to the last word, and behind it if so far they can lead.
func checkLooks(t *testing.T, what string, l []impl.Insn, at int, left int64) {
	t.Helper()
	far := min(left, 255)
	for _, o := range opRows() {
		if !o.looks {
			continue
		}
		for _, ways := range [][2]int64{{0, far}, {far, 0}, {far, far}} {
			l[at] = impl.Insn{Code: o.code, Yes: ways[0], No: ways[1], K: 5}
			same(t, fmt.Sprint(what, l[at]), impl.Check(l), impl.CheckOut{})
		}
		if far == 255 {
			continue
		}
		for _, ways := range [][2]int64{{0, far + 1}, {far + 1, 0}, {far + 1, far + 1}, {255, far}, {far, 255}} {
			l[at] = impl.Insn{Code: o.code, Yes: ways[0], No: ways[1], K: 5}
			refused(t, fmt.Sprint(what, l[at]), l, fault(at, impl.ErrRange))
		}
	}
}

func TestCheckCellsWhereWaysMeet(t *testing.T) {
	for _, c := range []struct {
		lines string
		want  impl.CheckOut
	}{
		{"store 3;mem 3;ret 0", impl.CheckOut{}},
		{"storex 3;mem 3;ret 0", impl.CheckOut{}},
		{"store 15;memx 15;reta", impl.CheckOut{}},
		{"mem 3;ret 0", fault(0, impl.ErrNone)},
		{"memx 0;ret 0", fault(0, impl.ErrNone)},
		{"mem 3;store 3;ret 0", fault(0, impl.ErrNone)},
		{"store 2;mem 3;ret 0", fault(1, impl.ErrNone)},
		{"store 0;mem 15;ret 0", fault(1, impl.ErrNone)},
		{"store 15;mem 0;ret 0", fault(1, impl.ErrNone)},
		{"store 3;store 4;mem 4;memx 3;mem 5;ret 0", fault(4, impl.ErrNone)},
		// On one of two ways, on both, on none, and by other words on each.
		{"eq 0 1 2;store 3;mem 3;ret 1", fault(2, impl.ErrNone)},
		{"eq 1 0 2;store 3;mem 3;ret 1", fault(2, impl.ErrNone)},
		{"eq 0 2 2;store 3;jump 1;store 3;mem 3;ret 1", impl.CheckOut{}},
		{"eq 0 2 2;store 3;jump 1;storex 3;memx 3;ret 1", impl.CheckOut{}},
		{"eq 0 2 2;store 3;jump 1;store 4;mem 3;ret 1", fault(4, impl.ErrNone)},
		{"eq 0 2 2;store 3;jump 1;store 4;mem 4;ret 1", fault(4, impl.ErrNone)},
		{"eq 0 2 2;tax;jump 1;txa;mem 3;ret 1", fault(4, impl.ErrNone)},
		{"store 3;eq 0 1 2;tax;mem 3;ret 1", impl.CheckOut{}},
		{"store 3;eq 0 1 2;store 4;mem 3;mem 4;ret 1", fault(4, impl.ErrNone)},
		{"eqx 0 0;store 3;mem 3;ret 1", impl.CheckOut{}},
		// One of the ways ends ahead of the word that reads.
		{"eq 0 1 2;store 3;mem 3;reta", fault(2, impl.ErrNone)},
		{"eq 1 0 2;ret 9;store 3;mem 3;reta", impl.CheckOut{}},
		{"imm 5;store 3;load 0;eq 0 1 2;jump 1;ret 9;mem 3;reta", impl.CheckOut{}},
		// Three ways meet; the one of them that is jumped by does not write.
		{"gt 0 3 1;store 1;gt 0 1 1;jump 0;mem 1;ret 0", fault(4, impl.ErrNone)},
		{"set 0 1 1;jump 1;jump 1;store 7;store 7;mem 7;ret 0", impl.CheckOut{}},
		{"jump 1;store 3;mem 3;ret 0", fault(2, impl.ErrNone)},
		// Where there is no way, nothing is wrong, and nothing comes from there.
		{"ret 0;mem 3;ret 0", impl.CheckOut{}},
		{"jump 1;mem 3;ret 0", impl.CheckOut{}},
		{"jump 2;memx 3;jump 0;ret 0", impl.CheckOut{}},
		{"reta;mem 3;eq 0 1 2;mem 4;mem 5;ret 0", impl.CheckOut{}},
		{"store 3;jump 1;tax;mem 3;ret 0", impl.CheckOut{}},
		{"jump 1;store 3;mem 4;ret 0", fault(2, impl.ErrNone)},
	} {
		same(t, c.lines, impl.Check(prog(t, c.lines)), c.want)
	}
}

func TestWaysOfEachWord(t *testing.T) {
	const at = 7
	for _, o := range opRows() {
		for _, n := range [][2]int64{{0, 0}, {0, 1}, {1, 0}, {255, 0}, {0, 255}, {255, 255}, {3, 200}, {200, 3}} {
			l := padded(impl.MaxList, at-1, impl.Insn{Code: impl.OpStore, K: 8}, impl.Insn{Code: o.code, Yes: n[0], No: n[1], K: 8})
			want := []int64{at + 1}
			switch {
			case o.looks:
				want = []int64{at + 1 + n[0], at + 1 + n[1]}
				slices.Sort(want)
				want = slices.Compact(want)
			case o.code == impl.OpRet || o.code == impl.OpRetA:
				want = nil
			case o.code == impl.OpJump:
				want = []int64{at + 9}
			}
			samePlaces(t, fmt.Sprint(o.name, n), impl.Ways(l, at), want)
		}
	}
}

func TestWaysAndWrittenOfNoPlace(t *testing.T) {
	for _, l := range [][]impl.Insn{prog(t, "ret 1"), prog(t, "store 3;tax;eq 0 1 2;mem 3;reta"), padded(impl.MaxList, 0)} {
		size := int64(len(l))
		same(t, "let by", impl.Check(l), impl.CheckOut{})
		for _, at := range []int64{-1, -2, -size, size, size + 1, impl.MaxList, impl.MaxList + 1,
			1 << 32, -1 << 32, 1<<32 + 1, 1 << 62, math.MinInt64, math.MinInt64 + 1, math.MaxInt64} {
			samePlaces(t, fmt.Sprint("Ways ", size, at), impl.Ways(l, at), nil)
			same(t, fmt.Sprint("Written ", size, at), impl.Written(l, at), -1)
		}
		samePlaces(t, "Ways of the last place", impl.Ways(l, size-1), nil)
	}
}

func TestWritten(t *testing.T) {
	for _, c := range []struct {
		lines string
		want  []int64
	}{
		{"ret 1", []int64{0}},
		{"store 3;ret 1", []int64{0, 8}},
		{"storex 15;store 0;ret 1", []int64{0, 32768, 32769}},
		{"store 3;store 3;tax;ret 1", []int64{0, 8, 8, 8}},
		{"imm 5;store 3;load 0;eq 0 1 2;jump 1;ret 9;mem 3;reta", []int64{0, 0, 8, 8, 8, 8, 8, 8}},
		// Of ways that meet just what both have written.
		{"store 1;eq 0 2 2;store 2;jump 1;store 3;ret 0", []int64{0, 2, 2, 6, 2, 2}},
		{"store 1;eq 2 0 2;store 2;jump 2;store 3;store 2;ret 0", []int64{0, 2, 2, 6, 2, 10, 6}},
		{"eq 0 1 2;store 4;ret 0", []int64{0, 0, 0}},
		{"eq 0 0 2;store 4;ret 0", []int64{0, 0, 16}},
		// No way leads there; what it writes is not seen where ways lead.
		{"ret 1;store 3;ret 2", []int64{0, 65535, 65535}},
		{"store 2;jump 2;store 3;tax;ret 2", []int64{0, 4, 65535, 65535, 4}},
		{"jump 1;mem 9;store 2;ret 2", []int64{0, 65535, 0, 4}},
	} {
		l := prog(t, c.lines)
		for at, want := range c.want {
			same(t, fmt.Sprint(c.lines, " at ", at), impl.Written(l, int64(at)), want)
		}
	}
}

func TestWrittenOfEachCell(t *testing.T) {
	l := make([]impl.Insn, 0, 33)
	want := int64(0)
	for k := range int64(16) {
		code := []int64{impl.OpStore, impl.OpStoreX}[k%2]
		l = append(l, impl.Insn{Code: code, K: k})
		same(t, fmt.Sprint("cell ", k), impl.Written(append(slices.Clone(l), impl.Insn{Code: impl.OpRet}), int64(len(l))), 1<<(k+1)-1)
		one := padded(3, 0, impl.Insn{Code: code, K: k})
		same(t, fmt.Sprint("cell alone ", k), impl.Written(one, 1), 1<<k)
		want |= 1 << k
	}
	// All sixteen are written here, as where no way leads.
	same(t, "all", impl.Written(append(l, impl.Insn{Code: impl.OpMem, K: 15}, impl.Insn{Code: impl.OpRet}), 17), want)
}

// leads is the sentence of chapter 5 on where one may come from a word with a name; rising, no two alike.
func leads(x impl.Insn, at int64) []int64 {
	looking := []int64{21, 37, 53, 69, 29, 45, 61, 77}
	var to []int64
	switch {
	case x.Code == 6 || x.Code == 22:
	case x.Code == 5:
		to = []int64{at + 1 + x.K}
	case slices.Contains(looking, x.Code):
		to = []int64{at + 1 + x.Yes, at + 1 + x.No}
	default:
		to = []int64{at + 1}
	}
	slices.Sort(to)
	return slices.Compact(to)
}

// walk goes all ways from that place to their ends, one by one, and tells at each place which cells this way has written.
func walk(l []impl.Insn, at, cells, steps int64, seen func(at, cells, steps int64)) {
	seen(at, cells, steps)
	if l[at].Code == impl.OpStore || l[at].Code == impl.OpStoreX {
		cells |= 1 << l[at].K
	}
	for _, to := range leads(l[at], at) {
		walk(l, to, cells, steps+1, seen)
	}
}

// writtenBy is Written of all places, by going all ways; of a program that is right but for its cells.
func writtenBy(l []impl.Insn) []int64 {
	all := make([]int64, len(l))
	for at := range all {
		all[at] = 65535
	}
	walk(l, 0, 0, 1, func(at, cells, _ int64) { all[at] &= cells })
	return all
}

// wrongWith is the code of chapter 5 of a word, but for its cells.
func wrongWith(l []impl.Insn, at int64) int64 {
	x := l[at]
	if x.Code>>16 != 0 || x.Yes>>8 != 0 || x.No>>8 != 0 || x.K>>32 != 0 {
		return impl.ErrForm
	}
	if !slices.ContainsFunc(opRows(), func(o opRow) bool { return o.code == x.Code }) {
		return impl.ErrSyntax
	}
	wrong := map[int64]bool{32: x.K%4 != 0 || x.K > 60, 96: x.K > 15, 97: x.K > 15, 2: x.K > 15, 3: x.K > 15,
		52: x.K == 0, 100: x.K > 31, 116: x.K > 31}[x.Code]
	beyond := func(to int64) bool { return to >= int64(len(l)) }
	if wrong || slices.ContainsFunc(leads(x, at), beyond) {
		return impl.ErrRange
	}
	return impl.OK
}

// checked is what Check should tell of a short program.
func checked(l []impl.Insn) impl.CheckOut {
	last := len(l) - 1
	if l[last].Code != 6 && l[last].Code != 22 {
		return fault(last, impl.ErrForm)
	}
	for at := range l {
		if code := wrongWith(l, int64(at)); code != impl.OK {
			return fault(at, code)
		}
	}
	for at, cells := range writtenBy(l) {
		if (l[at].Code == 96 || l[at].Code == 97) && cells&(1<<l[at].K) == 0 {
			return fault(at, impl.ErrNone)
		}
	}
	return impl.CheckOut{}
}

// someWord is a word for that place, mostly one that is let by, with ways within the program and few cells.
func someWord(r *rand.Rand, at, size int) impl.Insn {
	far := func() int64 { return r.Int63n(int64(size - at - 1)) }
	rows := opRows()
	x := impl.Insn{Code: rows[r.Intn(len(rows))].code, K: 1 + r.Int63n(31)}
	switch r.Intn(6) {
	case 0:
		x.Code = []int64{impl.OpMem, impl.OpMemX}[r.Intn(2)]
	case 1, 2:
		x.Code = []int64{impl.OpStore, impl.OpStoreX}[r.Intn(2)]
	case 3:
		x.Code = []int64{impl.OpEq, impl.OpGt, impl.OpGe, impl.OpSet, impl.OpEqX, impl.OpGtX, impl.OpGeX, impl.OpSetX}[r.Intn(8)]
	}
	switch x.Code {
	case impl.OpLoad:
		x.K = 4 * r.Int63n(16)
	case impl.OpMem, impl.OpMemX, impl.OpStore, impl.OpStoreX:
		x.K = []int64{0, 3, 15}[r.Intn(3)]
	case impl.OpJump:
		x.K = far()
	case impl.OpEq, impl.OpGt, impl.OpGe, impl.OpSet, impl.OpEqX, impl.OpGtX, impl.OpGeX, impl.OpSetX:
		x.Yes, x.No = far(), far()
	}
	return x
}

// someProgram is a program of that many words: mostly one that is let by, or wrong in its cells alone.
func someProgram(r *rand.Rand, size int) []impl.Insn {
	l := make([]impl.Insn, size)
	for at := range size - 1 {
		l[at] = someWord(r, at, size)
	}
	l[size-1] = impl.Insn{Code: []int64{impl.OpRet, impl.OpRetA}[r.Intn(2)], K: r.Int63n(100)}
	if r.Intn(4) == 0 {
		faults := faultyWords()
		for range 1 + r.Intn(2) {
			l[r.Intn(size)] = faults[r.Intn(len(faults))].x
		}
	}
	if r.Intn(4) == 0 {
		at := r.Intn(size)
		l[at].Yes += r.Int63n(int64(size))
		l[at].K += r.Int63n(3)
	}
	return l
}

func TestCheckWaysAndWrittenOfAnyProgram(t *testing.T) {
	r := rand.New(rand.NewSource(13))
	told := map[int64]int{}
	for range 20000 {
		l := someProgram(r, 1+r.Intn(11))
		want := checked(l)
		told[want.Code]++
		same(t, fmt.Sprint(l), impl.Check(l), want)
		if want.Code != impl.OK {
			refused(t, fmt.Sprint(l), l, want)
			continue
		}
		for at, cells := range writtenBy(l) {
			samePlaces(t, fmt.Sprint(l, at), impl.Ways(l, int64(at)), leads(l[at], int64(at)))
			same(t, fmt.Sprint(l, at), impl.Written(l, int64(at)), cells)
		}
	}
	for _, code := range []int64{impl.OK, impl.ErrForm, impl.ErrSyntax, impl.ErrRange, impl.ErrNone} {
		if told[code] < 300 {
			t.Errorf("code %d was told but %d times: %v", code, told[code], told)
		}
	}
}

// Whatever is let by has an end on each way, in no more steps than it has words, and on each way all that is read was written.
func TestPromise5WhatIsLetByEnds(t *testing.T) {
	r := rand.New(rand.NewSource(14))
	many := 0
	for range 20000 {
		l := someProgram(r, 1+r.Intn(12))
		if impl.Check(l).Code != impl.OK {
			continue
		}
		many++
		walk(l, 0, 0, 1, func(at, cells, steps int64) {
			what := fmt.Sprint(l, at)
			ended := l[at].Code == impl.OpRet || l[at].Code == impl.OpRetA
			same(t, "an end "+what, len(impl.Ways(l, at)) == 0, ended)
			same(t, "no more steps than words "+what, steps <= int64(len(l)), true)
			same(t, "no word is wrong "+what, wrongWith(l, at), impl.OK)
			same(t, "Written is on this way "+what, impl.Written(l, at)&^cells, 0)
			if l[at].Code == impl.OpMem || l[at].Code == impl.OpMemX {
				same(t, "what is read was written "+what, cells>>l[at].K&1, 1)
			}
		})
	}
	if many < 3000 {
		t.Errorf("but %d programs were let by", many)
	}
}

func TestPromise5WaysGoForwardInLongPrograms(t *testing.T) {
	r := rand.New(rand.NewSource(15))
	for range 20 {
		l := make([]impl.Insn, impl.MaxList)
		for at := range len(l) - 1 {
			far := min(int64(len(l)-at-1), 256)
			l[at] = impl.Insn{Code: impl.OpGe, Yes: r.Int63n(far), No: r.Int63n(far), K: r.Int63n(9)}
		}
		l[len(l)-1] = impl.Insn{Code: impl.OpRetA}
		same(t, "let by", impl.Check(l), impl.CheckOut{})
		for at := range int64(len(l) - 1) {
			ways := impl.Ways(l, at)
			samePlaces(t, fmt.Sprint(at), ways, leads(l[at], at))
			same(t, "forward", len(ways) > 0 && ways[0] > at && ways[len(ways)-1] < int64(len(l)), true)
		}
	}
}

// More ways than could be gone one by one.
func TestCheckOfManyWays(t *testing.T) {
	l := make([]impl.Insn, 0, impl.MaxList)
	for len(l) < impl.MaxList-4 {
		l = append(l, impl.Insn{Code: impl.OpSet, Yes: 0, No: 1, K: 3}, impl.Insn{Code: impl.OpStore, K: int64(len(l) % 15)})
	}
	l = append(l, impl.Insn{Code: impl.OpStoreX, K: 15}, impl.Insn{}, impl.Insn{Code: impl.OpMem, K: 15}, impl.Insn{Code: impl.OpRetA})
	same(t, "let by", impl.Check(l), impl.CheckOut{})
	same(t, "at the end", impl.Written(l, impl.MaxList-1), 32768)
	l[impl.MaxList-2].K = 4
	refused(t, "a cell that one way leaves out", l, fault(impl.MaxList-2, impl.ErrNone))
}

func TestCheckKeepsAndSharesNothing(t *testing.T) {
	l := prog(t, "store 3;eq 0 1 2;store 4;jump 0;mem 3;reta")
	kept := slices.Clone(l)
	for at := range int64(len(l)) {
		first := impl.Ways(l, at)
		want := slices.Clone(first)
		clear(first)
		samePlaces(t, "told again", impl.Ways(l, at), want)
		impl.Written(l, at)
	}
	same(t, "Check", impl.Check(l), impl.CheckOut{})
	if !slices.Equal(l, kept) {
		t.Errorf("a call changed what was handed in")
	}
	refused(t, "another one between", prog(t, "mem 3;reta"), fault(0, impl.ErrNone))
	same(t, "Check again", impl.Check(l), impl.CheckOut{})
	same(t, "Written again", impl.Written(l, 3), 8)
}
