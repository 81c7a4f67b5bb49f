package tests

import (
	"encoding/binary"
	"hash/crc32"
	"math"
	"math/rand"
	"strings"
	"testing"
	"unsafe"

	"loop.example/s0083/impl"
)

// same fails unless the call told just that, in all fields.
func same[T comparable](t *testing.T, what string, got, want T) {
	t.Helper()
	if got != want {
		t.Errorf("%s: got %+v, want %+v", what, got, want)
	}
}

// varint is the standard library's writing of a number, which is that of chapter 2.
func varint(n int64) string {
	return string(binary.AppendVarint(nil, n))
}

// someNumbers holds the least and the greatest number, those around each change of length, and some others.
func someNumbers() []int64 {
	l := []int64{math.MinInt64, math.MinInt64 + 1, math.MaxInt64, math.MaxInt64 - 1}
	for n := int64(-300); n <= 300; n++ {
		l = append(l, n)
	}
	for shift := range 63 {
		n := int64(1) << shift
		l = append(l, n-1, n, n+1, -n-1, -n, -n+1)
	}
	r := rand.New(rand.NewSource(1))
	for range 2000 {
		l = append(l, int64(r.Uint64()>>r.Intn(64)), -int64(r.Uint64()>>r.Intn(64)))
	}
	return l
}

// someTexts holds texts of many lengths, the longest one of just limit bytes.
func someTexts(limit int) []string {
	r := rand.New(rand.NewSource(2))
	var l []string
	for _, size := range []int{0, 1, 2, 3, 4, 5, 63, 64, 65, 127, 128, 129, 1000, limit - 1, limit} {
		b := make([]byte, size)
		r.Read(b)
		l = append(l, string(b), strings.Repeat("\x00", size), strings.Repeat("\xff", size))
	}
	return l
}

func TestConstants(t *testing.T) {
	got := [...]int{impl.OK, impl.ErrForm, impl.ErrSize, impl.ErrSyntax, impl.ErrShort, impl.ErrSum, impl.ErrNone,
		impl.ErrThere, impl.ErrRange, impl.ErrFull, impl.ErrState, impl.MaxBytes, impl.MaxList, impl.MaxTime}
	same(t, "constants", got, [...]int{0, 1, 2, 3, 4, 5, 6, 7, 8, 9, 10, 8000, 400, 1000000})
}

func TestPutNumWrites(t *testing.T) {
	for _, c := range []struct {
		n    int64
		want string
	}{
		{0, "\x00"}, {-1, "\x01"}, {1, "\x02"}, {-2, "\x03"}, {63, "\x7e"}, {-64, "\x7f"},
		{64, "\x80\x01"}, {-65, "\x81\x01"}, {8191, "\xfe\x7f"}, {-8192, "\xff\x7f"}, {8192, "\x80\x80\x01"},
		{math.MaxInt64, "\xfe\xff\xff\xff\xff\xff\xff\xff\xff\x01"},
		{math.MinInt64, "\xff\xff\xff\xff\xff\xff\xff\xff\xff\x01"},
	} {
		same(t, "PutNum", impl.PutNum(c.n), c.want)
	}
	for _, n := range someNumbers() {
		same(t, "PutNum against varint", impl.PutNum(n), varint(n))
	}
}

func TestPromise1NumbersComeBack(t *testing.T) {
	for _, n := range someNumbers() {
		b := impl.PutNum(n)
		end := int64(len(b))
		same(t, "GetNum", impl.GetNum(b, 0), impl.NumOut{N: n, At: end})
		same(t, "GetNum in the midst", impl.GetNum("\xff\xff"+b+"\xff", 2), impl.NumOut{N: n, At: end + 2})
		for cut := range b {
			same(t, "GetNum of too little", impl.GetNum(b[:cut], 0), impl.NumOut{Code: impl.ErrShort})
		}
	}
}

func TestPromise1NumbersOneBehindTheOther(t *testing.T) {
	var b strings.Builder
	numbers := someNumbers()[:1000]
	for _, n := range numbers {
		b.WriteString(impl.PutNum(n))
	}
	at := int64(0)
	for _, n := range numbers {
		got := impl.GetNum(b.String(), at)
		same(t, "number", got, impl.NumOut{N: n, At: at + int64(len(varint(n)))})
		at = got.At
	}
	same(t, "behind all", impl.GetNum(b.String(), at), impl.NumOut{Code: impl.ErrShort})
}

func TestGetNumFaults(t *testing.T) {
	nine, full := strings.Repeat("\x80", 9), strings.Repeat("\xff", 9)
	long := strings.Repeat("\x00", impl.MaxBytes)
	for _, c := range []struct {
		text string
		at   int64
		want impl.NumOut
	}{
		{long + "\x00", 0, impl.NumOut{Code: impl.ErrSize}},
		{long + "\x00", -1, impl.NumOut{Code: impl.ErrSize}},
		{long + "\x00", math.MaxInt64, impl.NumOut{Code: impl.ErrSize}},
		{long, impl.MaxBytes - 1, impl.NumOut{At: impl.MaxBytes}},
		{long, impl.MaxBytes, impl.NumOut{Code: impl.ErrShort}},
		{"", -1, impl.NumOut{Code: impl.ErrForm}},
		{"\x02", -1, impl.NumOut{Code: impl.ErrForm}},
		{"\x02", math.MinInt64, impl.NumOut{Code: impl.ErrForm}},
		{"", 0, impl.NumOut{Code: impl.ErrShort}},
		{"\x02", 1, impl.NumOut{Code: impl.ErrShort}},
		{"\x02", 2, impl.NumOut{Code: impl.ErrShort}},
		{"\x02", 1 << 32, impl.NumOut{Code: impl.ErrShort}},
		{"\x02", math.MaxInt64, impl.NumOut{Code: impl.ErrShort}},
		{"\x80\x00", 0, impl.NumOut{Code: impl.ErrSyntax}},
		{"\x82\x00", 0, impl.NumOut{Code: impl.ErrSyntax}},
		{"\x82\x80\x00", 0, impl.NumOut{Code: impl.ErrSyntax}},
		{"\x82\x80\x00", 2, impl.NumOut{At: 3}},
		{nine, 0, impl.NumOut{Code: impl.ErrShort}},
		{full, 0, impl.NumOut{Code: impl.ErrShort}},
		{nine + "\x00", 0, impl.NumOut{Code: impl.ErrSyntax}},
		{nine + "\x01", 0, impl.NumOut{N: 1 << 62, At: 10}},
		{full + "\x01", 0, impl.NumOut{N: math.MinInt64, At: 10}},
		{nine + "\x02", 0, impl.NumOut{Code: impl.ErrSyntax}},
		{nine + "\x7f", 0, impl.NumOut{Code: impl.ErrSyntax}},
		{nine + "\x80", 0, impl.NumOut{Code: impl.ErrSyntax}},
		{nine + "\x81", 0, impl.NumOut{Code: impl.ErrSyntax}},
		{full + "\xff", 0, impl.NumOut{Code: impl.ErrSyntax}},
		{nine + "\x80\x01", 0, impl.NumOut{Code: impl.ErrSyntax}},
		{full + "\x00", 1, impl.NumOut{Code: impl.ErrSyntax}},
	} {
		t.Run("", func(t *testing.T) { same(t, "GetNum", impl.GetNum(c.text, c.at), c.want) })
	}
}

// numAt is what GetNum should tell of at most MaxBytes bytes: a number stands there just where its writing does.
func numAt(text string, at int64) impl.NumOut {
	if at < 0 {
		return impl.NumOut{Code: impl.ErrForm}
	}
	if at > int64(len(text)) {
		return impl.NumOut{Code: impl.ErrShort}
	}
	rest := text[at:]
	if n, size := binary.Varint([]byte(rest)); size > 0 && strings.HasPrefix(rest, varint(n)) {
		return impl.NumOut{N: n, At: at + int64(size)}
	}
	for i := range min(len(rest), 10) {
		if rest[i] < 128 || i == 9 {
			return impl.NumOut{Code: impl.ErrSyntax}
		}
	}
	return impl.NumOut{Code: impl.ErrShort}
}

// textAt is what GetText should tell of at most MaxBytes bytes.
func textAt(text string, at int64) impl.TextOut {
	n := numAt(text, at)
	switch {
	case n.Code != impl.OK:
		return impl.TextOut{Code: n.Code}
	case n.N < 0 || n.N > impl.MaxBytes:
		return impl.TextOut{Code: impl.ErrSyntax}
	case n.N > int64(len(text))-n.At:
		return impl.TextOut{Code: impl.ErrShort}
	}
	return impl.TextOut{Text: text[n.At : n.At+n.N], At: n.At + n.N}
}

func TestGetOfAnyBytes(t *testing.T) {
	r := rand.New(rand.NewSource(3))
	pick := "\x00\x01\x02\x04\x7f\x80\x80\x80\x81\xfe\xff\xff"
	for range 50000 {
		b := make([]byte, r.Intn(16))
		for i := range b {
			b[i] = pick[r.Intn(len(pick))]
		}
		text, at := string(b), int64(r.Intn(20)-2)
		same(t, "GetNum", impl.GetNum(text, at), numAt(text, at))
		same(t, "GetText", impl.GetText(text, at), textAt(text, at))
	}
}

func TestPromise1TextsComeBack(t *testing.T) {
	for _, text := range someTexts(impl.MaxBytes - 2) {
		b := impl.PutText(text)
		same(t, "PutText", b, varint(int64(len(text)))+text)
		end := int64(len(b))
		same(t, "GetText", impl.GetText(b, 0), impl.TextOut{Text: text, At: end})
		if len(b)+4 <= impl.MaxBytes {
			same(t, "GetText in the midst", impl.GetText("\xff\xff\xff"+b+"\xff", 3), impl.TextOut{Text: text, At: end + 3})
		}
		for cut := 0; cut < len(b); cut += 1 + len(b)/50 {
			same(t, "GetText of too little", impl.GetText(b[:cut], 0), impl.TextOut{Code: impl.ErrShort})
		}
		same(t, "GetText of one byte less", impl.GetText(b[:end-1], 0), impl.TextOut{Code: impl.ErrShort})
	}
}

func TestPutTextLimit(t *testing.T) {
	most := strings.Repeat("a", impl.MaxBytes)
	same(t, "of MaxBytes", impl.PutText(most), "\x80\x7d"+most)
	same(t, "of one more", impl.PutText(most+"a"), "")
	same(t, "of none", impl.PutText(""), "\x00")
}

func TestGetTextFaults(t *testing.T) {
	most := strings.Repeat("a", impl.MaxBytes)
	for _, c := range []struct {
		text string
		at   int64
		want impl.TextOut
	}{
		{most + "a", 0, impl.TextOut{Code: impl.ErrSize}},
		{most + "a", -1, impl.TextOut{Code: impl.ErrSize}},
		{impl.PutText(most), 0, impl.TextOut{Code: impl.ErrSize}},
		{impl.PutText(most)[:impl.MaxBytes], 0, impl.TextOut{Code: impl.ErrShort}},
		{"", -1, impl.TextOut{Code: impl.ErrForm}},
		{"\x00", math.MinInt64, impl.TextOut{Code: impl.ErrForm}},
		{"", 0, impl.TextOut{Code: impl.ErrShort}},
		{"\x00", 0, impl.TextOut{At: 1}},
		{"\x00", 1, impl.TextOut{Code: impl.ErrShort}},
		{"\x00", 2, impl.TextOut{Code: impl.ErrShort}},
		{"\x00", math.MaxInt64, impl.TextOut{Code: impl.ErrShort}},
		{"\x80", 0, impl.TextOut{Code: impl.ErrShort}},
		{"\x82\x00a", 0, impl.TextOut{Code: impl.ErrSyntax}},
		{varint(-1) + "a", 0, impl.TextOut{Code: impl.ErrSyntax}},
		{varint(math.MinInt64), 0, impl.TextOut{Code: impl.ErrSyntax}},
		{varint(math.MaxInt64), 0, impl.TextOut{Code: impl.ErrSyntax}},
		{varint(impl.MaxBytes + 1), 0, impl.TextOut{Code: impl.ErrSyntax}},
		{varint(impl.MaxBytes), 0, impl.TextOut{Code: impl.ErrShort}},
		{varint(3) + "ab", 0, impl.TextOut{Code: impl.ErrShort}},
		{varint(2) + "abc", 0, impl.TextOut{Text: "ab", At: 3}},
	} {
		t.Run("", func(t *testing.T) { same(t, "GetText", impl.GetText(c.text, c.at), c.want) })
	}
}

func TestNameRight(t *testing.T) {
	for b := range 256 {
		s := string([]byte{byte(b)})
		letter := b >= 'a' && b <= 'z'
		more := letter || b >= '0' && b <= '9' || b == '_'
		same(t, "first byte "+s, impl.NameRight(s), letter)
		same(t, "second byte "+s, impl.NameRight("a"+s), more)
		same(t, "twentieth byte "+s, impl.NameRight(strings.Repeat("z", 19)+s), more)
	}
	for _, c := range []struct {
		size int
		want bool
	}{{0, false}, {1, true}, {20, true}, {21, false}, {impl.MaxBytes, false}, {impl.MaxBytes + 1, false}} {
		same(t, "length", impl.NameRight(strings.Repeat("a", c.size)), c.want)
	}
	for _, s := range []string{"_a", "9a", "a b", "a-b", "aB", "A", "ä", "aä", "a\n"} {
		same(t, s, impl.NameRight(s), false)
	}
	same(t, "all kinds", impl.NameRight("a_z0_9"), true)
}

func TestCrcValues(t *testing.T) {
	same(t, "nothing", impl.Crc(""), 0)
	same(t, "digits", impl.Crc("123456789"), 0xCBF43926)
	same(t, "nought", impl.Crc("\x00"), 0xD202EF8D)
	same(t, "all ones", impl.Crc("\xff\xff\xff\xff"), 0xFFFFFFFF)
	for _, text := range someTexts(impl.MaxBytes) {
		same(t, "Crc", impl.Crc(text), int64(crc32.ChecksumIEEE([]byte(text))))
	}
	same(t, "too long", impl.Crc(strings.Repeat("a", impl.MaxBytes+1)), 0)
}

func TestPromise2CrcGoesOn(t *testing.T) {
	text := strings.Repeat("what may be asked \x00\xff", 20)
	for cut := range text {
		same(t, "both", impl.CrcMore(impl.Crc(text[:cut]), text[cut:]), impl.Crc(text))
	}
	for _, text := range someTexts(impl.MaxBytes) {
		same(t, "of nothing on", impl.CrcMore(0, text), impl.Crc(text))
		same(t, "nothing behind", impl.CrcMore(impl.Crc(text), ""), impl.Crc(text))
		for _, crc := range []int64{1, 0x80000000, 0xFFFFFFFE, 0xFFFFFFFF} {
			want := crc32.Update(uint32(crc), crc32.IEEETable, []byte(text))
			same(t, "from any on", impl.CrcMore(crc, text), int64(want))
		}
	}
	most := strings.Repeat("ab", impl.MaxBytes/2)
	same(t, "longer than MaxBytes together", impl.CrcMore(impl.Crc(most), most), int64(crc32.ChecksumIEEE([]byte(most+most))))
}

func TestCrcMoreFaults(t *testing.T) {
	for _, crc := range []int64{-1, 1 << 32, 1<<32 + 1, -1 << 32, math.MinInt64, math.MaxInt64} {
		for _, text := range []string{"", "a"} {
			same(t, "no CRC", impl.CrcMore(crc, text), 0)
		}
	}
	long := strings.Repeat("a", impl.MaxBytes+1)
	for _, crc := range []int64{-1, 0, 1, math.MaxUint32, 1 << 32} {
		same(t, "too long", impl.CrcMore(crc, long), 0)
	}
}

func TestPromise2SealedTextsComeBack(t *testing.T) {
	for _, text := range someTexts(impl.MaxBytes - 4) {
		sealed := impl.Seal(text)
		sum := binary.LittleEndian.AppendUint32(nil, crc32.ChecksumIEEE([]byte(text)))
		same(t, "Seal", sealed, text+string(sum))
		same(t, "Unseal", impl.Unseal(sealed), impl.TextOut{Text: text})
	}
	same(t, "the Seal of nothing", impl.Unseal("\x00\x00\x00\x00"), impl.TextOut{})
}

func TestPromise2TurnedByteIsRefused(t *testing.T) {
	for _, text := range []string{"", "a", "what is asked", strings.Repeat("\x00", 40)} {
		sealed := []byte(impl.Seal(text))
		for at := range sealed {
			for x := 1; x < 256; x++ {
				sealed[at] ^= byte(x)
				same(t, "turned", impl.Unseal(string(sealed)), impl.TextOut{Code: impl.ErrSum})
				sealed[at] ^= byte(x)
			}
		}
	}
	sealed := []byte(impl.Seal(strings.Repeat("k", impl.MaxBytes-4)))
	for at := 0; at < len(sealed); at += 31 {
		sealed[at] ^= 128
		same(t, "turned in a long one", impl.Unseal(string(sealed)), impl.TextOut{Code: impl.ErrSum})
		sealed[at] ^= 128
	}
}

func TestSealFaults(t *testing.T) {
	same(t, "Seal of too much", impl.Seal(strings.Repeat("a", impl.MaxBytes-3)), "")
	same(t, "Seal of more than MaxBytes", impl.Seal(strings.Repeat("a", impl.MaxBytes+1)), "")
	for _, c := range []struct {
		text string
		code int64
	}{
		{strings.Repeat("\x00", impl.MaxBytes+1), impl.ErrSize},
		{"", impl.ErrShort},
		{"\x00\x00\x00", impl.ErrShort},
		{"\x00\x00\x00\x01", impl.ErrSum},
		{"abcd", impl.ErrSum},
		{impl.Seal("ab") + "\x00", impl.ErrSum},
		{impl.Seal("ab")[:5], impl.ErrSum},
		{strings.Repeat("a", impl.MaxBytes), impl.ErrSum},
	} {
		same(t, "Unseal", impl.Unseal(c.text), impl.TextOut{Code: c.code})
	}
}

func TestTextsAreNewMemory(t *testing.T) {
	text := strings.Repeat("what is asked ", 10)
	shares := func(part, whole string) bool {
		from, at := uintptr(unsafe.Pointer(unsafe.StringData(whole))), uintptr(unsafe.Pointer(unsafe.StringData(part)))
		return at >= from && at < from+uintptr(len(whole))
	}
	put, sealed := impl.PutText(text), impl.Seal(text)
	same(t, "GetText", shares(impl.GetText(put, 0).Text, put), false)
	same(t, "Unseal", shares(impl.Unseal(sealed).Text, sealed), false)
}
