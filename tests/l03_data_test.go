package tests

import (
	"encoding/binary"
	"fmt"
	"math"
	"math/rand"
	"slices"
	"strings"
	"testing"

	"loop.example/s0083/impl"
)

// sameRecord fails unless the call told just that record and code; an empty list and none are the same.
func sameRecord(t *testing.T, what string, got, want impl.RecordOut) {
	t.Helper()
	a, b := got.Record, want.Record
	if a.Nr != b.Nr || a.Arch != b.Arch || a.Ip != b.Ip || !slices.Equal(a.Args, b.Args) || got.Code != want.Code {
		t.Errorf("%s: got %+v, want %+v", what, got, want)
	}
}

// bits is the number of 64 bits that a right word is.
func bits(w impl.Word) uint64 {
	return uint64(w.High)*(1<<32) + uint64(w.Low)
}

// recordBytes is the writing of chapter 4, by the standard library.
func recordBytes(x impl.Record) string {
	b := binary.LittleEndian.AppendUint32(nil, uint32(x.Nr))
	b = binary.LittleEndian.AppendUint32(b, uint32(x.Arch))
	for _, w := range append([]impl.Word{x.Ip}, x.Args...) {
		b = binary.LittleEndian.AppendUint64(b, bits(w))
	}
	return string(b)
}

// halves tells the sixteen numbers of a record, in the order of its bytes.
func halves(x impl.Record) []int64 {
	l := []int64{x.Nr, x.Arch, x.Ip.Low, x.Ip.High}
	for _, w := range x.Args {
		l = append(l, w.Low, w.High)
	}
	return l
}

func anyWord(r *rand.Rand) impl.Word {
	return impl.Word{High: edge(r, impl.MaxWord), Low: edge(r, impl.MaxWord)}
}

func anyRecord(r *rand.Rand) impl.Record {
	x := impl.Record{Nr: edge(r, impl.MaxWord), Arch: edge(r, impl.MaxWord), Ip: anyWord(r)}
	for range 6 {
		x.Args = append(x.Args, anyWord(r))
	}
	return x
}

// someRecords holds the least and the greatest record, and many others.
func someRecords() []impl.Record {
	most := impl.Word{High: impl.MaxWord, Low: impl.MaxWord}
	l := []impl.Record{
		{Args: make([]impl.Word, 6)},
		{Nr: impl.MaxWord, Arch: impl.MaxWord, Ip: most, Args: slices.Repeat([]impl.Word{most}, 6)},
	}
	r := rand.New(rand.NewSource(9))
	for range 3000 {
		l = append(l, anyRecord(r))
	}
	return l
}

// rightWords holds words at the limits and near them, each one once.
func rightWords() []impl.Word {
	var l []impl.Word
	ends := []int64{0, 1, 2, 0x7fffffff, 0x80000000, impl.MaxWord - 1, impl.MaxWord}
	for _, high := range ends {
		for _, low := range ends {
			l = append(l, impl.Word{High: high, Low: low})
		}
	}
	return l
}

// wrongHalves holds numbers that are no 32 bits: one beyond the limits, and far beyond.
func wrongHalves() []int64 {
	return []int64{-1, 1 << 32, -1 << 32, 1<<32 + 5, 1 << 40, 1<<63 - 1<<32, math.MinInt64, math.MaxInt64}
}

// wrongWords holds words that are not right: in one half, with the other one at its limits, and in both.
func wrongWords() []impl.Word {
	var l []impl.Word
	for _, n := range wrongHalves() {
		l = append(l, impl.Word{High: n}, impl.Word{Low: n}, impl.Word{High: n, Low: n},
			impl.Word{High: n, Low: impl.MaxWord}, impl.Word{High: impl.MaxWord, Low: n})
	}
	return l
}

// wrongRecords holds records that are not right: in one field, or by the number of their Args.
func wrongRecords() []impl.Record {
	var l []impl.Record
	changed := func(change func(*impl.Record)) {
		x := impl.Record{Nr: 2, Arch: 7, Ip: impl.Word{High: 1, Low: 9}, Args: make([]impl.Word, 6)}
		change(&x)
		l = append(l, x)
	}
	for _, n := range wrongHalves() {
		changed(func(x *impl.Record) { x.Nr = n })
		changed(func(x *impl.Record) { x.Arch = n })
	}
	for _, w := range wrongWords() {
		changed(func(x *impl.Record) { x.Ip = w })
		for at := range 6 {
			changed(func(x *impl.Record) { x.Args[at] = w })
		}
	}
	for _, size := range []int{0, 1, 5, 7, 8, impl.MaxList, impl.MaxList + 1} {
		changed(func(x *impl.Record) { x.Args = make([]impl.Word, size) })
	}
	changed(func(x *impl.Record) { x.Args = nil })
	return append(l, impl.Record{})
}

func TestWordRight(t *testing.T) {
	for _, w := range rightWords() {
		same(t, fmt.Sprint(w), impl.WordRight(w), true)
	}
	for _, w := range wrongWords() {
		same(t, fmt.Sprint(w), impl.WordRight(w), false)
	}
}

func TestPromise4OfUnlikeWordsOneIsLess(t *testing.T) {
	words := rightWords()
	r := rand.New(rand.NewSource(10))
	for range 100 {
		words = append(words, anyWord(r))
	}
	for _, a := range words {
		for _, b := range words {
			what := fmt.Sprint(a, b)
			same(t, what, impl.WordLess(a, b), bits(a) < bits(b))
			same(t, "just one of "+what, impl.WordLess(a, b) != impl.WordLess(b, a), a != b)
		}
	}
}

func TestWordLessByItsHalves(t *testing.T) {
	for _, c := range []struct {
		a, b impl.Word
		want bool
	}{
		{impl.Word{Low: 9}, impl.Word{High: 1}, true},
		{impl.Word{High: 1}, impl.Word{Low: 9}, false},
		{impl.Word{High: 1, Low: 5}, impl.Word{High: 2, Low: 5}, true},
		{impl.Word{High: 2, Low: 5}, impl.Word{High: 1, Low: 5}, false},
		{impl.Word{High: 2, Low: 4}, impl.Word{High: 2, Low: 5}, true},
		{impl.Word{High: 2, Low: 5}, impl.Word{High: 2, Low: 4}, false},
		{impl.Word{High: 2, Low: 5}, impl.Word{High: 2, Low: 5}, false},
		{impl.Word{Low: impl.MaxWord}, impl.Word{High: 0x80000000}, true},
		{impl.Word{High: 0x80000000}, impl.Word{High: 0x7fffffff, Low: impl.MaxWord}, false},
	} {
		same(t, fmt.Sprint(c.a, c.b), impl.WordLess(c.a, c.b), c.want)
	}
}

func TestWordLessOfWrongWords(t *testing.T) {
	wrong := wrongWords()
	for _, a := range wrong {
		for _, b := range append(rightWords(), wrong...) {
			same(t, fmt.Sprint(a, b), impl.WordLess(a, b), false)
			same(t, fmt.Sprint(b, a), impl.WordLess(b, a), false)
		}
	}
}

func TestWordAnd(t *testing.T) {
	same(t, "as in its halves", impl.WordAnd(impl.Word{High: 3, Low: 6}, impl.Word{High: 1, Low: 12}), impl.Word{High: 1, Low: 4})
	for _, a := range rightWords() {
		for _, b := range rightWords() {
			got := impl.WordAnd(a, b)
			same(t, fmt.Sprint(a, b), got, impl.Word{High: a.High & b.High, Low: a.Low & b.Low})
			same(t, "right", impl.WordRight(got), true)
		}
		for _, b := range wrongWords() {
			same(t, fmt.Sprint(a, b), impl.WordAnd(a, b), impl.Word{})
			same(t, fmt.Sprint(b, a), impl.WordAnd(b, a), impl.Word{})
			same(t, fmt.Sprint(b, b), impl.WordAnd(b, b), impl.Word{})
		}
	}
}

func TestRecordRight(t *testing.T) {
	for _, x := range someRecords() {
		same(t, fmt.Sprint(x), impl.RecordRight(x), true)
	}
	for _, x := range wrongRecords() {
		same(t, fmt.Sprint(x), impl.RecordRight(x), false)
	}
}

func TestPromise4RecordsComeBack(t *testing.T) {
	for _, x := range someRecords() {
		b := impl.RecordBytes(x)
		same(t, "RecordBytes", b, recordBytes(x))
		sameRecord(t, "RecordRead", impl.RecordRead(b), impl.RecordOut{Record: x})
	}
}

func TestPromise4BytesComeBackFromRecords(t *testing.T) {
	r := rand.New(rand.NewSource(11))
	b := make([]byte, 64)
	for range 1000 {
		r.Read(b)
		out := impl.RecordRead(string(b))
		same(t, "Code", out.Code, impl.OK)
		same(t, "right", impl.RecordRight(out.Record), true)
		same(t, "RecordBytes", impl.RecordBytes(out.Record), string(b))
	}
	for _, full := range []string{strings.Repeat("\x00", 64), strings.Repeat("\xff", 64)} {
		same(t, "all alike", impl.RecordBytes(impl.RecordRead(full).Record), full)
	}
}

func TestPromise4WhatIsLoadedIsThere(t *testing.T) {
	for _, x := range someRecords() {
		b := impl.RecordBytes(x)
		for i, want := range halves(x) {
			same(t, fmt.Sprint(4*i), impl.Load(b, int64(4*i)), want)
		}
	}
}

func TestEachByteOfARecord(t *testing.T) {
	for at := range 64 {
		b := make([]byte, 64)
		b[at] = 200
		want := make([]int64, 16)
		want[at/4] = 200 << (8 * (at % 4))
		out := impl.RecordRead(string(b))
		if !slices.Equal(halves(out.Record), want) || out.Code != impl.OK {
			t.Errorf("byte %d: got %+v", at, out)
		}
		for i, n := range want {
			same(t, "Load", impl.Load(string(b), int64(4*i)), n)
		}
		same(t, "RecordBytes", impl.RecordBytes(out.Record), string(b))
	}
}

func TestRecordBytesFaults(t *testing.T) {
	for _, x := range wrongRecords() {
		same(t, fmt.Sprint(x), impl.RecordBytes(x), "")
	}
}

func TestRecordReadFaults(t *testing.T) {
	for _, c := range []struct {
		size int
		code int64
	}{
		{0, impl.ErrShort}, {1, impl.ErrShort}, {8, impl.ErrShort}, {60, impl.ErrShort}, {63, impl.ErrShort},
		{65, impl.ErrShort}, {72, impl.ErrShort}, {128, impl.ErrShort}, {impl.MaxBytes, impl.ErrShort},
		{impl.MaxBytes + 1, impl.ErrSize}, {impl.MaxBytes + 64, impl.ErrSize}, {100000, impl.ErrSize},
	} {
		got := impl.RecordRead(strings.Repeat("\x06", c.size))
		sameRecord(t, fmt.Sprint(c.size), got, impl.RecordOut{Code: c.code})
	}
}

func TestLoadFaults(t *testing.T) {
	right := strings.Repeat("\x06", 64)
	for at := int64(-70); at <= 140; at++ {
		want := int64(-1)
		if at >= 0 && at <= 60 && at%4 == 0 {
			want = 0x06060606
		}
		same(t, fmt.Sprint(at), impl.Load(right, at), want)
		for _, size := range []int{0, 4, 8, 60, 63, 65, 68, 128, impl.MaxBytes, impl.MaxBytes + 1} {
			same(t, fmt.Sprint(size, at), impl.Load(strings.Repeat("\x06", size), at), -1)
		}
	}
	for _, at := range []int64{math.MinInt64, math.MaxInt64, math.MaxInt64 - 3, 1 << 32, 1<<32 + 4, 1 << 40, -1 << 32} {
		same(t, fmt.Sprint(at), impl.Load(right, at), -1)
	}
}

func TestRecordsAreNewMemory(t *testing.T) {
	x := anyRecord(rand.New(rand.NewSource(12)))
	kept := slices.Clone(x.Args)
	b := impl.RecordBytes(x)
	impl.RecordRight(x)
	if !slices.Equal(x.Args, kept) {
		t.Errorf("a call changed what was handed in")
	}
	first := impl.RecordRead(b)
	clear(first.Record.Args)
	sameRecord(t, "told again", impl.RecordRead(b), impl.RecordOut{Record: x})
}
