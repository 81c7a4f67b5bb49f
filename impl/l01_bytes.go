package impl

import (
	"errors"
	"math"
	"strconv"
	"strings"
)

// Constants, see chapter 1.
const (
	OK        = 0
	ErrForm   = 1
	ErrSize   = 2
	ErrSyntax = 3
	ErrShort  = 4
	ErrSum    = 5
	ErrNone   = 6
	ErrThere  = 7
	ErrRange  = 8
	ErrFull   = 9
	ErrState  = 10
	MaxBytes  = 8000
	MaxList   = 400
	MaxTime   = 1000000
)

const (
	maxName = 20
	maxNum  = 10 // bytes of a number: seven bits each, 64 in all
	crcSize = 4
	crcPoly = 0xEDB88320
)

// NumOut is a thing of chapter 2.
type NumOut struct {
	N    int64
	At   int64
	Code int64
}

// TextOut is a thing of chapter 2.
type TextOut struct {
	Text string
	At   int64
	Code int64
}

// fault is a code of chapter 1, handed up as an error till a call tells it.
type fault struct {
	code int64
}

// Error makes of a fault an error.
func (f fault) Error() string {
	return "fault " + strconv.FormatInt(f.code, 10)
}

// codeOf takes an error apart: the code of the fault in it, OK without one.
func codeOf(err error) int64 {
	var f fault
	if errors.As(err, &f) {
		return f.code
	}
	return OK
}

// joined puts two texts together in new memory.
func joined(a, b string) string {
	out := make([]byte, len(a)+len(b))
	copy(out[copy(out, a):], b)
	return string(out)
}

// PutNum tells the bytes of a number: see chapter 2.
func PutNum(n int64) string {
	u := folded(n)
	var out [maxNum]byte
	last := 0
	for u > 127 {
		out[last] = byte(u) | 128
		last++
		u >>= 7
	}
	out[last] = byte(u)
	return string(out[:last+1])
}

// folded puts the sign of a number into its lowest bit, so that small numbers of either sign take few bytes.
func folded(n int64) uint64 {
	u := uint64(n) << 1
	if n < 0 {
		return ^u
	}
	return u
}

// unfolded is what folded was made of.
func unfolded(u uint64) int64 {
	n := int64(u >> 1)
	if u&1 == 1 {
		return ^n
	}
	return n
}

// GetNum tells the number at that place of the text: see chapter 2.
func GetNum(text string, at int64) NumOut {
	n, behind, err := readNum(text, at)
	if err != nil {
		return NumOut{Code: codeOf(err)}
	}
	return NumOut{N: n, At: behind}
}

// placeFault tells what is wrong with a text and a place of it, ahead of what stands there.
func placeFault(text string, at int64) int64 {
	switch {
	case len(text) > MaxBytes:
		return ErrSize
	case at < 0:
		return ErrForm
	case at > int64(len(text)):
		return ErrShort
	}
	return OK
}

// readNum reads the number at that place, and tells it and the place behind it.
func readNum(text string, at int64) (int64, int64, error) {
	var u uint64
	var b byte
	size := 0
	code := placeFault(text, at)
	if code != OK {
		goto wrong
	}
	text = text[at:]
more:
	if size == len(text) {
		code = ErrShort
		goto wrong
	}
	b = text[size]
	u |= uint64(b&127) << (7 * size)
	size++
	if b < 128 || size == maxNum {
		goto last
	}
	goto more
last:
	// The tenth byte has but one bit left of the 64; an ending nought would be a byte that is not needed.
	if size == maxNum && b > 1 || size > 1 && b == 0 {
		code = ErrSyntax
		goto wrong
	}
	return unfolded(u), at + int64(size), nil
wrong:
	return 0, 0, fault{code}
}

// PutText tells the bytes of a text: see chapter 2.
func PutText(t string) string {
	if len(t) > MaxBytes {
		return ""
	}
	return joined(PutNum(int64(len(t))), t)
}

// GetText tells the text at that place of another one: see chapter 2.
func GetText(text string, at int64) TextOut {
	t, behind, err := readText(text, at)
	if err != nil {
		return TextOut{Code: codeOf(err)}
	}
	return TextOut{Text: t, At: behind}
}

// readText reads the text at that place, and tells it and the place behind it.
func readText(text string, at int64) (string, int64, error) {
	size, from, err := readNum(text, at)
	if err != nil {
		return "", 0, err
	}
	if size < 0 || size > MaxBytes {
		return "", 0, fault{ErrSyntax}
	}
	behind := from + size
	if behind > int64(len(text)) {
		return "", 0, fault{ErrShort}
	}
	return strings.Clone(text[from:behind]), behind, nil
}

// NameRight tells whether a text is a name: see chapter 1.
func NameRight(t string) bool {
	if len(t) < 1 || len(t) > maxName || !isLetter(t[0]) {
		return false
	}
	for i := 1; i < len(t); i++ {
		if !isLetter(t[i]) && !isDigit(t[i]) && t[i] != '_' {
			return false
		}
	}
	return true
}

func isLetter(b byte) bool {
	return b >= 'a' && b <= 'z'
}

func isDigit(b byte) bool {
	return b >= '0' && b <= '9'
}

// Crc tells the CRC of a text: see chapter 2.
func Crc(text string) int64 {
	return CrcMore(0, text)
}

// CrcMore goes on with the CRC of a text that stands ahead: see chapter 2.
func CrcMore(crc int64, text string) int64 {
	if len(text) > MaxBytes || crc < 0 || crc > math.MaxUint32 {
		return 0
	}
	// A CRC is the register turned: turned again, it is the register where it was left.
	register := ^uint32(crc)
	for i := 0; i < len(text); i++ {
		register = crcByte(register, text[i])
	}
	return int64(^register)
}

// crcByte takes one byte, the lowest bit first, into the register.
func crcByte(register uint32, b byte) uint32 {
	register ^= uint32(b)
	for range 8 {
		low := register & 1
		register >>= 1
		if low == 1 {
			register ^= crcPoly
		}
	}
	return register
}

// Seal tells a text with its CRC behind it: see chapter 2.
func Seal(text string) string {
	if len(text) > MaxBytes-crcSize {
		return ""
	}
	crc := Crc(text)
	var sum [crcSize]byte
	for i := range sum {
		sum[i] = byte(crc >> (8 * i))
	}
	return joined(text, string(sum[:]))
}

// Unseal tells the text of which this is the Seal: see chapter 2.
func Unseal(text string) TextOut {
	if len(text) > MaxBytes {
		return TextOut{Code: ErrSize}
	}
	if len(text) < crcSize {
		return TextOut{Code: ErrShort}
	}
	inner := text[:len(text)-crcSize]
	if Seal(inner) != text {
		return TextOut{Code: ErrSum}
	}
	return TextOut{Text: strings.Clone(inner)}
}
