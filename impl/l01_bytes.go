package impl

import (
	"errors"
	"strconv"
)

// Constants, see chapter 1.
const (
	OK        = 0
	ErrForm   = 1
	ErrSize   = 2
	ErrSyntax = 3
	ErrShort  = 4
	ErrSum    = 5
	ErrNone   = 6
	ErrThere  = 7
	ErrRange  = 8
	ErrFull   = 9
	ErrState  = 10
	MaxBytes  = 8000
	MaxList   = 400
	MaxTime   = 1000000
)

const (
	maxName   = 20
	sumBytes  = 4
	crcPoly   = 0xEDB88320
	allOnes   = 0xFFFFFFFF
	moreBit   = 128
	bitsEach  = 7
	lastShift = 63 // the tenth byte holds bit 63 alone
)

// NumOut is a thing of chapter 2.
type NumOut struct {
	N    int64
	At   int64
	Code int64
}

// TextOut is a thing of chapter 2.
type TextOut struct {
	Text string
	At   int64
	Code int64
}

// byteFault is why bytes could not be read; its code is the one that is told.
type byteFault struct {
	code int64
}

func (f byteFault) Error() string {
	return "bytes cannot be read: code " + strconv.FormatInt(f.code, 10)
}

// faultCode is OK where there is no error.
func faultCode(err error) int64 {
	var f byteFault
	if errors.As(err, &f) {
		return f.code
	}
	return OK
}

// joinTexts hands out new memory even of a single part, so that no answer shares any with an argument.
func joinTexts(parts ...string) string {
	size := 0
	for _, p := range parts {
		size += len(p)
	}
	all := make([]byte, size)
	at := 0
	for _, p := range parts {
		at += copy(all[at:], p)
	}
	return string(all)
}

// foldSign puts the sign into the lowest bit, so that numbers near 0 need few bytes on either side.
func foldSign(n int64) uint64 {
	return uint64(n)<<1 ^ uint64(n>>63)
}

func unfoldSign(u uint64) int64 {
	return int64(u>>1) ^ -int64(u&1)
}

// PutNum: see chapter 2.
func PutNum(n int64) string {
	var out []byte
	u := foldSign(n)
	for u >= moreBit {
		out = append(out, byte(u)|moreBit)
		u >>= bitsEach
	}
	return string(append(out, byte(u)))
}

// readNum goes from byte to byte in the state more, and ends in last or in wrong.
func readNum(text string, at int64) (int64, int64, error) {
	var u uint64
	var shift uint
	var b byte
	var fault byteFault
	if len(text) > MaxBytes {
		fault.code = ErrSize
		goto wrong
	}
	if at < 0 {
		fault.code = ErrForm
		goto wrong
	}
more:
	if at >= int64(len(text)) {
		fault.code = ErrShort
		goto wrong
	}
	b = text[at]
	at++
	if shift == lastShift && b > 1 {
		fault.code = ErrSyntax
		goto wrong
	}
	u |= uint64(b&^moreBit) << shift
	if b < moreBit {
		goto last
	}
	shift += bitsEach
	goto more
last:
	// A last byte of 0 adds nothing: without it the number had fewer bytes.
	if b == 0 && shift > 0 {
		fault.code = ErrSyntax
		goto wrong
	}
	return unfoldSign(u), at, nil
wrong:
	return 0, 0, fault
}

// GetNum: see chapter 2.
func GetNum(text string, at int64) NumOut {
	n, behind, err := readNum(text, at)
	return NumOut{N: n, At: behind, Code: faultCode(err)}
}

// PutText: see chapter 2.
func PutText(t string) string {
	if len(t) > MaxBytes {
		return ""
	}
	return joinTexts(PutNum(int64(len(t))), t)
}

func readText(text string, at int64) (string, int64, error) {
	size, from, err := readNum(text, at)
	if err != nil {
		return "", 0, err
	}
	if size < 0 || size > MaxBytes {
		return "", 0, byteFault{code: ErrSyntax}
	}
	if size > int64(len(text))-from {
		return "", 0, byteFault{code: ErrShort}
	}
	return joinTexts(text[from : from+size]), from + size, nil
}

// GetText: see chapter 2.
func GetText(text string, at int64) TextOut {
	t, behind, err := readText(text, at)
	return TextOut{Text: t, At: behind, Code: faultCode(err)}
}

func smallLetter(b byte) bool {
	return b >= 'a' && b <= 'z'
}

func nameByte(b byte) bool {
	return smallLetter(b) || b >= '0' && b <= '9' || b == '_'
}

// NameRight: see chapter 2.
func NameRight(t string) bool {
	if len(t) < 1 || len(t) > maxName || !smallLetter(t[0]) {
		return false
	}
	for i := 1; i < len(t); i++ {
		if !nameByte(t[i]) {
			return false
		}
	}
	return true
}

func crcByte(register uint32, b byte) uint32 {
	register ^= uint32(b)
	for range 8 {
		low := register & 1
		register >>= 1
		if low == 1 {
			register ^= crcPoly
		}
	}
	return register
}

// Crc: see chapter 2.
func Crc(text string) int64 {
	// The empty text has the CRC 0, and any text goes on from it.
	return CrcMore(0, text)
}

// CrcMore: see chapter 2.
func CrcMore(crc int64, text string) int64 {
	if len(text) > MaxBytes || crc < 0 || crc > allOnes {
		return 0
	}
	register := ^uint32(crc)
	for i := 0; i < len(text); i++ {
		register = crcByte(register, text[i])
	}
	return int64(^register)
}

func sumText(crc int64) string {
	return string([]byte{byte(crc), byte(crc >> 8), byte(crc >> 16), byte(crc >> 24)})
}

// Seal: see chapter 2.
func Seal(text string) string {
	if len(text) > MaxBytes-sumBytes {
		return ""
	}
	return joinTexts(text, sumText(Crc(text)))
}

// Unseal: see chapter 2.
func Unseal(text string) TextOut {
	if len(text) > MaxBytes {
		return TextOut{Code: ErrSize}
	}
	if len(text) < sumBytes {
		return TextOut{Code: ErrShort}
	}
	body := text[:len(text)-sumBytes]
	if Seal(body) != text {
		return TextOut{Code: ErrSum}
	}
	return TextOut{Text: joinTexts(body)}
}
