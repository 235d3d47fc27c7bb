package impl

import (
	"strconv"
	"strings"
)

const MaxVarint = 562949953421311

const (
	maxFixedWidth  = 7
	maxVarintBytes = 7
	maxIntDigits   = 9
	hexDigits      = "0123456789abcdef"
)

func EncodeFixed(n int, width int) string {
	if !isFixedWidth(width) || n < 0 || n>>(8*width) != 0 {
		return ""
	}
	out := make([]byte, width)
	for i := range out {
		out[i] = byte(n >> (8 * (width - 1 - i)))
	}
	return string(out)
}

func DecodeFixed(s string, width int) (int, bool) {
	if !isFixedWidth(width) || len(s) < width {
		return 0, false
	}
	n := 0
	for i := range width {
		n = n<<8 | int(s[i])
	}
	return n, true
}

func isFixedWidth(width int) bool {
	return width >= 1 && width <= maxFixedWidth
}

func EncodeVarint(n int) string {
	if n < 0 || n > MaxVarint {
		return ""
	}
	var out []byte
	for n >= 128 {
		out = append(out, byte(n%128+128))
		n /= 128
	}
	return string(append(out, byte(n)))
}

func DecodeVarint(s string) (int, int) {
	n := 0
	for i := range min(len(s), maxVarintBytes) {
		n += int(s[i]%128) << (7 * i)
		if s[i] >= 128 {
			continue
		}
		// Unnecessary bytes give the same number, so only encoding it again shows them.
		if EncodeVarint(n) != s[:i+1] {
			return 0, 0
		}
		return n, i + 1
	}
	return 0, 0
}

func EncodeHex(s string) string {
	out := make([]byte, 0, 2*len(s))
	// By index, because a range over the string would join bytes to runes.
	for i := range len(s) {
		out = append(out, hexDigits[s[i]/16], hexDigits[s[i]%16])
	}
	return string(out)
}

func DecodeHex(s string) (string, bool) {
	if len(s)%2 != 0 {
		return "", false
	}
	out := make([]byte, len(s)/2)
	// Every digit is a single byte, so up to the first wrong rune i also counts the digits.
	for i, r := range s {
		digit := strings.IndexRune(hexDigits, r)
		if digit < 0 {
			return "", false
		}
		out[i/2] = out[i/2]*16 + byte(digit)
	}
	return string(out), true
}

func FormatInt(n int) string {
	return strconv.Itoa(n)
}

func ParseInt(s string) (int, bool) {
	digits, negative := strings.CutPrefix(s, "-")
	if len(digits) > maxIntDigits {
		return 0, false
	}
	n := 0
	for _, r := range digits {
		if !isDigit(r) {
			return 0, false
		}
		n = 10*n + int(r-'0')
	}
	if negative {
		n = -n
	}
	// This rejects what has no digits, leading zeros, or a sign before zero.
	if FormatInt(n) != s {
		return 0, false
	}
	return n, true
}

func isDigit(r rune) bool {
	return r >= '0' && r <= '9'
}
