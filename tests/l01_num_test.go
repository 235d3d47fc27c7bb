package tests

// Promise 1: each decoder is the inverse of its encoder and accepts nothing else.

import (
	"math"
	"math/big"
	"strings"
	"testing"

	"loop.example/g01987/impl"
)

func powerOf(base, exponent int) int {
	n := 1
	for range exponent {
		n *= base
	}
	return n
}

func allBytes() string {
	b := make([]byte, 256)
	for i := range b {
		b[i] = byte(i)
	}
	return string(b)
}

// wordsOver returns all strings over the bytes of the alphabet with at most so many bytes.
func wordsOver(alphabet string, length int) []string {
	all := []string{""}
	last := all
	for range length {
		var next []string
		for _, w := range last {
			for i := range len(alphabet) {
				next = append(next, w+alphabet[i:i+1])
			}
		}
		all = append(all, next...)
		last = next
	}
	return all
}

func wantFixed(t *testing.T, s string, width, n int, ok bool) {
	t.Helper()
	if gotN, gotOk := impl.DecodeFixed(s, width); gotN != n || gotOk != ok {
		t.Errorf("DecodeFixed(%q, %d) = %d, %t, want %d, %t", s, width, gotN, gotOk, n, ok)
	}
}

func wantVarint(t *testing.T, s string, n, length int) {
	t.Helper()
	if gotN, gotLength := impl.DecodeVarint(s); gotN != n || gotLength != length {
		t.Errorf("DecodeVarint(%q) = %d, %d, want %d, %d", s, gotN, gotLength, n, length)
	}
}

func wantHex(t *testing.T, s, decoded string, ok bool) {
	t.Helper()
	if got, gotOk := impl.DecodeHex(s); got != decoded || gotOk != ok {
		t.Errorf("DecodeHex(%q) = %q, %t, want %q, %t", s, got, gotOk, decoded, ok)
	}
}

func wantInt(t *testing.T, s string, n int, ok bool) {
	t.Helper()
	if gotN, gotOk := impl.ParseInt(s); gotN != n || gotOk != ok {
		t.Errorf("ParseInt(%q) = %d, %t, want %d, %t", s, gotN, gotOk, n, ok)
	}
}

func TestMaxVarint(t *testing.T) {
	if impl.MaxVarint != 1<<49-1 {
		t.Errorf("MaxVarint = %d", impl.MaxVarint)
	}
}

func TestEncodeFixed(t *testing.T) {
	for _, c := range []struct {
		n, width int
		want     string
	}{
		{258, 2, "\x01\x02"},
		{0, 1, "\x00"},
		{0, 7, "\x00\x00\x00\x00\x00\x00\x00"},
		{7, 3, "\x00\x00\x07"},
		{127, 1, "\x7f"},
		{128, 1, "\x80"},
		{0x01020304050607, 7, "\x01\x02\x03\x04\x05\x06\x07"},
		{0xfedcba98, 4, "\xfe\xdc\xba\x98"},
	} {
		if got := impl.EncodeFixed(c.n, c.width); got != c.want {
			t.Errorf("EncodeFixed(%d, %d) = %q, want %q", c.n, c.width, got, c.want)
		}
	}
}

func TestEncodeFixedAtTheLimits(t *testing.T) {
	for width := 1; width <= 7; width++ {
		greatest := powerOf(256, width) - 1
		if got, want := impl.EncodeFixed(greatest, width), strings.Repeat("\xff", width); got != want {
			t.Errorf("EncodeFixed(%d, %d) = %q, want %q", greatest, width, got, want)
		}
		if got, want := impl.EncodeFixed(greatest-1, width), strings.Repeat("\xff", width-1)+"\xfe"; got != want {
			t.Errorf("EncodeFixed(%d, %d) = %q, want %q", greatest-1, width, got, want)
		}
		for _, n := range []int{greatest + 1, greatest + 2, math.MaxInt, -1, -2, -greatest, math.MinInt, math.MinInt + 1} {
			if got := impl.EncodeFixed(n, width); got != "" {
				t.Errorf("EncodeFixed(%d, %d) = %q, want nothing", n, width, got)
			}
		}
	}
}

func TestFixedRejectsWidths(t *testing.T) {
	for _, width := range []int{0, -1, -7, 8, 9, 64, math.MaxInt, math.MinInt, math.MaxInt / 8, math.MinInt / 8, 1 << 61} {
		for _, n := range []int{0, 1, 255, -1, math.MaxInt, math.MinInt} {
			if got := impl.EncodeFixed(n, width); got != "" {
				t.Errorf("EncodeFixed(%d, %d) = %q, want nothing", n, width, got)
			}
		}
		for _, s := range []string{"", "\x01", "\x01\x02\x03\x04\x05\x06\x07\x08\x09", strings.Repeat("\x01", 70)} {
			wantFixed(t, s, width, 0, false)
		}
	}
}

func TestDecodeFixed(t *testing.T) {
	wantFixed(t, "\x01\x02", 2, 258, true)
	wantFixed(t, "\x01\x02\x03", 2, 258, true)
	wantFixed(t, "\x01\x02\x03", 1, 1, true)
	wantFixed(t, "\x00", 1, 0, true)
	wantFixed(t, "\x00\x00\x07", 3, 7, true)
	wantFixed(t, "\x01\x02\x03\x04\x05\x06\x07\x08", 7, 0x01020304050607, true)
	for width := 1; width <= 7; width++ {
		wantFixed(t, strings.Repeat("\xff", width), width, powerOf(256, width)-1, true)
		wantFixed(t, strings.Repeat("\xff", 9), width, powerOf(256, width)-1, true)
		wantFixed(t, strings.Repeat("\x00", width), width, 0, true)
		wantFixed(t, strings.Repeat("\x01", width-1), width, 0, false)
		wantFixed(t, "", width, 0, false)
	}
}

func TestFixedRoundTrip(t *testing.T) {
	for width := 1; width <= 7; width++ {
		for place := range width {
			for b := range 256 {
				s := strings.Repeat("\x5a", place) + string([]byte{byte(b)}) + strings.Repeat("\xa5", width-1-place)
				want := 0
				for i := range width {
					want += int(s[i]) * powerOf(256, width-1-i)
				}
				wantFixed(t, s, width, want, true)
				wantFixed(t, s+"z", width, want, true)
				if got := impl.EncodeFixed(want, width); got != s {
					t.Errorf("EncodeFixed(%d, %d) = %q, want %q", want, width, got, s)
				}
			}
		}
	}
}

// varintOf writes a varint by division, with so many bytes, needed or not.
func varintOf(n, length int) string {
	b := make([]byte, length)
	for i := range b {
		b[i] = byte(n / powerOf(128, i) % 128)
		if i < length-1 {
			b[i] |= 0x80
		}
	}
	return string(b)
}

func varintLength(n int) int {
	length := 1
	for powerOf(128, length) <= n {
		length++
	}
	return length
}

// varintSamples returns numbers around each change of the length or of one bit, and some between.
func varintSamples() []int {
	samples := []int{0, 1, 300, 5000, 123456789, 0x1555555555555, 0x0aaaaaaaaaaaa, impl.MaxVarint - 1, impl.MaxVarint}
	for bit := range 49 {
		samples = append(samples, 1<<bit-1, 1<<bit, 1<<bit+1, impl.MaxVarint-1<<bit)
	}
	return samples
}

func TestEncodeVarint(t *testing.T) {
	for n, want := range map[int]string{
		0:               "\x00",
		1:               "\x01",
		127:             "\x7f",
		128:             "\x80\x01",
		129:             "\x81\x01",
		255:             "\xff\x01",
		256:             "\x80\x02",
		300:             "\xac\x02",
		16383:           "\xff\x7f",
		16384:           "\x80\x80\x01",
		impl.MaxVarint:  "\xff\xff\xff\xff\xff\xff\x7f",
		1 << 42:         "\x80\x80\x80\x80\x80\x80\x01",
		1<<42 - 1:       "\xff\xff\xff\xff\xff\x7f",
		-1:              "",
		-128:            "",
		-300:            "",
		math.MinInt:     "",
		1 << 49:         "",
		1<<49 + 1:       "",
		1 << 56:         "",
		math.MaxInt - 1: "",
		math.MaxInt:     "",
	} {
		if got := impl.EncodeVarint(n); got != want {
			t.Errorf("EncodeVarint(%d) = %q, want %q", n, got, want)
		}
	}
}

func TestVarintRoundTrip(t *testing.T) {
	for _, n := range varintSamples() {
		want := varintOf(n, varintLength(n))
		if got := impl.EncodeVarint(n); got != want {
			t.Errorf("EncodeVarint(%d) = %q, want %q", n, got, want)
		}
		for _, rest := range []string{"", "z", "\x00", "\x80", "\xff\xff", want, strings.Repeat("\xff", 20)} {
			wantVarint(t, want+rest, n, len(want))
		}
	}
}

func TestVarintWithUnnecessaryBytes(t *testing.T) {
	for _, s := range []string{"\x80\x00", "\x81\x00", "\xff\x00", "\xac\x82\x00", "\x80\x80\x00", "\x80\x80\x80\x80\x80\x80\x00", "\xff\xff\xff\xff\xff\xff\x00"} {
		wantVarint(t, s, 0, 0)
		wantVarint(t, s+"\x01", 0, 0)
	}
	for _, n := range varintSamples() {
		for length := varintLength(n) + 1; length <= 8; length++ {
			wantVarint(t, varintOf(n, length), 0, 0)
		}
	}
}

func TestVarintBeyondTheLimit(t *testing.T) {
	wantVarint(t, "\xff\xff\xff\xff\xff\xff\x7f", impl.MaxVarint, 7)
	for length := 7; length <= 80; length++ {
		for _, last := range []string{"\x00", "\x01", "\x02", "\x7f"} {
			wantVarint(t, strings.Repeat("\x80", length)+last, 0, 0)
			wantVarint(t, strings.Repeat("\xff", length)+last, 0, 0)
			wantVarint(t, "\xac"+strings.Repeat("\x80", length-1)+last, 0, 0)
		}
	}
}

func TestVarintCutOff(t *testing.T) {
	wantVarint(t, "", 0, 0)
	for length := 1; length <= 80; length++ {
		wantVarint(t, strings.Repeat("\x80", length), 0, 0)
		wantVarint(t, strings.Repeat("\xff", length), 0, 0)
		wantVarint(t, "\xac"+strings.Repeat("\x80", length-1), 0, 0)
	}
}

func TestVarintOfAllShortStrings(t *testing.T) {
	lengths := map[string]int{}
	numbers := map[string]int{}
	for n := range 128 * 128 {
		s := varintOf(n, varintLength(n))
		lengths[s] = len(s)
		numbers[s] = n
	}
	for _, s := range wordsOver(allBytes(), 2) {
		prefix := s
		if len(s) == 2 && lengths[s] == 0 {
			prefix = s[:1]
		}
		wantVarint(t, s, numbers[prefix], lengths[prefix])
	}
}

func TestEncodeHex(t *testing.T) {
	for s, want := range map[string]string{
		"":                 "",
		"a\xff":            "61ff",
		"\x00":             "00",
		"\x0a\xa0":         "0aa0",
		"\x01\x23\x45\x67": "01234567",
		"\x89\xab\xcd\xef": "89abcdef",
		"é":                "c3a9",
		"\xff\xfe":         "fffe",
	} {
		if got := impl.EncodeHex(s); got != want {
			t.Errorf("EncodeHex(%q) = %q, want %q", s, got, want)
		}
	}
}

func TestHexRoundTrip(t *testing.T) {
	const digits = "0123456789abcdef"
	all := allBytes()
	want := ""
	for i := range len(all) {
		want += string([]byte{digits[i/16], digits[i%16]})
	}
	if got := impl.EncodeHex(all); got != want {
		t.Errorf("EncodeHex of all bytes = %q, want %q", got, want)
	}
	wantHex(t, want, all, true)
	wantHex(t, strings.Repeat(want, 100), strings.Repeat(all, 100), true)
}

func TestHexOfAllPairsOfBytes(t *testing.T) {
	const digits = "0123456789abcdef"
	for _, s := range wordsOver(allBytes(), 2) {
		switch {
		case s == "":
			wantHex(t, s, "", true)
		case len(s) == 2 && strings.IndexByte(digits, s[0]) >= 0 && strings.IndexByte(digits, s[1]) >= 0:
			b := strings.IndexByte(digits, s[0])*16 + strings.IndexByte(digits, s[1])
			wantHex(t, s, string([]byte{byte(b)}), true)
			wantHex(t, "7e"+s, "~"+string([]byte{byte(b)}), true)
		default:
			wantHex(t, s, "", false)
			wantHex(t, "7e"+s, "", false)
			wantHex(t, s+"7e", "", false)
		}
	}
}

func TestDecodeHexRejects(t *testing.T) {
	for _, s := range []string{"6", "616", "61ff0", "6F", "F6", "FF", "0x", "0x61", "g0", "0g", "61 ff", "61ff ", " 61ff", "61ff\n", "-1", "+1", "61\x00\x00", "é", "0é0", "61é", "６１", "0\xff", "\xff\xff", "\ufffd0", "0\ufffd", "000\ufffd"} {
		wantHex(t, s, "", false)
	}
}

func TestFormatInt(t *testing.T) {
	for n, want := range map[int]string{
		0:           "0",
		7:           "7",
		-7:          "-7",
		10:          "10",
		-10:         "-10",
		-120:        "-120",
		999999999:   "999999999",
		-999999999:  "-999999999",
		1000000000:  "1000000000",
		-1000000000: "-1000000000",
		math.MaxInt: "9223372036854775807",
		math.MinInt: "-9223372036854775808",
	} {
		if got := impl.FormatInt(n); got != want {
			t.Errorf("FormatInt(%d) = %q, want %q", n, got, want)
		}
	}
	samples := []int{math.MaxInt - 1, math.MinInt + 1}
	for digits := range 19 {
		samples = append(samples, powerOf(10, digits)-1, powerOf(10, digits), powerOf(10, digits)+1)
	}
	for _, n := range samples {
		for _, m := range []int{n, -n} {
			if got, want := impl.FormatInt(m), big.NewInt(int64(m)).String(); got != want {
				t.Errorf("FormatInt(%d) = %q, want %q", m, got, want)
			}
		}
	}
}

func TestIntRoundTrip(t *testing.T) {
	samples := []int{123456789, 987654321, 305419896, 999999999, 999999998, 100000000, 2147483647 / 10}
	for n := range 2000 {
		samples = append(samples, n)
	}
	for digits := range 9 {
		samples = append(samples, powerOf(10, digits), powerOf(10, digits)+1, powerOf(10, digits+1)-1)
	}
	for _, n := range samples {
		for _, m := range []int{n, -n} {
			wantInt(t, big.NewInt(int64(m)).String(), m, true)
			wantInt(t, impl.FormatInt(m), m, true)
		}
	}
}

func TestParseIntBeyondNineDigits(t *testing.T) {
	for _, n := range []int{1000000000, 1000000001, 1234567890, 9999999999, 1 << 31, 1 << 32, math.MaxInt, math.MaxInt - 1} {
		wantInt(t, impl.FormatInt(n), 0, false)
		wantInt(t, impl.FormatInt(-n), 0, false)
	}
	wantInt(t, impl.FormatInt(math.MinInt), 0, false)
	for _, s := range []string{"9223372036854775808", "18446744073709551617", "18446744073709551616", "-18446744073709551617", "0000000001", "-0000000001", strings.Repeat("9", 400), strings.Repeat("0", 400)} {
		wantInt(t, s, 0, false)
	}
}

func TestParseIntRejects(t *testing.T) {
	for _, s := range []string{"", "-", "--", "--7", "-0", "-00", "00", "01", "07", "-07", "007", "000000007", "+", "+0", "+1", "-+1", "+-1", " 1", "1 ", "- 1", "1\n", "\n1", "1\x00", "\x001", "1-", "1-2", "1_000", "1,5", "1.0", "1e3", "0x1", "0b1", "0o7", "a", "12a", "a12", "1:", "1/", "١", "１", "1\u0662", "1\xff", "\xff", "\ufffd", "−1", "none"} {
		wantInt(t, s, 0, false)
	}
}

func TestParseIntOfAllShortStrings(t *testing.T) {
	numbers := map[string]int{}
	for n := -99; n <= 999; n++ {
		numbers[big.NewInt(int64(n)).String()] = n
	}
	for _, s := range append(wordsOver("-+0123456789/: .,_eax\x00\xb2\xff", 3), wordsOver(allBytes(), 1)...) {
		n, ok := numbers[s]
		wantInt(t, s, n, ok)
	}
}
