package tests

import (
	"math"
	"strings"
	"testing"

	"loop.example/g02081/impl"
)

func checkFixed(t *testing.T, n, width int, want string) {
	t.Helper()
	if got := impl.EncodeFixed(n, width); got != want {
		t.Errorf("EncodeFixed(%d, %d) = %q, want %q", n, width, got, want)
	}
}

func checkFixedBack(t *testing.T, s string, width, want int, wantOk bool) {
	t.Helper()
	if n, ok := impl.DecodeFixed(s, width); n != want || ok != wantOk {
		t.Errorf("DecodeFixed(%q, %d) = %d, %t, want %d, %t", s, width, n, ok, want, wantOk)
	}
}

func checkVarintBack(t *testing.T, s string, want, wantLength int) {
	t.Helper()
	if n, length := impl.DecodeVarint(s); n != want || length != wantLength {
		t.Errorf("DecodeVarint(%q) = %d, %d, want %d, %d", s, n, length, want, wantLength)
	}
}

func checkHexBack(t *testing.T, s, want string, wantOk bool) {
	t.Helper()
	if got, ok := impl.DecodeHex(s); got != want || ok != wantOk {
		t.Errorf("DecodeHex(%q) = %q, %t, want %q, %t", s, got, ok, want, wantOk)
	}
}

func checkIntBack(t *testing.T, s string, want int, wantOk bool) {
	t.Helper()
	if n, ok := impl.ParseInt(s); n != want || ok != wantOk {
		t.Errorf("ParseInt(%q) = %d, %t, want %d, %t", s, n, ok, want, wantOk)
	}
}

// eachString calls visit with all strings of the given letters up to a length.
func eachString(letters string, length int, visit func(string)) {
	var extend func(string)
	extend = func(s string) {
		visit(s)
		if len(s) == length {
			return
		}
		for i := range len(letters) {
			extend(s + letters[i:i+1])
		}
	}
	extend("")
}

func allBytes() string {
	b := make([]byte, 256)
	for i := range b {
		b[i] = byte(i)
	}
	return string(b)
}

func TestEncodeFixedWritesBigEndian(t *testing.T) {
	checkFixed(t, 258, 2, "\x01\x02")
	checkFixed(t, 258, 4, "\x00\x00\x01\x02")
	checkFixed(t, 0, 1, "\x00")
	checkFixed(t, 0, 7, "\x00\x00\x00\x00\x00\x00\x00")
	checkFixed(t, 0x01020304050607, 7, "\x01\x02\x03\x04\x05\x06\x07")
	checkFixed(t, impl.MaxVarint, 7, "\x01\xff\xff\xff\xff\xff\xff")
}

func TestEncodeFixedRefusesWhatDoesNotFit(t *testing.T) {
	for width := 1; width <= 7; width++ {
		checkFixed(t, 1<<(8*width)-1, width, strings.Repeat("\xff", width))
		checkFixed(t, 1<<(8*width), width, "")
		checkFixed(t, -1, width, "")
		checkFixed(t, math.MaxInt, width, "")
		checkFixed(t, math.MinInt, width, "")
	}
	for _, width := range []int{0, 8, 9, -1, 64, math.MaxInt, math.MinInt} {
		checkFixed(t, 0, width, "")
		checkFixed(t, 1, width, "")
	}
}

func TestDecodeFixedReadsAPrefix(t *testing.T) {
	checkFixedBack(t, "\x01\x02", 2, 258, true)
	checkFixedBack(t, "\x01\x02\x03", 2, 258, true)
	checkFixedBack(t, "\x01\x02\x03", 1, 1, true)
	checkFixedBack(t, "\x00\x00\x07", 3, 7, true)
	checkFixedBack(t, "\xff\xff\xff\xff\xff\xff\xff\xff", 7, 1<<56-1, true)
}

func TestDecodeFixedRefusesShortStringsAndWidths(t *testing.T) {
	for width := 1; width <= 7; width++ {
		checkFixedBack(t, strings.Repeat("\x01", width-1), width, 0, false)
	}
	for _, width := range []int{0, 8, -1, math.MaxInt, math.MinInt} {
		checkFixedBack(t, "", width, 0, false)
		checkFixedBack(t, strings.Repeat("\x01", 20), width, 0, false)
	}
}

func TestFixedInverse(t *testing.T) {
	for width := 1; width <= 7; width++ {
		for shift := range 8 * width {
			for _, n := range []int{1<<shift - 1, 1 << shift, 1<<shift + 1} {
				if n < 1<<(8*width) {
					checkFixedBack(t, impl.EncodeFixed(n, width), width, n, true)
				}
			}
		}
	}
	eachString(allBytes(), 2, func(s string) {
		if s == "" {
			return
		}
		n, ok := impl.DecodeFixed(s, len(s))
		if !ok || impl.EncodeFixed(n, len(s)) != s {
			t.Fatalf("DecodeFixed(%q) = %d, %t is not encoded as it was", s, n, ok)
		}
	})
}

func TestEncodeVarintWritesLeastGroupFirst(t *testing.T) {
	if impl.MaxVarint != 1<<49-1 {
		t.Error("MaxVarint", impl.MaxVarint)
	}
	cases := map[int]string{
		0:                  "\x00",
		1:                  "\x01",
		127:                "\x7f",
		128:                "\x80\x01",
		300:                "\xac\x02",
		16383:              "\xff\x7f",
		16384:              "\x80\x80\x01",
		impl.MaxVarint:     "\xff\xff\xff\xff\xff\xff\x7f",
		impl.MaxVarint + 1: "",
		-1:                 "",
		math.MaxInt:        "",
		math.MinInt:        "",
	}
	for n, want := range cases {
		if got := impl.EncodeVarint(n); got != want {
			t.Errorf("EncodeVarint(%d) = %q, want %q", n, got, want)
		}
	}
}

func TestVarintInverse(t *testing.T) {
	for groups := 1; groups <= 7; groups++ {
		least, limit := 1<<(7*groups-7), 1<<(7*groups)
		for _, n := range []int{least, least + 1, limit / 2, limit - 2, limit - 1} {
			s := impl.EncodeVarint(n)
			if len(s) != groups {
				t.Errorf("EncodeVarint(%d) has %d bytes, want %d", n, len(s), groups)
			}
			checkVarintBack(t, s, n, groups)
			checkVarintBack(t, s+"\x00\xff", n, groups)
			checkVarintBack(t, s[:groups-1], 0, 0)
		}
	}
	for n := range 1 << 15 {
		s := impl.EncodeVarint(n)
		checkVarintBack(t, s, n, len(s))
	}
}

func TestDecodeVarintRefusesUnnecessaryBytes(t *testing.T) {
	for _, s := range []string{
		"\x80\x00", "\xff\x00", "\x81\x80\x00", "\x80\x80\x00", "\xac\x82\x00", "\xac\x80\x80\x00",
		"\x80\x80\x80\x80\x80\x80\x00", "\xff\xff\xff\xff\xff\xff\x00", "\x80\x00\x01",
	} {
		checkVarintBack(t, s, 0, 0)
		checkVarintBack(t, s+"\x01", 0, 0)
	}
}

func TestDecodeVarintRefusesNumbersOutOfRange(t *testing.T) {
	for _, s := range []string{
		"", "\x80", "\xff\xff", "\xff\xff\xff\xff\xff\xff\xff",
		"\x80\x80\x80\x80\x80\x80\x80\x01", "\xff\xff\xff\xff\xff\xff\xff\x7f",
		"\x81\x80\x80\x80\x80\x80\x80\x00", strings.Repeat("\xff", 9) + "\x01",
		strings.Repeat("\x80", 1000), strings.Repeat("\x80", 1000) + "\x01",
	} {
		checkVarintBack(t, s, 0, 0)
	}
}

func TestDecodeVarintAcceptsJustWhatIsEncoded(t *testing.T) {
	numbers := map[string]int{}
	for n := range 1 << 14 {
		numbers[impl.EncodeVarint(n)] = n
	}
	eachString(allBytes(), 2, func(s string) {
		want, wantLength := 0, 0
		for length := 1; length <= len(s); length++ {
			if n, ok := numbers[s[:length]]; ok {
				want, wantLength = n, length
			}
		}
		checkVarintBack(t, s, want, wantLength)
	})
}

func TestEncodeHexWritesSmallLetters(t *testing.T) {
	cases := map[string]string{"": "", "a\xff": "61ff", "\x00\x0f\xf0": "000ff0", "\xab\xcd\xef": "abcdef", "\u00e9": "c3a9"}
	for s, want := range cases {
		if got := impl.EncodeHex(s); got != want {
			t.Errorf("EncodeHex(%q) = %q, want %q", s, got, want)
		}
		checkHexBack(t, want, s, true)
	}
}

func TestHexInverse(t *testing.T) {
	checkHexBack(t, impl.EncodeHex(allBytes()), allBytes(), true)
	accepted := 0
	eachString(allBytes(), 2, func(s string) {
		decoded, ok := impl.DecodeHex(s)
		if !ok {
			checkHexBack(t, s, "", false)
			return
		}
		accepted++
		if impl.EncodeHex(decoded) != s {
			t.Errorf("DecodeHex(%q) = %q, which is encoded otherwise", s, decoded)
		}
	})
	if accepted != 257 {
		t.Errorf("DecodeHex accepts %d strings of at most 2 bytes, want 257", accepted)
	}
}

func TestDecodeHexRefusesWhatIsNeverEncoded(t *testing.T) {
	for _, s := range []string{
		"6", "61f", "6F", "AB", "61 2", " 61", "61\n", "0x61", "6g", "g6", "/0", ":0", "`0", "+1", "-1",
		"\xff\xff", "6\xff", "\u00e9", "61\u00e9", "0\u0660\x30", "\uff11\uff12", "\uff11" + "1", "\u0130",
	} {
		checkHexBack(t, s, "", false)
	}
}

func TestFormatIntAcceptsEveryInt(t *testing.T) {
	cases := map[int]string{
		0: "0", 7: "7", -7: "-7", 10: "10", -120: "-120", 1000000000: "1000000000", -1000000000: "-1000000000",
		math.MaxInt: "9223372036854775807", math.MinInt: "-9223372036854775808",
	}
	for n, want := range cases {
		if got := impl.FormatInt(n); got != want {
			t.Errorf("FormatInt(%d) = %q, want %q", n, got, want)
		}
	}
}

func TestIntInverse(t *testing.T) {
	for n := -20000; n <= 20000; n++ {
		checkIntBack(t, impl.FormatInt(n), n, true)
	}
	for n := 1; n <= 100000000; n *= 10 {
		for _, m := range []int{n - 1, n, n + 1, 10*n - 1} {
			checkIntBack(t, impl.FormatInt(m), m, true)
			checkIntBack(t, impl.FormatInt(-m), -m, true)
		}
	}
}

func TestParseIntAcceptsJustWhatIsFormatted(t *testing.T) {
	numbers := map[string]int{}
	for n := -999; n <= 9999; n++ {
		numbers[impl.FormatInt(n)] = n
	}
	eachString("0123456789-+ _", 4, func(s string) {
		n, ok := numbers[s]
		checkIntBack(t, s, n, ok)
	})
}

func TestParseIntRefusesWhatIsNotFormatted(t *testing.T) {
	for _, s := range []string{
		"", "-", "+", "--1", "-0", "-00", "07", "-07", "000000000", "+1", " 1", "1 ", "1\n", "1_0", "1.0", "1e3", "0x1",
		"\u0661", "\uff11", "1\x00", "\xff", "a", "1a", "-a",
	} {
		checkIntBack(t, s, 0, false)
	}
}

func TestParseIntReadsAtMostNineDigits(t *testing.T) {
	checkIntBack(t, "999999999", 999999999, true)
	checkIntBack(t, "-999999999", -999999999, true)
	for _, s := range []string{
		"1000000000", "-1000000000", "0000000001", "9223372036854775807", "-9223372036854775808",
		"9223372036854775808", "18446744073709551617", strings.Repeat("9", 1000), "-" + strings.Repeat("9", 1000),
	} {
		checkIntBack(t, s, 0, false)
	}
}
