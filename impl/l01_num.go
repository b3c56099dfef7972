package impl

import (
	"strconv"
	"strings"
)

const MaxVarint = 562949953421311

const (
	maxFixedWidth  = 7
	maxVarintWidth = 7
	maxParseDigits = 9
	hexDigits      = "0123456789abcdef"
)

func EncodeFixed(n int, width int) string {
	if width < 1 || width > maxFixedWidth || n < 0 || n>>(8*width) != 0 {
		return ""
	}
	encoded := make([]byte, width)
	for i := range encoded {
		encoded[i] = byte(n >> (8 * (width - 1 - i)))
	}
	return string(encoded)
}

func DecodeFixed(s string, width int) (int, bool) {
	if width < 1 || width > maxFixedWidth || len(s) < width {
		return 0, false
	}
	n := 0
	for i := range width {
		n = n<<8 | int(s[i])
	}
	return n, true
}

func EncodeVarint(n int) string {
	if n < 0 || n > MaxVarint {
		return ""
	}
	encoded := make([]byte, 0, maxVarintWidth)
	for ; n >= 128; n >>= 7 {
		encoded = append(encoded, byte(n&127|128))
	}
	return string(append(encoded, byte(n)))
}

func DecodeVarint(s string) (int, int) {
	n := 0
	for i := range min(len(s), maxVarintWidth) {
		n |= int(s[i]&127) << (7 * i)
		if s[i] >= 128 {
			continue
		}
		// Only the shortest form is a varint, and encoding again yields just that one.
		if EncodeVarint(n) != s[:i+1] {
			return 0, 0
		}
		return n, i + 1
	}
	return 0, 0
}

func EncodeHex(s string) string {
	var encoded strings.Builder
	encoded.Grow(2 * len(s))
	for i := range len(s) {
		encoded.WriteByte(hexDigits[s[i]>>4])
		encoded.WriteByte(hexDigits[s[i]&15])
	}
	return encoded.String()
}

func DecodeHex(s string) (string, bool) {
	if len(s)%2 != 0 {
		return "", false
	}
	decoded := make([]byte, len(s)/2)
	// A rune of several bytes is no digit, so i counts digits for as long as the loop goes on.
	for i, digit := range s {
		value, ok := hexValue(digit)
		if !ok {
			return "", false
		}
		decoded[i/2] = decoded[i/2]<<4 | value
	}
	return string(decoded), true
}

// Great letters are left out: EncodeHex never writes them, and DecodeHex must accept nothing else.
func hexValue(digit rune) (byte, bool) {
	switch {
	case '0' <= digit && digit <= '9':
		return byte(digit - '0'), true
	case 'a' <= digit && digit <= 'f':
		return byte(digit-'a') + 10, true
	}
	return 0, false
}

func FormatInt(n int) string {
	return strconv.Itoa(n)
}

func ParseInt(s string) (int, bool) {
	if len(strings.TrimPrefix(s, "-")) > maxParseDigits {
		return 0, false
	}
	n, err := strconv.Atoi(s)
	// Atoi also reads +1, 01 and -0, which FormatInt never writes.
	if err != nil || FormatInt(n) != s {
		return 0, false
	}
	return n, true
}
