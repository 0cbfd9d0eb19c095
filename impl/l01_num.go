package impl

import "strconv"

const MaxVar = 562949953421311

// With at most 7 bytes, of 8 or of 7 bits, every number fits into an int and none is negative.
const maxWidth = 7

const maxDec = 999999999

const hexDigits = "0123456789abcdef"

func Fixed(n int, width int) string {
	if width < 1 || width > maxWidth || n < 0 || n>>(8*width) != 0 {
		return ""
	}
	out := make([]byte, width)
	for i := range out {
		out[i] = byte(n >> (8 * (width - 1 - i)))
	}
	return string(out)
}

func ReadFixed(s string, width int) (int, bool) {
	if width < 1 || width > maxWidth || len(s) < width {
		return 0, false
	}
	n := 0
	for i := range width {
		n = n<<8 | int(s[i])
	}
	return n, true
}

func Var(n int) string {
	if n < 0 || n > MaxVar {
		return ""
	}
	out := make([]byte, 0, maxWidth)
	for n > 127 {
		out = append(out, byte(n&127|128))
		n >>= 7
	}
	return string(append(out, byte(n)))
}

func ReadVar(s string) (int, int) {
	n := 0
	for i := range min(len(s), maxWidth) {
		n |= int(s[i]&127) << (7 * i)
		if s[i] > 127 {
			continue
		}
		// A last byte of zero after other bytes adds nothing; encoding the number again shows it.
		if Var(n) != s[:i+1] {
			return 0, 0
		}
		return n, i + 1
	}
	return 0, 0
}

func Hex(s string) string {
	out := make([]byte, 0, 2*len(s))
	for i := range len(s) {
		out = append(out, hexDigits[s[i]>>4], hexDigits[s[i]&15])
	}
	return string(out)
}

func Unhex(s string) (string, bool) {
	if len(s)%2 != 0 {
		return "", false
	}
	out := make([]byte, len(s)/2)
	for i := range out {
		high, low := hexValue(s[2*i]), hexValue(s[2*i+1])
		if high < 0 || low < 0 {
			return "", false
		}
		out[i] = byte(high<<4 | low)
	}
	return string(out), true
}

// hexValue returns -1 for a byte that is not a lowercase hexadecimal digit.
func hexValue(c byte) int {
	switch {
	case c >= '0' && c <= '9':
		return int(c - '0')
	case c >= 'a' && c <= 'f':
		return int(c-'a') + 10
	}
	return -1
}

func Dec(n int) string {
	return strconv.Itoa(n)
}

func ReadDec(s string) (int, bool) {
	n, err := strconv.Atoi(s)
	if err != nil || n < -maxDec || n > maxDec {
		return 0, false
	}
	// Atoi also accepts a plus sign, leading zeros and -0, none of which Dec writes.
	if Dec(n) != s {
		return 0, false
	}
	return n, true
}
