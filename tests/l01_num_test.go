package tests

import (
	"encoding/binary"
	"encoding/hex"
	"math"
	"math/big"
	"regexp"
	"strconv"
	"strings"
	"testing"

	"loop.example/g01608/impl"
)

// stringsOver calls visit with all strings of at most n of the given bytes.
func stringsOver(letters string, n int, visit func(s string)) {
	var extend func(prefix string)
	extend = func(prefix string) {
		visit(prefix)
		if len(prefix) == n {
			return
		}
		for i := range len(letters) {
			extend(prefix + letters[i:i+1])
		}
	}
	extend("")
}

func allBytes() string {
	out := make([]byte, 256)
	for i := range out {
		out[i] = byte(i)
	}
	return string(out)
}

// numbersNear returns the powers of two and ten with their neighbours and negatives, and the ends of int.
func numbersNear() []int {
	out := []int{0, math.MinInt, math.MinInt + 1, math.MaxInt - 1, math.MaxInt}
	add := func(n int) {
		for d := -2; d <= 2; d++ {
			out = append(out, n+d, -n-d)
		}
	}
	for i := range 63 {
		add(1 << i)
	}
	for n := 1; n <= 100000000000000000; n *= 10 {
		add(n)
	}
	return out
}

// wantFixed is computed with the library; it is empty if the number does not fit.
func wantFixed(n, width int) string {
	if n < 0 || width < 1 || width > 7 || big.NewInt(int64(n)).BitLen() > 8*width {
		return ""
	}
	return string(big.NewInt(int64(n)).FillBytes(make([]byte, width)))
}

func TestFixedExamples(t *testing.T) {
	for _, c := range []struct {
		n, width int
		want     string
	}{
		{258, 2, "\x01\x02"},
		{0, 1, "\x00"},
		{0, 7, "\x00\x00\x00\x00\x00\x00\x00"},
		{255, 1, "\xff"},
		{256, 1, ""},
		{256, 2, "\x01\x00"},
		{65535, 2, "\xff\xff"},
		{65536, 2, ""},
		{0x01020304050607, 7, "\x01\x02\x03\x04\x05\x06\x07"},
		{1<<56 - 1, 7, "\xff\xff\xff\xff\xff\xff\xff"},
		{1 << 56, 7, ""},
		{math.MaxInt, 7, ""},
		{-1, 1, ""},
		{-1, 7, ""},
		{math.MinInt, 7, ""},
		{0, 0, ""},
		{0, 8, ""},
		{5, 0, ""},
		{5, 8, ""},
		{5, -1, ""},
		{5, math.MinInt, ""},
		{5, math.MaxInt, ""},
	} {
		if got := impl.Fixed(c.n, c.width); got != c.want {
			t.Errorf("Fixed(%d, %d) = %q, want %q", c.n, c.width, got, c.want)
		}
	}
}

func TestFixedAgreesWithLibrary(t *testing.T) {
	for _, n := range numbersNear() {
		for width := -2; width <= 10; width++ {
			if got, want := impl.Fixed(n, width), wantFixed(n, width); got != want {
				t.Errorf("Fixed(%d, %d) = %q, want %q", n, width, got, want)
			}
		}
	}
}

func TestReadFixedInvertsFixed(t *testing.T) {
	for _, n := range numbersNear() {
		for width := 1; width <= 7; width++ {
			s := impl.Fixed(n, width)
			if s == "" {
				continue
			}
			for _, tail := range []string{"", "\x00", "\xff rest"} {
				if got, ok := impl.ReadFixed(s+tail, width); got != n || !ok {
					t.Errorf("ReadFixed(%q, %d) = %d, %v, want %d, true", s+tail, width, got, ok, n)
				}
			}
		}
	}
}

func TestReadFixedLimits(t *testing.T) {
	if n, ok := impl.ReadFixed("\xff\xff\xff\xff\xff\xff\xff\xff", 7); n != 1<<56-1 || !ok {
		t.Error("the greatest number", n, ok)
	}
	long := "\x01\x02\x03\x04\x05\x06\x07\x08\x09\x0a"
	for _, width := range []int{0, 8, 9, -1, math.MinInt, math.MaxInt} {
		if n, ok := impl.ReadFixed(long, width); n != 0 || ok {
			t.Errorf("ReadFixed(%q, %d) = %d, %v, want 0, false", long, width, n, ok)
		}
	}
	for width := 1; width <= 7; width++ {
		for size := range 10 {
			n, ok := impl.ReadFixed(long[:size], width)
			if ok != (size >= width) || !ok && n != 0 {
				t.Errorf("ReadFixed(%q, %d) = %d, %v", long[:size], width, n, ok)
			}
			if ok && impl.Fixed(n, width) != long[:width] {
				t.Errorf("ReadFixed(%q, %d) = %d, which Fixed formats otherwise", long[:size], width, n)
			}
		}
	}
}

func TestVarExamples(t *testing.T) {
	for _, c := range []struct {
		n    int
		want string
	}{
		{300, "\xac\x02"},
		{0, "\x00"},
		{1, "\x01"},
		{127, "\x7f"},
		{128, "\x80\x01"},
		{16383, "\xff\x7f"},
		{16384, "\x80\x80\x01"},
		{impl.MaxVar, "\xff\xff\xff\xff\xff\xff\x7f"},
		{impl.MaxVar + 1, ""},
		{math.MaxInt, ""},
		{-1, ""},
		{math.MinInt, ""},
	} {
		if got := impl.Var(c.n); got != c.want {
			t.Errorf("Var(%d) = %q, want %q", c.n, got, c.want)
		}
	}
}

func TestReadVarInvertsVar(t *testing.T) {
	for _, n := range numbersNear() {
		s := impl.Var(n)
		if n < 0 || n > impl.MaxVar {
			if s != "" {
				t.Errorf("Var(%d) = %q, want none", n, s)
			}
			continue
		}
		if want := string(binary.AppendUvarint(nil, uint64(n))); s != want {
			t.Errorf("Var(%d) = %q, want %q", n, s, want)
		}
		for _, tail := range []string{"", "\x00", "\x80", "\xff rest"} {
			if got, size := impl.ReadVar(s + tail); got != n || size != len(s) {
				t.Errorf("ReadVar(%q) = %d, %d, want %d, %d", s+tail, got, size, n, len(s))
			}
		}
	}
}

func TestReadVarRejects(t *testing.T) {
	for _, s := range []string{
		"",
		"\x80",                                 // without an end
		"\xff\xff\xff",                         // without an end
		"\xff\xff\xff\xff\xff\xff\xff",         // without an end, at the greatest length
		"\x80\x00",                             // a needless last byte
		"\x81\x00",                             // a needless last byte
		"\xac\x82\x00",                         // a needless last byte
		"\xff\xff\xff\xff\xff\xff\x00",         // a needless last byte, at the greatest length
		"\xff\xff\xff\xff\xff\xff\xff\x00",     // a needless last byte beyond it
		"\x80\x80\x80\x80\x80\x80\x80\x01",     // MaxVar + 1
		"\xff\xff\xff\xff\xff\xff\xff\x7f",     // a number of 56 bits
		"\xff\xff\xff\xff\xff\xff\xff\xff\x7f", // the greatest int
		"\xff\xff\xff\xff\xff\xff\xff\xff\xff\x01",
		strings.Repeat("\x80", 100) + "\x01",
	} {
		if n, size := impl.ReadVar(s); n != 0 || size != 0 {
			t.Errorf("ReadVar(%q) = %d, %d, want 0, 0", s, n, size)
		}
	}
}

// checkReadVar compares ReadVar with the library's decoder, which also accepts needless bytes.
func checkReadVar(t *testing.T, s string) {
	want, wantSize := 0, 0
	if n, size := binary.Uvarint([]byte(s)); size > 0 && n <= impl.MaxVar && (size == 1 || s[size-1] != 0) {
		want, wantSize = int(n), size
	}
	if n, size := impl.ReadVar(s); n != want || size != wantSize {
		t.Errorf("ReadVar(%q) = %d, %d, want %d, %d", s, n, size, want, wantSize)
	}
}

func TestReadVarOfAllShortStrings(t *testing.T) {
	stringsOver(allBytes(), 2, func(s string) { checkReadVar(t, s) })
	stringsOver("\x00\x01\x7f\x80\xff", 8, func(s string) { checkReadVar(t, s) })
}

func TestHex(t *testing.T) {
	for _, s := range []string{"", "a\xff", "\x00", "\x0f\xf0", "hits:3|c", "\xe4\xb8\xad", allBytes(), strings.Repeat("\x9a", 5000)} {
		h := impl.Hex(s)
		if h != hex.EncodeToString([]byte(s)) {
			t.Errorf("Hex(%q) = %q", s, h)
		}
		if got, ok := impl.Unhex(h); got != s || !ok {
			t.Errorf("Unhex(%q) = %q, %v, want %q, true", h, got, ok, s)
		}
	}
	if impl.Hex("a\xff") != "61ff" {
		t.Error("the half order")
	}
}

func TestUnhexRejects(t *testing.T) {
	for _, s := range []string{"0", "6", "61f", "61ff0", "6F", "F6", "FF", "61FF", "0x", "g0", "0g", " 61", "61 ", "6 1", "61\n", "-1", "+1", "61zz", "zz61"} {
		if got, ok := impl.Unhex(s); got != "" || ok {
			t.Errorf("Unhex(%q) = %q, %v, want \"\", false", s, got, ok)
		}
	}
}

func TestUnhexOfAllPairs(t *testing.T) {
	valid := regexp.MustCompile(`\A([0-9a-f]{2})*\z`)
	check := func(s string) {
		got, ok := impl.Unhex(s)
		if ok != valid.MatchString(s) || ok && impl.Hex(got) != s || !ok && got != "" {
			t.Errorf("Unhex(%q) = %q, %v", s, got, ok)
		}
	}
	stringsOver(allBytes(), 2, check)
	stringsOver("0/9:afg`AF", 5, check)
}

func TestDec(t *testing.T) {
	for _, c := range []struct {
		n    int
		want string
	}{
		{0, "0"},
		{7, "7"},
		{-7, "-7"},
		{10, "10"},
		{-120, "-120"},
		{1000000000, "1000000000"},
		{math.MaxInt, "9223372036854775807"},
		{math.MinInt, "-9223372036854775808"},
	} {
		if got := impl.Dec(c.n); got != c.want {
			t.Errorf("Dec(%d) = %q, want %q", c.n, got, c.want)
		}
	}
}

func TestReadDecInvertsDec(t *testing.T) {
	for _, n := range numbersNear() {
		s := impl.Dec(n)
		if want := big.NewInt(int64(n)).String(); s != want {
			t.Errorf("Dec(%d) = %q, want %q", n, s, want)
		}
		want, wantOk := n, true
		if n < -999999999 || n > 999999999 {
			want, wantOk = 0, false
		}
		if got, ok := impl.ReadDec(s); got != want || ok != wantOk {
			t.Errorf("ReadDec(%q) = %d, %v, want %d, %v", s, got, ok, want, wantOk)
		}
	}
}

func TestReadDecExamples(t *testing.T) {
	for _, c := range []struct {
		s    string
		want int
	}{{"-7", -7}, {"0", 0}, {"10", 10}, {"999999999", 999999999}, {"-999999999", -999999999}} {
		if got, ok := impl.ReadDec(c.s); got != c.want || !ok {
			t.Errorf("ReadDec(%q) = %d, %v, want %d, true", c.s, got, ok, c.want)
		}
	}
	for _, s := range []string{
		"", "-", "+", "--1", "-+1", "+1", "+0", "-0",
		"00", "01", "07", "-07", "0000000001", "000000007",
		"1000000000", "-1000000000", "0999999999", "9223372036854775807", "9223372036854775808", "99999999999999999999",
		" 1", "1 ", "1\n", "1_0", "1.0", "1e3", "0x1", "a", "1a", "\x00", "\u0661",
		strings.Repeat("1", 1000),
	} {
		if got, ok := impl.ReadDec(s); got != 0 || ok {
			t.Errorf("ReadDec(%q) = %d, %v, want 0, false", s, got, ok)
		}
	}
}

func TestReadDecOfAllShortStrings(t *testing.T) {
	valid := regexp.MustCompile(`\A(0|-?[1-9][0-9]{0,8})\z`)
	check := func(s string) {
		want := 0
		if valid.MatchString(s) {
			want, _ = strconv.Atoi(s)
		}
		if got, ok := impl.ReadDec(s); got != want || ok != valid.MatchString(s) {
			t.Errorf("ReadDec(%q) = %d, %v, want %d", s, got, ok, want)
		}
	}
	stringsOver(allBytes(), 2, check)
	stringsOver("-+019_ x", 5, check)
	stringsOver("09", 11, check)
}
