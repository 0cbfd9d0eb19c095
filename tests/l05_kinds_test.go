package tests

import (
	"math"
	"math/big"
	"slices"
	"strings"
	"testing"

	"loop.example/g01608/impl"
)

var kindWords = map[int]string{1: "c", 2: "g", 3: "ms"}

var codeWords = map[int]string{0: "ok", 1: "args", 2: "none", 3: "full", 4: "clash", 5: "dropped"}

// kindNumbers has the kinds, the numbers next to them and numbers that are a kind's in their low bits only.
func kindNumbers() []int {
	out := []int{0, 1, 2, 3, 4, 5, 6, 7, -1, -2, -3, -4, 257, 258, 259, 65537}
	return append(out, numbersNear()...)
}

// someKeys has keys of each length, with the borders of each range.
func someKeys() []string {
	return []string{"0", "z", "a", "A", "Z", "_", "9", "00", "zz", "ab", "ba", "a_", "_a", "000", "zzz", "abc", "a_9", "0000", "zzzz", "abcd", "a_9Z", "____", "hits"}
}

// someNoKeys has the empty string, keys that are too long and strings with a byte that is not allowed.
func someNoKeys() []string {
	return []string{
		"", "abcde", "zzzzz", "00000", "aaaaaaaa", strings.Repeat("a", 257), strings.Repeat("k", 5000),
		"-", "a-", "-a", "a-b", "a b", " a", "a ", "a\n", "a.b", "a:b", "a|b", "a\x00", "\x00a", "\x00", "a\x00b",
		"\x80", "a\x80", "\xff\xff", "\u00e9", "\u017f", "`", "{", "@", "[", "/", ":", "^",
	}
}

// wantTagged is 0 where there is no tag.
func wantTagged(key string, kind int) int {
	n := wantPacked(key)
	if n == 0 || kindWords[kind] == "" {
		return 0
	}
	return n<<2 | kind
}

// wantUntagged takes the key from the bytes of the number and the kind from its last two bits.
func wantUntagged(n int) (string, int) {
	if n <= 0 {
		return "", 0
	}
	high, low := new(big.Int).DivMod(big.NewInt(int64(n)), big.NewInt(4), new(big.Int))
	key, kind := string(high.Bytes()), int(low.Int64())
	if !keyPattern.MatchString(key) || kind == 0 {
		return "", 0
	}
	return key, kind
}

func checkUntag(t *testing.T, n int) {
	t.Helper()
	want, wantKind := wantUntagged(n)
	if got, kind := impl.Untag(n); got != want || kind != wantKind {
		t.Errorf("Untag(%d) = %q, %d, want %q, %d", n, got, kind, want, wantKind)
	}
}

// checkUnpackGauge compares UnpackGauge with the limits of the numbers that PackGauge returns.
func checkUnpackGauge(t *testing.T, n int) {
	t.Helper()
	want, wantV := 0, 0
	if n >= 65536 && n <= 4294967295 {
		want, wantV = n>>16, n&0xffff
	}
	if stamp, v := impl.UnpackGauge(n); stamp != want || v != wantV {
		t.Errorf("UnpackGauge(%d) = %d, %d, want %d, %d", n, stamp, v, want, wantV)
	}
}

func TestKindConstants(t *testing.T) {
	if impl.KdCount != 1 || impl.KdGauge != 2 || impl.KdTimer != 3 || impl.MaxVal != 65535 {
		t.Error("kinds", impl.KdCount, impl.KdGauge, impl.KdTimer, impl.MaxVal)
	}
	codes := []int{impl.CdOk, impl.CdArgs, impl.CdNone, impl.CdFull, impl.CdClash, impl.CdDropped}
	if !slices.Equal(codes, []int{0, 1, 2, 3, 4, 5}) {
		t.Error("codes", codes)
	}
}

func TestKindWordAndKindOf(t *testing.T) {
	for kind, word := range kindWords {
		if got := impl.KindOf(word); got != kind {
			t.Errorf("KindOf(%q) = %d, want %d", word, got, kind)
		}
	}
	for _, kind := range kindNumbers() {
		if got := impl.KindWord(kind); got != kindWords[kind] {
			t.Errorf("KindWord(%d) = %q, want %q", kind, got, kindWords[kind])
		}
	}
}

func TestKindOfNoWord(t *testing.T) {
	for _, s := range []string{
		"", "m", "s", "C", "G", "MS", "Ms", "mS", "cc", "gg", "cg", "gc", "mss", "mms", "msms", "sm", "m s", "ms ", " ms", "c ", " c", "c\n", "g\x00", "\x00",
		"1", "2", "3", "count", "gauge", "timer", "x", "ok", "|c", "c|", "\u0441", "\uff43", strings.Repeat("c", 300), strings.Repeat("ms", 1000),
	} {
		if got := impl.KindOf(s); got != 0 {
			t.Errorf("KindOf(%q) = %d, want 0", s, got)
		}
	}
	check := func(s string) {
		want := 0
		for kind, word := range kindWords {
			if s == word {
				want = kind
			}
		}
		if got := impl.KindOf(s); got != want {
			t.Errorf("KindOf(%q) = %d, want %d", s, got, want)
		}
	}
	stringsOver(allBytes(), 2, check)
	stringsOver("cgmsCGMS \x00", 4, check)
}

func TestCodeWord(t *testing.T) {
	for _, code := range append(kindNumbers(), -5, -6, 8, 9, 256, 260, 261, 262) {
		if got := impl.CodeWord(code); got != codeWords[code] {
			t.Errorf("CodeWord(%d) = %q, want %q", code, got, codeWords[code])
		}
	}
}

func TestTaggedExamples(t *testing.T) {
	for _, c := range []struct {
		key  string
		kind int
		want int
	}{
		{"a", 1, 389},
		{"a", 2, 390},
		{"a", 3, 391},
		{"0", 1, 193},
		{"z", 3, 491},
		{"ab", 1, 99721},
		{"abc", 2, 25528718},
		{"0000", 1, 3233857729},
		{"abcd", 3, 6535351699},
		{"zzzz", 3, 8219388395},
	} {
		if got := impl.Tagged(c.key, c.kind); got != c.want {
			t.Errorf("Tagged(%q, %d) = %d, want %d", c.key, c.kind, got, c.want)
		}
		if key, kind := impl.Untag(c.want); key != c.key || kind != c.kind {
			t.Errorf("Untag(%d) = %q, %d, want %q, %d", c.want, key, kind, c.key, c.kind)
		}
	}
}

func TestTaggedWithEveryKind(t *testing.T) {
	for _, key := range slices.Concat(someKeys(), someNoKeys()) {
		for _, kind := range kindNumbers() {
			if got, want := impl.Tagged(key, kind), wantTagged(key, kind); got != want {
				t.Errorf("Tagged(%q, %d) = %d, want %d", key, kind, got, want)
			}
		}
	}
}

// Each string is tagged exactly if it is a key, no two tags are equal, and each is read back.
func TestTagsOfManyStrings(t *testing.T) {
	type tag struct {
		key  string
		kind int
	}
	byNumber := map[int]tag{}
	check := func(key string) {
		for kind := 0; kind <= 4; kind++ {
			n := impl.Tagged(key, kind)
			if n != wantTagged(key, kind) {
				t.Errorf("Tagged(%q, %d) = %d, want %d", key, kind, n, wantTagged(key, kind))
			}
			if n == 0 {
				continue
			}
			if other, twice := byNumber[n]; twice && other != (tag{key, kind}) {
				t.Errorf("%v and %v are both %d", other, tag{key, kind}, n)
			}
			byNumber[n] = tag{key, kind}
			if gotKey, gotKind := impl.Untag(n); gotKey != key || gotKind != kind {
				t.Errorf("Untag(%d) = %q, %d, want %q, %d", n, gotKey, gotKind, key, kind)
			}
		}
	}
	stringsOver(allBytes(), 2, check)
	stringsOver(borderBytes, impl.MaxKey, check)
	stringsOver("az09_-\x00\xff", impl.MaxKey+1, check)
}

func TestEveryByteAtEveryPlaceOfATag(t *testing.T) {
	for c := range 256 {
		for size := 1; size <= impl.MaxKey; size++ {
			for at := range size {
				bytes := []byte("kK7_"[:size])
				bytes[at] = byte(c)
				n := new(big.Int).SetBytes(bytes)
				for kind := range 4 {
					checkUntag(t, int(n.Int64())*4+kind)
					if got, want := impl.Tagged(string(bytes), kind), wantTagged(string(bytes), kind); got != want {
						t.Errorf("Tagged(%q, %d) = %d, want %d", bytes, kind, got, want)
					}
				}
			}
		}
	}
}

func TestUntagRejects(t *testing.T) {
	ab, abcd := 24930, 1633837924
	for _, n := range []int{
		0, -1, -2, -3, -4, -389, -390, -391, -4*abcd - 3, -8219388395,
		1, 2, 3, 4, 97, 388, 392, 4 * ab, 4 * abcd, // the kind is 0, or there is no key
		48*4 - 1, 58*4 + 1, 123*4 + 1, 96*4 + 1, 45*4 + 2, 32*4 + 3, 128*4 + 1, 255*4 + 3,
		ab*256*4 + 1,                                       // a zero byte at the end of the key
		(97*65536+98)*4 + 1,                                // a zero byte in between
		(97*256+45)*4 + 2,                                  // a sign at the end
		(abcd*256+101)*4 + 1,                               // abcde
		(1<<32+ab)*4 + 1,                                   // a fifth byte
		0x1862636465666769,                                 // more bytes
		1<<62 + 389, 1<<48 + 390, 1<<40 + 391, 1<<34 + 389, // a tag in the low bytes
		math.MinInt + 389, math.MinInt + 390, math.MinInt + 4*abcd + 1, -(1 << 34) + 389,
		impl.Word, impl.Word + 389, 8219388396, math.MaxInt - 1, math.MaxInt, math.MinInt, math.MinInt + 1,
	} {
		if key, kind := impl.Untag(n); key != "" || kind != 0 {
			t.Errorf("Untag(%d) = %q, %d, want \"\", 0", n, key, kind)
		}
	}
}

func TestUntagOfManyNumbers(t *testing.T) {
	for n := -1000; n < 300000; n++ {
		checkUntag(t, n)
	}
	for _, n := range numbersNear() {
		checkUntag(t, n)
	}
	for _, key := range someKeys() {
		for d := -1200; d <= 1200; d++ {
			n := 4*wantPacked(key) + d
			checkUntag(t, n)
			checkUntag(t, -n)
		}
		for shift := 34; shift < 63; shift++ {
			for kind := range 4 {
				n := 4*wantPacked(key) + kind
				checkUntag(t, 1<<shift+n)
				checkUntag(t, -(1<<shift)+n)
				checkUntag(t, math.MinInt+n)
			}
		}
	}
}

func TestPackGaugeExamples(t *testing.T) {
	for _, c := range []struct{ stamp, v, want int }{
		{1, 0, 65536},
		{1, 1, 65537},
		{1, 65535, 131071},
		{2, 0, 131072},
		{3, 7, 196615},
		{7, 3, 458755},
		{256, 255, 16777471},
		{65535, 0, 4294901760},
		{65535, 65535, 4294967295},
	} {
		if got := impl.PackGauge(c.stamp, c.v); got != c.want {
			t.Errorf("PackGauge(%d, %d) = %d, want %d", c.stamp, c.v, got, c.want)
		}
		if stamp, v := impl.UnpackGauge(c.want); stamp != c.stamp || v != c.v {
			t.Errorf("UnpackGauge(%d) = %d, %d, want %d, %d", c.want, stamp, v, c.stamp, c.v)
		}
	}
}

func TestPackGaugeOutOfRange(t *testing.T) {
	inRange := []int{0, 1, 2, 7, 255, 256, 4095, 32767, 32768, 65534, 65535}
	outside := []int{-1, -2, -65535, -65536, -65537, 65536, 65537, 131071, 131072, impl.Word, 4294967297, 1<<48 + 1, 1<<62 + 1, math.MaxInt, math.MinInt, math.MinInt + 1}
	for _, n := range numbersNear() {
		if n < 0 || n > 65535 {
			outside = append(outside, n)
		}
	}
	for _, good := range inRange {
		if got := impl.PackGauge(0, good); got != 0 {
			t.Errorf("PackGauge(0, %d) = %d, want 0", good, got)
		}
		for _, bad := range outside {
			if got := impl.PackGauge(bad, good); got != 0 {
				t.Errorf("PackGauge(%d, %d) = %d, want 0", bad, good, got)
			}
			if got := impl.PackGauge(good, bad); got != 0 {
				t.Errorf("PackGauge(%d, %d) = %d, want 0", good, bad, got)
			}
			if got := impl.PackGauge(bad, bad); got != 0 {
				t.Errorf("PackGauge(%d, %d) = %d, want 0", bad, bad, got)
			}
		}
	}
}

func TestEveryStampAndEveryValue(t *testing.T) {
	check := func(stamp, v int) {
		n := impl.PackGauge(stamp, v)
		if n != 65536*stamp+v {
			t.Errorf("PackGauge(%d, %d) = %d, want %d", stamp, v, n, 65536*stamp+v)
		}
		if gotStamp, gotV := impl.UnpackGauge(n); gotStamp != stamp || gotV != v {
			t.Errorf("UnpackGauge(%d) = %d, %d, want %d, %d", n, gotStamp, gotV, stamp, v)
		}
	}
	for v := range impl.MaxVal + 1 {
		for _, stamp := range []int{1, 2, 300, 32768, impl.MaxVal - 1, impl.MaxVal} {
			check(stamp, v)
		}
	}
	for stamp := 1; stamp <= impl.MaxVal; stamp++ {
		for _, v := range []int{0, 1, 300, 32768, impl.MaxVal - 1, impl.MaxVal} {
			check(stamp, v)
		}
	}
}

func TestGreaterStampGivesGreaterNumber(t *testing.T) {
	for stamp := 1; stamp < impl.MaxVal; stamp++ {
		if low, high := impl.PackGauge(stamp, impl.MaxVal), impl.PackGauge(stamp+1, 0); low >= high {
			t.Errorf("the greatest number of stamp %d is %d, the least one of the next stamp %d", stamp, low, high)
		}
	}
}

func TestUnpackGaugeRejects(t *testing.T) {
	for _, n := range []int{
		0, -1, -2, -7, -65535, -65536, -65537, -196615, -4294967295, -4294967296,
		1, 2, 7, 255, 256, 32768, 65534, 65535,
		4294967296, 4294967297, 4294967296 + 196615, 1<<33 + 65536, 1<<48 + 65536, 1<<48 + 196615, 1<<62 + 196615,
		impl.Word, impl.Word - 1, impl.Word + 65536, math.MaxInt - 1, math.MaxInt,
		math.MinInt, math.MinInt + 1, math.MinInt + 65536, math.MinInt + 196615, -(1 << 32) + 196615, -(1 << 48) + 196615,
	} {
		if stamp, v := impl.UnpackGauge(n); stamp != 0 || v != 0 {
			t.Errorf("UnpackGauge(%d) = %d, %d, want 0, 0", n, stamp, v)
		}
	}
}

func TestUnpackGaugeOfManyNumbers(t *testing.T) {
	for n := -70000; n < 1<<18; n++ {
		checkUnpackGauge(t, n)
		checkUnpackGauge(t, 4294967296-n)
	}
	for _, n := range numbersNear() {
		checkUnpackGauge(t, n)
		checkUnpackGauge(t, n+65535)
		checkUnpackGauge(t, n^0x55555555)
	}
}
