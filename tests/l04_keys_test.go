package tests

import (
	"hash/fnv"
	"math"
	"math/big"
	"regexp"
	"strings"
	"testing"

	"loop.example/g01608/impl"
)

const keyBytes = "abcdefghijklmnopqrstuvwxyzABCDEFGHIJKLMNOPQRSTUVWXYZ0123456789_"

// borderBytes has the first and the last byte of each range, with the bytes next to them on both sides.
const borderBytes = "`az{@AZ[/09:^_"

// oddBytes are not allowed in a key either: zero, signs, spaces, and bytes from 128 on.
const oddBytes = "\x00\x01 -.\n\x7f\x80\xaa\xc3\xdf\xff"

var keyPattern = regexp.MustCompile(`\A[a-zA-Z0-9_]{1,4}\z`)

// wantPacked is computed with the library; it is 0 for a string that is no key.
func wantPacked(s string) int {
	if !keyPattern.MatchString(s) {
		return 0
	}
	return int(new(big.Int).SetBytes([]byte(s)).Int64())
}

// checkKey compares all functions of the chapter with what the document says of this string.
func checkKey(t *testing.T, s string) {
	t.Helper()
	n := wantPacked(s)
	if got := impl.KeyOk(s); got != (n != 0) {
		t.Errorf("KeyOk(%q) = %v", s, got)
	}
	if got := impl.PackKey(s); got != n {
		t.Errorf("PackKey(%q) = %d, want %d", s, got, n)
	}
	if n == 0 {
		checkNoProbe(t, s)
		return
	}
	if got, ok := impl.UnpackKey(n); got != s || !ok {
		t.Errorf("UnpackKey(%d) = %q, %v, want %q, true", n, got, ok, s)
	}
	checkProbes(t, s)
}

// checkProbes requires that the probes of a key visit each slot exactly once, in the order that its hash gives.
func checkProbes(t *testing.T, s string) {
	t.Helper()
	var visits [impl.Slots]int
	for n := range impl.Slots {
		got := impl.Probe(s, n)
		if got != (wantHash(s)+n)%4 {
			t.Errorf("Probe(%q, %d) = %d, want %d", s, n, got, (wantHash(s)+n)%4)
			continue
		}
		visits[got]++
	}
	for slot, count := range visits {
		if count != 1 {
			t.Errorf("the probes of %q visit slot %d %d times", s, slot, count)
		}
	}
}

func checkNoProbe(t *testing.T, s string) {
	t.Helper()
	for n := -1; n <= impl.Slots; n++ {
		if got := impl.Probe(s, n); got != -1 {
			t.Errorf("Probe(%q, %d) = %d, want -1", s, n, got)
		}
	}
}

// wantHash is computed with the library.
func wantHash(s string) int {
	hash := fnv.New32a()
	hash.Write([]byte(s))
	return int(hash.Sum32())
}

// checkUnpack compares UnpackKey with the bytes of the number that the library gives.
func checkUnpack(t *testing.T, n int) {
	t.Helper()
	want := ""
	if n > 0 {
		want = string(big.NewInt(int64(n)).Bytes())
	}
	wantOk := keyPattern.MatchString(want)
	if !wantOk {
		want = ""
	}
	if got, ok := impl.UnpackKey(n); got != want || ok != wantOk {
		t.Errorf("UnpackKey(%d) = %q, %v, want %q, %v", n, got, ok, want, wantOk)
	}
}

func TestKeyOkExamples(t *testing.T) {
	if impl.MaxKey != 4 {
		t.Error("MaxKey", impl.MaxKey)
	}
	for _, s := range []string{"a", "z", "A", "Z", "0", "9", "_", "ab", "a_9Z", "hits", "HITS", "2026", "____", "_a", "a_", "0a", "azAZ", "09__"} {
		if !impl.KeyOk(s) {
			t.Errorf("KeyOk(%q) = false", s)
		}
	}
	for _, s := range []string{
		"", "abcde", "_____", "aaaaaaaa", strings.Repeat("a", 256), strings.Repeat("a", 257), strings.Repeat("a", 65537),
		"a-", "-a", "a-b", "a b", " a", "a ", "a\n", "\na", "a.b", "a:b", "a|b", "a\x00", "\x00a", "a\x00b", "\x00",
		"\x80", "a\x80", "a\xffb", "\xc3\xa9", "a\u00e9", "\u00df", "\u0661", "\uff41", "\u212a", "\u017f",
	} {
		if impl.KeyOk(s) {
			t.Errorf("KeyOk(%q) = true", s)
		}
	}
}

func TestEveryByteAtEveryPlaceOfAKey(t *testing.T) {
	for c := range 256 {
		valid := strings.IndexByte(keyBytes, byte(c)) >= 0
		for size := 1; size <= impl.MaxKey; size++ {
			for at := range size {
				key := []byte("kK7_"[:size])
				key[at] = byte(c)
				if got := impl.KeyOk(string(key)); got != valid {
					t.Errorf("KeyOk(%q) = %v", key, got)
				}
				checkKey(t, string(key))
			}
		}
		checkKey(t, string([]byte{'a', 'b', 'c', 'd', byte(c)}))
		checkKey(t, string([]byte{byte(c), 'a', 'b', 'c', 'd'}))
	}
}

func TestKeyOfOneByte(t *testing.T) {
	for c := range 256 {
		s := string([]byte{byte(c)})
		want := 0
		if strings.IndexByte(keyBytes, byte(c)) >= 0 {
			want = c
		}
		if got := impl.PackKey(s); got != want {
			t.Errorf("PackKey(%q) = %d, want %d", s, got, want)
		}
		if got, ok := impl.UnpackKey(c); ok != (want != 0) || ok && got != s || !ok && got != "" {
			t.Errorf("UnpackKey(%d) = %q, %v", c, got, ok)
		}
	}
	if impl.Probe("a", 0) != 0 || impl.Probe("a", 1) != 1 || impl.Probe("a", 2) != 2 || impl.Probe("a", 3) != 3 {
		t.Error("the probes of a")
	}
}

func TestPackKeyExamples(t *testing.T) {
	for _, c := range []struct {
		s    string
		want int
	}{
		{"ab", 24930},
		{"ba", 25185},
		{"0", 48},
		{"z", 122},
		{"00", 12336},
		{"abc", 6382179},
		{"abcd", 1633837924},
		{"0000", 808464432},
		{"zzzz", 2054847098},
		{"____", 1600085855},
		{"a_9Z", 1633630554},
	} {
		if got := impl.PackKey(c.s); got != c.want {
			t.Errorf("PackKey(%q) = %d, want %d", c.s, got, c.want)
		}
		if got, ok := impl.UnpackKey(c.want); got != c.s || !ok {
			t.Errorf("UnpackKey(%d) = %q, %v, want %q, true", c.want, got, ok, c.s)
		}
	}
	for _, s := range []string{"", "abcde", "a-", "-", "a\x00", "\x00a", "a\x80", strings.Repeat("a", 1000)} {
		if got := impl.PackKey(s); got != 0 {
			t.Errorf("PackKey(%q) = %d, want 0", s, got)
		}
	}
}

func TestAllKeysOfTwoBytesAndBorderKeys(t *testing.T) {
	stringsOver(allBytes(), 2, func(s string) { checkKey(t, s) })
	stringsOver(borderBytes, impl.MaxKey, func(s string) { checkKey(t, s) })
	stringsOver("az09_-\x00\xff", impl.MaxKey+1, func(s string) { checkKey(t, s) })
	stringsOver(oddBytes+"b", 3, func(s string) { checkKey(t, s) })
}

func TestDifferentKeysHaveDifferentNumbers(t *testing.T) {
	byNumber := map[int]string{}
	stringsOver(keyBytes, 3, func(s string) {
		if s == "" {
			return
		}
		n := impl.PackKey(s)
		if other, twice := byNumber[n]; twice {
			t.Errorf("%q and %q are both %d", other, s, n)
		}
		byNumber[n] = s
		if got, ok := impl.UnpackKey(n); got != s || !ok {
			t.Errorf("UnpackKey(%d) = %q, %v, want %q, true", n, got, ok, s)
		}
	})
}

func TestUnpackKeyRejects(t *testing.T) {
	ab := 24930
	for _, n := range []int{
		0, -1, -97, -ab, -1633837924, math.MinInt, math.MinInt + 97,
		1, 32, 47, 58, 64, 91, 94, 96, 123, 128, 255,
		ab * 256,                     // a zero byte at the end
		97 * 65536,                   // zero bytes at the end
		97*65536 + 98,                // a zero byte in between
		97*16777216 + 98,             // zero bytes in between
		97*16777216 + 98*256,         // a zero byte in between and at the end
		97*65536 + 45*256 + 98,       // a sign in between
		97*16777216 + 200*65536 + ab, // a byte beyond 127 in between
		4294967295,
		4294967296,
		4294967296 + 97,        // a zero byte in between, the key of one byte below 32 bits
		4294967296 + ab,        // the same with a key of two bytes
		1633837924 * 256,       // a key of four bytes, and a zero byte
		1633837924*256 + 101,   // abcde
		97*4294967296 + ab,     // five bytes, zeros among them
		0x6162636465666768,     // abcdefgh
		1<<62 + ab, 1<<48 + 97, // a key in the low bytes
		math.MinInt + ab, // the same, negative
		-4294967296 + ab,
		impl.Word, impl.Word + 97, math.MaxInt - 1, math.MaxInt,
	} {
		if got, ok := impl.UnpackKey(n); got != "" || ok {
			t.Errorf("UnpackKey(%d) = %q, %v, want \"\", false", n, got, ok)
		}
	}
}

func TestUnpackKeyAgreesWithLibrary(t *testing.T) {
	for n := -70000; n < 1<<18; n++ {
		checkUnpack(t, n)
	}
	for _, n := range numbersNear() {
		checkUnpack(t, n)
	}
	// Numbers around the least and the greatest key of each length, and the same with more bits above.
	for _, s := range []string{"0", "z", "00", "zz", "000", "zzz", "0000", "zzzz", "a_9Z"} {
		for d := -300; d <= 300; d++ {
			n := wantPacked(s) + d
			checkUnpack(t, n)
			checkUnpack(t, -n)
			checkUnpack(t, math.MinInt+max(n, 0))
			for shift := 32; shift < 63; shift++ {
				checkUnpack(t, 1<<shift+n)
			}
		}
	}
}

// Each byte string that fits into an int is the number of at most one key, namely itself without zeros in front.
func TestUnpackKeyOfAllBytePatterns(t *testing.T) {
	stringsOver("\x00\x01a_\x80\xff", 6, func(s string) {
		checkUnpack(t, int(new(big.Int).SetBytes([]byte(s)).Int64()))
	})
}

func TestHashKeyExamples(t *testing.T) {
	for _, c := range []struct {
		s    string
		want int
	}{
		{"", 2166136261},
		{"a", 3826002220},
		{"b", 0xe70c2de5},
		{"foobar", 0xbf9cf968},
		{"\x00", 0x050c5d1f},
		{"\x00\x00\x00\x00", 0x4b95f515},
		{"chongo was here!\n", 0xd49930d5},
	} {
		if got := impl.HashKey(c.s); got != c.want {
			t.Errorf("HashKey(%q) = %d, want %d", c.s, got, c.want)
		}
	}
}

func TestHashKeyAgreesWithLibrary(t *testing.T) {
	check := func(s string) {
		if got, want := impl.HashKey(s), wantHash(s); got != want {
			t.Errorf("HashKey(%q) = %d, want %d", s, got, want)
		}
	}
	stringsOver(allBytes(), 2, check)
	stringsOver("a_\x00\x7f\x80\xff", 6, check)
	for _, s := range []string{"a-", "abcde", "a b", "hits:3|c", "\xe4\xb8\xad", "\u00e9", allBytes(), allBytes() + "x"} {
		check(s)
	}
	for size := range 300 {
		check(strings.Repeat("\xff", size))
		check(strings.Repeat("key", size))
	}
	check(strings.Repeat("\x9a", 1000000))
}

func TestProbeOfKeysWithEachHomeSlot(t *testing.T) {
	var homes [impl.Slots]int
	stringsOver(keyBytes, 2, func(s string) {
		if s != "" {
			homes[impl.Probe(s, 0)]++
			checkProbes(t, s)
		}
	})
	for slot, count := range homes {
		if count == 0 {
			t.Error("no key has its first probe at slot", slot)
		}
	}
}

func TestProbeLimits(t *testing.T) {
	for _, s := range []string{"a", "b", "c", "d", "ab", "z9_", "hits", "____", "zzzz"} {
		if first, last := impl.Probe(s, 0), impl.Probe(s, impl.Slots-1); first != wantHash(s)%4 || last != (wantHash(s)+3)%4 {
			t.Errorf("the first and the last probe of %q: %d, %d", s, first, last)
		}
		for _, n := range badNumbers(impl.Slots) {
			if got := impl.Probe(s, n); got != -1 {
				t.Errorf("Probe(%q, %d) = %d, want -1", s, n, got)
			}
		}
	}
}

func TestProbeOfNoKey(t *testing.T) {
	for _, s := range []string{"", "-", "a-", "-a", "a-b", "abcde", "a\x00", "\x00", "\x80", "a\xff", "\u00e9", strings.Repeat("a", 5000)} {
		checkNoProbe(t, s)
		for _, n := range badNumbers(impl.Slots) {
			if got := impl.Probe(s, n); got != -1 {
				t.Errorf("Probe(%q, %d) = %d, want -1", s, n, got)
			}
		}
	}
}
