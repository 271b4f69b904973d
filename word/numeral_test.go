package word_test

import (
	"fmt"
	"regexp"
	"strconv"
	"strings"
	"testing"

	"septum/word"
)

var (
	decimal = regexp.MustCompile(`\A(0|[1-9][0-9]*)\z`)
	hex     = regexp.MustCompile(`\A0x[0-9a-f]{1,8}\z`)
)

// meant is what P1.4 says of a text, told another way.
func meant(s string) (uint32, bool) {
	digits, base := s, 10
	if hex.MatchString(s) {
		digits, base = s[2:], 16
	} else if !decimal.MatchString(s) {
		return 0, false
	}
	v, err := strconv.ParseUint(digits, base, 32)
	if err != nil {
		return 0, false
	}
	return uint32(v), true
}

func checkParse(t *testing.T, s string) {
	t.Helper()
	want, wantIs := meant(s)
	if got, is := word.Parse(s); got != want || is != wantIs {
		t.Errorf("Parse(%.40q) is %d, %v, not %d, %v", s, got, is, want, wantIs)
	}
}

func TestParseNumerals(t *testing.T) { // P1.4
	for s, want := range map[string]uint32{
		"0": 0, "1": 1, "9": 9, "10": 10, "100": 100, "1234567890": 1234567890,
		"999999999": 999999999, "1000000000": 1000000000, "4294967294": 4294967294, "4294967295": 4294967295,
		"0x0": 0, "0x1": 1, "0x9": 9, "0xa": 10, "0xf": 15, "0x0a": 10, "0x10": 16, "0x00000000": 0, "0x0000000a": 10,
		"0x01234567": 0x01234567, "0x89abcdef": 0x89abcdef, "0xfffffff": 0xfffffff, "0xffffffff": 0xffffffff, "0xdeadbeef": 0xdeadbeef,
	} {
		if got, is := word.Parse(s); got != want || !is {
			t.Errorf("Parse(%q) is %d, %v, not %d", s, got, is, want)
		}
	}
}

func TestParseNone(t *testing.T) { // P1.4
	for _, s := range []string{
		"", " ", "00", "01", "010", "007", "0000000001", "00x1", "4294967296", "4294967305", "4294967300", "5000000000", "9999999999", "10000000000", "42949672950",
		"18446744073709551615", "18446744073709551616", "18446744073709551621", "340282366920938463463374607431768211457",
		"0x", "x", "x1", "0x000000000", "0x000000001", "0x100000000", "0xfffffffff", "0x0ffffffff", "0x10000000000000001",
		"0X1", "0Xa", "0xA", "0xF", "0xDEADBEEF", "0xfF", "X", "0X", "0xx1", "0x0x1", "0xg", "0x1g", "0xG", "0x`", "0x:", "0x/", "0x@",
		"a", "f", "1a", "a1", "deadbeef", "1f", "1x1", "10x1", "-0", "-1", "+1", "+0", "-0x1", "+0x1", "0x-1", "0x+1", "0x ", "0x 1",
		" 1", "1 ", " 0x1", "0x1 ", "1\n", "\t1", "1\x00", "\x001", "0x1\x00", "0x\x00", "1 2", "1.0", "1e3", "1_000", "0x_1", "0x1_0", "0b1", "0o7", "0b", "#1", "$1", "1h",
		"\xff", "1\xff", "0x\xff", "\xb1", "\u0661", "\uff11", "1\u00b2", "0\u00d71", "/", ":", "0:", "0/",
	} {
		if got, is := word.Parse(s); got != 0 || is {
			t.Errorf("Parse(%q) is %d, %v", s, got, is)
		}
	}
}

func TestParseLong(t *testing.T) { // P1.4, R1
	for _, n := range []int{9, 10, 11, 20, 64, 1 << 16, 1 << 20} {
		for _, s := range []string{strings.Repeat("9", n), strings.Repeat("0", n), "1" + strings.Repeat("0", n), "0x" + strings.Repeat("0", n), "0x" + strings.Repeat("f", n), "0x1" + strings.Repeat("0", n)} {
			checkParse(t, s)
		}
	}
}

func TestParseEachByte(t *testing.T) { // P1.4
	for c := range 256 {
		b := string([]byte{byte(c)})
		for _, s := range []string{b, "1" + b, b + "1", "0x" + b, "0x1" + b, "0" + b + "1", b + "x1"} {
			checkParse(t, s)
		}
	}
}

func TestParseShort(t *testing.T) { // P1.4: all short texts of these bytes
	const of = "019afgxXF-+ _"
	texts := []string{""}
	for range 5 {
		var longer []string
		for _, s := range texts {
			checkParse(t, s)
			for i := range len(of) {
				longer = append(longer, s+of[i:i+1])
			}
		}
		texts = longer
	}
}

func TestParseWords(t *testing.T) { // P1.4: each word's own numerals, and those with a nought too many
	for _, v := range samples() {
		shortest := fmt.Sprintf("0x%x", v)
		for _, s := range []string{fmt.Sprint(v), shortest, fmt.Sprintf("0x%08x", v)} {
			if got, is := word.Parse(s); got != v || !is {
				t.Errorf("Parse(%q) is %d, %v, not %d", s, got, is, v)
			}
		}
		for _, s := range []string{"0" + fmt.Sprint(v), fmt.Sprintf("0x%09x", v), fmt.Sprint(uint64(v) + 1<<32), fmt.Sprint(uint64(v) + 1<<63), "-" + fmt.Sprint(v)} {
			if got, is := word.Parse(s); got != 0 || is {
				t.Errorf("Parse(%q) is %d, %v", s, got, is)
			}
		}
	}
}

func TestShow(t *testing.T) { // P1.4
	for v, want := range map[uint32]string{
		0: "0x00000000", 10: "0x0000000a", 0xf: "0x0000000f", 0x10: "0x00000010", 0xffffffff: "0xffffffff",
		0xdeadbeef: "0xdeadbeef", 0x01234567: "0x01234567", 0x89abcdef: "0x89abcdef", 0x80000000: "0x80000000",
	} {
		if got := word.Show(v); got != want {
			t.Errorf("Show(%d) is %q, not %q", v, got, want)
		}
	}
	for _, v := range samples() {
		if got, want := word.Show(v), fmt.Sprintf("0x%08x", v); got != want {
			t.Errorf("Show(%d) is %q, not %q", v, got, want)
		}
	}
}

func FuzzParse(f *testing.F) { // P1.4
	for _, s := range []string{"", "0", "4294967295", "4294967296", "0x", "0x0a", "0x123456789", "0X1"} {
		f.Add(s)
	}
	f.Fuzz(checkParse)
}
