package tests

import (
	"fmt"
	"math"
	"slices"
	"strings"
	"testing"

	"loop.example/g00959/impl"
)

func TestFormatInt(t *testing.T) {
	cases := map[int]string{
		0:             "0",
		5:             "5",
		-5:            "-5",
		10:            "10",
		-70:           "-70",
		999999:        "999999",
		-999999999999: "-999999999999",
		math.MaxInt64: "9223372036854775807",
		math.MinInt64: "-9223372036854775808",
	}
	for n, want := range cases {
		if got := impl.FormatInt(n); got != want {
			t.Errorf("FormatInt(%d) = %q, want %q", n, got, want)
		}
	}
}

func checkNumber(t *testing.T, s string, want int, wantOK bool) {
	t.Helper()
	if n, ok := impl.ParseNumber(s); n != want || ok != wantOK {
		t.Errorf("ParseNumber(%q) = %d, %v, want %d, %v", s, n, ok, want, wantOK)
	}
}

func checkInt(t *testing.T, s string, want int, wantOK bool) {
	t.Helper()
	if n, ok := impl.ParseInt(s); n != want || ok != wantOK {
		t.Errorf("ParseInt(%q) = %d, %v, want %d, %v", s, n, ok, want, wantOK)
	}
}

func TestParseNumberAcceptsItsWholeRange(t *testing.T) {
	for n := 0; n <= 999999; n++ {
		s := fmt.Sprint(n)
		if got, ok := impl.ParseNumber(s); got != n || !ok {
			t.Fatalf("ParseNumber(%q) = %d, %v", s, got, ok)
		}
	}
}

func TestParseIntAcceptsBothEnds(t *testing.T) {
	for _, n := range []int{0, 1, -1, 7, -10, 999999, 1000000, -1000000, 123456789012, 4294967296, -2147483649} {
		checkInt(t, fmt.Sprint(n), n, true)
	}
	for d := 0; d <= 1000; d++ {
		n := 999999999999 - d
		checkInt(t, fmt.Sprint(n), n, true)
		checkInt(t, fmt.Sprint(-n), -n, true)
	}
}

func TestParseBeyondTheRange(t *testing.T) {
	for _, s := range []string{"1000000", "-1", "-999999", "999999999999"} {
		checkNumber(t, s, 0, false)
	}
	for _, s := range []string{
		"1000000000000",
		"-1000000000000",
		"9223372036854775807",
		"-9223372036854775808",
		"9223372036854775808",
		// These are 5 if the 64 bits wrap around.
		"18446744073709551621",
		"-18446744073709551611",
		strings.Repeat("9", 10000),
		"1" + strings.Repeat("0", 64),
	} {
		checkNumber(t, s, 0, false)
		checkInt(t, s, 0, false)
	}
}

func TestParseMalformed(t *testing.T) {
	for _, s := range []string{
		"", "007", "00", "01", "-0", "-00", "-01", "+0", "+1", "-", "+", "--1", "-+1", "1-",
		" ", " 1", "1 ", "1 2", "\n1", "1\n", "1\x00", "\x00", "1,2", "1.0", "1e3", "1_000", "0x10", "0b1", "0o7",
		"a", "1a", "a1", "/", ":", "1/", "1:", "?", "nan", "inf",
		"\xff", "1\xff", "\u0661", "\uff11", "\u22121",
		strings.Repeat("0", 20) + "1", "0000000",
	} {
		checkNumber(t, s, 0, false)
		checkInt(t, s, 0, false)
	}
}

func TestParseTellsEveryByte(t *testing.T) {
	for b := range 256 {
		s := string([]byte{byte(b)})
		digit := b >= '0' && b <= '9'
		want := 0
		if digit {
			want = b - '0'
		}
		checkNumber(t, s, want, digit)
		checkInt(t, s, want, digit)
		checkInt(t, "-"+s, -want, digit && b != '0')
	}
}

func TestSplitByte(t *testing.T) {
	cases := []struct {
		s    string
		by   byte
		want []string
	}{
		{"", ',', []string{""}},
		{"", 0, []string{""}},
		{",", ',', []string{"", ""}},
		{",,", ',', []string{"", "", ""}},
		{"abc", ',', []string{"abc"}},
		{"a,b", ',', []string{"a", "b"}},
		{",a", ',', []string{"", "a"}},
		{"a,", ',', []string{"a", ""}},
		{"a,,b", ',', []string{"a", "", "b"}},
		{"a b,c", ' ', []string{"a", "b,c"}},
		{"a\x00b", 0, []string{"a", "b"}},
		// Bytes from 128 on are split as bytes, also in the middle of a character.
		{"a\xffb", 0xff, []string{"a", "b"}},
		{"\xc3\xa9", 0xc3, []string{"", "\xa9"}},
		{"\xc3\xa9", 0xa9, []string{"\xc3", ""}},
		{"\xc3\xa9", 0xe9, []string{"\xc3\xa9"}},
	}
	for _, c := range cases {
		if got := impl.SplitByte(c.s, c.by); !slices.Equal(got, c.want) {
			t.Errorf("SplitByte(%q, %#x) = %q, want %q", c.s, c.by, got, c.want)
		}
	}
}

func TestJoin(t *testing.T) {
	cases := []struct {
		list []string
		by   string
		want string
	}{
		{nil, ",", ""},
		{[]string{}, ",", ""},
		{[]string{""}, ",", ""},
		{[]string{"a"}, ",", "a"},
		{[]string{"", ""}, ",", ","},
		{[]string{"a", "b"}, "-", "a-b"},
		{[]string{"a", "", "b"}, ", ", "a, , b"},
		{[]string{"a", "b", "c"}, "", "abc"},
		{[]string{"\xff", "\x00"}, "\xc3", "\xff\xc3\x00"},
	}
	for _, c := range cases {
		if got := impl.Join(c.list, c.by); got != c.want {
			t.Errorf("Join(%q, %q) = %q, want %q", c.list, c.by, got, c.want)
		}
	}
}

// wordsOver lists all strings of at most most of these bytes.
func wordsOver(letters []byte, most int) []string {
	words := []string{""}
	for from, size := 0, 0; size < most; size++ {
		end := len(words)
		for _, w := range words[from:end] {
			for _, b := range letters {
				words = append(words, w+string([]byte{b}))
			}
		}
		from = end
	}
	return words
}

func TestJoinUndoesSplit(t *testing.T) {
	for b := range 256 {
		by := byte(b)
		for _, s := range wordsOver([]byte{by, 'a', 0xc3, ^by}, 4) {
			parts := impl.SplitByte(s, by)
			if want := strings.Count(s, string([]byte{by})) + 1; len(parts) != want {
				t.Fatalf("SplitByte(%q, %#x) has %d parts, want %d", s, by, len(parts), want)
			}
			if got := impl.Join(parts, string([]byte{by})); got != s {
				t.Fatalf("Join of SplitByte(%q, %#x) = %q", s, by, got)
			}
		}
	}
}

func TestSplitUndoesJoin(t *testing.T) {
	words := wordsOver([]byte{'a', '0', 0xff}, 2)
	for _, by := range []byte{',', ' ', 0, '\n', 0x80, 0xfe} {
		for _, a := range words {
			for _, b := range words {
				for _, list := range [][]string{{a}, {a, b}, {a, b, a}} {
					text := impl.Join(list, string([]byte{by}))
					if got := impl.SplitByte(text, by); !slices.Equal(got, list) {
						t.Fatalf("SplitByte of Join(%q, %#x) = %q", list, by, got)
					}
				}
			}
		}
	}
}

func TestJoinKeepsItsList(t *testing.T) {
	room := []string{"a", "b", "c", "d"}
	impl.Join(room[:2], "-")
	if !slices.Equal(room, []string{"a", "b", "c", "d"}) {
		t.Errorf("Join changed its list to %q", room)
	}
}

func TestSplitByteReturnsNewLists(t *testing.T) {
	first := impl.SplitByte("a,b", ',')
	first[0] = "x"
	if second := impl.SplitByte("a,b", ','); !slices.Equal(second, []string{"a", "b"}) {
		t.Errorf("SplitByte returned %q after a change of an earlier result", second)
	}
}
