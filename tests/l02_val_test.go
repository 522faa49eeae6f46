package tests

import (
	"fmt"
	"math"
	"math/big"
	"strings"
	"testing"

	"loop.example/g00288/impl"
)

func num(n int) impl.Val { return impl.Val{K: impl.VInt, N: n} }

func text(s string) impl.Val { return impl.Val{K: impl.VText, S: s} }

// noKinds are kinds of which none is one, beside those that are and far from them.
var noKinds = []int{-1, -2, 3, 4, 127, 128, 2147483647, -2147483648, 4294967296, 4294967297, 4294967298, math.MaxInt, math.MinInt}

// someTexts are all within MaxText.
func someTexts() []string {
	return []string{
		"", "\x00", "\x00\x00", "\n", " ", " 1", "+1", "-", "--1", "-0", "-1", "-10", "-2", "-2147483648", "0", "00", "007", "05", "1", "1 ", "10", "100", "12x", "2", "2147483647", "2147483648", "5", "9", "9a",
		"A", "Z", "a", "ab", "b", strings.Repeat("q", 127), strings.Repeat("q", 128), strings.Repeat("q", 199), strings.Repeat("q", 200), "z", "\x7f", "\x80", "\xc3", "ü", "€", "\xff", "\xff\xff",
	}
}

func someNumbers() []int {
	return []int{0, 1, -1, 2, -2, 5, 9, 10, -10, 63, 64, -64, -65, 100, 127, 128, 255, 4660, 1000000, -1000000, 2147483646, 2147483647, -2147483647, -2147483648}
}

// someVals are all right: nothing, numbers and texts.
func someVals() []impl.Val {
	vals := []impl.Val{{}}
	for _, n := range someNumbers() {
		vals = append(vals, num(n))
	}
	for _, s := range someTexts() {
		vals = append(vals, text(s))
	}
	return vals
}

// wrongVals are all not right, each for one reason.
func wrongVals() []impl.Val {
	vals := []impl.Val{
		num(2147483648), num(-2147483649), num(4294967295), num(4294967296), num(-4294967296), num(math.MaxInt), num(math.MinInt),
		text(strings.Repeat("q", 201)), text(strings.Repeat("\x00", 1000)),
		{N: 1}, {N: -1}, {N: math.MinInt}, {S: "a"}, {S: "\x00"}, {N: 7, S: "x"},
		{K: impl.VInt, S: "1"}, {K: impl.VInt, N: 5, S: "5"}, {K: impl.VText, N: 1}, {K: impl.VText, N: -1, S: "a"}, {K: impl.VText, N: 5, S: "5"},
	}
	for _, k := range noKinds {
		vals = append(vals, impl.Val{K: k}, impl.Val{K: k, N: 1}, impl.Val{K: k, S: "a"})
	}
	return vals
}

func TestTheConstantsOfValues(t *testing.T) {
	if impl.VNone != 0 || impl.VInt != 1 || impl.VText != 2 || impl.MaxText != 200 {
		t.Error(impl.VNone, impl.VInt, impl.VText, impl.MaxText)
	}
}

func TestValOk(t *testing.T) {
	for _, v := range someVals() {
		if !impl.ValOk(v) {
			t.Errorf("%#v is not ValOk", v)
		}
	}
	for _, v := range wrongVals() {
		if impl.ValOk(v) {
			t.Errorf("%#v is ValOk", v)
		}
	}
}

func TestNumOfWhatIsNoText(t *testing.T) {
	for _, k := range append([]int{impl.VNone, impl.VInt}, noKinds...) {
		for _, n := range []int{0, 1, -1, 5, 2147483647, -2147483648, 2147483648, math.MaxInt, math.MinInt} {
			if got := impl.NumOf(impl.Val{K: k, N: n, S: "77"}); got != n {
				t.Errorf("NumOf of kind %d, N %d: %d", k, n, got)
			}
		}
	}
}

func TestNumOfATextReadsASignAndDigits(t *testing.T) {
	for s, want := range map[string]int{
		"": 0, "0": 0, "-0": 0, "1": 1, "-1": -1, "12": 12, "-34": -34, "9876543": 9876543, "007": 7, "-007": -7, "0000000000000000000000000000012": 12,
		"12x": 12, "-3x": -3, "5 6": 5, "5-6": 5, "5-": 5, "1.9": 1, "1e3": 1, "0x10": 0, "1_000": 1, "3\x004": 3, "8\n": 8, "4٣": 4, "12,": 12, "7/": 7, "7:": 7,
		"-": 0, "--": 0, "--5": 0, "---5": 0, "-+5": 0, "- 5": 0, "-x5": 0, "+5": 0, " 5": 0, " -5": 0, "\t5": 0, "\n5": 0, "x": 0, "x5": 0, "٣": 0, "−5": 0, "\xff5": 0, "\x005": 0, ".5": 0, "/5": 0, ":5": 0,
		"2147483647": 2147483647, "-2147483647": -2147483647, "-2147483648": -2147483648,
		"2147483648": -2147483648, "2147483649": -2147483647, "-2147483649": 2147483647, "-2147483650": 2147483646,
		"4294967295": -1, "4294967296": 0, "4294967301": 5, "-4294967295": 1, "-4294967296": 0, "-4294967301": -5,
		"99999999999": 1215752191, "-99999999999": -1215752191, "9223372036854775807": -1, "9223372036854775808": 0, "-9223372036854775808": 0, "18446744073709551615": -1, "18446744073709551616": 0, "18446744073709551623": 7,
	} {
		if got := impl.NumOf(text(s)); got != want {
			t.Errorf("NumOf(%q) = %d, want %d", s, got, want)
		}
	}
	if got := impl.NumOf(impl.Val{K: impl.VText, N: 9, S: "4"}); got != 4 {
		t.Errorf("NumOf of a text looked at N: %d", got)
	}
}

// modulo is the number that these digits tell, from -2147483648 to 2147483647.
func modulo(digits string) int {
	n, _ := new(big.Int).SetString(digits, 10)
	n.Add(n, big.NewInt(2147483648))
	n.Mod(n, big.NewInt(4294967296))
	return int(n.Int64()) - 2147483648
}

func TestNumOfATextOfManyDigitsIsWrapped(t *testing.T) {
	for _, pattern := range []string{"9", "1", "10", "123456789", "2147483648", "8000000001", "907", "50"} {
		digits := strings.Repeat(pattern, 400/len(pattern))
		for size := 1; size <= len(digits); size++ {
			for _, sign := range []string{"", "-"} {
				s := sign + digits[:size]
				if got, want := impl.NumOf(text(s+"x9")), modulo(s); got != want {
					t.Errorf("NumOf(%q) = %d, want %d", s, got, want)
				}
			}
		}
	}
}

func TestNumOfTextOfANumberIsThatNumber(t *testing.T) {
	for _, n := range append(edges(), someNumbers()...) {
		n = impl.Wrap(n)
		if got := impl.NumOf(text(impl.TextOf(num(n)))); got != n {
			t.Errorf("%d came back as %d", n, got)
		}
	}
}

func TestTextOf(t *testing.T) {
	for n, want := range map[int]string{
		0: "0", 1: "1", -1: "-1", 9: "9", 10: "10", -10: "-10", 42: "42", 100: "100", -907: "-907", 1000000: "1000000",
		2147483647: "2147483647", -2147483648: "-2147483648", 2147483648: "2147483648", -2147483649: "-2147483649",
		math.MaxInt: "9223372036854775807", math.MinInt: "-9223372036854775808",
	} {
		for _, s := range []string{"", "not this"} {
			if got := impl.TextOf(impl.Val{K: impl.VInt, N: n, S: s}); got != want {
				t.Errorf("TextOf(%d) = %q", n, got)
			}
		}
	}
	for _, k := range append([]int{impl.VNone, impl.VText}, noKinds...) {
		for _, s := range append(someTexts(), strings.Repeat("q", 201)) {
			for _, n := range []int{0, 7} {
				if got := impl.TextOf(impl.Val{K: k, N: n, S: s}); got != s {
					t.Errorf("TextOf of kind %d, S %q: %q", k, s, got)
				}
			}
		}
	}
}

func TestTruth(t *testing.T) {
	for _, s := range append(someTexts(), strings.Repeat("q", 201)) {
		for _, n := range []int{0, 1} {
			if got := impl.Truth(impl.Val{K: impl.VText, N: n, S: s}); got != (s != "") {
				t.Errorf("Truth of the text %q: %v", s, got)
			}
		}
	}
	for _, k := range append([]int{impl.VNone, impl.VInt}, noKinds...) {
		for _, n := range append(someNumbers(), 4294967296, math.MinInt, math.MaxInt) {
			for _, s := range []string{"", "0", "x"} {
				if got := impl.Truth(impl.Val{K: k, N: n, S: s}); got != (n != 0) {
					t.Errorf("Truth of kind %d, N %d, S %q: %v", k, n, s, got)
				}
			}
		}
	}
}

// wantOrder asks both ways round: -1 for a less, 0 for the same, 1 for b less.
func wantOrder(t *testing.T, a, b impl.Val, want int) {
	t.Helper()
	got := fmt.Sprint(impl.LessVal(a, b), impl.SameVal(a, b), impl.SameVal(b, a), impl.LessVal(b, a))
	if got != fmt.Sprint(want < 0, want == 0, want == 0, want > 0) {
		t.Errorf("%#v against %#v: less, same, same, less are %s", a, b, got)
	}
}

func TestTheOrderOfTwoThatAreNoTexts(t *testing.T) {
	numbers := append(someNumbers(), 4294967296, math.MinInt, math.MaxInt)
	for _, n := range numbers {
		for _, m := range numbers {
			want := 0
			if n < m {
				want = -1
			} else if n > m {
				want = 1
			}
			wantOrder(t, num(n), num(m), want)
			wantOrder(t, impl.Val{K: 9, N: n, S: "a"}, impl.Val{K: impl.VNone, N: m, S: "b"}, want)
			wantOrder(t, impl.Val{K: impl.VInt, N: n, S: "a"}, impl.Val{K: -1, N: m}, want)
		}
	}
	wantOrder(t, impl.Val{}, impl.Val{}, 0)
	wantOrder(t, impl.Val{}, num(0), 0)
	wantOrder(t, impl.Val{}, num(1), -1)
	wantOrder(t, num(-1), impl.Val{}, -1)
	wantOrder(t, num(-2147483648), impl.Val{}, -1)
}

func TestTheOrderOfTwoTexts(t *testing.T) {
	rising := []string{
		"", "\x00", "\x00\x00", "\x00a", "\n", " ", "!", "-", "-1", "-10", "-2", "0", "00", "05", "1", "10", "100", "11", "2", "5", "9", "A", "B", "Z", "_", "a", "aB", "aa", "ab", "abc", "ac", "b",
		strings.Repeat("q", 199), strings.Repeat("q", 200), strings.Repeat("q", 201), "qr", "z", "\x7f", "\x80", "ü", "€", "\xff", "\xff\x00",
	}
	for i, a := range rising {
		for j, b := range rising {
			wantOrder(t, text(a), text(b), min(max(i-j, -1), 1))
			wantOrder(t, impl.Val{K: impl.VText, N: j, S: a}, impl.Val{K: impl.VText, N: i, S: b}, min(max(i-j, -1), 1))
		}
	}
}

func TestTheOrderOfATextAndWhatIsNone(t *testing.T) {
	none := impl.Val{}
	for _, z := range []struct {
		a, b impl.Val
		want int
	}{
		{text("5"), num(5), 0}, {text("05"), num(5), -1}, {text("5 "), num(5), 1}, {text("+5"), num(5), -1}, {text("5x"), num(5), 1},
		{text("9"), num(10), 1}, {text("10"), num(9), -1}, {text("2"), num(10), 1}, {text("100"), num(99), -1}, {text("1"), num(10), -1},
		{text("-1"), num(-1), 0}, {text("-1"), num(-10), -1}, {text("-2"), num(-1), 1}, {text("-"), num(-1), -1}, {text("a"), num(2147483647), 1}, {text(" "), num(-2147483648), -1},
		{text("0"), num(0), 0}, {text(""), num(0), -1}, {text("-0"), num(0), -1}, {text("00"), num(0), 1}, {text("x"), num(0), 1}, {text(""), num(-5), -1},
		{text("2147483647"), num(2147483647), 0}, {text("-2147483648"), num(-2147483648), 0},
		{text(""), none, 0}, {text("0"), none, 1}, {text("a"), none, 1}, {text("\x00"), none, 1}, {text("-1"), none, 1},
		{text("m"), impl.Val{K: impl.VNone, N: 5, S: "m"}, 0}, {text("m"), impl.Val{K: 3, N: 5, S: "n"}, -1}, {text("5"), impl.Val{K: 3, N: 5}, 1},
	} {
		wantOrder(t, z.a, z.b, z.want)
	}
}

func TestOfTwoOneIsLessOrTheyAreTheSame(t *testing.T) {
	vals := append(someVals(), wrongVals()...)
	for _, a := range vals {
		wantOrder(t, a, a, 0)
		for _, b := range vals {
			held := 0
			for _, holds := range []bool{impl.LessVal(a, b), impl.SameVal(a, b), impl.LessVal(b, a)} {
				if holds {
					held++
				}
			}
			if held != 1 || impl.SameVal(a, b) != impl.SameVal(b, a) {
				t.Errorf("%#v and %#v: %d of less, same and less hold", a, b, held)
			}
		}
	}
}

func TestPutValPutsKindAndContent(t *testing.T) {
	long := strings.Repeat("q", 200)
	for want, v := range map[string]impl.Val{
		"\x00": {}, "\x01\x00": num(0), "\x01\x05": num(5), "\x01\x7f": num(-1), "\x01\xc0\x00": num(64), "\x01\xbf\x7f": num(-65),
		"\x01\xff\xff\xff\xff\x07": num(2147483647), "\x01\x80\x80\x80\x80\x78": num(-2147483648),
		"\x02\x00": text(""), "\x02\x02ab": text("ab"), "\x02\x01\x00": text("\x00"), "\x02\x02\x80\xff": text("\x80\xff"), "\x02\xc8\x01" + long: text(long),
		"\x02\xc9\x01" + long + "r": text(long + "r"), "\x03": {K: 3, N: 5, S: "a"}, "\x80\x01": {K: 128, N: 5, S: "a"}, "\xff\xff\xff\xff\x07": {K: 4294967297, N: 5, S: "a"},
	} {
		wantPutVal(t, v, want)
	}
	wantPutVal(t, impl.Val{N: 5, S: "a"}, "\x00")
	wantPutVal(t, impl.Val{K: -1, N: 5, S: "a"}, "\x00")
	wantPutVal(t, impl.Val{K: impl.VInt, N: 4294967301, S: "a"}, "\x01\x05")
	wantPutVal(t, impl.Val{K: impl.VText, N: 5, S: "a"}, "\x02\x01a")
}

func wantPutVal(t *testing.T, v impl.Val, want string) {
	t.Helper()
	if b := impl.PutVal(nil, v); string(b) != want {
		t.Errorf("PutVal(nil, %#v) = %q, want %q", v, b, want)
	}
	for _, ahead := range []string{"", "\x09", "\x80\xff", "some bytes that stand ahead of it"} {
		if b := impl.PutVal([]byte(ahead), v); string(b) != ahead+want {
			t.Errorf("PutVal(%q, %#v) = %q, want %q", ahead, v, b, ahead+want)
		}
	}
}

func TestValuesComeBackOfTheirBytes(t *testing.T) {
	for _, v := range someVals() {
		for _, ahead := range []string{"", "\x02", "\x80\xff"} {
			for _, behind := range []string{"", "\x00", "\xff\xff\xff\xff\xff\xff"} {
				b := impl.PutVal([]byte(ahead), v)
				got, next, ok := impl.GetVal(append(b, behind...), len(ahead))
				if got != v || next != len(b) || !ok {
					t.Errorf("%#v came back as %#v, %d, %v", v, got, next, ok)
				}
			}
		}
	}
}

func TestValuesComeBackOneBehindTheOther(t *testing.T) {
	var b []byte
	for _, v := range someVals() {
		b = impl.PutVal(b, v)
	}
	at := 0
	for _, v := range someVals() {
		got, next, ok := impl.GetVal(b, at)
		if got != v || next <= at || !ok {
			t.Fatalf("%#v came back as %#v, %d, %v", v, got, next, ok)
		}
		at = next
	}
	if at != len(b) {
		t.Errorf("the last place is %d of %d", at, len(b))
	}
}

func TestGetValRefuses(t *testing.T) {
	long := strings.Repeat("q", 300)
	for _, s := range []string{
		"", "\x03", "\x03\x01", "\x03\x01a", "\x04\x00", "\x7f", "\x80\x01", "\x81\x01\x05", "\x82\x01\x00", "\xff\xff\xff\xff\x07",
		"\x80", "\x80\x00", "\x81\x00\x05", "\x82\x00\x00", "\x81\x80\x80\x80\x10\x05", "\xff\xff\xff\xff\x08", "\x81\x80\x80\x80\x80\x00\x05",
		"\x01", "\x01\x80", "\x01\x80\x00", "\x01\xff\x7f", "\x01\x80\x80\x80\x80", "\x01\x80\x80\x80\x80\x08", "\x01\xff\xff\xff\xff\x77", "\x01\xff\xff\xff\xff\xff\x7f",
		"\x02", "\x02\x01", "\x02\x03xy", "\x02\x80", "\x02\x80\x00", "\x02\x81\x00x", "\x02\xff\xff\xff\xff\x07abc", "\x02\xff\xff\xff\xff\x08abc",
		"\x02\xc8\x01" + long[:199], "\x02\xc9\x01" + long[:201], "\x02\xc9\x01" + long, "\x02\xac\x02" + long,
	} {
		wantNoVal(t, s, 0)
		wantNoVal(t, "\x00"+s, 1)
	}
	for _, v := range someVals() {
		whole := string(impl.PutVal(nil, v))
		for size := range len(whole) {
			wantNoVal(t, whole[:size], 0)
		}
		for _, at := range noPlaces(len(whole)) {
			wantNoVal(t, whole, at)
		}
	}
	for _, at := range append(noPlaces(0), 0) {
		wantNoVal(t, "", at)
	}
}

func wantNoVal(t *testing.T, s string, at int) {
	t.Helper()
	if v, next, ok := impl.GetVal([]byte(s), at); v != (impl.Val{}) || next != 0 || ok {
		t.Errorf("GetVal(%q, %d) = %#v, %d, %v", s, at, v, next, ok)
	}
}

// What is read of any bytes is right, and is put as just these bytes.
func TestEveryValueThatIsReadHasOneForm(t *testing.T) {
	tails := []string{"", "\x00", "\x01", "\x07", "\x7f", "\x80\x01", "\xff\xff\x07", "\x80\x80\x78", strings.Repeat("q", 198), strings.Repeat("q", 200), strings.Repeat("q", 260)}
	for kind := range 256 {
		for size := range 256 {
			for _, tail := range tails {
				b := append([]byte{byte(kind), byte(size)}, tail...)
				v, next, ok := impl.GetVal(b, 0)
				if ok != (kind < 3 && next > 0) || !ok && v != (impl.Val{}) {
					t.Fatalf("GetVal(%q) = %#v, %d, %v", b, v, next, ok)
				}
				if ok && (!impl.ValOk(v) || v.K != kind || string(impl.PutVal(nil, v)) != string(b[:next])) {
					t.Fatalf("GetVal(%q) = %#v, %d, %v", b, v, next, ok)
				}
			}
		}
	}
}
