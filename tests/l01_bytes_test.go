package tests

import (
	"math"
	"strings"
	"testing"

	"loop.example/g00288/impl"
)

// row is a number and its bytes, written out by hand.
type row struct {
	n     int
	bytes string
}

var unsignedRows = []row{
	{0, "\x00"}, {1, "\x01"}, {126, "\x7e"}, {127, "\x7f"},
	{128, "\x80\x01"}, {300, "\xac\x02"}, {16383, "\xff\x7f"},
	{16384, "\x80\x80\x01"}, {2097151, "\xff\xff\x7f"},
	{2097152, "\x80\x80\x80\x01"}, {268435455, "\xff\xff\xff\x7f"},
	{268435456, "\x80\x80\x80\x80\x01"}, {2147483646, "\xfe\xff\xff\xff\x07"}, {2147483647, "\xff\xff\xff\xff\x07"},
}

var signedRows = []row{
	{0, "\x00"}, {1, "\x01"}, {-1, "\x7f"}, {2, "\x02"}, {-2, "\x7e"},
	{63, "\x3f"}, {-64, "\x40"}, {64, "\xc0\x00"}, {-65, "\xbf\x7f"}, {127, "\xff\x00"}, {128, "\x80\x01"}, {-128, "\x80\x7f"},
	{8191, "\xff\x3f"}, {-8192, "\x80\x40"}, {8192, "\x80\xc0\x00"}, {-8193, "\xff\xbf\x7f"},
	{1048575, "\xff\xff\x3f"}, {-1048576, "\x80\x80\x40"}, {1048576, "\x80\x80\xc0\x00"}, {-1048577, "\xff\xff\xbf\x7f"},
	{134217727, "\xff\xff\xff\x3f"}, {-134217728, "\x80\x80\x80\x40"},
	{134217728, "\x80\x80\x80\xc0\x00"}, {-134217729, "\xff\xff\xff\xbf\x7f"},
	{2147483646, "\xfe\xff\xff\xff\x07"}, {2147483647, "\xff\xff\xff\xff\x07"},
	{-2147483647, "\x81\x80\x80\x80\x78"}, {-2147483648, "\x80\x80\x80\x80\x78"},
}

// noPlaces are places of which none is one in a list of this size, its end among them.
func noPlaces(size int) []int {
	return []int{-1, -2, -size, -size - 1, math.MinInt, size, size + 1, size + 1000, math.MaxInt - 1, math.MaxInt}
}

// edges are numbers beside every power of two, on both sides of 0.
func edges() []int {
	var out []int
	for i := range 64 {
		p := 1 << i
		for d := -2; d <= 2; d++ {
			out = append(out, p+d, -p+d)
		}
	}
	return out
}

func TestWrapKeepsWhatFitsAndTurnsTheRest(t *testing.T) {
	for _, z := range [][2]int{
		{0, 0}, {1, 1}, {-1, -1}, {5, 5}, {1000000, 1000000}, {-1000000, -1000000},
		{2147483647, 2147483647}, {-2147483648, -2147483648},
		{2147483648, -2147483648}, {-2147483649, 2147483647},
		{4294967295, -1}, {4294967296, 0}, {4294967301, 5}, {-4294967295, 1}, {-4294967296, 0}, {-4294967297, -1},
		{6442450943, 2147483647}, {6442450944, -2147483648}, {-6442450944, -2147483648}, {-6442450945, 2147483647},
		{1000000000000, -727379968}, {-1000000000000, 727379968},
		{math.MaxInt, -1}, {math.MinInt, 0}, {math.MinInt + 1, 1}, {math.MaxInt - 2147483648, 2147483647},
	} {
		if n := impl.Wrap(z[0]); n != z[1] {
			t.Errorf("Wrap(%d) = %d, want %d", z[0], n, z[1])
		}
	}
	for _, n := range edges() {
		w := impl.Wrap(n)
		if w < -2147483648 || w > 2147483647 || uint64(n-w)%4294967296 != 0 || impl.Wrap(w) != w {
			t.Errorf("Wrap(%d) = %d", n, w)
		}
	}
}

func TestPutUAndGetU(t *testing.T) {
	for _, r := range unsignedRows {
		wantPut(t, "PutU", impl.PutU, r.n, r.bytes)
		wantGet(t, "GetU", impl.GetU, r.bytes, r.n)
	}
	for _, n := range []int{-1, -2, -128, -2147483648, -4294967295, math.MinInt} {
		wantPut(t, "PutU", impl.PutU, n, "\x00")
	}
	for _, n := range []int{2147483648, 2147483649, 4294967295, 4294967296, 4294967301, math.MaxInt} {
		wantPut(t, "PutU", impl.PutU, n, "\xff\xff\xff\xff\x07")
	}
	for _, n := range edges() {
		b := impl.PutU([]byte("ahead"), n)
		got, next, ok := impl.GetU(b, 5)
		if got != min(max(n, 0), 2147483647) || next != len(b) || !ok {
			t.Errorf("GetU(PutU(%d)) = %d, %d, %v", n, got, next, ok)
		}
	}
}

func TestPutSAndGetS(t *testing.T) {
	for _, r := range signedRows {
		wantPut(t, "PutS", impl.PutS, r.n, r.bytes)
		wantGet(t, "GetS", impl.GetS, r.bytes, r.n)
		wantPut(t, "PutS", impl.PutS, r.n+4294967296, r.bytes)
		wantPut(t, "PutS", impl.PutS, r.n-4294967296, r.bytes)
	}
	for _, r := range []row{{4294967295, "\x7f"}, {4294967296, "\x00"}, {2147483648, "\x80\x80\x80\x80\x78"}, {-2147483649, "\xff\xff\xff\xff\x07"}, {math.MaxInt, "\x7f"}, {math.MinInt, "\x00"}} {
		wantPut(t, "PutS", impl.PutS, r.n, r.bytes)
	}
	for _, n := range edges() {
		b := impl.PutS([]byte("ahead"), n)
		got, next, ok := impl.GetS(b, 5)
		if got != impl.Wrap(n) || next != len(b) || !ok {
			t.Errorf("GetS(PutS(%d)) = %d, %d, %v", n, got, next, ok)
		}
		if below := b[len(b)-1]&64 != 0; below != (impl.Wrap(n) < 0) {
			t.Errorf("PutS(%d): the sixth bit of the last group of %x", n, b)
		}
	}
}

func TestGetURefuses(t *testing.T) {
	for _, s := range []string{
		"", "\x80", "\xff", "\x80\x80", "\xff\xff\xff", "\xff\xff\xff\xff", "\xff\xff\xff\xff\xff",
		"\x80\x80\x80\x80\x80\x01", "\xff\xff\xff\xff\x87\x00", "\x81\x80\x80\x80\x80\x80\x00",
		"\x80\x00", "\xff\x00", "\x81\x80\x00", "\xff\xff\xff\x00", "\xff\xff\xff\xff\x00",
		"\x80\x80\x80\x80\x08", "\xff\xff\xff\xff\x08", "\xff\xff\xff\xff\x0f", "\xff\xff\xff\xff\x7f",
	} {
		wantRefused(t, "GetU", impl.GetU, s, 0)
		wantRefused(t, "GetU", impl.GetU, "\x05"+s, 1)
	}
	for _, r := range unsignedRows {
		for size := range len(r.bytes) {
			wantRefused(t, "GetU", impl.GetU, r.bytes[:size], 0)
		}
		for _, at := range noPlaces(len(r.bytes)) {
			wantRefused(t, "GetU", impl.GetU, r.bytes, at)
		}
	}
}

func TestGetSRefuses(t *testing.T) {
	for _, s := range []string{
		"", "\x80", "\xff", "\x80\x80", "\xff\xff\xff", "\xff\xff\xff\xff", "\xff\xff\xff\xff\xff",
		"\x80\x80\x80\x80\x80\x01", "\xff\xff\xff\xff\xff\x7f", "\x80\x80\x80\x80\xf8\x7f",
		"\x80\x00", "\xbf\x00", "\xff\x7f", "\xc0\x7f", "\xc0\x80\x00", "\xbf\xff\x7f", "\xff\xff\xff\xff\x7f", "\x80\x80\x80\x80\x00",
		"\x80\x80\x80\x80\x08", "\xff\xff\xff\xff\x0f", "\xff\xff\xff\xff\x3f",
		"\xff\xff\xff\xff\x77", "\x80\x80\x80\x80\x70", "\x80\x80\x80\x80\x40",
	} {
		wantRefused(t, "GetS", impl.GetS, s, 0)
		wantRefused(t, "GetS", impl.GetS, "\x05"+s, 1)
	}
	for _, r := range signedRows {
		for size := range len(r.bytes) {
			wantRefused(t, "GetS", impl.GetS, r.bytes[:size], 0)
		}
		for _, at := range noPlaces(len(r.bytes)) {
			wantRefused(t, "GetS", impl.GetS, r.bytes, at)
		}
	}
}

// What is read of any bytes is put as just these bytes, so no number has two forms.
func TestEveryFormIsTheOneThatIsPut(t *testing.T) {
	t.Parallel()
	tails := []string{"", "\x00", "\x01", "\x07", "\x08", "\x3f", "\x40", "\x70", "\x77", "\x78", "\x7f", "\x80\x00", "\x80\x7f", "\xff\xff\x07", "\xff\xff\x78", "\x80\x80\x78", "\xff\x80\x80\x01"}
	for i := range 65536 {
		for _, tail := range tails {
			b := append([]byte{byte(i), byte(i >> 8)}, tail...)
			wantOneForm(t, "U", impl.GetU, impl.PutU, b)
			wantOneForm(t, "S", impl.GetS, impl.PutS, b)
			if t.Failed() {
				return
			}
		}
	}
}

func TestPutTextAndGetText(t *testing.T) {
	long := strings.Repeat("0123456789", 30)
	for text, want := range map[string]string{
		"": "\x00", "a": "\x01a", "xyz": "\x03xyz", "\x00": "\x01\x00", "\x80\xff\xfe": "\x03\x80\xff\xfe", "ü€": "\x05\xc3\xbc\xe2\x82\xac",
		strings.Repeat("q", 127): "\x7f" + strings.Repeat("q", 127), strings.Repeat("q", 128): "\x80\x01" + strings.Repeat("q", 128), long: "\xac\x02" + long,
	} {
		for _, ahead := range []string{"", "\x09", "\x80\x80"} {
			b := impl.PutText([]byte(ahead), text)
			if string(b) != ahead+want {
				t.Errorf("PutText(%q, %q) = %q", ahead, text, b)
			}
			got, next, ok := impl.GetText([]byte(ahead+want+"\x05more"), len(ahead))
			if got != text || next != len(ahead+want) || !ok {
				t.Errorf("GetText of %q: %q, %d, %v", text, got, next, ok)
			}
		}
	}
	if s, next, ok := impl.GetText(impl.PutText(impl.PutText(nil, "one"), "two"), 4); s != "two" || next != 8 || !ok {
		t.Errorf("the second text: %q, %d, %v", s, next, ok)
	}
}

func TestGetTextRefuses(t *testing.T) {
	for _, s := range []string{"", "\x01", "\x03xy", "\x80", "\x80\x01", "\x80\x00", "\x83\x00xyz", "\xff\xff\xff\xff\x07abc", "\xff\xff\xff\xff\x08abc", "\xff\xff\xff\xff\xff\x01abc", "\xac\x02" + strings.Repeat("z", 299)} {
		wantTextRefused(t, s, 0)
		wantTextRefused(t, "\x01"+s, 1)
	}
	whole := string(impl.PutText(nil, "a text that is cut short"))
	for size := range len(whole) {
		wantTextRefused(t, whole[:size], 0)
	}
	for _, at := range noPlaces(len(whole)) {
		wantTextRefused(t, whole, at)
	}
	for _, at := range noPlaces(0) {
		wantTextRefused(t, "", at)
	}
}

func wantPut(t *testing.T, name string, put func([]byte, int) []byte, n int, want string) {
	t.Helper()
	for _, ahead := range []string{"", "\x09", "\x80\xff", "some bytes that stand ahead of it"} {
		if b := put([]byte(ahead), n); string(b) != ahead+want {
			t.Errorf("%s(%q, %d) = %q, want %q", name, ahead, n, b, ahead+want)
		}
	}
	if b := put(nil, n); string(b) != want {
		t.Errorf("%s(nil, %d) = %q, want %q", name, n, b, want)
	}
}

func wantGet(t *testing.T, name string, get func([]byte, int) (int, int, bool), s string, want int) {
	t.Helper()
	for _, ahead := range []string{"", "\x09", "\x80\xff"} {
		for _, behind := range []string{"", "\x00", "\xff\xff\xff\xff\xff\xff"} {
			n, next, ok := get([]byte(ahead+s+behind), len(ahead))
			if n != want || next != len(ahead+s) || !ok {
				t.Errorf("%s(%q, %d) = %d, %d, %v, want %d", name, ahead+s+behind, len(ahead), n, next, ok, want)
			}
		}
	}
}

func wantRefused(t *testing.T, name string, get func([]byte, int) (int, int, bool), s string, at int) {
	t.Helper()
	if n, next, ok := get([]byte(s), at); n != 0 || next != 0 || ok {
		t.Errorf("%s(%q, %d) = %d, %d, %v", name, s, at, n, next, ok)
	}
}

func wantTextRefused(t *testing.T, s string, at int) {
	t.Helper()
	if text, next, ok := impl.GetText([]byte(s), at); text != "" || next != 0 || ok {
		t.Errorf("GetText(%q, %d) = %q, %d, %v", s, at, text, next, ok)
	}
}

func wantOneForm(t *testing.T, name string, get func([]byte, int) (int, int, bool), put func([]byte, int) []byte, b []byte) {
	t.Helper()
	n, next, ok := get(b, 0)
	if !ok && (n != 0 || next != 0) || ok && (next < 1 || next > len(b) || string(put(nil, n)) != string(b[:next])) {
		t.Errorf("Get%s(%x) = %d, %d, %v", name, b, n, next, ok)
	}
}
