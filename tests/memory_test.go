package tests

import (
	"bytes"
	"testing"

	"loop.example/g00288/impl"
)

const spareByte = 0xa5

// roomy is s with spare room behind it that is filled, so that a write there shows.
func roomy(s string, spare int) []byte {
	b := make([]byte, 0, len(s)+spare)
	b = append(b, s...)
	whole := b[:cap(b)]
	for i := len(s); i < len(whole); i++ {
		whole[i] = spareByte
	}
	return b
}

func wantUntouched(t *testing.T, name string, b []byte, s string) {
	t.Helper()
	if string(b) != s {
		t.Errorf("%s wrote into its argument: %q, which was %q", name, b, s)
	}
	for i, c := range b[len(b):cap(b)] {
		if c != spareByte {
			t.Errorf("%s wrote into the spare room, at %d", name, i)
		}
	}
}

// overwrite fills all memory that an answer has, its spare room too.
func overwrite(b []byte) {
	whole := b[:cap(b)]
	for i := range whole {
		whole[i] = 0x5a
	}
}

func putters() map[string]func([]byte) []byte {
	return map[string]func([]byte) []byte{
		"PutU":              func(b []byte) []byte { return impl.PutU(b, 5) },
		"PutU of five":      func(b []byte) []byte { return impl.PutU(b, 2147483647) },
		"PutU below 0":      func(b []byte) []byte { return impl.PutU(b, -7) },
		"PutS":              func(b []byte) []byte { return impl.PutS(b, -5) },
		"PutS of five":      func(b []byte) []byte { return impl.PutS(b, -2147483648) },
		"PutText":           func(b []byte) []byte { return impl.PutText(b, "some text") },
		"PutText of an end": func(b []byte) []byte { return impl.PutText(b, "") },
		"PutVal":            func(b []byte) []byte { return impl.PutVal(b, impl.Val{}) },
		"PutVal of a kind":  func(b []byte) []byte { return impl.PutVal(b, impl.Val{K: 3}) },
		"PutVal of five":    func(b []byte) []byte { return impl.PutVal(b, num(-2147483648)) },
		"PutVal of a text":  func(b []byte) []byte { return impl.PutVal(b, text("some text")) },
	}
}

func TestPuttersLeaveTheArgumentAndAnswerNewMemory(t *testing.T) {
	for name, put := range putters() {
		for _, s := range []string{"", "a", "some bytes ahead"} {
			for _, spare := range []int{0, 1, 4, 9, 10, 64} {
				b := roomy(s, spare)
				answer := put(b)
				told := string(answer)
				wantUntouched(t, name, b, s)
				if bytes.IndexByte(answer[len(answer):cap(answer)], spareByte) >= 0 {
					t.Errorf("%s hands out what lies behind its argument's length", name)
				}
				overwrite(b)
				if string(answer) != told {
					t.Errorf("%s: the answer shares memory with its argument", name)
				}
				b = roomy(s, spare)
				answer = put(b)
				overwrite(answer)
				wantUntouched(t, name, b, s)
			}
		}
	}
}

func TestAnswersShareNoMemoryWithEachOther(t *testing.T) {
	for name, put := range putters() {
		b := roomy("ahead", 32)
		first, second := put(b), put(b)
		told := string(second)
		overwrite(first)
		if string(second) != told {
			t.Errorf("%s: two answers share memory", name)
		}
	}
}

func TestGettersLeaveTheArgument(t *testing.T) {
	for _, s := range []string{"", "\x05", "\x80", "\x80\x01", "\x03xyz", "\x03xy", "\xff\xff\xff\xff\x07", "\x80\x80\x80\x80\x78", "\x01\x7f", "\x02\x03xyz", "\x02\x03xy"} {
		b := roomy(s, 16)
		for at := -1; at <= len(s)+1; at++ {
			impl.GetU(b, at)
			impl.GetS(b, at)
			impl.GetText(b, at)
			impl.GetVal(b, at)
		}
		wantUntouched(t, "a getter", b, s)
	}
}

func TestTextsThatAreReadAreNewMemory(t *testing.T) {
	b := []byte("\x02\x03xyz")
	s, _, _ := impl.GetText(b, 1)
	v, _, _ := impl.GetVal(b, 0)
	overwrite(b)
	if s != "xyz" || v != text("xyz") {
		t.Errorf("the text changed with its bytes: %q, %#v", s, v)
	}
}

// What would make them whole lies behind the list's length, where nothing is read.
func TestGettersStopAtTheLength(t *testing.T) {
	whole := []byte("\x80\x01")
	if n, next, ok := impl.GetU(whole[:1], 0); n != 0 || next != 0 || ok {
		t.Errorf("GetU read behind the length: %d, %d, %v", n, next, ok)
	}
	if n, next, ok := impl.GetS(whole[:1], 0); n != 0 || next != 0 || ok {
		t.Errorf("GetS read behind the length: %d, %d, %v", n, next, ok)
	}
	if n, next, ok := impl.GetU(whole[:1], 1); n != 0 || next != 0 || ok {
		t.Errorf("GetU began behind the length: %d, %d, %v", n, next, ok)
	}
	long := []byte("\x02\x03xyz")
	if s, next, ok := impl.GetText(long[:4], 1); s != "" || next != 0 || ok {
		t.Errorf("GetText read behind the length: %q, %d, %v", s, next, ok)
	}
	for size := range len(long) {
		if v, next, ok := impl.GetVal(long[:size], 0); v != (impl.Val{}) || next != 0 || ok {
			t.Errorf("GetVal read behind the length %d: %#v, %d, %v", size, v, next, ok)
		}
	}
}
