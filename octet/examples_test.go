package octet_test

import (
	"testing"

	"longshore/api"
	"longshore/octet"
)

// The chapter's section 'Examples', row by row.

func TestExamplesOfPut(t *testing.T) {
	for _, c := range []struct {
		n     uint64
		width int
		want  string
	}{
		{258, 2, "\x01\x02"}, {258, 1, "\x02"}, {1, 8, "\x00\x00\x00\x00\x00\x00\x00\x01"},
		{5, 0, ""}, {5, 9, ""},
	} {
		if got := octet.Put(c.n, c.width); string(got) != c.want {
			t.Errorf("Put(%d, %d): % x, want % x", c.n, c.width, got, c.want)
		}
	}
}

func TestExamplesOfGet(t *testing.T) {
	wantGet(t, []byte{1, 2, 3}, 1, 2, 515, api.OK)
	wantGet(t, []byte{1, 2, 3}, 1, 3, 0, api.ErrShort)
	wantGet(t, []byte{1}, 1, 1, 0, api.ErrShort)
	wantGet(t, []byte{1}, 2, 1, 0, api.ErrArg)
	wantGet(t, []byte{1}, -1, 1, 0, api.ErrArg)
	wantGet(t, []byte{1}, 0, 9, 0, api.ErrArg)
	wantGet(t, nil, 5, 0, 0, api.ErrArg)
}

func TestExamplesOfTexts(t *testing.T) {
	wantUtf8(t, "", -1)
	wantUtf8(t, "a\xc3\xa9", -1)
	wantUtf8(t, "a\xc3", 1)
	wantUtf8(t, "a\xc3a", 1)
	wantUtf8(t, "\xc0\x80", 0)
	wantUtf8(t, "\xed\xa0\x80", 0)
	wantUtf8(t, "\xf4\x90\x80\x80", 0)
	wantUtf8(t, "ab\x80", 2)
	wantAscii(t, "abc", -1)
	wantAscii(t, "a\xc3\xa9", 1)
}

func TestExamplesOfSerialNumbers(t *testing.T) {
	for _, c := range [][3]int{{4294967295, 1, 0}, {0, -1, 4294967295}, {-1, 0, 4294967295}, {4294967296, 5, 5}} {
		if got := octet.Add(c[0], c[1]); got != c[2] {
			t.Errorf("Add(%d, %d): %d, want %d", c[0], c[1], got, c[2])
		}
	}
	for _, c := range [][3]int{{1, 3, 2}, {3, 1, -2}, {4294967295, 0, 1}, {0, 2147483648, -2147483648}, {2147483648, 0, -2147483648}} {
		if got := octet.Gap(c[0], c[1]); got != c[2] {
			t.Errorf("Gap(%d, %d): %d, want %d", c[0], c[1], got, c[2])
		}
	}
	for _, c := range []struct {
		a, b int
		want bool
	}{{4294967295, 0, true}, {0, 0, false}, {0, 2147483648, false}, {0, 2147483647, true}} {
		if got := octet.Before(c.a, c.b); got != c.want {
			t.Errorf("Before(%d, %d): %t, want %t", c.a, c.b, got, c.want)
		}
	}
}

func TestExamplesOfSum(t *testing.T) {
	for _, c := range []struct {
		parts []string
		want  uint32
	}{
		{nil, 0}, {[]string{"a"}, 0xe8b7be43}, {[]string{"123456789"}, 0xcbf43926},
		{[]string{"1234", "", "56789"}, 0xcbf43926},
	} {
		var parts [][]byte
		for _, part := range c.parts {
			parts = append(parts, []byte(part))
		}
		if got := octet.Sum(parts...); got != c.want {
			t.Errorf("Sum(%q): %08x, want %08x", c.parts, got, c.want)
		}
	}
}
