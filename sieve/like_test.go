package sieve_test

import (
	"math"
	"strings"
	"testing"
	"time"

	"longshore/sieve"
)

// wantLike wants Like's answer, which is also the second program's.
func wantLike(t *testing.T, text, pattern string, escape int, want bool) {
	t.Helper()
	if got := sieve.Like(text, pattern, escape); got != want {
		t.Errorf("Like(%q, %q, %d) = %v", brief(text), brief(pattern), escape, got)
	}
	if len(text)*len(pattern) < 1<<20 && modelLike(text, pattern, escape) != want {
		t.Errorf("the second program: Like(%q, %q, %d) is not %v", brief(text), brief(pattern), escape, want)
	}
}

// P16.6: % and _ and what stands for itself.
func TestLikeOfPatterns(t *testing.T) {
	for pattern, texts := range map[string][2][]string{
		"":         {{""}, {"a", "%", " ", "\x00"}},
		"a":        {{"a"}, {"", "b", "A", "aa", "ab", "ba"}},
		"abc":      {{"abc"}, {"ab", "abcd", "xabc", "abd", "bbc"}},
		"%":        {{"", "a", "abc", "%", "\n", "\xff", "é"}, nil},
		"%%":       {{"", "a", "abc"}, nil},
		"_":        {{"a", "%", "_", "\x00", "\n", "é", "\u20ac", "\U0010ffff", "\xff", "\x80", "\ufffd"}, {"", "ab", "\xc3\xc3", "\xe2\x82", "é\x80"}},
		"__":       {{"ab", "éa", "\xc3\xc3", "\xe2\x82", "\xff\xfe"}, {"", "a", "é", "abc"}},
		"_%":       {{"a", "ab", "abc"}, {""}},
		"%_":       {{"a", "ab", "abc"}, {""}},
		"_%_":      {{"ab", "abc"}, {"", "a"}},
		"%_%":      {{"a", "ab"}, {""}},
		"a%":       {{"a", "ab", "abc", "a%"}, {"", "b", "ba"}},
		"%a":       {{"a", "ba", "aba", "aa"}, {"", "b", "ab"}},
		"a%a":      {{"aa", "aba", "aaa"}, {"", "a", "ab", "aab"}},
		"%a%":      {{"a", "ba", "ab", "bab"}, {"", "b", "bcd"}},
		"a_c":      {{"abc", "a_c", "aéc"}, {"ac", "abbc", "abd", "bbc"}},
		"%ab%ab":   {{"abab", "xabxab", "ababab", "abaab"}, {"ab", "aab", "abba", "ababa"}},
		"%ab_":     {{"abc", "abab_", "abcabd"}, {"ab", "abcd", "abcab"}},
		"a%b%c":    {{"abc", "aXbXc", "abbcc", "abcbc"}, {"ac", "acb", "abcd"}},
		"%a_b%":    {{"acb", "aacb", "xacbx", "aaab"}, {"ab", "accb", "abab"}},
		"é%":       {{"é", "éa"}, {"e", "\xc3", "\xa9"}},
		"\xc3%":    {{"\xc3", "\xc3\xc3", "\xc3a"}, {"é", "\xa9", "éé"}},
		"%\xa9":    {{"\xa9", "a\xa9", "\xa9\xa9"}, {"é", "a"}},
		"%\xa9%":   {{"\xa9", "é\xa9", "\xa9é"}, {"é", "aé", "é\xc3"}},
		"\xff":     {{"\xff"}, {"\ufffd", "\xfe", "ÿ", "\x7f"}},
		"\ufffd":   {{"\ufffd"}, {"\xff", "\xef", "\xef\xbf"}},
		"%%a%%b%%": {{"ab", "xaxbx"}, {"ba", "a", "b"}},
		"a\x00b":   {{"a\x00b"}, {"a", "ab"}},
		"!%":       {{"!", "!a", "!%"}, {"", "%", "a"}},
	} {
		for i, fits := range []bool{true, false} {
			for _, text := range texts[i] {
				wantLike(t, text, pattern, -1, fits)
			}
		}
	}
}

// P16.6: what an escape escapes.
func TestLikeOfEscapes(t *testing.T) {
	for _, x := range []struct {
		pattern   string
		escape    int
		fits, not []string
	}{
		{"10!%", '!', []string{"10%"}, []string{"10", "10x", "10!", "10!%", "10!x"}},
		{"10!_", '!', []string{"10_"}, []string{"10", "10x"}},
		{"!%%", '!', []string{"%", "%a", "%%"}, []string{"", "a", "!", "!%"}},
		{"%!%", '!', []string{"%", "a%", "a%%"}, []string{"", "a", "!", "%a"}},
		{"!!", '!', []string{"!"}, []string{"", "!!"}},
		{"!!%", '!', []string{"!", "!a", "!%"}, []string{"", "%"}},
		{"!!!%", '!', []string{"!%"}, []string{"!", "!!", "!!%", "!a"}},
		{"!x", '!', []string{"x"}, []string{"!x", "!", ""}},
		{"a!xb", '!', []string{"axb"}, []string{"a!xb", "ab"}},
		{"!_!%", '!', []string{"_%"}, []string{"ab", "", "_"}},
		// At the end an escape stands for itself, behind another one it is escaped.
		{"!", '!', []string{"!"}, []string{"", "!!"}},
		{"a!", '!', []string{"a!"}, []string{"a", "a!!"}},
		{"a!!", '!', []string{"a!"}, []string{"a", "a!!"}},
		{"a!!!", '!', []string{"a!!"}, []string{"a!", "a!!!"}},
		{"%!", '!', []string{"!", "a!"}, []string{"", "a"}},
		{"!%!", '!', []string{"%!"}, []string{"a!", "!"}},
		// An escape may be any character, also one that would stand for others.
		{"%%", '%', []string{"%"}, []string{"", "a", "%%"}},
		{"%", '%', []string{"%"}, []string{"", "a", "ab"}},
		{"a%", '%', []string{"a%"}, []string{"a", "ab"}},
		{"%%%", '%', []string{"%%"}, []string{"", "%", "%a"}},
		{"%_", '%', []string{"_"}, []string{"a", "", "%_"}},
		{"_%", '_', []string{"%"}, []string{"", "a", "_%"}},
		{"__", '_', []string{"_"}, []string{"a", "ab", "__"}},
		{"_", '_', []string{"_"}, []string{"a", ""}},
		{"%_", '_', []string{"_", "a_"}, []string{"", "a"}},
		{"é%é", 0xe9, []string{"%é"}, []string{"%", "éa", "ééé"}},
		{"%é%", 0xe9, []string{"%", "a%"}, []string{"éx", "é", "a"}},
		{"é\xff", 0xe9, []string{"\xff"}, []string{"é\xff", "é"}},
		{"!\xff%", '!', []string{"\xff", "\xffa"}, []string{"!\xff", "a"}},
		{"!é", '!', []string{"é"}, []string{"!é", "!\xc3"}},
		{"\u20ac_", 0x20ac, []string{"_"}, []string{"a", "\u20aca"}},
		{"\U0010ffff%", 0x10ffff, []string{"%"}, []string{"a", "\U0010ffff"}},
		{"\x00%", 0, []string{"%"}, []string{"a", "\x00a", "\x00"}},
		{"\ufffd%", 0xfffd, []string{"%"}, []string{"\ufffd", "\ufffda"}},
		// A byte that begins no character is none, so it escapes nothing.
		{"\xff%", 0xff, []string{"\xff", "\xffa"}, []string{"%", "ÿ"}},
		{"\xff%", 0xfffd, []string{"\xff", "\xffa"}, []string{"%"}},
		{"\xc3%", 0xc3, []string{"\xc3", "\xc3a"}, []string{"%"}},
		{"\xff%", 0x1100ff, []string{"\xff", "\xffa"}, []string{"%"}},
	} {
		for _, text := range x.fits {
			wantLike(t, text, x.pattern, x.escape, true)
		}
		for _, text := range x.not {
			wantLike(t, text, x.pattern, x.escape, false)
		}
	}
	// Of a number that is no character's there is no escape.
	for _, escape := range []int{-1, -2, math.MinInt, math.MaxInt, 0x110000, 0x110000 + '!', 0xd800, 0xdfff, 1<<32 + '!', 1<<31 + '!', -1<<32 + '!', 1 << 40} {
		wantLike(t, "!x", "!%", escape, true)
		wantLike(t, "%", "!%", escape, false)
		wantLike(t, "ab", "_%", escape, true)
		wantLike(t, "ab", "__", escape, true)
	}
	for _, escape := range []int{0xd7ff, 0xe000, 0x10ffff, 0x7f, 0x80} {
		wantLike(t, "%", string(rune(escape))+"%", escape, true)
		wantLike(t, string(rune(escape))+"a", string(rune(escape))+"%", escape, false)
	}
}

// P16.6: long texts with many %, in little time.
func TestLikeOfLongTexts(t *testing.T) {
	before := time.Now()
	a := strings.Repeat("a", 20000)
	wantLike(t, a, strings.Repeat("%a", 5000), -1, true)
	wantLike(t, a, strings.Repeat("%a", 20000), -1, true)
	wantLike(t, a, strings.Repeat("%a", 20001), -1, false)
	wantLike(t, a, strings.Repeat("%a", 5000)+"%b", -1, false)
	wantLike(t, a, strings.Repeat("a%", 5000)+"b", -1, false)
	wantLike(t, a, strings.Repeat("%_a", 5000)+"%", -1, true)
	wantLike(t, a, strings.Repeat("%", 20000)+"b", -1, false)
	wantLike(t, a, strings.Repeat("_", 20000), -1, true)
	wantLike(t, a, strings.Repeat("_", 20001), -1, false)
	wantLike(t, a, strings.Repeat("%_", 20000), -1, true)
	wantLike(t, a, "%"+a[:2000]+"b%", -1, false)
	wantLike(t, a+"b", "%"+a[:2000]+"b", -1, true)
	wantLike(t, a+"b"+a, "%"+a[:2000]+"b%"+a, -1, true)
	wantLike(t, strings.Repeat("ab", 10000), strings.Repeat("%ba", 9999)+"%", -1, true)
	wantLike(t, strings.Repeat("ab", 10000), strings.Repeat("%ba", 10000)+"%", -1, false)
	if took := time.Since(before); took > 20*time.Second {
		t.Errorf("it took %s", took)
	}
}
