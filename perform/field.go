package perform

import (
	"longshore/api"
	"longshore/octet"
	"longshore/value"
)

// field is what the calls do with one field of a kind of performative.
type field struct {
	blank func(p *api.Perform)                        // makes it as it is where nothing is said
	clear func(p *api.Perform)                        // makes it zero
	pack  func(p *api.Perform) (api.Value, api.Errno) // its value in the record, or why it may not be so
	read  func(p *api.Perform, v api.Value) api.Errno // takes it from a record's value that is not Null
}

// standing is a field that stands at one place.
func standing[T any](at place[T], blank T, pack func(T) (api.Value, api.Errno), read func(api.Value) (T, api.Errno)) field {
	var zero T
	return field{
		blank: func(p *api.Perform) { *at(p) = blank },
		clear: func(p *api.Perform) { *at(p) = zero },
		pack:  func(p *api.Perform) (api.Value, api.Errno) { return pack(*at(p)) },
		read: func(p *api.Perform, v api.Value) api.Errno {
			x, e := read(v)
			*at(p) = x
			return e
		},
	}
}

// ifSaid is a field beside which a truth says whether it is there. Where that says no it is not cleared: it must be zero by itself.
func ifSaid(has place[bool], f field) field {
	return field{
		blank: func(p *api.Perform) {
			*has(p) = false
			f.blank(p)
		},
		clear: func(p *api.Perform) {
			if *has(p) {
				*has(p) = false
				f.clear(p)
			}
		},
		pack: func(p *api.Perform) (api.Value, api.Errno) {
			if !*has(p) {
				return api.Value{}, api.OK
			}
			return f.pack(p)
		},
		read: func(p *api.Perform, v api.Value) api.Errno {
			*has(p) = true
			return f.read(p, v)
		},
	}
}

func number(at place[int], kind, least, most, blank int) field {
	pack := func(n int) (api.Value, api.Errno) {
		if n < least || n > most {
			return api.Value{}, api.ErrRange
		}
		return api.Value{Kind: kind, Num: uint64(n)}, api.OK
	}
	read := func(v api.Value) (int, api.Errno) {
		if v.Num < uint64(max(least, 0)) || v.Num > uint64(most) {
			return 0, api.ErrRange
		}
		return int(v.Num), api.OK
	}
	return standing(at, blank, pack, read)
}

// numberIfAny is a number that is not there where it is none, the least one that it may be.
func numberIfAny(at place[int], kind, none, most int) field {
	f := number(at, kind, none, most, none)
	pack := f.pack
	f.pack = func(p *api.Perform) (api.Value, api.Errno) {
		if *at(p) == none {
			return api.Value{}, api.OK
		}
		return pack(p)
	}
	return f
}

func word(at place[int], blank int) field { return number(at, api.Uint, 0, api.MaxWord, blank) }

func wordIfAny(at place[int]) field { return numberIfAny(at, api.Uint, -1, api.MaxWord) }

func name(at place[string]) field { return standing(at, "", packName, readName) }

func nameIfAny(at place[string]) field { return standing(at, "", packNameIfAny, readName) }

func packName(s string) (api.Value, api.Errno) {
	if len(s) > api.MaxName {
		return api.Value{}, api.ErrLong
	}
	if octet.Utf8(s) >= 0 {
		return api.Value{}, api.ErrText
	}
	return api.Value{Kind: api.String, Text: s}, api.OK
}

func packNameIfAny(s string) (api.Value, api.Errno) {
	if s == "" {
		return api.Value{}, api.OK
	}
	return packName(s)
}

func readName(v api.Value) (string, api.Errno) { return shortText(v, api.MaxName) }

func tag() field { return standing(atTag, "", packTag, readTag) }

func packTag(s string) (api.Value, api.Errno) {
	if len(s) > api.MaxTag {
		return api.Value{}, api.ErrLong
	}
	return api.Value{Kind: api.Binary, Text: s}, api.OK
}

func readTag(v api.Value) (string, api.Errno) { return shortText(v, api.MaxTag) }

func shortText(v api.Value, most int) (string, api.Errno) {
	if len(v.Text) > most {
		return "", api.ErrLong
	}
	return v.Text, api.OK
}

func truth(at place[bool]) field { return standing(at, false, packTruth, readTruth) }

func packTruth(so bool) (api.Value, api.Errno) {
	v := api.Value{Kind: api.Bool}
	if so {
		v.Num = 1
	}
	return v, api.OK
}

func readTruth(v api.Value) (bool, api.Errno) { return v.Num == 1, api.OK }

func props() field { return standing(atProps, api.Value{}, packProps, readProps) }

func packProps(v api.Value) (api.Value, api.Errno) {
	if e := value.Check(v); e != api.OK {
		return api.Value{}, e
	}
	if v.Kind != api.Null && v.Kind != api.Map {
		return api.Value{}, api.ErrField
	}
	return v, api.OK
}

func readProps(v api.Value) (api.Value, api.Errno) { return v, api.OK }
