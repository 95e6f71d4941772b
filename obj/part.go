package obj

import (
	"turnout/api"
	"turnout/tlv"
)

// part is something that is written as bytes and read from them: put returns its encoding, which is empty if it is 0 or empty;
// get makes it what the bytes are the encoding of. After an error of get it is of no use.
type part struct {
	put func() (string, api.Errno)
	get func(s string) api.Errno
}

// may tells whether p has an encoding.
func may(p part) bool {
	_, e := p.put()
	return e == api.OK
}

// read returns what s is the encoding of, which is a part as shape says.
func read[T any](s string, shape func(*T) part) (T, api.Errno) {
	var x, none T
	if e := shape(&x).get(s); e != api.OK {
		return none, e
	}
	return x, api.OK
}

// number is a number from 0 to most.
func number[T int | int64 | uint8 | uint32 | uint64](x *T, most uint64) part {
	return part{
		put: func() (string, api.Errno) {
			n := uint64(*x) // from a number below 0 it is greater than any of a type that has such numbers
			if n > most {
				return "", api.ErrForm
			}
			return tlv.Num(n), api.OK
		},
		get: func(s string) api.Errno {
			n, e := tlv.ReadNum(s, most)
			*x = T(n)
			return e
		},
	}
}

// truth is 1 if it is true.
func truth(x *bool) part {
	return part{
		put: func() (string, api.Errno) {
			if *x {
				return tlv.Num(1), api.OK
			}
			return "", api.OK
		},
		get: func(s string) api.Errno {
			n, e := tlv.ReadNum(s, 1)
			*x = n == 1
			return e
		},
	}
}

// text is at most most bytes.
func text(x *string, most int) part {
	return part{
		put: func() (string, api.Errno) {
			if len(*x) > most {
				return "", api.ErrForm
			}
			return *x, api.OK
		},
		get: func(s string) api.Errno {
			if len(s) > most {
				return api.ErrForm
			}
			*x = s
			return api.OK
		},
	}
}

// list is a list of at most most items, each of which is a part as shape says.
func list[T any](l *[]T, most int, shape func(*T) part) part {
	return part{
		put: func() (string, api.Errno) {
			if len(*l) > most {
				return "", api.ErrForm
			}
			var items []string
			for i := range *l {
				s, e := shape(&(*l)[i]).put()
				if e != api.OK {
					return "", e
				}
				items = append(items, s)
			}
			return tlv.List(items)
		},
		get: func(s string) api.Errno {
			items, e := tlv.ReadList(s, most)
			if e != api.OK {
				return e
			}
			*l = make([]T, len(items))
			for i, item := range items {
				if e := shape(&(*l)[i]).get(item); e != api.OK {
					return e
				}
			}
			return api.OK
		},
	}
}

// record is an object that consists of parts: each is an attribute, whose type is its number among them, from 1 on.
func record(parts ...part) part {
	return part{
		put: func() (string, api.Errno) {
			var l []tlv.Attr
			for i, p := range parts {
				s, e := p.put()
				if e != api.OK {
					return "", e
				}
				if s != "" {
					l = append(l, tlv.Attr{Type: uint8(i + 1), Value: s})
				}
			}
			return tlv.Encode(l)
		},
		get: func(s string) api.Errno {
			l, e := tlv.Decode(s)
			if e != api.OK {
				return e
			}
			for _, a := range l {
				// Whatever is wrong within an attribute, also bytes that are missing there, is a matter of its form.
				if int(a.Type) > len(parts) || parts[a.Type-1].get(a.Value) != api.OK {
					return api.ErrForm
				}
			}
			return api.OK
		},
	}
}
