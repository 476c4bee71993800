package codec

import "testamur/api"

// reader takes an encoding apart. Its methods panic if the bytes are no encoding, so that only Decode has to deal with errors.
type reader struct{ rest []byte }

func (r *reader) fail() { panic(api.ErrCode) }

// value reads a value with that many lists around it.
func (r *reader) value(around int) (v api.Value) {
	v.Kind = int(r.digit())
	switch v.Kind {
	case api.IntV:
		v.N = signed(r.numeral())
	case api.TextV:
		v.S = string(r.take(r.numeral()))
	case api.ListV:
		v.L = r.list(around + 1)
	default:
		r.fail()
	}
	return v
}

// list reads what follows the kind of a list. It allocates nothing in advance, because the number of elements may be much greater than the number of bytes that follow.
func (r *reader) list(around int) (l []api.Value) {
	if around > api.MaxDepth {
		r.fail()
	}
	for range r.numeral() {
		l = append(l, r.value(around))
	}
	return l
}

// numeral accepts no digit that makes the number exceed 64 bits, and no superfluous one.
func (r *reader) numeral() (u uint64) {
	for shift := 0; ; shift += 7 {
		d := r.digit()
		if shift == 63 && d > 1 || shift > 0 && d == 0 {
			r.fail()
		}
		u |= uint64(d&127) << shift
		if d < 128 {
			return u
		}
	}
}

func (r *reader) digit() byte { return r.take(1)[0] }

// take removes the first n bytes from the rest. The third indices keep both parts from growing into each other, and into what the caller has behind the encoding.
func (r *reader) take(n uint64) (part []byte) {
	if n > uint64(len(r.rest)) {
		r.fail()
	}
	part = r.rest[:n:n]
	r.rest = r.rest[n:len(r.rest):len(r.rest)]
	return part
}

// signed returns the number whose unsigned form is u.
func signed(u uint64) int {
	if u&1 == 1 {
		return int(^(u >> 1))
	}
	return int(u >> 1)
}
