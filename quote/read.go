package quote

import (
	"grommet/api"
	"grommet/utf"
)

// reader is a builder of what a quoted text means, with the place up to which that was read.
type reader struct {
	builder
	s  string
	at int
}

// quoted reads from the first quote up to the second one.
func (r *reader) quoted() api.Fault {
	if r.s == "" {
		return r.fault(api.ErrForm)
	}
	switch r.s[0] {
	case single:
		r.at++
		return r.inSingle()
	case double:
		r.at++
		return r.inDouble()
	}
	return r.fault(api.ErrForm)
}

func (r *reader) inSingle() api.Fault {
	for r.at < len(r.s) {
		if r.s[r.at] == single {
			r.at++
			// Of two in a row the second one is read on as a sign that stands for both.
			if r.at == len(r.s) || r.s[r.at] != single {
				return api.Fault{}
			}
		}
		if f := r.sign(); f.Why != api.OK {
			return f
		}
	}
	return r.end()
}

func (r *reader) inDouble() api.Fault {
	for r.at < len(r.s) {
		var f api.Fault
		switch r.s[r.at] {
		case double:
			r.at++
			return api.Fault{}
		case escape:
			f = r.escaped()
		default:
			f = r.sign()
		}
		if f.Why != api.OK {
			return f
		}
	}
	return r.end()
}

// sign reads a sign that stands as it is.
func (r *reader) sign() api.Fault {
	sign, long := utf.First(r.s[r.at:])
	if !stands(sign) {
		return r.fault(api.ErrUtf)
	}
	r.putSign(sign)
	r.at += long
	return api.Fault{}
}

// escaped reads an escape. The place stays at its beginning till all of it was read, since its faults are told there.
func (r *reader) escaped() api.Fault {
	behind := r.s[r.at+1:]
	if behind == "" {
		return r.end()
	}
	letter := behind[0]
	if sign, ok := meant(letter); ok {
		r.putSign(sign)
		r.at += 2
		return api.Fault{}
	}
	long := digitsOf(letter)
	if long == 0 {
		return r.fault(api.ErrForm)
	}
	n, why := numberOf(behind[1:], long)
	if why == api.ErrEnd {
		return r.end()
	}
	if why != api.OK || !r.putSign(n) {
		return r.fault(api.ErrForm)
	}
	r.at += 2 + long
	return api.Fault{}
}

// numberOf is the number of a text's first long digits: ErrForm at what is none, ErrEnd where the text ends ahead of one.
func numberOf(s string, long int) (int, api.Errno) {
	n := 0
	for i := range long {
		if i == len(s) {
			return 0, api.ErrEnd
		}
		d := digit(s[i])
		if d < 0 {
			return 0, api.ErrForm
		}
		n = n<<digitBits | d
	}
	return n, api.OK
}

// fault is one at the place up to which was read.
func (r *reader) fault(why api.Errno) api.Fault {
	return api.Fault{Why: why, At: r.at}
}

// end is the fault of what is missing at the text's end.
func (r *reader) end() api.Fault {
	return api.Fault{Why: api.ErrEnd, At: len(r.s)}
}
