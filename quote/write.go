package quote

// writer is a builder of what stands in double quotes.
type writer struct {
	builder
}

// put builds a sign on: as it is, if it may stand so, else as the shortest escape that means it.
func (w *writer) put(sign int) {
	for _, short := range shorts {
		if short.sign == sign {
			w.WriteByte(escape)
			w.WriteByte(short.letter)
			return
		}
	}
	if stands(sign) {
		w.putSign(sign)
		return
	}
	w.putNumber(sign)
}

// putNumber builds a numbered escape on.
func (w *writer) putNumber(sign int) {
	for _, number := range numbered {
		if sign>>(digitBits*number.digits) != 0 {
			continue
		}
		w.WriteByte(escape)
		w.WriteByte(number.letter)
		for left := number.digits - 1; left >= 0; left-- {
			w.WriteByte(smallDigits[sign>>(digitBits*left)&0xf])
		}
		return
	}
}
