package quote

// shorts are the escapes of one letter, with the signs that they mean.
var shorts = [...]struct {
	letter byte
	sign   int
}{
	{double, double},
	{escape, escape},
	{'n', '\n'},
	{'t', '\t'},
	{'r', '\r'},
	{'0', 0},
}

// numbered are the escapes of a letter and a sign's number, with how many digits that has: those of fewer digits stand first.
var numbered = [...]struct {
	letter byte
	digits int
}{
	{'x', 2},
	{'u', 4},
	{'U', 8},
}

// digitBits is how many bits of a number one digit has.
const digitBits = 4

const smallDigits = "0123456789abcdef"

// meant is the sign that a letter means, if it is a short escape's.
func meant(letter byte) (int, bool) {
	for _, short := range shorts {
		if short.letter == letter {
			return short.sign, true
		}
	}
	return 0, false
}

// digitsOf is how many digits stand behind a letter: 0, if it is no numbered escape's.
func digitsOf(letter byte) int {
	for _, number := range numbered {
		if number.letter == letter {
			return number.digits
		}
	}
	return 0
}

// digit is what a hexadecimal digit counts, or -1.
func digit(b byte) int {
	switch {
	case '0' <= b && b <= '9':
		return int(b - '0')
	case 'a' <= b && b <= 'f':
		return int(b-'a') + 10
	case 'A' <= b && b <= 'F':
		return int(b-'A') + 10
	}
	return -1
}
