package quote

import (
	"strings"

	"grommet/api"
	"grommet/utf"
)

// builder is a builder of texts that takes signs by their numbers, too.
type builder struct {
	strings.Builder
}

// putSign builds a sign's bytes on; it tells whether the number is a sign's.
func (b *builder) putSign(n int) bool {
	bytes, e := utf.Encode(n)
	b.WriteString(bytes)
	return e == api.OK
}
