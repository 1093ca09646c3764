package path

import (
	"strconv"

	"grommet/api"
	"grommet/quote"
)

// maxIndex is the greatest index, and maxDigits how many digits that has.
const (
	maxIndex  = 999999
	maxDigits = 6
)

// isTooGreat tells whether a step's key has too many bytes, or its index is none.
func isTooGreat(step Step) bool {
	if step.At {
		return step.Index < 0 || step.Index > maxIndex
	}
	return len(step.Key) > api.MaxKey
}

// stepText is a step's text, without what stands ahead of it.
func stepText(step Step) (string, api.Errno) {
	switch {
	case step.At:
		return string(indexBegin) + strconv.Itoa(step.Index) + string(indexEnd), api.OK
	case step.Key != "" && plainBytes(step.Key) == len(step.Key):
		return step.Key, api.OK
	}
	return quote.Double(step.Key)
}
