package desk

import (
	"strconv"
	"strings"

	"overwinter/api"
)

// report is what is told, one thing behind the other.
type report struct {
	all strings.Builder
}

// tell writes one thing: a word, and as many numbers as there are. Where blanks and newlines stand is said here alone.
func (r *report) tell(word string, numbers ...int64) {
	r.all.WriteString(word)
	for _, n := range numbers {
		r.all.WriteByte(' ')
		r.all.WriteString(strconv.FormatInt(n, 10))
	}
	r.all.WriteByte('\n')
}

// refused tells a code, if it is one, and answers whether it is.
func (r *report) refused(code int) bool {
	if code != 0 {
		r.tell("no", int64(code))
	}
	return code != 0
}

func (r *report) result(x api.Result) {
	r.tell("code", int64(x.Code))
	r.tell("out", x.Out...)
	r.tell("cells", x.Cells...)
}
