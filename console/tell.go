package console

import (
	"strconv"
	"strings"

	"withy/api"
)

// tell is an answer, of a name, as lines.
func tell(name string, answer any) string {
	switch x := answer.(type) {
	case api.Errno:
		if x == api.OK {
			return ""
		}
		return line("!", int(x))
	case []api.Edge:
		var out strings.Builder
		for _, e := range x {
			out.WriteString(line("", e.A, e.B, e.W))
		}
		return out.String() + line(name, len(x))
	case []int:
		return line(name, x...)
	}
	return line(name, answer.(int))
}

// line is a name, if there is one, and numbers, as a line.
func line(name string, numbers ...int) string {
	var words []string
	if name != "" {
		words = append(words, name)
	}
	for _, n := range numbers {
		words = append(words, strconv.Itoa(n))
	}
	return strings.Join(words, " ") + "\n"
}
