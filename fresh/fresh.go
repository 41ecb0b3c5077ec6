// Package fresh is new memory of what is handed in: answers share none with arguments, nor with what is kept (rule R3 of shared/DOC.md).
package fresh

// All is a list of what one makes of each of l's; nil, if there is none.
func All[T any](l []T, one func(T) T) []T {
	var out []T
	for _, x := range l {
		out = append(out, one(x))
	}
	return out
}

// List is a list of l's; nil, if there is none.
func List[T any](l []T) []T {
	var none []T
	return append(none, l...)
}

// Lists is a list of lists, each of them new.
func Lists[T any](l [][]T) [][]T { return All(l, List[T]) }
