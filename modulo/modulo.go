// Package modulo is what rule R5 of shared/DOC.md says of numbers modulo others.
package modulo

// Of is n modulo m, 0 or more, also where n is below 0; 0, if m is below 1.
func Of(n, m int) int {
	if m < 1 {
		return 0
	}
	n %= m
	if n < 0 {
		n += m
	}
	return n
}
