// Package dev has what the packages of chips share: reading the numbers of states, which need not be in their form.
package dev

import (
	"bakelite/api"
	"bakelite/bit"
)

// Number returns the lowest bits of a number of a state: 0 if it is missing.
func Number(d api.Dev, at, bits int) int {
	if at < 0 || at >= len(d.N) {
		return 0
	}
	return bit.Low(d.N[at], bits)
}
