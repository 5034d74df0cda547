// Package names: what a snapshot may be called: see doc/05-tree.md.
package names

import (
	"strings"

	"slipsheet/api"
)

// Right tells whether s is a name.
func Right(s string) bool {
	return s != "" && len(s) <= api.MaxName && !strings.ContainsFunc(s, func(c rune) bool {
		return c < 'a' || c > 'z'
	})
}
