package deduce_test

import (
	"testing"

	"deduce/api"
	"deduce/ask"
	"deduce/check"
	"deduce/deduce"
	"deduce/eval"
	"deduce/file"
	"deduce/rows"
	"deduce/syntax"
	"deduce/why"
	"deduce/wire"
	"deduce/words"
)

// TestFaces: each call that a chapter lists, as it is listed: where one differs this does not build.
func TestFaces(t *testing.T) {
	var (
		_ func(int) (string, api.Errno)           = wire.Varint
		_ func(string, int) (int, int, api.Errno) = wire.Unvarint
		_ func(int) int                           = wire.Fold
		_ func(int) int                           = wire.Unfold
		_ func(string) string                     = wire.Sum

		_ func([]string) (string, api.Errno, int) = words.Build
		_ func(string) ([]string, api.Errno)      = words.Open
		_ func([]string, string) int              = words.Find

		_ func(string) bool                                 = file.Name
		_ func(api.Relation) (api.Relation, api.Errno, int) = file.Tidy
		_ func(api.Relation) (string, api.Errno, int)       = file.Encode
		_ func(string) (api.Relation, api.Errno, int)       = file.Decode

		_ func(string) ([]api.Rule, api.Errno, int) = syntax.Parse
		_ func(string) (string, api.Errno, int)     = syntax.Print
		_ func(string) ([]api.Part, api.Errno, int) = syntax.Query
		_ func(string) string                       = syntax.Constant

		_ func(string) (api.Errno, int)              = check.Check
		_ func(string) ([]api.Level, api.Errno, int) = check.Levels

		_ func([][]string) [][]string                       = rows.Rise
		_ func([][]string, [][]string) [][]string           = rows.Union
		_ func([][]string, [][]string) [][]string           = rows.Minus
		_ func([][]string, []int) [][]string                = rows.Pick
		_ func([][]string, [][]string, [][2]int) [][]string = rows.Join

		_ func(string, []api.Relation, int) ([]api.Relation, api.Errno, int)        = eval.Model
		_ func(string, []api.Relation, string, []string) (int, int, api.Errno, int) = eval.Rounds

		_ func(string, []api.Relation, string, []string) (string, api.Errno, int) = why.Why

		_ func(string, []api.Relation) ([]string, [][]string, api.Errno, int) = ask.Ask

		_ func(string, []string, int) ([]string, api.Errno, int)  = deduce.Run
		_ func(string, []string, string) (string, api.Errno, int) = deduce.Explain
	)
}
