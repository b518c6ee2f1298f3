package layers

import (
	"iter"

	"tracery/ambig"
	"tracery/api"
	"tracery/ast"
	"tracery/box"
	"tracery/charset"
	"tracery/check"
	"tracery/defs"
	"tracery/earley"
	"tracery/facts"
	"tracery/filter"
	"tracery/forest"
	"tracery/kernel"
	"tracery/layout"
	"tracery/notes"
	"tracery/paren"
	"tracery/terms"
	"tracery/tools"
	"tracery/trees"
	"tracery/words"
)

// The calls that the chapters list, with their signatures: this file is not built, if one of them is another.
var (
	_ func(...byte) api.Set               = charset.Of
	_ func(int, int) (api.Set, api.Errno) = charset.Range
	_ func(api.Set, byte) bool            = charset.Has
	_ func(api.Set, api.Set) api.Set      = charset.Union
	_ func(api.Set, api.Set) api.Set      = charset.Meet
	_ func(api.Set, api.Set) api.Set      = charset.Minus
	_ func(api.Set) api.Set               = charset.Not
	_ func(api.Set) int                   = charset.Size
	_ func(api.Set, api.Set) bool         = charset.Within
	_ func(api.Set) []byte                = charset.Bytes
	_ func(api.Set) iter.Seq[byte]        = charset.All
	_ func(api.Set) []api.Run             = charset.Runs
	_ func(api.Set) string                = charset.Print
	_ func(string) (api.Set, api.Fault)   = charset.Parse

	_ func(string) ([]api.Word, api.Fault) = words.Scan
	_ func([]byte) string                  = words.Quote
	_ func(string) ([]byte, api.Fault)     = words.Unquote
	_ func(string) bool                    = words.IsName
	_ func(string) bool                    = words.IsKey
	_ func(string, int) (int, int)         = words.Place
	_ func([]api.Word) string              = words.Join

	_ func(string) (api.Def, api.Fault) = defs.Parse
	_ func(api.Def) (string, api.Errno) = defs.Print
	_ func(api.Def) bool                = defs.Right
	_ func(api.Def, api.Def) bool       = defs.Same

	_ func(api.Def) (api.Errno, string) = check.Check
	_ func(api.Def) []string            = check.Sorts
	_ func(api.Def) []string            = check.Lexical
	_ func(api.Def, string) []string    = check.Uses
	_ func(api.Prod) []int              = check.Holes
	_ func(api.Def, string) int         = check.Cons

	_ func(api.Def) (api.Kern, api.Errno) = kernel.Make
	_ func(api.Kern, string) int          = kernel.Sort
	_ func(api.Kern, int) []int           = kernel.Rules

	_ func(api.Gram) api.Errno              = facts.Right
	_ func(api.Gram) int                    = facts.Size
	_ func(api.Gram) ([]bool, api.Errno)    = facts.Nullable
	_ func(api.Gram) ([]bool, api.Errno)    = facts.Productive
	_ func(api.Gram) ([]bool, api.Errno)    = facts.Reach
	_ func(api.Gram) ([]api.Set, api.Errno) = facts.First
	_ func(api.Gram) ([]int, api.Errno)     = facts.Shortest
	_ func(api.Gram) ([]int, api.Errno)     = facts.Trim
	_ func(api.Gram) (bool, api.Errno)      = facts.Cyclic

	_ func(api.Gram, []byte) ([][]api.EItem, api.Errno)  = earley.Chart
	_ func(api.Gram, []byte) (int, api.Errno)            = earley.Items
	_ func(api.Gram, []byte) (bool, api.Errno)           = earley.Accepts
	_ func(api.Gram, []byte) (int, api.Errno)            = earley.Last
	_ func(api.Gram, []byte) (api.Set, api.Errno)        = earley.Next
	_ func(api.Gram, []byte, int) ([]api.Run, api.Errno) = earley.Spans

	_ func(api.Gram, []byte) (api.Forest, api.Errno)      = forest.Build
	_ func(api.Gram, []byte) (int, api.Errno)             = forest.Count
	_ func(api.Gram, []byte, int) ([]api.Tree, api.Errno) = forest.Trees
	_ func(api.Forest) (int, int)                         = forest.Size

	_ func(api.Gram, int, api.Tree) api.Errno               = trees.Right
	_ func(api.Tree) []byte                                 = trees.Yield
	_ func(api.Tree) (int, int)                             = trees.Size
	_ func(api.Tree) []api.Run                              = trees.Spans
	_ func(api.Tree, api.Tree) bool                         = trees.Same
	_ func(api.Tree, []int) (api.Tree, api.Errno)           = trees.At
	_ func(api.Tree, []int, api.Tree) (api.Tree, api.Errno) = trees.Put
	_ func(api.Tree) (string, api.Errno)                    = trees.Print
	_ func(string) (api.Tree, api.Fault)                    = trees.Parse

	_ func(api.Gram, api.Filters) api.Errno                            = filter.Right
	_ func(api.Gram, api.Filters, []byte, api.Tree) api.Errno          = filter.Ok
	_ func(api.Gram, api.Filters, []byte) (api.Forest, api.Errno)      = filter.Build
	_ func(api.Gram, api.Filters, []byte) (int, api.Errno)             = filter.Count
	_ func(api.Gram, api.Filters, []byte, int) ([]api.Tree, api.Errno) = filter.Trees

	_ func(api.Term) bool                                   = terms.Right
	_ func(api.Term) (int, int)                             = terms.Size
	_ func(api.Term, api.Term) bool                         = terms.Same
	_ func(api.Term) iter.Seq[api.Term]                     = terms.Walk
	_ func(api.Term) [][]byte                               = terms.Lexemes
	_ func(api.Term, []int) (api.Term, api.Errno)           = terms.At
	_ func(api.Term, []int, api.Term) (api.Term, api.Errno) = terms.Put
	_ func(api.Term) (string, api.Errno)                    = terms.Print
	_ func(string) (api.Term, api.Fault)                    = terms.Parse

	_ func(api.Def, string, api.Term) api.Errno             = ast.Sorted
	_ func(api.Def, api.Tree) (api.Term, api.Errno)         = ast.Implode
	_ func(api.Def, string, api.Term) (api.Tree, api.Errno) = ast.Explode

	_ func(api.Def, string, api.Term) (api.Tree, api.Errno) = paren.Insert
	_ func(api.Def, string, api.Term) ([][]int, api.Errno)  = paren.Needs
	_ func(api.Def, api.Tree) (api.Tree, api.Errno)         = paren.Strip

	_ func(api.Doc) bool                     = layout.Right
	_ func(api.Doc) []api.Doc                = layout.Leaves
	_ func(api.Doc) (string, api.Errno)      = layout.Flat
	_ func(api.Doc, int) (string, api.Errno) = layout.Render
	_ func(api.Doc, int) (int, api.Errno)    = layout.Broken

	_ func(api.Def, api.Tree) (api.Doc, api.Errno)     = box.Make
	_ func(api.Def, api.Term, int) (string, api.Errno) = box.Print

	_ func(api.Def, api.Tree) ([][]byte, api.Errno)           = notes.Gaps
	_ func(api.Def, api.Tree) ([][]byte, api.Errno)           = notes.Pieces
	_ func(api.Def, api.Tree) ([]api.Note, api.Errno)         = notes.Notes
	_ func(api.Def, api.Tree, [][]byte) (api.Tree, api.Errno) = notes.Fill

	_ func(api.Gram, api.Filters) ([]byte, api.Errno)              = ambig.Signs
	_ func(api.Gram, api.Filters, []byte) ([]byte, api.Errno)      = ambig.Map
	_ func(api.Gram, api.Filters, int, int) (api.Found, api.Errno) = ambig.Search

	_ func(string) (*tools.Lang, api.Fault, string)       = tools.Load
	_ func(*tools.Lang) []string                          = (*tools.Lang).Sorts
	_ func(*tools.Lang, []byte) (tools.Answer, api.Errno) = (*tools.Lang).Read
	_ func(*tools.Lang, string, int) (string, api.Fault)  = (*tools.Lang).Print
	_ func(*tools.Lang, int, int) (api.Found, api.Errno)  = (*tools.Lang).Search
	_ func(string, string) string                         = tools.Run

	_ = tools.Answer{Count: 0, Last: 0, Term: api.Term{}}
)
