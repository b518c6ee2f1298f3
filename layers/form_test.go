package layers

import (
	"bytes"
	"go/ast"
	"go/format"
	"go/parser"
	"go/token"
	"os"
	"path/filepath"
	"strconv"
	"strings"
	"testing"
)

// order is the layers' packages, from the lowest on.
const order = "charset words defs check kernel facts earley forest trees filter terms ast paren layout box notes ambig tools"

const library = " bytes cmp container/heap errors iter maps math math/bits slices sort strconv strings sync sync/atomic unicode unicode/utf8 "

const maxLines = 60

type source struct {
	pack, path string
	text       []byte
	fset       *token.FileSet
	file       *ast.File
}

// sources are the program's files; those of tests may use all of Go.
func sources(t *testing.T) []source {
	t.Helper()
	paths, err := filepath.Glob("../*/*.go")
	if err != nil || len(paths) == 0 {
		t.Fatalf("no files: %v", err)
	}
	var list []source
	for _, path := range paths {
		pack := filepath.Base(filepath.Dir(path))
		if strings.HasSuffix(path, "_test.go") || pack == "sharedtests" {
			continue
		}
		text, err := os.ReadFile(path)
		if err != nil {
			t.Fatal(err)
		}
		fset := token.NewFileSet()
		file, err := parser.ParseFile(fset, path, text, parser.ParseComments)
		if err != nil {
			t.Fatal(err)
		}
		list = append(list, source{pack, path, text, fset, file})
	}
	return list
}

func TestEachLayerHasItsPackage(t *testing.T) {
	has := map[string]bool{}
	for _, s := range sources(t) {
		has[s.pack] = true
		if s.file.Name.Name != s.pack {
			t.Errorf("%s is of package %s", s.path, s.file.Name.Name)
		}
		if s.pack == "form" || s.pack == "try" || strings.HasPrefix(s.pack, "tracery") {
			t.Errorf("%s: a package may not have this name", s.path)
		}
	}
	for _, layer := range append(strings.Fields(order), "api") {
		if !has[layer] {
			t.Errorf("package %s is missing", layer)
		}
	}
}

func TestImports(t *testing.T) {
	rank := map[string]int{}
	for i, layer := range strings.Fields(order) {
		rank[layer] = i + 1
	}
	for _, s := range sources(t) {
		for _, spec := range s.file.Imports {
			path, err := strconv.Unquote(spec.Path.Value)
			if err != nil {
				t.Fatal(err)
			}
			if own, ok := strings.CutPrefix(path, "tracery/"); ok {
				if rank[s.pack] > 0 && rank[own] >= rank[s.pack] {
					t.Errorf("%s: layer %s calls %s, which is not below it", s.path, s.pack, own)
				}
			} else if !strings.Contains(library, " "+path+" ") {
				t.Errorf("%s imports %s", s.path, path)
			}
		}
	}
}

func TestLayoutAndLengths(t *testing.T) {
	for _, s := range sources(t) {
		laid, err := format.Source(s.text)
		if err != nil || !bytes.Equal(laid, s.text) {
			t.Errorf("%s is not as gofmt lays it (%v)", s.path, err)
		}
		if bytes.Contains(s.text, []byte("\n//go:")) {
			t.Errorf("%s has a //go: line", s.path)
		}
		for _, d := range s.file.Decls {
			f, ok := d.(*ast.FuncDecl)
			if !ok {
				continue
			}
			if n := s.fset.Position(f.End()).Line - s.fset.Position(f.Pos()).Line + 1; n > maxLines {
				t.Errorf("%s: %s has %d lines", s.path, f.Name.Name, n)
			}
		}
	}
}

// A map that is asked in the call that made it has numbers, structs, lists or functions as values.
func TestMapValues(t *testing.T) {
	for _, s := range sources(t) {
		ast.Inspect(s.file, func(n ast.Node) bool {
			if m, ok := n.(*ast.MapType); ok {
				if value, ok := m.Value.(*ast.Ident); ok && (value.Name == "bool" || value.Name == "string") {
					t.Errorf("%s: a map with values of %s", s.fset.Position(m.Pos()), value.Name)
				}
			}
			return true
		})
	}
}
