// Package layout holds the layers' files against the document's map and the language's rules.
package layout

import (
	"go/ast"
	"go/parser"
	"go/token"
	"path/filepath"
	"slices"
	"strconv"
	"strings"
	"testing"
)

// library are the packages of Go's library that a layer may import.
var library = strings.Fields("bytes cmp container/heap errors iter maps math math/bits slices sort strconv strings sync sync/atomic unicode unicode/utf8")

// layers are in the map's order, each with the layers that it may call; "*" is all ahead of it.
var layers = []struct{ name, calls string }{
	{"epoch", ""}, {"clock", "epoch"},
	{"reel", ""}, {"deed", "reel"}, {"sheet", "reel deed"}, {"pick", ""},
	{"ring", ""}, {"pew", ""}, {"pipe", "ring pew"}, {"fork", "pew pipe"},
	{"crew", ""}, {"entry", "reel"},
	{"loom", "sheet pick pipe fork crew entry"}, {"gauge", "entry"},
	{"slots", "clock"}, {"watch", "epoch clock"},
	{"stamp", "epoch clock gauge slots watch"}, {"cell", "epoch clock"},
	{"report", "epoch clock cell"}, {"retire", "clock"},
	{"remap", ""}, {"query", "epoch stamp remap"},
	{"run", "*"}, {"edge", "gauge"}, {"matrix", ""}, {"axiom", "edge gauge matrix"},
	{"walk", ""}, {"verdict", "*"},
}

func names() []string {
	var l []string
	for _, x := range layers {
		l = append(l, x.name)
	}
	return l
}

// mayImport tells of a layer's import whether the map or the library's list has it; packages that are no layers are free.
func mayImport(i int, path string) bool {
	own, ok := strings.CutPrefix(path, "staithe/")
	if !ok {
		return slices.Contains(library, path)
	}
	at := slices.Index(names(), own)
	if at < 0 {
		return true
	}
	if layers[i].calls == "*" {
		return at < i
	}
	return slices.Contains(strings.Fields(layers[i].calls), own)
}

// files are a layer's, without its tests.
func files(t *testing.T, name string) []*ast.File {
	t.Helper()
	paths, err := filepath.Glob(filepath.Join("..", name, "*.go"))
	if err != nil {
		t.Fatal(err)
	}
	var l []*ast.File
	for _, path := range paths {
		if strings.HasSuffix(path, "_test.go") {
			continue
		}
		f, err := parser.ParseFile(token.NewFileSet(), path, nil, parser.SkipObjectResolution)
		if err != nil {
			t.Fatal(err)
		}
		l = append(l, f)
	}
	if len(l) == 0 {
		t.Errorf("%s is missing", name)
	}
	return l
}

func TestLayersCallWhatTheMapSays(t *testing.T) {
	for i, x := range layers {
		for _, f := range files(t, x.name) {
			for _, s := range f.Imports {
				path, err := strconv.Unquote(s.Path.Value)
				if err != nil || !mayImport(i, path) {
					t.Errorf("%s may not import %s", x.name, s.Path.Value)
				}
			}
		}
	}
}

func TestLayersStartNoGoroutineAndMakeNoChannel(t *testing.T) {
	for _, x := range layers {
		for _, f := range files(t, x.name) {
			ast.Inspect(f, func(n ast.Node) bool {
				switch n.(type) {
				case *ast.GoStmt, *ast.ChanType, *ast.SelectStmt, *ast.SendStmt:
					t.Errorf("%s has a goroutine or a channel of Go's own", x.name)
				}
				return true
			})
		}
	}
}
