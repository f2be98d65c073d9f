// Package rules tests what holds in all packages of the program: which others they may call, and the form of the code.
package rules

import (
	"bytes"
	"go/ast"
	"go/format"
	"go/parser"
	"go/token"
	"io/fs"
	"os"
	"path/filepath"
	"slices"
	"strconv"
	"strings"
	"testing"
)

const (
	root     = ".."
	module   = "marshes/"
	maxLines = 60
)

// layer is a row of the document's map: a package, and the layers that it may call beside api.
type layer struct {
	name  string
	calls []int
}

// layers are api and the map's packages, each at its number.
func layers() []layer {
	return []layer{
		{"api", nil},
		{"leb", nil},
		{"sum", nil},
		{"hash", nil},
		{"refname", []int{3}},
		{"dot", []int{1}},
		{"vector", []int{1, 5}},
		{"object", []int{1, 3}},
		{"store", []int{3, 7}},
		{"closure", []int{3, 7, 8}},
		{"ancestry", []int{3, 8}},
		{"pack", []int{1, 2, 3, 7}},
		{"record", []int{1, 4, 5, 6}},
		{"frame", []int{1, 2, 3, 6, 11, 12}},
		{"block", nil},
		{"journal", []int{2, 14}},
		{"depot", []int{14, 15}},
		{"causal", []int{5, 6, 12}},
		{"backlog", []int{6, 12}},
		{"sibling", []int{3, 4, 5, 12}},
		{"listing", []int{3, 4, 8, 10}},
		{"table", []int{3, 6, 8, 12, 19, 20}},
		{"gate", []int{5, 6, 8, 9, 12, 21}},
		{"request", []int{1, 2, 3, 5, 11, 20}},
		{"push", []int{3, 4, 6, 8, 9, 21, 23}},
		{"exchange", []int{3, 6, 8, 13, 18}},
		{"state", []int{1, 3, 4, 6, 8, 9, 11, 12, 13, 17, 18, 21, 22, 23, 24, 25}},
		{"site", []int{13, 14, 16, 23, 26}},
		{"net", nil},
		{"cluster", []int{13, 14, 20, 26, 27, 28}},
		{"trial", []int{3, 6, 7, 8, 11, 19, 20, 23, 26, 29}},
	}
}

// library is what of Go's library the program may import.
const library = " bytes cmp container/heap errors iter maps math math/bits slices sort strconv strings sync sync/atomic unicode unicode/utf8 "

type source struct {
	path, pack string
	text       []byte
	file       *ast.File
	set        *token.FileSet
}

// sources are the program's files, without its tests and without those that .ci/run lays beside it.
func sources(t *testing.T) []source {
	t.Helper()
	var l []source
	err := filepath.WalkDir(root, func(path string, d fs.DirEntry, err error) error {
		if err != nil {
			return err
		}
		if d.IsDir() && (d.Name() == "sharedtests" || path != root && strings.HasPrefix(d.Name(), ".")) {
			return filepath.SkipDir
		}
		if !strings.HasSuffix(path, ".go") || strings.HasSuffix(path, "_test.go") {
			return nil
		}
		s := source{path: path, pack: filepath.Base(filepath.Dir(path)), set: token.NewFileSet()}
		if s.text, err = os.ReadFile(path); err != nil {
			return err
		}
		s.file, err = parser.ParseFile(s.set, path, s.text, parser.ParseComments)
		l = append(l, s)
		return err
	})
	if err != nil {
		t.Fatal(err)
	}
	return l
}

func imports(s source) []string {
	var l []string
	for _, i := range s.file.Imports {
		path, _ := strconv.Unquote(i.Path.Value)
		l = append(l, path)
	}
	return l
}

// barred are the layers' packages that a layer may not call.
func barred(one layer) []string {
	var l []string
	for i, other := range layers() {
		if other.name != "api" && !slices.Contains(one.calls, i) {
			l = append(l, module+other.name)
		}
	}
	return l
}

// TestLayers: each layer of the map is there, and calls those alone that the map says.
func TestLayers(t *testing.T) {
	all := sources(t)
	for _, one := range layers() {
		found := false
		for _, s := range all {
			if s.pack != one.name {
				continue
			}
			found = true
			for _, path := range imports(s) {
				if slices.Contains(barred(one), path) {
					t.Errorf("%s imports %s", s.path, path)
				}
			}
		}
		if !found {
			t.Errorf("there is no package %s", one.name)
		}
	}
}

// TestImports: nothing but the program's own packages and the part of the library that the language has.
func TestImports(t *testing.T) {
	for _, s := range sources(t) {
		for _, path := range imports(s) {
			if !strings.HasPrefix(path, module) && !strings.Contains(library, " "+path+" ") {
				t.Errorf("%s imports %s", s.path, path)
			}
		}
		if bytes.Contains(s.text, []byte("iter.Pull")) {
			t.Errorf("%s takes iter.Pull", s.path)
		}
	}
}

// TestForm: gofmt's layout, no lines to the compiler, no build tags, functions that are not too long.
func TestForm(t *testing.T) {
	for _, s := range sources(t) {
		if b, err := format.Source(s.text); err != nil || !bytes.Equal(b, s.text) {
			t.Errorf("%s is not in gofmt's layout", s.path)
		}
		for _, g := range s.file.Comments {
			for _, c := range g.List {
				if strings.HasPrefix(c.Text, "//go:") || strings.HasPrefix(c.Text, "// +build") {
					t.Errorf("%s: %s", s.path, c.Text)
				}
			}
		}
		for _, d := range s.file.Decls {
			f, ok := d.(*ast.FuncDecl)
			if !ok {
				continue
			}
			if n := s.set.Position(f.End()).Line - s.set.Position(f.Pos()).Line + 1; n > maxLines {
				t.Errorf("%s: %s has %d lines", s.path, f.Name.Name, n)
			}
		}
	}
}
