// Package rules tests what holds for all packages of the program.
package rules

import (
	"bytes"
	"go/ast"
	"go/format"
	"go/parser"
	"go/token"
	"io/fs"
	"os"
	"path/filepath"
	"slices"
	"strconv"
	"strings"
	"testing"

	"bakelite/api"
)

// layers are the packages of the chapters, in their order.
var layers = strings.Fields(`bit pin table alu core std whole timer port serial video sound drive chip board wire mach quick save link
	crc flux fm mfm gcr tape sect weak mend image chain tree conv expr asm obj five toke lang moni
	dis flow watch trace trans jit frame samp keys paper ident gen mini learn gate synth equal pool exhib museum`)

// library are the packages of the standard library that the program may use.
var library = strings.Fields(`bytes cmp container/heap errors iter maps math math/bits slices sort strconv strings sync sync/atomic unicode unicode/utf8`)

const (
	module       = "bakelite/"
	longFunction = 70
)

// Z3: the codes of the document's section 'Error codes', which are values of type api.Errno.
func TestErrorCodes(t *testing.T) {
	codes := []api.Errno{
		api.OK, api.ErrArg, api.ErrLarge, api.ErrForm, api.ErrNone, api.ErrThere, api.ErrFull, api.ErrState, api.ErrType, api.ErrOrder, api.ErrLoop,
		api.ErrZero, api.ErrSum, api.ErrShort, api.ErrSyntax, api.ErrName, api.ErrClash, api.ErrFloat, api.ErrWeak, api.ErrFar, api.ErrBan, api.ErrOver,
	}
	for n, code := range codes {
		if int(code) != n {
			t.Errorf("code %d is %d", n, code)
		}
	}
}

// Z4
func TestIntHas64Bits(t *testing.T) {
	if strconv.IntSize != 64 {
		t.Error(strconv.IntSize)
	}
}

// source is a file of the program.
type source struct {
	path, layer string
	text        []byte
	tree        *ast.File
}

// sources returns the files of the program, without the tests.
func sources(t *testing.T, files *token.FileSet) []source {
	var found []source
	err := filepath.WalkDir("..", func(path string, entry fs.DirEntry, err error) error {
		if err != nil {
			return err
		}
		if entry.IsDir() && (entry.Name() == ".git" || entry.Name() == "sharedtests") {
			return filepath.SkipDir
		}
		if !strings.HasSuffix(path, ".go") || strings.HasSuffix(path, "_test.go") {
			return nil
		}
		text, err := os.ReadFile(path)
		if err != nil {
			return err
		}
		tree, err := parser.ParseFile(files, path, text, parser.ParseComments)
		found = append(found, source{path, filepath.Base(filepath.Dir(path)), text, tree})
		return err
	})
	if err != nil || len(found) == 0 {
		t.Fatal(len(found), err)
	}
	return found
}

// permitted tells whether a file of a layer may import a package.
func permitted(layer, path string) bool {
	own, ok := strings.CutPrefix(path, module)
	if !ok {
		return slices.Contains(library, path)
	}
	place := slices.Index(layers, own)
	return place < 0 || !slices.Contains(layers, layer) || place < slices.Index(layers, layer)
}

func TestImports(t *testing.T) {
	for _, file := range sources(t, token.NewFileSet()) {
		for _, spec := range file.tree.Imports {
			path, err := strconv.Unquote(spec.Path.Value)
			if err != nil || !permitted(file.layer, path) {
				t.Errorf("%s imports %s", file.path, spec.Path.Value)
			}
		}
	}
}

func TestNoDirectives(t *testing.T) {
	for _, file := range sources(t, token.NewFileSet()) {
		for _, group := range file.tree.Comments {
			for _, comment := range group.List {
				if strings.HasPrefix(comment.Text, "//go:") || strings.HasPrefix(comment.Text, "// +build") {
					t.Errorf("%s: %s", file.path, comment.Text)
				}
			}
		}
	}
}

func TestLayout(t *testing.T) {
	for _, file := range sources(t, token.NewFileSet()) {
		if text, err := format.Source(file.text); err != nil || !bytes.Equal(text, file.text) {
			t.Errorf("%s does not have the layout of gofmt", file.path)
		}
	}
}

func TestShortFunctions(t *testing.T) {
	files := token.NewFileSet()
	for _, file := range sources(t, files) {
		for _, declaration := range file.tree.Decls {
			function, ok := declaration.(*ast.FuncDecl)
			if !ok {
				continue
			}
			lines := files.Position(function.End()).Line - files.Position(function.Pos()).Line + 1
			if lines > longFunction {
				t.Errorf("%s: %s has %d lines", file.path, function.Name.Name, lines)
			}
		}
	}
}
