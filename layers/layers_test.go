// Package layers tests what holds for the packages of all layers that are built.
package layers

import (
	"go/parser"
	"go/token"
	"path/filepath"
	"slices"
	"strconv"
	"strings"
	"testing"
)

// calls are the layers that are built, each with those that its chapter's first paragraph lets it import.
func calls() map[string][]string {
	return map[string][]string{
		"tone":    {"api"},
		"sample":  {"api", "tone"},
		"pack":    {"api"},
		"inst":    {"api", "tone"},
		"pattern": {"api"},
		"dialect": {"api", "pattern"},
	}
}

// library is what ../shared/LANGUAGE.md allows of the standard library.
func library() []string {
	return []string{
		"bytes", "cmp", "container/heap", "errors", "iter", "maps", "math", "math/bits", "slices", "sort", "strconv",
		"strings", "sync", "sync/atomic", "unicode", "unicode/utf8",
	}
}

// The chapters' first paragraphs: a layer imports the lower ones that it names, and no other.
func TestImports(t *testing.T) {
	for layer, lower := range calls() {
		files, err := filepath.Glob(filepath.Join("..", layer, "*.go"))
		if err != nil || len(files) == 0 {
			t.Errorf("%s has no files: %v", layer, err)
		}
		for _, file := range files {
			if !strings.HasSuffix(file, "_test.go") {
				checkImports(t, file, lower)
			}
		}
	}
}

func checkImports(t *testing.T, file string, lower []string) {
	t.Helper()
	f, err := parser.ParseFile(token.NewFileSet(), file, nil, parser.ImportsOnly)
	if err != nil {
		t.Fatal(err)
	}
	for _, i := range f.Imports {
		path, err := strconv.Unquote(i.Path.Value)
		if err != nil {
			t.Fatal(err)
		}
		allowed := library()
		layer, own := strings.CutPrefix(path, "orchestrion/")
		if own {
			path, allowed = layer, lower
		}
		if !slices.Contains(allowed, path) {
			t.Errorf("%s imports %s", file, i.Path.Value)
		}
	}
}
