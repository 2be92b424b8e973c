// Package diff: in which files two quilts differ.
package diff

import (
	"slices"

	"patchquilt/api"
	"patchquilt/shelf"
)

// Of two: the names of files that just one has, or that are not the same, rising.
func Of(a, b api.Quilt) []string {
	var names []string
	for _, f := range a.Files {
		g, is := shelf.Get(b.Files, f.Name)
		if !is || f != g {
			names = append(names, f.Name)
		}
	}
	for _, g := range b.Files {
		if _, is := shelf.Get(a.Files, g.Name); !is {
			names = append(names, g.Name)
		}
	}
	slices.Sort(names)
	return names
}

// Patch a quilt: files of some names are as another one has them; the turn is the other one's.
func Patch(a, b api.Quilt, names []string) (api.Quilt, error) {
	// All of these go ahead of the first that is put: a full quilt has room then.
	files := without(a.Files, names)
	for _, name := range names {
		f, is := shelf.Get(b.Files, name)
		if !is {
			continue
		}
		var err error
		files, err = shelf.Put(files, f)
		if err != nil {
			return api.Quilt{}, err
		}
	}
	return api.Quilt{Files: files, Turn: b.Turn}, nil
}

// without: the files that have none of these names.
func without(l []api.File, names []string) []api.File {
	var kept []api.File
	for _, f := range l {
		if !slices.Contains(names, f.Name) {
			kept = append(kept, f)
		}
	}
	return kept
}
