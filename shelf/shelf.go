// Package shelf: files by their names.
package shelf

import (
	"slices"
	"sort"

	"patchquilt/api"
	"patchquilt/file"
)

// place of a name among files that rise: where its file is, or would be put.
func place(l []api.File, name string) (int, bool) {
	at := sort.Search(len(l), func(i int) bool { return l[i].Name >= name })
	return at, at < len(l) && l[at].Name == name
}

// Get a file; false: there is none.
func Get(l []api.File, name string) (api.File, bool) {
	at, is := place(l, name)
	if !is {
		return api.File{}, false
	}
	return l[at], true
}

// Put a file, also instead of one of its name.
func Put(l []api.File, f api.File) ([]api.File, error) {
	if err := file.Check(f); err != nil {
		return nil, err
	}
	at, is := place(l, f.Name)
	behind := at
	if is {
		behind = at + 1
	} else if len(l) >= api.MaxFiles {
		return nil, api.ErrFull
	}
	// Concat, since append to a piece of l would write into the caller's list.
	return slices.Concat(l[:at], []api.File{f}, l[behind:]), nil
}

// Drop a file.
func Drop(l []api.File, name string) ([]api.File, error) {
	at, is := place(l, name)
	if !is {
		return nil, api.ErrNone
	}
	return slices.Concat(l[:at], l[at+1:]), nil
}

// Check files: they rise, and each may be.
func Check(l []api.File) error {
	if len(l) > api.MaxFiles {
		return api.ErrMany
	}
	for i, f := range l {
		if err := file.Check(f); err != nil {
			return err
		}
		if i > 0 && f.Name <= l[i-1].Name {
			return api.ErrShape
		}
	}
	return nil
}
