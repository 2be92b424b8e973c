// Package quilt: what is done with files, turn by turn.
package quilt

import (
	"slices"

	"patchquilt/api"
	"patchquilt/file"
	"patchquilt/shelf"
)

// New quilt: no files.
func New() api.Quilt { return api.Quilt{Turn: 1} }

// Check a quilt.
func Check(q api.Quilt) error {
	if err := shelf.Check(q.Files); err != nil {
		return err
	}
	if q.Turn < 1 || q.Turn > api.MaxTurn {
		return api.ErrBound
	}
	return nil
}

// Same: are two?
func Same(a, b api.Quilt) bool {
	return a.Turn == b.Turn && slices.Equal(a.Files, b.Files)
}

// Clone a quilt: its files in memory of their own.
func Clone(q api.Quilt) api.Quilt {
	return api.Quilt{Files: slices.Clone(q.Files), Turn: q.Turn}
}

// turned: the quilt one turn on. It is asked last, since a full count of turns is told behind all other errors.
func turned(q api.Quilt, files []api.File) (api.Quilt, error) {
	if q.Turn >= api.MaxTurn {
		return api.Quilt{}, api.ErrFull
	}
	return api.Quilt{Files: files, Turn: q.Turn + 1}, nil
}

// Write a file, that may be new.
func Write(q api.Quilt, name, text string) (api.Quilt, error) {
	// A file that isn't there has Times 0, so a new one is written once.
	old, _ := shelf.Get(q.Files, name)
	files, err := shelf.Put(q.Files, api.File{Name: name, Text: text, Times: old.Times + 1})
	if err != nil {
		return api.Quilt{}, err
	}
	return turned(q, files)
}

// Drop a file.
func Drop(q api.Quilt, name string) (api.Quilt, error) {
	files, err := shelf.Drop(q.Files, name)
	if err != nil {
		return api.Quilt{}, err
	}
	return turned(q, files)
}

// Rename a file: nothing has the other name.
func Rename(q api.Quilt, name, to string) (api.Quilt, error) {
	f, is := shelf.Get(q.Files, name)
	if !is {
		return api.Quilt{}, api.ErrNone
	}
	if err := file.Name(to); err != nil {
		return api.Quilt{}, err
	}
	if _, is := shelf.Get(q.Files, to); is {
		return api.Quilt{}, api.ErrExist
	}
	files, err := shelf.Drop(q.Files, name)
	if err != nil {
		return api.Quilt{}, err
	}
	f.Name = to
	files, err = shelf.Put(files, f)
	if err != nil {
		return api.Quilt{}, err
	}
	return turned(q, files)
}

// Swap the texts of two files.
func Swap(q api.Quilt, a, b string) (api.Quilt, error) {
	f, isF := shelf.Get(q.Files, a)
	g, isG := shelf.Get(q.Files, b)
	if !isF || !isG {
		return api.Quilt{}, api.ErrNone
	}
	if f.Times >= api.MaxTurn || g.Times >= api.MaxTurn {
		return api.Quilt{}, api.ErrFull
	}
	if a == b {
		// Nothing is written, but it is a turn all the same.
		return turned(q, slices.Clone(q.Files))
	}
	files, err := shelf.Put(q.Files, api.File{Name: a, Text: g.Text, Times: f.Times + 1})
	if err != nil {
		return api.Quilt{}, err
	}
	files, err = shelf.Put(files, api.File{Name: b, Text: f.Text, Times: g.Times + 1})
	if err != nil {
		return api.Quilt{}, err
	}
	return turned(q, files)
}
