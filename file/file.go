// Package file: files.
package file

import "patchquilt/api"

// Name: may a file be called so? Small letters and digits.
func Name(s string) error {
	if s == "" {
		return api.ErrShape
	}
	for i := range len(s) {
		if !plain(s[i]) {
			return api.ErrShape
		}
	}
	if len(s) > api.MaxName {
		return api.ErrMany
	}
	return nil
}

func plain(c byte) bool {
	return 'a' <= c && c <= 'z' || '0' <= c && c <= '9'
}

// Check a file.
func Check(f api.File) error {
	if err := Name(f.Name); err != nil {
		return err
	}
	if len(f.Text) > api.MaxText {
		return api.ErrMany
	}
	if f.Times < 1 || f.Times > api.MaxTurn {
		return api.ErrBound
	}
	return nil
}
