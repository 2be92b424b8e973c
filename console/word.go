package console

import (
	"strconv"
	"strings"

	"patchquilt/api"
)

// nothing: what is told, and read, of a text without bytes, and told of a list of nothing.
const nothing = "-"

// greatest number that a line may have.
const greatest = 999

// list of texts, as it is told.
func list(texts ...string) string {
	if len(texts) == 0 {
		return nothing
	}
	return strings.Join(texts, " ")
}

// tellText of a file. No file has the text "-" itself: parseText makes none.
func tellText(text string) string {
	if text == "" {
		return nothing
	}
	return text
}

// parseText of a file. An empty word is none: no bytes have a word of their own.
func parseText(word string) (string, error) {
	switch word {
	case "":
		return "", api.ErrText
	case nothing:
		return "", nil
	}
	return word, nil
}

// parseNumber of a line: told again it is the same word, so it has no sign, and no noughts ahead.
func parseNumber(word string) (int, error) {
	n, err := strconv.Atoi(word)
	if err != nil || n < 0 || n > greatest || strconv.Itoa(n) != word {
		return 0, api.ErrText
	}
	return n, nil
}

// parseDisk: the place of a disk that is there.
func parseDisk(word string) (int, error) {
	at, err := parseNumber(word)
	if err != nil {
		return 0, err
	}
	if at >= api.Disks {
		return 0, api.ErrNone
	}
	return at, nil
}

// counted: how many, as it is told.
func counted(n int, err error) (string, error) {
	return strconv.Itoa(n), err
}

// failure, as it is told.
func failure(err error) string {
	n, _ := err.(api.Errno)
	return "error " + strconv.Itoa(int(n))
}
