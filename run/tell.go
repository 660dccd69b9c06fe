package run

import (
	"errors"
	"strconv"
	"strings"

	"granary/api"
)

// done is told where nothing else is said.
const done = "ok"

// integer is what numbers are that are told.
type integer interface{ int | byte | uint32 }

func tellNumber[N integer](n N) string {
	return strconv.FormatInt(int64(n), 10)
}

// tellNumbers tells a list so that it can be read as one.
func tellNumbers[N integer](list []N) string {
	if len(list) == 0 {
		return noNumbers
	}
	told := make([]string, len(list))
	for i, n := range list {
		told[i] = tellNumber(n)
	}
	return strings.Join(told, betweenNumbers)
}

// tellList tells what a call answers that gives a list or an error.
func tellList[N integer](list []N, err error) (string, error) {
	if err != nil {
		return "", err
	}
	return tellNumbers(list), nil
}

// tellDone tells what a call answers that gives an error alone.
func tellDone(err error) (string, error) {
	if err != nil {
		return "", err
	}
	return done, nil
}

// tellError tells an error by its name. One that is none of package api's is of the text's own, and its text is its name.
func tellError(err error) string {
	var e api.Errno
	if errors.As(err, &e) {
		return e.Error()
	}
	return err.Error()
}
