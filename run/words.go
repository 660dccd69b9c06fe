package run

import (
	"errors"
	"math"
	"strings"
)

const (
	betweenWords   = " "
	betweenNumbers = ","
	noNumbers      = "-"
	mostDigits     = 9 // of a number that is read
)

// errBad is what words panic with when they are read: a word may be wrong anywhere, and wherever that is nothing is done by its line.
var errBad = errors.New("bad")

// words are what is still to be read of a line. Ahead of that it is asked whether there are as many as are read.
type words struct{ left []string }

func (w *words) next() string {
	word := w.left[0]
	w.left = w.left[1:]
	return word
}

func (w *words) number() int {
	return readNumber(w.next())
}

func (w *words) numbers() []int {
	word := w.next()
	if word == noNumbers {
		return nil
	}
	var numbers []int
	for _, piece := range strings.Split(word, betweenNumbers) {
		numbers = append(numbers, readNumber(piece))
	}
	return numbers
}

func (w *words) bytes() []byte {
	var bytes []byte
	for _, n := range w.numbers() {
		if n > math.MaxUint8 {
			panic(errBad)
		}
		bytes = append(bytes, byte(n))
	}
	return bytes
}

func readNumber(word string) int {
	if len(word) == 0 || len(word) > mostDigits || len(word) > 1 && word[0] == '0' {
		panic(errBad)
	}
	n := 0
	for _, r := range word {
		if r < '0' || r > '9' {
			panic(errBad)
		}
		n = n*10 + int(r-'0')
	}
	return n
}
