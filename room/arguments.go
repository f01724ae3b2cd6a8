package room

import (
	"strconv"
	"strings"

	"silverside/api"
)

const longestToken = 32 // bytes

// arguments are what is unread of a line: nothing, or a blank and what follows it.
type arguments struct {
	unread string
}

// split returns the word that a line begins with, and its arguments.
func split(line string) (string, *arguments) {
	word, _, _ := strings.Cut(line, " ")
	return word, &arguments{unread: line[len(word):]}
}

func (a *arguments) hasMore() bool {
	return a.unread != ""
}

// end refuses further arguments.
func (a *arguments) end() {
	if a.hasMore() {
		panic(api.ErrSyntax)
	}
}

// next returns the next argument, of any form.
func (a *arguments) next() string {
	if !a.hasMore() {
		panic(api.ErrSyntax)
	}
	text, _, _ := strings.Cut(a.unread[1:], " ")
	a.unread = a.unread[1+len(text):]
	return text
}

// rest returns the rest of the line, whatever it contains.
func (a *arguments) rest() string {
	if len(a.unread) < 2 {
		panic(api.ErrSyntax)
	}
	text := a.unread[1:]
	a.unread = ""
	return text
}

func (a *arguments) number() int {
	return numberOf(a.next())
}

// numbers reads all further arguments.
func (a *arguments) numbers() []int {
	var list []int
	for a.hasMore() {
		list = append(list, a.number())
	}
	return list
}

// group returns so many numbers with colons between them.
func (a *arguments) group(size int) []int {
	texts := strings.Split(a.next(), ":")
	if len(texts) != size {
		panic(api.ErrSyntax)
	}
	numbers := make([]int, size)
	for i, text := range texts {
		numbers[i] = numberOf(text)
	}
	return numbers
}

func (a *arguments) point() api.Point {
	n := a.group(2)
	return api.Point{X: n[0], Y: n[1]}
}

func (a *arguments) move() api.Move {
	n := a.group(2)
	return api.Move{Site: n[0], Change: n[1]}
}

// token returns the name of something.
func (a *arguments) token() string {
	text := a.next()
	if len(text) < 1 || len(text) > longestToken {
		panic(api.ErrSyntax)
	}
	for _, b := range []byte(text) {
		if b < '!' || b > '~' {
			panic(api.ErrSyntax)
		}
	}
	return text
}

// bytes returns the bytes that are written in hexadecimal.
func (a *arguments) bytes() string {
	text := a.next()
	if len(text) == 0 || len(text)%2 != 0 {
		panic(api.ErrSyntax)
	}
	var bytes []byte
	for i := 0; i < len(text); i += 2 {
		bytes = append(bytes, valueOf(text[i])<<4|valueOf(text[i+1]))
	}
	return string(bytes)
}

// numberOf accepts each number in one way of writing it only.
func numberOf(text string) int {
	n, err := strconv.Atoi(text)
	if err != nil || strconv.Itoa(n) != text {
		panic(api.ErrSyntax)
	}
	return n
}

const hexDigits = "0123456789abcdef"

func valueOf(digit byte) byte {
	value := strings.IndexByte(hexDigits, digit)
	if value < 0 {
		panic(api.ErrSyntax)
	}
	return byte(value)
}

// hexOf writes bytes in hexadecimal.
func hexOf(bytes string) string {
	var text []byte
	for _, b := range []byte(bytes) {
		text = append(text, hexDigits[b>>4], hexDigits[b&15])
	}
	return string(text)
}
