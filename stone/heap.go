package stone

import (
	"cmp"
	"slices"
	"strconv"
	"strings"

	"copestone/api"
)

const (
	leastWords = 11 // the name, four numbers, three corners
	maxDigits  = 6  // characters of a number
	lineEnd    = "\n"
	blank      = " "
)

// CheckHeap returns ErrArg if the list is no heap.
func CheckHeap(l []Stone) api.Errno {
	if len(l) > api.MaxHeap {
		return api.ErrArg
	}
	names := make(map[string]bool, len(l))
	for _, s := range l {
		if Check(s) != api.OK || names[s.Name] {
			return api.ErrArg
		}
		names[s.Name] = true
	}
	return api.OK
}

// Parse returns the heap of a text, or an error and its line.
func Parse(text string) (l []Stone, line int, e api.Errno) {
	if len(text) > api.MaxText {
		return nil, 0, api.ErrLimit
	}
	names := map[string]bool{}
	for words := range strings.SplitSeq(text, lineEnd) {
		line++
		if words == "" {
			continue
		}
		if len(l) == api.MaxHeap {
			return nil, line, api.ErrLimit
		}
		s, e := parseStone(words)
		if e != api.OK {
			return nil, line, e
		}
		if names[s.Name] {
			return nil, line, api.ErrTwice
		}
		names[s.Name] = true
		l = append(l, s)
	}
	return l, 0, api.OK
}

func parseStone(line string) (Stone, api.Errno) {
	words := strings.Split(line, blank)
	if len(words) < leastWords || len(words)%2 == 0 || words[0] == "" {
		return Stone{}, api.ErrForm
	}
	var numbers []int
	for _, word := range words[1:] {
		n, ok := parseNumber(word)
		if !ok {
			return Stone{}, api.ErrForm
		}
		numbers = append(numbers, n)
	}
	s := Stone{Name: words[0], Depth: numbers[0], Density: numbers[1], Grain: Point{numbers[2], numbers[3]}}
	for corner := range slices.Chunk(numbers[4:], 2) {
		s.Shape = append(s.Shape, Point{corner[0], corner[1]})
	}
	return s, Check(s)
}

// parseNumber takes only what a number is written as.
func parseNumber(word string) (int, bool) {
	if len(word) > maxDigits {
		return 0, false
	}
	n, err := strconv.Atoi(word)
	return n, err == nil && strconv.Itoa(n) == word
}

// Print returns the text of a heap.
func Print(l []Stone) (string, api.Errno) {
	if e := CheckHeap(l); e != api.OK {
		return "", e
	}
	var text strings.Builder
	for _, s := range l {
		text.WriteString(s.Name)
		write := func(n int) {
			text.WriteString(blank)
			text.WriteString(strconv.Itoa(n))
		}
		write(s.Depth)
		write(s.Density)
		for _, p := range append([]Point{s.Grain}, s.Shape...) {
			write(p.X)
			write(p.Z)
		}
		text.WriteString(lineEnd)
	}
	return text.String(), api.OK
}

// Total returns the sum of all weights of a heap.
func Total(l []Stone) (int64, api.Errno) {
	if e := CheckHeap(l); e != api.OK {
		return 0, e
	}
	var sum int64
	for _, s := range l {
		sum += s.weight()
	}
	return sum, api.OK
}

// Sorted returns the stones of a heap by falling weights, among equal ones by their names.
func Sorted(l []Stone) ([]Stone, api.Errno) {
	if e := CheckHeap(l); e != api.OK {
		return nil, e
	}
	return slices.SortedFunc(slices.Values(l), func(a, b Stone) int {
		return inOrder(cmp.Compare(b.weight(), a.weight()), strings.Compare(a.Name, b.Name))
	}), api.OK
}
