package plan

import (
	"iter"
	"slices"
	"strconv"
	"strings"
)

const (
	lineEnd = "\n"
	blank   = " "
	remark  = "#"
)

// The words of the kinds, each at the index of its kind: of an opening less that
// of the first one, Smoot.
func copeWords() [4]string    { return [...]string{"none", "flat", "upright", "buck"} }
func openingWords() [4]string { return [...]string{"smoot", "lunky", "stile", "gate"} }

// lines yields the lines that are not left out, each with its number, from 1.
func lines(text string) iter.Seq2[int, string] {
	return func(yield func(number int, line string) bool) {
		number := 0
		for line := range strings.SplitSeq(text, lineEnd) {
			number++
			if line != "" && !strings.HasPrefix(line, remark) && !yield(number, line) {
				return
			}
		}
	}
}

// text wants a valid plan.
func (p Plan) text() string {
	var text strings.Builder
	write := func(words []string) {
		text.WriteString(strings.Join(words, blank))
		text.WriteString(lineEnd)
	}
	for _, s := range p.Sheets {
		write(s.words())
	}
	for _, w := range p.Walls {
		write(w.words())
		for _, o := range w.Openings {
			write(o.words())
		}
	}
	return text.String()
}

func (s Sheet) words() []string {
	return slices.Concat(
		[]string{"sheet", s.Name},
		field("base", s.Base), field("batter", s.Batter), field("height", s.Height), field("skin", s.Skin),
		field("heights", s.Heights...), field("least", s.Least), field("lap", s.Lap), field("run", s.Run),
		field("through", s.Every, s.At), field("footing", s.Footing, s.Spread),
		field("cope"), field(copeWords()[s.Cope], s.Tall, s.Short, s.Thick),
		field("friction", s.Low, s.High), field("rood", s.Rood),
	)
}

func (w Wall) words() []string {
	return slices.Concat([]string{"wall", w.Name}, field(w.Sheet, w.Length))
}

func (o Opening) words() []string {
	return slices.Concat([]string{"open"}, field(openingWords()[o.Kind-Smoot], o.At, o.Width, o.From, o.High))
}

// field returns a word and the numbers behind it.
func field(word string, numbers ...int) []string {
	l := []string{word}
	for _, n := range numbers {
		l = append(l, strconv.Itoa(n))
	}
	return l
}
