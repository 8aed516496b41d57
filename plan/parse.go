package plan

import (
	"strconv"
	"strings"

	"copestone/api"
)

const maxDigits = 6 // of a number

// unread are the words of a line that are still to be read.
type unread struct{ words []string }

// read reads a line by the form of its first word, and returns what is wrong in
// it.
func read(line string, forms map[string]func(l *unread)) (e api.Errno) {
	defer func() {
		switch thrown := recover().(type) {
		case nil:
		case api.Errno:
			e = thrown
		default: // nothing else is thrown, but no panic may leave the package
			e = api.ErrForm
		}
	}()
	l := unread{strings.Split(line, blank)}
	form, found := forms[l.word()]
	must(found, api.ErrForm)
	form(&l)
	return api.OK
}

// must throws an error if something in a line is not as it must be.
func must(ok bool, e api.Errno) {
	if !ok {
		panic(e)
	}
}

// forms returns what adds a line to the plan, by the line's first word.
func (p *Plan) forms() map[string]func(l *unread) {
	return map[string]func(l *unread){
		"sheet": func(l *unread) { p.addSheet(l.sheet()) },
		"wall":  func(l *unread) { p.addWall(l.wall()) },
		"open":  func(l *unread) { p.addOpening(l.opening()) },
	}
}

func (p *Plan) addSheet(s Sheet) {
	must(find(p.Sheets, s.Name, Sheet.name) == none, api.ErrTwice)
	must(s.isSound(), api.ErrArg)
	must(len(p.Sheets) < api.MaxSheets, api.ErrLimit)
	p.Sheets = append(p.Sheets, s)
}

func (p *Plan) addWall(w Wall) {
	must(find(p.Walls, w.Name, Wall.name) == none, api.ErrTwice)
	sheet := find(p.Sheets, w.Sheet, Sheet.name)
	must(sheet != none, api.ErrName)
	must(w.isSound(p.Sheets[sheet]), api.ErrArg)
	must(len(p.Walls) < api.MaxWalls, api.ErrLimit)
	p.Walls = append(p.Walls, w)
}

// addOpening adds it to the last wall.
func (p *Plan) addOpening(o Opening) {
	must(len(p.Walls) > 0, api.ErrForm)
	w := &p.Walls[len(p.Walls)-1]
	w.Openings = append(w.Openings, o)
	must(w.isSound(p.Sheets[find(p.Sheets, w.Sheet, Sheet.name)]), api.ErrArg)
}

func (l *unread) sheet() Sheet {
	s := Sheet{Name: l.name()}
	l.field("base", &s.Base)
	l.field("batter", &s.Batter)
	l.field("height", &s.Height)
	l.field("skin", &s.Skin)
	l.field("heights")
	s.Heights = l.list()
	l.field("least", &s.Least)
	l.field("lap", &s.Lap)
	l.field("run", &s.Run)
	l.field("through", &s.Every, &s.At)
	l.field("footing", &s.Footing, &s.Spread)
	l.field("cope")
	s.Cope = l.choice(copeWords())
	l.numbers(&s.Tall, &s.Short, &s.Thick)
	l.field("friction", &s.Low, &s.High)
	l.field("rood", &s.Rood)
	l.end()
	return s
}

func (l *unread) wall() Wall {
	w := Wall{Name: l.name(), Sheet: l.name()}
	l.numbers(&w.Length)
	l.end()
	return w
}

func (l *unread) opening() Opening {
	o := Opening{Kind: Smoot + l.choice(openingWords())}
	l.numbers(&o.At, &o.Width, &o.From, &o.High)
	l.end()
	return o
}

func (l *unread) word() string {
	must(len(l.words) > 0, api.ErrForm)
	word := l.words[0]
	l.words = l.words[1:]
	return word
}

func (l *unread) name() string {
	word := l.word()
	must(isName(word), api.ErrForm)
	return word
}

// choice returns the index of the next word among some.
func (l *unread) choice(words [4]string) uint8 {
	word := l.word()
	for i, w := range words {
		if w == word {
			return uint8(i)
		}
	}
	panic(api.ErrForm)
}

func (l *unread) number() int {
	n, ok := parseNumber(l.word())
	must(ok, api.ErrForm)
	return n
}

// numbers reads one number for each place.
func (l *unread) numbers(places ...*int) {
	for _, place := range places {
		*place = l.number()
	}
}

// list reads all numbers that follow; there is one at least.
func (l *unread) list() []int {
	list := []int{l.number()}
	for l.hasNumber() {
		list = append(list, l.number())
	}
	return list
}

func (l *unread) hasNumber() bool {
	if len(l.words) == 0 {
		return false
	}
	_, ok := parseNumber(l.words[0])
	return ok
}

// field reads a word, and the numbers behind it.
func (l *unread) field(word string, places ...*int) {
	must(l.word() == word, api.ErrForm)
	l.numbers(places...)
}

func (l *unread) end() { must(len(l.words) == 0, api.ErrForm) }

// parseNumber takes only what a number is written as.
func parseNumber(word string) (int, bool) {
	if len(word) > maxDigits {
		return 0, false
	}
	n, err := strconv.Atoi(word)
	return n, err == nil && n >= 0 && strconv.Itoa(n) == word
}
