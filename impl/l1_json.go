package impl

import (
	"maps"
	"slices"
	"strconv"
	"strings"
	"unicode/utf8"
)

const MaxText = 20000
const MaxDepth = 100
const MaxValues = 3000

// Canon gives the canonical text of a text of JSON.
func Canon(text string) (string, int) {
	root, code := readText(text)
	if code != 0 {
		return "", code
	}
	return canonText(root), 0
}

// Measure gives depth and count.
func Measure(text string) (int, int, int) {
	root, code := readText(text)
	if code != 0 {
		return 0, 0, code
	}
	s := sizeOf(root)
	return s.depth, s.count, 0
}

// Quote writes a string of JSON.
func Quote(s string) (string, bool) {
	if len(s) > MaxText || !utf8.ValidString(s) {
		return "", false
	}
	return canonText(stringValue(s)), true
}

// Unquote reads a string of JSON.
func Unquote(text string) (string, bool) {
	if len(text) > MaxText {
		return "", false
	}
	r := &reader{cursor: cursor{text: text}}
	s := ""
	ok := fits(func() {
		s = r.readString()
		r.readEnd()
	})
	if !ok {
		return "", false
	}
	return s, true
}

// PtrTokens cuts a pointer into tokens.
func PtrTokens(ptr string) ([]string, bool) {
	if ptr == "" {
		return nil, true
	}
	pieces := strings.Split(ptr, "/")
	if pieces[0] != "" {
		return nil, false
	}
	tokens := make([]string, 0, len(pieces)-1)
	for _, piece := range pieces[1:] {
		token, ok := unescapeToken(piece)
		if !ok {
			return nil, false
		}
		tokens = append(tokens, token)
	}
	return tokens, true
}

// PtrText writes a pointer.
func PtrText(tokens []string) string {
	var b strings.Builder
	for _, token := range tokens {
		writeToken(&b, token)
	}
	return b.String()
}

// Within tells how two pointers lie.
func Within(a string, b string) int {
	first, firstOk := PtrTokens(a)
	second, secondOk := PtrTokens(b)
	if !firstOk || !secondOk {
		return -1
	}
	shared := min(len(first), len(second))
	switch {
	case !slices.Equal(first[:shared], second[:shared]):
		return 0
	case len(first) == len(second):
		return 1
	case len(first) < len(second):
		return 2
	}
	return 3
}

// Resolve gives the value at a place.
func Resolve(doc string, ptr string) (string, int) {
	root, code := readText(doc)
	if code != 0 {
		return "", 1
	}
	return resolveIn(root, ptr)
}

// Places lists all places.
func Places(doc string) ([]string, int) {
	root, code := readText(doc)
	if code != 0 {
		return nil, 1
	}
	return appendPlaces(nil, "", root), 0
}

// value is one value of JSON. It is not changed once it is made, so that any
// number of holders can share it.
type value interface {
	write(b *strings.Builder)
}

type nullValue struct{}

type boolValue bool

type intValue int64

// stringValue holds the bytes that the string stands for, always valid UTF-8.
type stringValue string

type arrayValue struct {
	items []value
}

type objectValue struct {
	members map[string]value
}

// part is a value right inside of another one, with the token that leads to it.
type part struct {
	token string
	value value
}

func canonText(v value) string {
	var b strings.Builder
	v.write(&b)
	return b.String()
}

func (nullValue) write(b *strings.Builder) {
	b.WriteString("null")
}

func (v boolValue) write(b *strings.Builder) {
	b.WriteString(strconv.FormatBool(bool(v)))
}

func (v intValue) write(b *strings.Builder) {
	b.WriteString(strconv.FormatInt(int64(v), 10))
}

func (v stringValue) write(b *strings.Builder) {
	b.WriteByte('"')
	for _, r := range string(v) {
		writePiece(b, r)
	}
	b.WriteByte('"')
}

func (v *arrayValue) write(b *strings.Builder) {
	b.WriteByte('[')
	for i, item := range v.items {
		if i > 0 {
			b.WriteByte(',')
		}
		item.write(b)
	}
	b.WriteByte(']')
}

func (v *objectValue) write(b *strings.Builder) {
	b.WriteByte('{')
	for i, key := range v.sortedKeys() {
		if i > 0 {
			b.WriteByte(',')
		}
		stringValue(key).write(b)
		b.WriteByte(':')
		v.members[key].write(b)
	}
	b.WriteByte('}')
}

// sortedKeys stands between the map and all that is told of it, since the order
// of a map is not fixed.
func (v *objectValue) sortedKeys() []string {
	return slices.Sorted(maps.Keys(v.members))
}

const smallHexDigits = "0123456789abcdef"

func writePiece(b *strings.Builder, r rune) {
	switch r {
	case '"':
		b.WriteString(`\"`)
	case '\\':
		b.WriteString(`\\`)
	case '\b':
		b.WriteString(`\b`)
	case '\t':
		b.WriteString(`\t`)
	case '\n':
		b.WriteString(`\n`)
	case '\f':
		b.WriteString(`\f`)
	case '\r':
		b.WriteString(`\r`)
	default:
		if r >= 32 {
			b.WriteRune(r)
			return
		}
		b.WriteString(`\u00`)
		b.WriteByte(smallHexDigits[r>>4])
		b.WriteByte(smallHexDigits[r&15])
	}
}

// partsOf lists what is right inside of a value, in the order in which the
// document tells it.
func partsOf(v value) []part {
	var parts []part
	switch x := v.(type) {
	case *arrayValue:
		for i, item := range x.items {
			parts = append(parts, part{strconv.Itoa(i), item})
		}
	case *objectValue:
		for _, key := range x.sortedKeys() {
			parts = append(parts, part{key, x.members[key]})
		}
	}
	return parts
}

// equal holds for two values that are not there as well. It does not hold texts
// against each other, since a string that is asked for may have any bytes.
func equal(a value, b value) bool {
	if a == b {
		return true
	}
	switch x := a.(type) {
	case *arrayValue:
		y, ok := b.(*arrayValue)
		return ok && slices.EqualFunc(x.items, y.items, equal)
	case *objectValue:
		y, ok := b.(*objectValue)
		return ok && maps.EqualFunc(x.members, y.members, equal)
	}
	return false
}

// size is what a good text has only so much of; bytes are those of the canonical
// text.
type size struct {
	depth int
	count int
	bytes int
}

// sizeOf needs no order of the members, so it is much cheaper than writing the
// value.
func sizeOf(v value) size {
	switch x := v.(type) {
	case *arrayValue:
		s := holderSize(len(x.items))
		for _, item := range x.items {
			s.include(item)
		}
		return s
	case *objectValue:
		s := holderSize(len(x.members))
		for key, inner := range x.members {
			s.bytes += len(canonText(stringValue(key))) + len(":")
			s.include(inner)
		}
		return s
	}
	return size{1, 1, len(canonText(v))}
}

// holderSize is the size of brackets with as many commas as the parts need.
func holderSize(parts int) size {
	return size{1, 1, len("[]") + max(0, parts-1)}
}

func (s *size) include(v value) {
	inner := sizeOf(v)
	s.depth = max(s.depth, inner.depth+1)
	s.count += inner.count
	s.bytes += inner.bytes
}

// resolveIn is Resolve in a document that has been read.
func resolveIn(v value, ptr string) (string, int) {
	tokens, ok := PtrTokens(ptr)
	if !ok {
		return "", 2
	}
	for _, token := range tokens {
		if v, ok = child(v, token); !ok {
			return "", 3
		}
	}
	return canonText(v), 0
}

func child(v value, token string) (value, bool) {
	switch x := v.(type) {
	case *arrayValue:
		i, ok := readIndex(token)
		if !ok || i >= len(x.items) {
			return nil, false
		}
		return x.items[i], true
	case *objectValue:
		member, ok := x.members[token]
		return member, ok
	}
	return nil, false
}

const maxIndexDigits = 6

// readIndex leaves it to the caller to hold the number against a length: some
// places allow the length itself.
func readIndex(token string) (int, bool) {
	if len(token) > 1 && token[0] == '0' {
		return 0, false
	}
	return readDigits(token, maxIndexDigits)
}

// readDigits reads a text that has at least one digit, at most so many, and no
// other byte.
func readDigits(text string, most int) (int, bool) {
	if text == "" || len(text) > most {
		return 0, false
	}
	n := 0
	for i := range len(text) {
		if !isDigit(text[i]) {
			return 0, false
		}
		n = n*10 + int(text[i]-'0')
	}
	return n, true
}

func appendPlaces(places []string, ptr string, v value) []string {
	places = append(places, ptr)
	for _, p := range partsOf(v) {
		places = appendPlaces(places, ptr+PtrText([]string{p.token}), p.value)
	}
	return places
}

func isPointer(text string) bool {
	_, ok := PtrTokens(text)
	return ok
}

func writeToken(b *strings.Builder, token string) {
	b.WriteByte('/')
	for i := range len(token) {
		switch token[i] {
		case '~':
			b.WriteString("~0")
		case '/':
			b.WriteString("~1")
		default:
			b.WriteByte(token[i])
		}
	}
}

func unescapeToken(piece string) (string, bool) {
	var b strings.Builder
	for i := 0; i < len(piece); i++ {
		if piece[i] != '~' {
			b.WriteByte(piece[i])
			continue
		}
		i++
		if i == len(piece) {
			return "", false
		}
		switch piece[i] {
		case '0':
			b.WriteByte('~')
		case '1':
			b.WriteByte('/')
		default:
			return "", false
		}
	}
	return b.String(), true
}

// cursor goes once through a text; readers of every form lean on it.
type cursor struct {
	text string
	at   int
}

// reader reads JSON. Numbers out of range and keys that stand twice are only
// noted: a fault of form behind them comes first.
type reader struct {
	cursor
	tooBig   bool
	keyTwice bool
}

// misfit is what a reader panics with at the first byte that does not fit.
type misfit struct{}

// fits says whether a reading came to its end. Another panic than the reader's
// own would be a fault of the program and is not hidden.
func fits(read func()) (ok bool) {
	defer func() {
		if cause := recover(); cause != nil {
			if _, own := cause.(misfit); !own {
				panic(cause)
			}
			ok = false
		}
	}()
	read()
	return true
}

// readText gives the value of a text and Canon's code.
func readText(text string) (value, int) {
	if len(text) > MaxText {
		return nil, 1
	}
	r := &reader{cursor: cursor{text: text}}
	var root value
	ok := fits(func() {
		root = r.readValue()
		r.readEnd()
	})
	switch {
	case !ok:
		return nil, 2
	case r.tooBig:
		return nil, 3
	case r.keyTwice:
		return nil, 4
	}
	if s := sizeOf(root); s.depth > MaxDepth || s.count > MaxValues {
		return nil, 5
	}
	return root, 0
}

// readCanonText says by its second answer whether a text is good and in canonical
// form.
func readCanonText(text string) (value, bool) {
	root, code := readText(text)
	if code != 0 || canonText(root) != text {
		return nil, false
	}
	return root, true
}

// peek gives the byte 0 at the end: no value begins with it and it is no digit.
func (r *cursor) peek() byte {
	if r.at == len(r.text) {
		return 0
	}
	return r.text[r.at]
}

func (r *cursor) next() byte {
	if r.at == len(r.text) {
		panic(misfit{})
	}
	c := r.text[r.at]
	r.at++
	return c
}

func (r *cursor) expect(c byte) {
	if r.next() != c {
		panic(misfit{})
	}
}

// skip goes over a byte that may stand there, and says whether it did.
func (r *cursor) skip(c byte) bool {
	if r.at == len(r.text) || r.text[r.at] != c {
		return false
	}
	r.at++
	return true
}

func (r *cursor) readWord(word string) {
	for i := range len(word) {
		r.expect(word[i])
	}
}

func (r *cursor) readEnd() {
	if r.at != len(r.text) {
		panic(misfit{})
	}
}

func (r *reader) skipBlanks() {
	for r.skip(' ') || r.skip('\t') || r.skip('\n') || r.skip('\r') {
	}
}

// readValue takes the blanks on both sides too, so that what stands around a
// value needs to know of none.
func (r *reader) readValue() value {
	r.skipBlanks()
	v := r.readBareValue()
	r.skipBlanks()
	return v
}

func (r *reader) readBareValue() value {
	switch r.peek() {
	case 'n':
		r.readWord("null")
		return nullValue{}
	case 't':
		r.readWord("true")
		return boolValue(true)
	case 'f':
		r.readWord("false")
		return boolValue(false)
	case '"':
		return stringValue(r.readString())
	case '[':
		return r.readArray()
	case '{':
		return r.readObject()
	}
	return r.readNumber()
}

func (r *reader) readNumber() value {
	start := r.at
	r.skip('-')
	if !isDigit(r.peek()) {
		panic(misfit{})
	}
	if !r.skip('0') {
		for isDigit(r.peek()) {
			r.at++
		}
	}
	n, err := strconv.ParseInt(r.text[start:r.at], 10, 64)
	if err != nil {
		r.tooBig = true
	}
	return intValue(n)
}

func isDigit(c byte) bool {
	return '0' <= c && c <= '9'
}

func (r *reader) readArray() value {
	v := &arrayValue{}
	r.expect('[')
	r.skipBlanks()
	if r.skip(']') {
		return v
	}
	v.items = append(v.items, r.readValue())
	for r.skip(',') {
		v.items = append(v.items, r.readValue())
	}
	r.expect(']')
	return v
}

func (r *reader) readObject() value {
	v := &objectValue{members: map[string]value{}}
	r.expect('{')
	r.skipBlanks()
	if r.skip('}') {
		return v
	}
	r.readMember(v.members)
	for r.skip(',') {
		r.readMember(v.members)
	}
	r.expect('}')
	return v
}

func (r *reader) readMember(members map[string]value) {
	r.skipBlanks()
	key := r.readString()
	r.skipBlanks()
	r.expect(':')
	v := r.readValue()
	if _, there := members[key]; there {
		r.keyTwice = true
	}
	members[key] = v
}

func (r *reader) readString() string {
	var b strings.Builder
	r.expect('"')
	for !r.skip('"') {
		b.WriteRune(r.readPiece())
	}
	return b.String()
}

// readPiece leans on the decoder, which refuses long forms, surrogates and
// runes above 10FFFF by a wrong rune of at most one byte.
func (r *reader) readPiece() rune {
	if r.skip('\\') {
		return r.readEscape()
	}
	piece, size := utf8.DecodeRuneInString(r.text[r.at:])
	if piece == utf8.RuneError && size <= 1 || piece < 32 {
		panic(misfit{})
	}
	r.at += size
	return piece
}

func (r *reader) readEscape() rune {
	c := r.next()
	switch c {
	case '"', '\\', '/':
		return rune(c)
	case 'b':
		return '\b'
	case 'f':
		return '\f'
	case 'n':
		return '\n'
	case 'r':
		return '\r'
	case 't':
		return '\t'
	case 'u':
		return r.readHexRune()
	}
	panic(misfit{})
}

// readHexRune stands behind `\u`.
func (r *reader) readHexRune() rune {
	first := r.readHexNumber()
	if first < 0xD800 || first > 0xDFFF {
		return first
	}
	if first > 0xDBFF {
		panic(misfit{})
	}
	r.readWord(`\u`)
	second := r.readHexNumber()
	if second < 0xDC00 || second > 0xDFFF {
		panic(misfit{})
	}
	return 0x10000 + (first-0xD800)*0x400 + (second - 0xDC00)
}

func (r *reader) readHexNumber() rune {
	var n rune
	for range 4 {
		n = n*16 + hexDigit(r.next())
	}
	return n
}

func hexDigit(c byte) rune {
	switch {
	case isDigit(c):
		return rune(c - '0')
	case 'a' <= c && c <= 'f':
		return rune(c-'a') + 10
	case 'A' <= c && c <= 'F':
		return rune(c-'A') + 10
	}
	panic(misfit{})
}
