package script

import (
	"strconv"
	"strings"

	"notary/api"
)

// reader goes along a line.
type reader struct {
	line string
	at   int
}

// Parse is the operations of a script.
func Parse(text string) ([]api.Op, int, api.Errno) {
	var out []api.Op
	lines := strings.Split(text, "\n")
	last := len(lines) - 1
	for i, l := range lines[:last] {
		r := &reader{line: l}
		o, ok := r.op()
		if !ok || r.at != len(l) {
			return nil, i + 1, api.ErrForm
		}
		out = append(out, o)
	}
	if lines[last] != "" {
		return nil, last + 1, api.ErrForm
	}
	return out, 0, api.OK
}

// behind reads a word behind a blank.
func behind[T any](r *reader, read func() (T, bool)) (T, bool) {
	if r.at >= len(r.line) || r.line[r.at] != ' ' {
		var none T
		return none, false
	}
	r.at++
	return read()
}

// more asks whether something stands behind what was read.
func (r *reader) more() bool {
	return r.at < len(r.line)
}

// plain is the bytes up to a blank, or to the line's end.
func (r *reader) plain() string {
	end := r.at
	for end < len(r.line) && r.line[end] != ' ' {
		end++
	}
	out := r.line[r.at:end]
	r.at = end
	return out
}

// op reads an operation's line.
func (r *reader) op() (api.Op, bool) {
	name := r.plain()
	o := api.Op{}
	for kind := api.SesLoad; kind <= api.SesVerify; kind++ {
		if nameOf(kind) == name {
			o.Kind = kind
		}
	}
	ok := o.Kind != 0
	switch o.Kind {
	case api.SesLoad, api.SesNote:
		o.Text, ok = behind(r, r.quoted)
	case api.SesCheck:
		if r.more() {
			o.Text, ok = behind(r, r.quoted)
			ok = ok && o.Text != ""
		}
	case api.SesRefactor:
		o.Req, ok = r.asked()
	case api.SesCrash:
		o.N, ok = behind(r, r.number)
	}
	return o, ok
}

// asked reads a request.
func (r *reader) asked() (api.Request, bool) {
	var out api.Request
	for _, field := range []*int{&out.Kind, &out.From, &out.To} {
		n, ok := behind(r, r.number)
		if !ok {
			return api.Request{}, false
		}
		*field = n
	}
	name, ok := behind(r, r.quoted)
	if !ok {
		return api.Request{}, false
	}
	out.Name = name
	for r.more() {
		n, ok := behind(r, r.number)
		if !ok {
			return api.Request{}, false
		}
		out.Nums = append(out.Nums, n)
	}
	return out, true
}

// number reads an int, in the one form that it has.
func (r *reader) number() (int, bool) {
	word := r.plain()
	n, err := strconv.Atoi(word)
	if err != nil || number(n) != word {
		return 0, false
	}
	return n, true
}

// quoted reads a quoted text, in the one form that it has.
func (r *reader) quoted() (string, bool) {
	first := r.at
	if !r.more() || r.line[r.at] != '"' {
		return "", false
	}
	r.at++
	var out []byte
	for r.more() && r.line[r.at] != '"' {
		c, ok := r.byte()
		if !ok {
			return "", false
		}
		out = append(out, c)
	}
	if !r.more() {
		return "", false
	}
	r.at++
	text := string(out)
	return text, Quote(text) == r.line[first:r.at]
}

// byte reads a byte of a quoted text.
func (r *reader) byte() (byte, bool) {
	c := r.line[r.at]
	r.at++
	if c != '\\' {
		return c, true
	}
	if !r.more() {
		return 0, false
	}
	c = r.line[r.at]
	r.at++
	switch c {
	case 'n':
		return '\n', true
	case 'x':
		return r.hex()
	}
	return c, c == '"' || c == '\\'
}

// hex reads two digits, the higher one first.
func (r *reader) hex() (byte, bool) {
	if r.at+2 > len(r.line) {
		return 0, false
	}
	high := strings.IndexByte(hexDigits, r.line[r.at])
	low := strings.IndexByte(hexDigits, r.line[r.at+1])
	r.at += 2
	return byte(16*high + low), high >= 0 && low >= 0
}
