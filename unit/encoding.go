package unit

import (
	"putlog/api"
	"putlog/wire"
)

// Encode returns the encoding of u, or ErrUnit if u is not valid.
func Encode(u api.Unit) (string, api.Errno) {
	if !Valid(u) {
		return "", api.ErrUnit
	}
	var e encoder
	e.unit(u)
	return e.text, api.OK
}

// Decode returns the valid unit with the encoding s, or ErrUnit if there is none.
func Decode(s string) (api.Unit, api.Errno) {
	d := decoder{text: s}
	return d.unit()
}

// builder writes numbers, one after the other.
type builder struct {
	text string
}

// numbers writes the encodings of numbers that wire can encode.
func (b *builder) numbers(numbers ...int) {
	for _, n := range numbers {
		s, _ := wire.PutInt(n)
		b.text += s
	}
}

// encoder writes units.
type encoder struct {
	builder
}

// unit writes u, which is valid: all its numbers are small.
func (e *encoder) unit(u api.Unit) {
	e.numbers(u.ID, u.Kind, u.Material, u.Back, u.Front, len(u.Shape))
	for _, c := range u.Shape {
		e.numbers(c.X, c.Y)
	}
}

// decoder reads text from the offset at on.
type decoder struct {
	text string
	at   int
}

// unit reads the valid unit whose encoding is the whole text, or returns ErrUnit.
func (d *decoder) unit() (u api.Unit, err api.Errno) {
	defer func() {
		if recover() != nil {
			u, err = api.Unit{}, api.ErrUnit
		}
	}()
	u = api.Unit{ID: d.number(), Kind: d.number(), Material: d.number(), Back: d.number(), Front: d.number()}
	u.Shape = d.shape()
	d.require(d.at == len(d.text) && Valid(u))
	return u, api.OK
}

// shape reads the number of corners, and the corners. However great the number is, it stops where the text ends.
func (d *decoder) shape() []api.Place {
	var corners []api.Place
	for range d.number() {
		corners = append(corners, api.Place{X: d.number(), Y: d.number()})
	}
	return corners
}

// number reads a number.
func (d *decoder) number() int {
	n, next, err := wire.Int(d.text, d.at)
	d.require(err == api.OK)
	d.at = next
	return n
}

// require stops the decoder unless ok: there is no unit with this encoding.
func (d *decoder) require(ok bool) {
	if !ok {
		panic(api.ErrUnit)
	}
}
