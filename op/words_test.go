package op_test

import (
	"encoding/binary"
	"reflect"
	"regexp"
	"slices"
	"strings"

	"escheat/api"
)

// The words of the chapter, told in another way than the program's.

const (
	maxInt  = int(^uint(0) >> 1)
	minInt  = -maxInt - 1
	maxData = 1024
)

var pathForm = regexp.MustCompile(`\A(/|(/[a-z0-9_]{1,8}){1,8})\z`)

// named are the fields that stand in the text of each kind, in their order.
var named = map[int][]string{
	1: {"Path"}, 2: {"Path"}, 3: {"Path"}, 5: {"Path"}, 8: {"Path"},
	4: {"Path", "To"}, 6: {"Path", "To"},
	7:  {"Path", "Size"},
	9:  {"Handle"},
	10: {"Handle", "Off", "Data"},
	11: {"Tick"}, 12: {"Tick"},
	13: {"Ino", "Moves", "Data"},
	14: {"Data", "Size", "Off"},
}

// own are the fields that each kind may have or not.
var own = []string{"Path", "To", "Size", "Handle", "Off", "Data", "Tick", "Ino", "Moves"}

// fieldOf is the field of o that is so named, to be read and set.
func fieldOf(o *api.Op, name string) reflect.Value {
	return reflect.ValueOf(o).Elem().FieldByName(name)
}

// big is v in size bytes, the highest first.
func big(v int64, size int) string {
	var b [8]byte
	binary.BigEndian.PutUint64(b[:], uint64(v))
	return string(b[8-size:])
}

// words is the text of o as the chapter lays it, whether o has a form or not.
func words(o api.Op) string {
	s := big(int64(o.Kind), 1) + big(int64(o.Client), 1) + big(int64(o.Seq), 4)
	for _, name := range named[o.Kind] {
		switch f := fieldOf(&o, name); name {
		case "Path", "To", "Data":
			s += big(int64(f.Len()), 2) + f.String()
		case "Tick":
			s += big(f.Int(), 8)
		case "Moves":
			s += big(int64(len(o.Moves)), 1)
			for _, m := range o.Moves {
				s += big(int64(m.Addr), 2) + big(int64(m.From), 2) + big(int64(m.Len), 2) + big(int64(m.At), 2)
			}
		default:
			s += big(f.Int(), 4)
		}
	}
	return s
}

// from tells if v is from least to most.
func from(v, least, most int) bool {
	return v >= least && v <= most
}

// hasForm tells if o has a record's form, as the chapter says it.
func hasForm(o api.Op) bool {
	if named[o.Kind] == nil || !from(o.Client, 0, 7) || !from(o.Seq, 1, 2147483647) {
		return false
	}
	for _, name := range own {
		if f := fieldOf(&o, name); !slices.Contains(named[o.Kind], name) && !(f.IsZero() || name == "Moves" && f.Len() == 0) {
			return false
		}
	}
	switch o.Kind {
	case 1, 2, 3, 5, 8:
		return pathForm.MatchString(o.Path)
	case 4, 6:
		return pathForm.MatchString(o.Path) && pathForm.MatchString(o.To)
	case 7:
		return pathForm.MatchString(o.Path) && from(o.Size, 0, 8192)
	case 9:
		return from(o.Handle, 0, 16383)
	case 10:
		return from(o.Handle, 0, 16383) && from(o.Off, 0, 8192) && from(len(o.Data), 1, maxData)
	case 11, 12:
		return o.Tick >= 0 && o.Tick <= 1099511627776
	case 14:
		return from(len(o.Data), 1, maxData) && from(o.Size, 1, 65536) && from(o.Off, 0, 65536) && o.Off+len(o.Data) <= o.Size
	}
	for _, m := range o.Moves {
		if !from(m.Addr, 0, 16383) || !from(m.From, 0, maxData) || !from(m.Len, 1, maxData) || !from(m.At, 0, maxData) || m.At+m.Len > len(o.Data) {
			return false
		}
	}
	return from(o.Ino, 1, 2147483647) && from(len(o.Moves), 1, 16) && len(o.Data) <= maxData
}

// cutter takes fields out of a text.
type cutter struct {
	s    string
	lack bool
}

func (c *cutter) bytes(n int) string {
	if n > len(c.s) {
		c.s, c.lack = "", true
		return ""
	}
	s := c.s[:n]
	c.s = c.s[n:]
	return s
}

func (c *cutter) num(size int) int {
	s := strings.Repeat("\x00", 8-size) + c.bytes(size)
	if c.lack {
		return 0
	}
	return int(binary.BigEndian.Uint64([]byte(s)))
}

// recordOf is the record whose text s is, as the chapter says it; false, if there is none.
func recordOf(s string) (api.Op, bool) {
	c := &cutter{s: s}
	o := api.Op{Kind: c.num(1), Client: c.num(1), Seq: c.num(4)}
	for _, name := range named[o.Kind] {
		switch f := fieldOf(&o, name); name {
		case "Path", "To", "Data":
			f.SetString(c.bytes(c.num(2)))
		case "Tick":
			f.SetInt(int64(c.num(8)))
		case "Moves":
			for range c.num(1) {
				o.Moves = append(o.Moves, api.Move{Addr: c.num(2), From: c.num(2), Len: c.num(2), At: c.num(2)})
			}
		default:
			f.SetInt(int64(c.num(4)))
		}
	}
	if c.lack || c.s != "" || !hasForm(o) {
		return api.Op{}, false
	}
	return o, true
}

// letters is a text of n bytes that are not all alike.
func letters(n int) string {
	var b strings.Builder
	for i := range n {
		b.WriteByte(byte(i*7 + i>>8))
	}
	return b.String()
}

// by is o by client 5, Seq 0x01020304.
func by(o api.Op) api.Op {
	o.Client, o.Seq = 5, 0x01020304
	return o
}

// moving is a Move of the moves l with n bytes of data.
func moving(n int, l ...api.Move) api.Op {
	return by(api.Op{Kind: 13, Ino: 9, Moves: l, Data: letters(n)})
}

// records are one of each kind, the first one first: kind k stands at k - 1.
func records() []api.Op {
	l := []api.Op{
		{Kind: 1, Path: "/a"},
		{Kind: 2, Path: "/a/b"},
		{Kind: 3, Path: "/usr/f_1"},
		{Kind: 4, Path: "/a/b", To: "/c"},
		{Kind: 5, Path: "/c"},
		{Kind: 6, Path: "/x", To: "/y/z"},
		{Kind: 7, Path: "/f", Size: 0x1234},
		{Kind: 8, Path: "/g"},
		{Kind: 9, Handle: 0x0102},
		{Kind: 10, Handle: 0x2345, Off: 0x0678, Data: "hello"},
		{Kind: 11, Tick: 0x0012345678},
		{Kind: 12, Tick: 0x00abcdef01},
		{Kind: 13, Ino: 0x11223344, Moves: []api.Move{{Addr: 0x0102, From: 0x0304, Len: 3, At: 2}, {Addr: 0x2bcd, From: 0, Len: 5, At: 0}}, Data: "moved"},
		{Kind: 14, Data: "piece", Size: 0xfedc, Off: 0x0400},
	}
	for i := range l {
		l[i] = by(l[i])
	}
	return l
}
