package params

import (
	"strconv"
	"strings"

	"distraint/api"
)

const (
	blank    = " "
	lineFeed = "\n"
	// maxDigits are so few that a number of them cannot be too large for 64 bits.
	maxDigits = 10
)

// Text tells the text form of params.
func Text(p api.Params) (string, api.Errno) {
	if err, _ := Check(p); err != api.OK {
		return "", err
	}
	var text strings.Builder
	for _, f := range fields(&p) {
		text.WriteString(f.name + blank + strconv.FormatUint(f.get(), 10) + lineFeed)
	}
	return text.String(), api.OK
}

// Parse tells the params whose text form s is. What is behind the last line feed, be it nothing, comes as a line as well: it is a fault unless it is nothing, behind all fields.
func Parse(s string) (api.Params, api.Fault) {
	var p api.Params
	all, at := fields(&p), 0
	for line := range strings.SplitAfterSeq(s, lineFeed) {
		if at == len(all) {
			if line != "" {
				return api.Params{}, api.Fault{Err: api.ErrLong, At: at}
			}
			break
		}
		err := all[at].parse(line)
		if err == api.OK && !ordered(p) {
			err = api.ErrOrder
		}
		if err != api.OK {
			return api.Params{}, api.Fault{Err: err, At: at}
		}
		at++
	}
	return p, api.Fault{}
}

// parse gives the field the value that its line tells.
func (f field) parse(line string) api.Errno {
	line, ended := strings.CutSuffix(line, lineFeed)
	if !ended {
		return api.ErrShort
	}
	value, named := strings.CutPrefix(line, f.name+blank)
	n, formed := digits(value).number()
	if !named || !formed {
		return api.ErrForm
	}
	if !f.admits(n) {
		return api.ErrRange
	}
	f.set(n)
	return api.OK
}

// digits is a text that should be a number.
type digits string

// number tells the number, and whether the text is the one that it is written as.
func (d digits) number() (n uint64, formed bool) {
	if d == "" || len(d) > maxDigits || len(d) > 1 && d[0] == '0' {
		return 0, false
	}
	for _, c := range d {
		if c < '0' || c > '9' {
			return 0, false
		}
		n = n*10 + uint64(c-'0')
	}
	return n, true
}
