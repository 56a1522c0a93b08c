package params_test

import (
	"fmt"
	"regexp"
	"strconv"
	"strings"
	"testing"

	"distraint/api"
	"distraint/params"
)

// lines tells the lines of a text form, without their line feeds.
func lines(p api.Params) (l []string) {
	for i, x := range rows() {
		l = append(l, fmt.Sprintf("%s %d", x.name, value(p, i)))
	}
	return
}

// joined tells the text of lines, each with its line feed.
func joined(l ...string) string {
	if len(l) == 0 {
		return ""
	}
	return strings.Join(l, "\n") + "\n"
}

func fault(err api.Errno, at int) api.Fault { return api.Fault{Err: err, At: at} }

// refusesText: a text is not read, for this reason, which the model tells as well.
func refusesText(t *testing.T, s string, err api.Errno, at int) {
	t.Helper()
	if _, f := parsed(s); f != fault(err, at) {
		t.Fatalf("the model tells %v of %q; want %v", f, s, fault(err, at))
	}
	parsesAsModel(t, s)
}

// refusesLine: the line at is refused, whatever follows it: the lines that belong there, nothing, or more that is wrong.
func refusesLine(t *testing.T, l []string, at int, line string, err api.Errno) {
	t.Helper()
	head := joined(l[:at]...) + line + "\n"
	refusesText(t, head+joined(l[at+1:]...), err, at)
	refusesText(t, head, err, at)
	refusesText(t, head+"x", err, at)
	refusesText(t, head+joined("x 0", "", "unbonding 0"), err, at)
}

// form is the pattern of a line: it finds the name and the value.
var form = regexp.MustCompile(`\A([a-z]+) (0|[1-9][0-9]{0,9})\z`)

// parsed is a model of Parse: it splits off all lines at once, and matches each with a pattern.
func parsed(s string) (api.Params, api.Fault) {
	parts := strings.Split(s, "\n")
	rest := parts[len(parts)-1]
	parts = parts[:len(parts)-1]
	var values []uint64
	for i, x := range rows() {
		if i == len(parts) {
			return api.Params{}, fault(api.ErrShort, i)
		}
		found := form.FindStringSubmatch(parts[i])
		if found == nil || found[1] != x.name {
			return api.Params{}, fault(api.ErrForm, i)
		}
		n, err := strconv.ParseUint(found[2], 10, 64)
		if err != nil || n < x.least || n > x.most {
			return api.Params{}, fault(api.ErrRange, i)
		}
		values = append(values, n)
		if i == 1 && n > values[0] {
			return api.Params{}, fault(api.ErrOrder, i)
		}
	}
	if len(parts) > len(rows()) || rest != "" {
		return api.Params{}, fault(api.ErrLong, 11)
	}
	return filled(values), api.Fault{}
}

// parsesAsModel: Parse tells what the model does; what is read has the text that was read, which is P7.6.
func parsesAsModel(t *testing.T, s string) (read bool) {
	t.Helper()
	want, why := parsed(s)
	p, f := params.Parse(s)
	if p != want || f != why {
		t.Errorf("Parse(%q): %+v, %v; want %+v, %v", s, p, f, want, why)
	}
	if f != (api.Fault{}) {
		return false
	}
	if again, err := params.Text(p); again != s || err != api.OK {
		t.Errorf("%q is read as %+v, whose text is %q, %v", s, p, again, err)
	}
	return true
}

// TestText: P7.3 and P7.6: each text form, and that it is read as what it was made from.
func TestText(t *testing.T) {
	for _, p := range valid() {
		want := joined(lines(p)...)
		s, err := params.Text(p)
		if s != want || err != api.OK {
			t.Errorf("Text(%+v): %q, %v; want %q", p, s, err, want)
		}
		if again, err := params.Text(p); again != want || err != api.OK {
			t.Errorf("Text(%+v), once more: %q, %v", p, again, err)
		}
		if is, f := params.Parse(s); is != p || f != (api.Fault{}) {
			t.Errorf("Parse(%q): %+v, %v; want %+v", s, is, f, p)
		}
		parsesAsModel(t, s)
	}
}

// texts are lines to be broken: of the default, of free params, and of those at both ends.
func texts() [][]string {
	return [][]string{lines(params.Default()), lines(free()), lines(filled(column(least))), lines(filled(column(most)))}
}

// TestParsesCutShort: P7.3: a text that ends anywhere lacks the line in which, or ahead of which, it ends.
func TestParsesCutShort(t *testing.T) {
	for _, l := range texts() {
		s := joined(l...)
		for n := range len(s) {
			refusesText(t, s[:n], api.ErrShort, strings.Count(s[:n], "\n"))
		}
	}
}

// TestParsesUnended: P7.3: a line without its line feed is short, however wrong it is otherwise.
func TestParsesUnended(t *testing.T) {
	for _, l := range texts() {
		for i, x := range rows() {
			for _, line := range []string{"x", " ", "\r", x.name, x.name + " 00", x.name + " -1", x.name + " 9999999999", x.name + " 12345678901", strings.Repeat("unbonding 1 ", 1000)} {
				refusesText(t, joined(l[:i]...)+line, api.ErrShort, i)
			}
		}
	}
}

// TestParsesTooMuch: P7.3: anything behind the eleventh line.
func TestParsesTooMuch(t *testing.T) {
	for _, l := range texts() {
		s := joined(l...)
		for _, more := range []string{"x", "\n", " ", "\r\n", "\x00", "\n\n", "x\n", l[10], l[10] + "\n", l[0] + "\n", "unbonding 0\n", s} {
			refusesText(t, s+more, api.ErrLong, 11)
		}
	}
}

// TestParsesWrongLines: P7.3: each line missing, twice, in the other one's place, and one more ahead of it.
func TestParsesWrongLines(t *testing.T) {
	for _, l := range texts() {
		for i := range l {
			missing := joined(l[:i]...) + joined(l[i+1:]...)
			if i < 10 {
				refusesText(t, missing, api.ErrForm, i)
				refusesLine(t, l, i+1, l[i], api.ErrForm)
				refusesText(t, joined(l[:i+1]...)+joined(l[i:]...), api.ErrForm, i+1)
			} else {
				refusesText(t, missing, api.ErrShort, i)
				refusesText(t, joined(l...)+joined(l[10]), api.ErrLong, 11)
			}
			for j := range l {
				if j != i {
					refusesLine(t, l, i, l[j], api.ErrForm)
				}
			}
			refusesText(t, joined(l[:i]...)+"\n"+joined(l[i:]...), api.ErrForm, i)
			refusesText(t, joined(l[:i]...)+"x 1\n"+joined(l[i:]...), api.ErrForm, i)
		}
	}
}

// noLines tells lines that are not one of the field x, whatever the value is.
func noLines(x row) []string {
	n := strconv.FormatUint(x.usual, 10)
	l := []string{
		"", " ", x.name, x.name + " ", n, " " + n, x.name + n, x.name + "  " + n, " " + x.name + " " + n, x.name + " " + n + " ",
		x.name + "\t" + n, x.name + "\u00a0" + n, x.name + "=" + n, x.name + ": " + n, x.name + "_" + n,
		x.name + " " + n + "\r", x.name + "\r " + n, "\r" + x.name + " " + n, x.name + " \r" + n, x.name + " " + n + "\x00", x.name + "\x00 " + n,
		x.field + " " + n, strings.ToUpper(x.name) + " " + n, x.name[1:] + " " + n, x.name[:len(x.name)-1] + " " + n, x.name + "s " + n, x.name + " " + x.name + " " + n,
	}
	for _, value := range []string{
		"00", "000", "0000000000", "0" + n, "00" + n, "01", "+" + n, "-" + n, "-0", "+0", "--1", "- 1", n + "-", n + " 0", n + "," + n,
		"0x1", "1e1", "1.0", "1_0", ".5", "one", "x", "/", ":", "1/", "1:", "/1", ":1", "1\x80", "\xb1", "1\xff", "１", "٣", "1²",
		"12345678901", "10000000000", "00000000001", "99999999999", "18446744073709551615", "18446744073709551616", "18446744073709551617", strings.Repeat("1", 30),
	} {
		l = append(l, x.name+" "+value)
	}
	return l
}

// TestParsesWrongForms: P7.3.
func TestParsesWrongForms(t *testing.T) {
	for _, l := range texts() {
		for i, x := range rows() {
			for _, line := range noLines(x) {
				refusesLine(t, l, i, line, api.ErrForm)
			}
			refusesText(t, strings.ReplaceAll(joined(l...), "\n", "\r\n"), api.ErrForm, 0)
			refusesText(t, strings.ReplaceAll(joined(l...), "\n", "\r"), api.ErrShort, 0)
		}
	}
}

// TestParsesBounds: P7.3: each value at its bounds and beyond, up to ten digits; what has eleven is no value.
func TestParsesBounds(t *testing.T) {
	for i, x := range rows() {
		l := lines(free())
		for _, n := range in(i) {
			s := joined(lines(with(free(), i, n))...)
			if p, f := params.Parse(s); p != with(free(), i, n) || f != (api.Fault{}) {
				t.Errorf("Parse(%q): %+v, %v", s, p, f)
			}
		}
		for _, n := range append(out(i), 1<<32+1, 1000000001, 1410065408, 4294967295, 9999999999, 10000000000) {
			line := x.name + " " + strconv.FormatUint(n, 10)
			if n <= 9999999999 {
				refusesLine(t, l, i, line, api.ErrRange)
			} else {
				refusesLine(t, l, i, line, api.ErrForm)
			}
		}
	}
}

// TestParsesOrder: P7.3: MaxAge greater than Unbonding is told in the line 1, whatever follows it, and other faults of that line ahead of it.
func TestParsesOrder(t *testing.T) {
	for _, n := range []uint64{1, 2, 100, 1<<20 - 1} {
		l := lines(with(with(free(), 0, n), 1, n))
		if p, f := params.Parse(joined(l...)); p.MaxAge != int(n) || f != (api.Fault{}) {
			t.Errorf("Parse(%q): %+v, %v", joined(l...), p, f)
		}
		for _, m := range []uint64{n + 1, 1 << 20} {
			refusesLine(t, l, 1, fmt.Sprint("maxage ", m), api.ErrOrder)
			refusesLine(t, l, 1, fmt.Sprint("maxage ", m, " "), api.ErrForm)
			refusesText(t, joined(l[0])+fmt.Sprint("maxage ", m), api.ErrShort, 1)
		}
		refusesLine(t, l, 1, fmt.Sprint("maxage ", 1<<20+1), api.ErrRange)
	}
}

// TestParsesChanged: P7.3 and P7.6: texts that differ from a text form in one byte, of which some are text forms too.
func TestParsesChanged(t *testing.T) {
	read, refused := 0, 0
	count := func(s string) {
		if parsesAsModel(t, s) {
			read++
		} else {
			refused++
		}
	}
	for _, l := range texts() {
		s := joined(l...)
		for i := range len(s) {
			count(s[:i] + s[i+1:])
			for _, c := range []byte("\x00\n\r 0159-+:/ax\x80\xff") {
				count(s[:i] + string([]byte{c}) + s[i+1:])
				count(s[:i] + string([]byte{c}) + s[i:])
			}
		}
	}
	if read < 100 || refused < 1000 {
		t.Errorf("%d are read, %d refused", read, refused)
	}
}

// TestTextExamples: the chapter's table, its third row without the bytes, and its fourth.
func TestTextExamples(t *testing.T) {
	s, err := params.Text(params.Default())
	if len(s) != 132 || err != api.OK || strings.SplitAfter(s, "\n")[1] != "maxage 100\n" {
		t.Errorf("Text: %q, %v", s, err)
	}
	refusesText(t, s[:131], api.ErrShort, 10)
	refusesText(t, s+"x", api.ErrLong, 11)
	refusesText(t, "unbonding 0100\n", api.ErrForm, 0)
	refusesText(t, "unbonding 0\n", api.ErrRange, 0)
	refusesText(t, "", api.ErrShort, 0)
}

func FuzzParse(f *testing.F) {
	f.Add("")
	for _, l := range texts() {
		f.Add(joined(l...))
	}
	f.Fuzz(func(t *testing.T, s string) { parsesAsModel(t, s) })
}
