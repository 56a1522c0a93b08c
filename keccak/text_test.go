package keccak_test

import (
	"encoding/hex"
	"strings"
	"testing"

	"distraint/api"
	"distraint/keccak"
)

func reads(t *testing.T, s string, want api.Hash, err api.Errno) {
	t.Helper()
	if h, e := keccak.Read(s); h != want || e != err {
		t.Errorf("Read(%q): %x, %v; want %x, %v", s, h, e, want, err)
	}
}

// counted is a hash in which each byte and each half of one stands elsewhere than in its neighbours.
func counted() (h api.Hash) {
	for i := range h {
		h[i] = byte(i*0x11 + i/16*7 + 0x0e)
	}
	return
}

// TestText: P3.2: two digits for each byte, the higher one first.
func TestText(t *testing.T) {
	all := []api.Hash{{}, {0: 0xab}, {31: 0x1f}, {0: 0x01, 31: 0x10}, counted()}
	for n := range 256 {
		var h api.Hash
		h[n%32] = byte(n)
		all = append(all, h)
	}
	for _, h := range all {
		if s := keccak.Text(h); s != hex.EncodeToString(h[:]) {
			t.Errorf("Text(%x): %s", h, s)
		}
	}
}

// TestRead: P3.2: texts, among them the chapter's examples, and what is no text, by its length.
func TestRead(t *testing.T) {
	reads(t, strings.Repeat("0", 64), api.Hash{}, api.OK)
	reads(t, ofABC, keccak.Sum([]byte("abc")), api.OK)
	reads(t, "ab"+strings.Repeat("0", 60)+"1f", api.Hash{0: 0xab, 31: 0x1f}, api.OK)
	for n := range 200 {
		if n != 64 {
			reads(t, strings.Repeat("0", n), api.Hash{}, api.ErrForm)
			reads(t, strings.Repeat(ofABC, 4)[:n], api.Hash{}, api.ErrForm)
		}
	}
	for _, s := range []string{
		strings.Repeat("A", 64),
		strings.ToUpper(ofABC),
		" " + ofABC, ofABC + " ", " " + ofABC[1:], ofABC[1:] + "\n",
		"0x" + ofABC, "0x" + ofABC[2:], "+" + ofABC[1:], "-" + ofABC[1:],
		strings.Repeat("é", 32), strings.Repeat("é", 64),
		strings.Repeat("\x00", 64), strings.Repeat("\xff", 64),
		ofABC[:32] + "١" + ofABC[:30], // 64 bytes, with a digit of another script
	} {
		reads(t, s, api.Hash{}, api.ErrForm)
	}
}

// TestReadSigns: P3.2 and P3.5: every sign at every place of a text: it is read exactly if it is one of the sixteen, and told again as it was read.
func TestReadSigns(t *testing.T) {
	text := keccak.Text(counted())
	for at := range text {
		for c := range 256 {
			s := text[:at] + string([]byte{byte(c)}) + text[at+1:]
			if !strings.Contains("0123456789abcdef", s[at:at+1]) {
				reads(t, s, api.Hash{}, api.ErrForm)
				continue
			}
			h, err := keccak.Read(s)
			if err != api.OK || keccak.Text(h) != s {
				t.Errorf("Read(%s): %x, %v", s, h, err)
			}
		}
	}
}

// TestReadBack: P3.5: each hash is read from its text.
func TestReadBack(t *testing.T) {
	for n := range 500 {
		h := keccak.Sum(mixed(n))
		reads(t, keccak.Text(h), h, api.OK)
	}
	for n := range 256 {
		for at := range 32 {
			h := counted()
			h[at] = byte(n)
			reads(t, keccak.Text(h), h, api.OK)
		}
	}
}
