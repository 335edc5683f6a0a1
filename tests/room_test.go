package tests

import (
	"bytes"
	"testing"
)

const spareByte = 0xee

// roomy answers the bytes of s, with spare room behind them, and that room and
// they together.
func roomy(s string) (arg []byte, whole []byte) {
	whole = append([]byte(s), bytes.Repeat([]byte{spareByte}, 100)...)
	return whole[:len(s)], whole
}

// checkRoom fails when a call writes into its argument or the spare room behind
// it, or when its answer shares memory with these.
func checkRoom(t *testing.T, name string, s string, call func(b []byte) []byte) {
	t.Helper()
	arg, whole := roomy(s)
	before := bytes.Clone(whole)
	got := call(arg)
	if !bytes.Equal(whole, before) {
		t.Errorf("%s of %x: the argument is written: %x", name, s, whole)
	}
	said := bytes.Clone(got)
	for i := range whole {
		whole[i] ^= 0xff
	}
	if !bytes.Equal(got, said) {
		t.Errorf("%s of %x: the answer goes with the argument: %x, not %x", name, s, got, said)
	}
	copy(whole, before)
	got = got[:cap(got)]
	for i := range got {
		got[i] ^= 0xff
	}
	if !bytes.Equal(whole, before) {
		t.Errorf("%s of %x: the argument goes with the answer: %x", name, s, whole)
	}
}

// checkTextsApart fails when two lists of bytes share memory: each is filled with
// a number of its own, and has to have it when all are.
func checkTextsApart(t *testing.T, name string, l [][]byte) {
	t.Helper()
	for i, b := range l {
		for k := range b[:cap(b)] {
			b[:cap(b)][k] = byte(i)
		}
	}
	for i, b := range l {
		for _, c := range b[:cap(b)] {
			if c != byte(i) {
				t.Errorf("%s: two lists share memory", name)
				return
			}
		}
	}
}
