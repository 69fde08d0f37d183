package tests

import (
	"crypto/sha256"
	"encoding/hex"
	"strings"
	"testing"

	"loop.example/wellhead/impl"
)

func TestP1SumsThatTheWorldKnows(t *testing.T) {
	cases := []struct{ text, want string }{
		{"abc", "ba7816bf8f01cfea414140de5dae2223b00361a396177a9cb410ff61f20015ad"},
		{"", "e3b0c44298fc1c149afbf4c8996fb92427ae41e4649b934ca495991b7852b855"},
		{"abcdbcdecdefdefgefghfghighijhijkijkljklmklmnlmnomnopnopq", "248d6a61d20638b8e5c026930c3e6039a33ce45964ff2167f6ecedd419db06c1"},
		{strings.Repeat("a", 1000000), "cdc76e5c9914fb9281a1c7e284d73e67f1809a48a497200e046d39ccc7112cd0"},
	}
	for _, c := range cases {
		if got := impl.HashSum(c.text); got != c.want {
			t.Errorf("HashSum of %d bytes is %s, not %s", len(c.text), got, c.want)
		}
	}
}

// The lengths go over the edges of one, two and three blocks, where what is put behind the text needs one block more.
func TestP1SumsOfEachLength(t *testing.T) {
	r := newSource(1)
	for size := range 200 {
		text := someBlock(r, size)
		sum := sha256.Sum256([]byte(text))
		got := impl.HashSum(text)
		if got != hex.EncodeToString(sum[:]) {
			t.Errorf("HashSum of %q is %s", text, got)
		}
		if len(got) != 64 || strings.Trim(got, "0123456789abcdef") != "" {
			t.Errorf("HashSum of %q is not 64 figures: %q", text, got)
		}
	}
}

func TestP1SumsOfEachByte(t *testing.T) {
	for b := range 256 {
		text := string([]byte{byte(b)})
		sum := sha256.Sum256([]byte(text))
		if got := impl.HashSum(text); got != hex.EncodeToString(sum[:]) {
			t.Errorf("HashSum of %q is %s", text, got)
		}
	}
}
