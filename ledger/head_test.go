package ledger_test

import (
	"encoding/hex"
	"math/rand"
	"slices"
	"testing"

	"inquest/api"
	"inquest/ledger"
	"inquest/mac"
)

// The digests of headOf, byte by byte.
const (
	rootBytes  = "101112131415161718191a1b1c1d1e1f202122232425262728292a2b2c2d2e2f"
	chainBytes = "808182838485868788898a8b8c8d8e8f909192939495969798999a9b9c9d9e9f"
)

// P21.1: eight bytes, the highest first, then Root, then Chain.
func TestHeadText(t *testing.T) {
	for size, want := range map[int]string{
		0:                  "0000000000000000",
		1:                  "0000000000000001",
		64:                 "0000000000000040",
		255:                "00000000000000ff",
		256:                "0000000000000100",
		1 << 32:            "0000000100000000",
		0x0102030405060708: "0102030405060708",
		-1:                 "ffffffffffffffff",
		-256:               "ffffffffffffff00",
		least:              "8000000000000000",
		greatest:           "7fffffffffffffff",
	} {
		got := ledger.HeadText(headOf(size))
		if len(got) != 72 || hex.EncodeToString(got) != want+rootBytes+chainBytes {
			t.Errorf("HeadText, Size %d: %x", size, got)
		}
	}
	for _, size := range sizes() {
		if got := ledger.HeadText(headOf(size)); string(got) != wordsOf(headOf(size)) {
			t.Errorf("HeadText, Size %d: %x", size, got)
		}
	}
	if got := ledger.HeadText(api.Head{}); string(got) != string(make([]byte, 72)) {
		t.Errorf("HeadText of the zero head: %x", got)
	}
}

// P21.1: each byte of Size, Root and Chain stands at one place of the text, and Sign at none.
func TestHeadTextPlaces(t *testing.T) {
	h := headOf(0x3132333435363738)
	was := ledger.HeadText(h)
	for at := range 72 {
		other := changed(h, at)
		got := ledger.HeadText(other)
		if string(got) != wordsOf(other) || got[at] == was[at] {
			t.Errorf("byte %d changed: %x", at, got)
		}
		got[at] = was[at]
		if !slices.Equal(got, was) {
			t.Errorf("byte %d changed others: %x", at, got)
		}
	}
	for at := 72; at < 104; at++ {
		if got := ledger.HeadText(changed(h, at)); !slices.Equal(got, was) {
			t.Errorf("byte %d of Sign: %x", at-72, got)
		}
	}
}

// changed answers a head of which one byte is another one: of Size (0 to 7, the highest first), of Root (8 to 39), of Chain (to 71), of Sign (to 103).
func changed(h api.Head, at int) api.Head {
	switch {
	case at < 8:
		h.Size ^= 1 << (56 - 8*at)
	case at < 40:
		h.Root[at-8] ^= 1
	case at < 72:
		h.Chain[at-40] ^= 0x80
	default:
		h.Sign[at-72] ^= 0x10
	}
	return h
}

// P21.1: Sign answers the head with another Sign, which is its text's sum by the key; nothing else is changed.
func TestSign(t *testing.T) {
	for _, key := range keys() {
		for _, size := range sizes() {
			h := headOf(size)
			want := h
			want.Sign = signOf(key, wordsOf(h))
			got := ledger.Sign(key, h)
			if got != want || got.Sign != mac.Sum(key, ledger.HeadText(h)) {
				t.Errorf("Sign by %x, Size %d: %x", key, size, got)
			}
			if again := ledger.Sign(key, got); again != got {
				t.Errorf("Sign by %x again, Size %d: %x", key, size, again)
			}
		}
		if got := ledger.Sign(key, api.Head{}); got != (api.Head{Sign: signOf(key, string(make([]byte, 72)))}) {
			t.Errorf("Sign of the zero head by %x: %x", key, got)
		}
	}
}

// P21.1: a Sign that a reckoner of its own found: the head of no texts, by key.
func TestSignReckoned(t *testing.T) {
	root, _ := hex.DecodeString("e3b0c44298fc1c149afbf4c8996fb92427ae41e4649b934ca495991b7852b855")
	h := ledger.Sign([]byte("key"), api.Head{Root: api.Digest(root)})
	if hex.EncodeToString(h.Sign[:]) != "352910a8d6b5e0b3e81841b76a803a2cbcc38d658b586154a8346d2799b3ed20" {
		t.Errorf("%x", h.Sign)
	}
}

// P21.1: what was signed is Signed by the same key, and by no other one.
func TestSigned(t *testing.T) {
	for a, key := range keys() {
		for _, size := range sizes() {
			h := ledger.Sign(key, headOf(size))
			for b, other := range keys() {
				want := a == b || a < 2 && b < 2
				if ledger.Signed(other, h) != want {
					t.Errorf("signed by %x, asked by %x, Size %d: not %v", key, other, size, want)
				}
			}
		}
	}
}

// P21.1: of a head of which one byte was changed, wherever, Signed is false.
func TestSignedChanged(t *testing.T) {
	for _, key := range keys() {
		for _, size := range []int{0, 1, 64, 256, -1, least, greatest} {
			h := ledger.Sign(key, headOf(size))
			for at := range 104 {
				if ledger.Signed(key, changed(h, at)) {
					t.Errorf("byte %d changed, Size %d, key %x", at, size, key)
				}
			}
			for bit := range 256 {
				other := h
				other.Sign[bit/8] ^= 1 << (bit % 8)
				if ledger.Signed(key, other) {
					t.Errorf("bit %d of Sign changed", bit)
				}
			}
			about := h
			about.Root, about.Chain = h.Chain, h.Root
			if ledger.Signed(key, about) || !ledger.Signed(key, h) {
				t.Errorf("Root and Chain changed about, Size %d, key %x", size, key)
			}
		}
	}
}

// P21.1: heads that nobody signed.
func TestUnsigned(t *testing.T) {
	for _, key := range keys() {
		if ledger.Signed(key, api.Head{}) {
			t.Errorf("the zero head by %x", key)
		}
		for _, size := range sizes() {
			if ledger.Signed(key, headOf(size)) {
				t.Errorf("Size %d by %x", size, key)
			}
		}
		h := ledger.Sign(key, headOf(3))
		h.Sign = api.Digest{}
		if ledger.Signed(key, h) {
			t.Errorf("Sign of noughts by %x", key)
		}
	}
}

// P21.1: a key is as mac has it: bytes 0 behind one of fewer than 64 change nothing.
func TestSignedByLongerKey(t *testing.T) {
	h := ledger.Sign(row(20), headOf(5))
	if !ledger.Signed(append(row(20), make([]byte, 44)...), h) || ledger.Signed(append(row(20), make([]byte, 45)...), h) {
		t.Error("noughts behind a key")
	}
}

// P21.1: heads and keys by chance, held against the chapter's words.
func TestHeadsByChance(t *testing.T) {
	r := rand.New(rand.NewSource(2101))
	for range 5000 {
		key := make([]byte, r.Intn(150))
		r.Read(key)
		h := api.Head{Size: int(r.Uint64()) >> r.Intn(64)}
		r.Read(h.Root[:])
		r.Read(h.Chain[:])
		r.Read(h.Sign[:])
		if got := ledger.HeadText(h); string(got) != wordsOf(h) {
			t.Fatalf("HeadText of %x: %x", h, got)
		}
		signed := ledger.Sign(key, h)
		if signed.Sign != signOf(key, wordsOf(h)) || ledger.Signed(key, h) || !ledger.Signed(key, signed) {
			t.Fatalf("Sign of %x by %x: %x", h, key, signed)
		}
		if ledger.Signed(key, changed(signed, r.Intn(104))) {
			t.Fatalf("Sign of %x by %x, changed", h, key)
		}
	}
}
