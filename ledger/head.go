package ledger

import (
	"slices"

	"inquest/api"
	"inquest/mac"
	"inquest/merkle"
	"inquest/word"
)

const (
	digestBits = 256 // of each sum all bits are kept
	sizeBytes  = 8   // of a head's Size in its text
)

// HeadText answers what is signed of a head.
func HeadText(h api.Head) []byte {
	// The conversion wraps round: a Size below 0, which no ledger has, stands in eight bytes as well.
	return slices.Concat(word.Put(uint64(h.Size), sizeBytes), h.Root[:], h.Chain[:])
}

// Sign answers a head with its signature.
func Sign(key []byte, h api.Head) api.Head {
	h.Sign = mac.Sum(key, HeadText(h))
	return h
}

// Signed tells whether a head is signed by a key.
func Signed(key []byte, h api.Head) bool { return mac.Check(key, HeadText(h), h.Sign[:]) }

// headOf answers the head of the texts whose leaves these are, without its signature.
func headOf(leaves []api.Digest) api.Head {
	return api.Head{Size: len(leaves), Root: merkle.Root(leaves, digestBits), Chain: chainOf(leaves)}
}

// chainOf answers the chain along the texts whose leaves these are.
func chainOf(leaves []api.Digest) api.Digest {
	var chain api.Digest
	for _, leaf := range leaves {
		chain = merkle.Node(chain, leaf, digestBits)
	}
	return chain
}
