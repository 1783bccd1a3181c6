// Package blake is layer 2: the sum BLAKE2s of RFC 7693, of 32 bytes.
package blake

import (
	"math/bits"
	"strings"

	"wapentake/api"
)

const (
	maxKey    = 32
	sumSize   = 32
	blockSize = 64
)

var iv = [8]uint32{
	0x6A09E667, 0xBB67AE85, 0x3C6EF372, 0xA54FF53A,
	0x510E527F, 0x9B05688C, 0x1F83D9AB, 0x5BE0CD19,
}

var rows = [10][16]uint8{
	{0, 1, 2, 3, 4, 5, 6, 7, 8, 9, 10, 11, 12, 13, 14, 15},
	{14, 10, 4, 8, 9, 15, 13, 6, 1, 12, 0, 2, 11, 7, 5, 3},
	{11, 8, 12, 0, 5, 2, 15, 13, 10, 14, 3, 6, 7, 1, 9, 4},
	{7, 9, 3, 1, 13, 12, 11, 14, 2, 6, 5, 10, 4, 0, 15, 8},
	{9, 0, 5, 7, 2, 4, 10, 15, 14, 1, 11, 12, 6, 8, 3, 13},
	{2, 12, 6, 10, 0, 11, 8, 3, 4, 13, 7, 5, 15, 14, 1, 9},
	{12, 5, 1, 15, 14, 13, 4, 10, 0, 7, 6, 3, 9, 2, 8, 11},
	{13, 11, 7, 14, 12, 1, 3, 9, 5, 0, 15, 4, 8, 6, 2, 10},
	{6, 15, 14, 9, 11, 3, 0, 8, 12, 2, 13, 7, 1, 4, 10, 5},
	{10, 2, 8, 4, 7, 6, 1, 5, 15, 11, 9, 14, 3, 12, 13, 0},
}

// Sum is the sum of a text, with a key.
func Sum(key, text string) (string, api.Errno) {
	return Parts(key, []string{text})
}

// Parts is the sum of texts, one behind the other.
func Parts(key string, l []string) (string, api.Errno) {
	if len(key) > maxKey {
		return "", api.ErrLong
	}
	return sum(len(key), keyBlock(key)+strings.Join(l, "")), api.OK
}

// keyBlock is what a key puts ahead of the text: a block of its own, so that t counts it as any other bytes.
func keyBlock(key string) string {
	if key == "" {
		return ""
	}
	return key + strings.Repeat("\x00", blockSize-len(key))
}

// sum is the sum of the key's block and the text together.
func sum(keySize int, data string) string {
	h := begin(keySize)
	done := 0
	// The last block is held back even if it is full, since it alone is marked as the last one.
	for len(data)-done > blockSize {
		next := done + blockSize
		h = compress(h, words(data[done:next]), uint64(next), false)
		done = next
	}
	return told(compress(h, words(data[done:]), uint64(len(data)), true))
}

// begin is the state ahead of the first block.
func begin(keySize int) [8]uint32 {
	var h [8]uint32
	for i := range h {
		h[i] = iv[i]
	}
	h[0] ^= 0x01010000 ^ uint32(keySize)<<8 ^ sumSize
	return h
}

// words are the words of a block, which bytes 0 fill up.
func words(block string) [16]uint32 {
	var m [16]uint32
	for i := range len(block) {
		m[i/4] |= uint32(block[i]) << (8 * (i % 4))
	}
	return m
}

// compress is the state behind a block up to whose end there were t bytes.
func compress(h [8]uint32, m [16]uint32, t uint64, last bool) [8]uint32 {
	var v [16]uint32
	for i := range h {
		v[i], v[i+8] = h[i], iv[i]
	}
	v[12] ^= uint32(t)
	v[13] ^= uint32(t >> 32)
	if last {
		v[14] = ^v[14]
	}
	for i := range rows {
		round(&v, &m, rows[i])
	}
	for i := range h {
		h[i] ^= v[i] ^ v[i+8]
	}
	return h
}

// round mixes the four columns, then the four diagonals.
func round(v, m *[16]uint32, s [16]uint8) {
	mix(v, 0, 4, 8, 12, m[s[0]], m[s[1]])
	mix(v, 1, 5, 9, 13, m[s[2]], m[s[3]])
	mix(v, 2, 6, 10, 14, m[s[4]], m[s[5]])
	mix(v, 3, 7, 11, 15, m[s[6]], m[s[7]])
	mix(v, 0, 5, 10, 15, m[s[8]], m[s[9]])
	mix(v, 1, 6, 11, 12, m[s[10]], m[s[11]])
	mix(v, 2, 7, 8, 13, m[s[12]], m[s[13]])
	mix(v, 3, 4, 9, 14, m[s[14]], m[s[15]])
}

// mix is the document's G.
func mix(v *[16]uint32, a, b, c, d int, x, y uint32) {
	v[a] += v[b] + x
	v[d] = turnRight(v[d]^v[a], 16)
	v[c] += v[d]
	v[b] = turnRight(v[b]^v[c], 12)
	v[a] += v[b] + y
	v[d] = turnRight(v[d]^v[a], 8)
	v[c] += v[d]
	v[b] = turnRight(v[b]^v[c], 7)
}

func turnRight(w uint32, n int) uint32 {
	return bits.RotateLeft32(w, -n)
}

// told is a state as bytes.
func told(h [8]uint32) string {
	var b [sumSize]byte
	for i := range b {
		b[i] = byte(h[i/4] >> (8 * (i % 4)))
	}
	return string(b[:])
}
