package wal

import (
	"iter"

	"watershed/api"
	"watershed/code"
	"watershed/crc"
)

// How many bytes a sealed text has more than the text.
const sumBytes = 4

// frame is a text as it stands in a file.
func frame(s string) string { return code.Num(uint64(len(s))) + crc.Seal(s) }

// unframe is the text of the frame at the front of s, and how many bytes the frame has; false: no intact one is there.
func unframe(s string) (string, int, bool) {
	r := code.New(s)
	n := r.Int(api.MaxBytes)
	if r.Err() != api.OK || n+sumBytes > r.Left() {
		return "", 0, false
	}
	start := len(s) - r.Left()
	end := start + sumBytes + n
	text, ok := crc.Open(s[start:end])
	if !ok {
		return "", 0, false
	}
	return text, end, true
}

// frames goes through the intact frames of a file: where each ends, and its text.
func frames(s string) iter.Seq2[int, string] {
	return func(yield func(int, string) bool) {
		end := 0
		for {
			text, n, ok := unframe(s[end:])
			if !ok {
				return
			}
			end += n
			if !yield(end, text) {
				return
			}
		}
	}
}

// parse is the texts of a file's intact frames; true: something torn is behind them.
func parse(s string) ([]string, bool) {
	var texts []string
	whole := 0
	for end, text := range frames(s) {
		texts = append(texts, text)
		whole = end
	}
	return texts, whole < len(s)
}
