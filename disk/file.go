package disk

import "homestead/api"

// file has bytes: first so many firm ones, then loose ones.
type file struct {
	bytes []byte
	firm  int
}

// first is a file of f's first n bytes alone, all of them firm.
func (f file) first(n int) file {
	if n == len(f.bytes) {
		return file{bytes: f.bytes, firm: n}
	}
	// In memory of their own, so that the bytes behind them are not kept.
	return file{bytes: fresh(f.bytes[:n]), firm: n}
}

// crashed is what a crash leaves of f, if so many of its loose bytes are kept.
func (f file) crashed(kept int) file {
	loose := len(f.bytes) - f.firm
	return f.first(f.firm + min(max(kept, 0), loose))
}

// fresh is b in memory of its own, with nothing of b's memory kept even if it is empty.
func fresh(b []byte) []byte {
	return append([]byte(nil), b...)
}

// isName tells whether a file may have that name.
func isName(name string) bool {
	if len(name) < 1 || len(name) > api.MaxFile {
		return false
	}
	for i := range len(name) {
		if !isNameByte(name[i]) {
			return false
		}
	}
	return true
}

// isNameByte tells whether a name may have that byte.
func isNameByte(x byte) bool {
	return 'a' <= x && x <= 'z' || '0' <= x && x <= '9' || x == '.' || x == '-'
}
