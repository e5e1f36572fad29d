package pages

import (
	"maps"
	"slices"

	"homestead/api"
)

// blob is a key's: its bytes, and the pack and the place where they stand.
type blob struct {
	bytes []byte
	pack  int // 0, if it was put since the commit
	place int
}

// toMove are the keys, rising, whose blobs have to go into a pack of the next commit's: all of them, if the other ones stand in so many packs that one more would be too many.
func toMove(keys map[string]blob) []string {
	all := slices.Sorted(maps.Keys(keys))
	if len(packsOf(keys)) > api.MaxPacks-1 {
		return all
	}
	return slices.DeleteFunc(all, func(key string) bool { return keys[key].pack != 0 })
}

// moved are all keys, once the blobs of those that move stand in the pack of a number, and that pack's bytes.
func moved(keys map[string]blob, moving []string, number int) (map[string]blob, []byte) {
	keys = maps.Clone(keys)
	var pack []byte
	for _, key := range moving {
		// No disk takes more than MaxDisk bytes: the pack is refused as it would be with all blobs, which may be hundreds of times as many.
		if len(pack) > api.MaxDisk {
			break
		}
		b := keys[key].bytes
		keys[key] = blob{bytes: b, pack: number, place: len(pack)}
		pack = append(pack, b...)
	}
	return keys, pack
}

// packsOf are the numbers, rising, of the packs in which blobs stand.
func packsOf(keys map[string]blob) []int {
	var packs []int
	for _, b := range keys {
		if b.pack != 0 {
			packs = append(packs, b.pack)
		}
	}
	slices.Sort(packs)
	return slices.Compact(packs)
}

// isKey tells whether a text may be a key.
func isKey(key string) bool {
	return len(key) >= 1 && len(key) <= api.MaxKey
}

// fresh is b in memory of its own, with nothing of b's memory kept even if it is empty.
func fresh(b []byte) []byte {
	return append([]byte(nil), b...)
}
