package engine

import (
	"hectare/api"
	"hectare/edit"
)

// mostManifest is how many bytes a manifest has at most; in the place of one that would come to more a new one is written.
const mostManifest = 4096

// manifest is the file that says the version.
type manifest struct {
	version api.Version
	number  int64
	size    int
	torn    bool // a frame behind its rest would not be read
}

// behind answers the manifest that says an edit, too, and the bytes that it has more: in a new file those of the whole version.
func (m manifest) behind(change api.Edit) (manifest, []byte, api.Errno) {
	v, no := edit.Do(m.version, change)
	if no != api.OK {
		return manifest{}, nil, no
	}
	frame, no := edit.Put(change)
	if no != api.OK {
		return manifest{}, nil, no
	}
	size := m.size + len(frame)
	if m.torn || size > mostManifest {
		number := v.Next
		v.Next++
		return whole(number, v)
	}
	return manifest{version: v, number: m.number, size: size}, frame, api.OK
}

// whole answers the manifest that says a whole version, and its bytes.
func whole(number int64, v api.Version) (manifest, []byte, api.Errno) {
	all, no := edit.Whole(v)
	if no != api.OK {
		return manifest{}, nil, no
	}
	frame, no := edit.Put(all)
	return manifest{version: v, number: number, size: len(frame)}, frame, no
}
