package disk

import (
	"slices"
	"strings"

	"colporteur/api"
)

const mostName = 100 // bytes

// file is one of a disk.
type file struct{ name, text string }

// files are a disk's, rising by their names. A list of them is never changed,
// only another one made, so that it may stand for what was sure.
type files []file

// write is fs with the file name being text.
func (fs files) write(name, text string) (files, api.Errno) {
	if name == "" || len(name) > mostName {
		return nil, api.ErrForm
	}
	at, there := fs.find(name)
	behind := at
	if there {
		behind++
	} else if len(fs) >= api.MaxFiles {
		return nil, api.ErrLimit
	}
	return slices.Concat(fs[:at], files{{name, text}}, fs[behind:]), api.OK
}

// move is fs with the file from in place of what to was. There is always room
// for it: from goes away.
func (fs files) move(from, to string) (files, api.Errno) {
	rest, e := fs.remove(from)
	if e != api.OK {
		return nil, e
	}
	at, _ := fs.find(from)
	return rest.write(to, fs[at].text)
}

// remove is fs without the file name.
func (fs files) remove(name string) (files, api.Errno) {
	at, there := fs.find(name)
	if !there {
		return nil, api.ErrNone
	}
	return slices.Concat(fs[:at], fs[at+1:]), api.OK
}

// find tells where the file name stands, or would stand, and whether it is there.
func (fs files) find(name string) (int, bool) {
	return slices.BinarySearchFunc(fs, name, func(f file, name string) int {
		return strings.Compare(f.name, name)
	})
}
