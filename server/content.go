package server

import (
	"bytes"
	"slices"
	"strings"

	"blazon/api"
	"blazon/codec"
	"blazon/disk"
	"blazon/model"
	"blazon/record"
	"blazon/store"
	"blazon/tags"
)

// The keys under which a directory lies in a store: none, as long as there is no epoch. Trees, pages and roots follow from what lies there and the secrets: they would take most of a disk's room, and are made again.
const (
	epochLabel   = "E" // and the epoch's number: the bindings that it has, and the one ahead has not
	fromLabel    = "F" // the first epoch that is answered
	secretsLabel = "S" // the secrets' mark
)

// secretsSign is the byte that what is hashed of secrets begins with, so that it is hashed for nothing else.
const secretsSign = 'D'

// markOf tells secrets from others. A digest alone lies on the disk, so that who reads it does not learn them.
func markOf(secret, seed api.Digest) api.Digest {
	b := codec.Digest([]byte{secretsSign}, secret)
	return tags.Of(codec.Digest(b, seed))
}

// content is the acts that set all keys of a store with that directory, by rising keys. What waits is not among them.
func content(d api.Dir, mark api.Digest) []api.Act {
	var l []api.Act
	var last []api.Binding
	for i, is := range d.Epochs {
		l = append(l, set(labelOf(i+1), writeBindings(changed(last, is))))
		last = is
	}
	if len(l) == 0 {
		return nil
	}
	return append(l, set(fromLabel, codec.Num(nil, d.From)), set(secretsLabel, mark[:]))
}

// set is the act that sets a key.
func set(key string, text []byte) api.Act {
	return api.Act{Key: key, Set: true, Data: text}
}

// labelOf is an epoch's key.
func labelOf(n int) string {
	return string(codec.Num([]byte(epochLabel), uint64(n)))
}

// writeBindings is bindings as bytes.
func writeBindings(l []api.Binding) []byte {
	var texts [][]byte
	for _, b := range l {
		texts = append(texts, record.Binding(b))
	}
	return codec.Texts(texts)
}

// readBindings is the bindings of which writeBindings told those bytes; of others it is any.
func readBindings(b []byte) []api.Binding {
	var l []api.Binding
	texts, _ := codec.ReadTexts(b)
	for _, text := range texts {
		x, _ := record.ReadBinding(text)
		l = append(l, x)
	}
	return l
}

// changed is the bindings that an epoch has, and the one ahead has not: a binding never changes but with its Serial.
func changed(was, is []api.Binding) []api.Binding {
	var l []api.Binding
	for _, b := range is {
		i, there := find(was, b.Name)
		if !there || was[i].Serial != b.Serial {
			l = append(l, b)
		}
	}
	return l
}

// merged is the bindings of an epoch, by those of the one ahead and what changed tells of both.
func merged(was, l []api.Binding) []api.Binding {
	is := slices.Clone(was)
	for _, b := range l {
		i, there := find(is, b.Name)
		if there {
			is[i] = b
			continue
		}
		is = slices.Insert(is, i, b)
	}
	return is
}

// find is where a name is among bindings, or would be, and whether it is there.
func find(l []api.Binding, name string) (int, bool) {
	return slices.BinarySearchFunc(l, name, func(b api.Binding, name string) int {
		return strings.Compare(b.Name, name)
	})
}

// read is the directory that lies in a store, without what waits.
func read(t *store.Store, mark api.Digest) (api.Dir, api.Errno) {
	d := model.New()
	var last []api.Binding
	for n := 1; n <= api.MaxEpochs; n++ {
		text, ok := t.Get(labelOf(n))
		if !ok {
			break
		}
		last = merged(last, readBindings(text))
		d.Epochs = append(d.Epochs, last)
	}
	if text, ok := t.Get(fromLabel); ok {
		codec.Read(text, func(r *codec.Reader) { d.From = r.Num() })
	}
	// Whatever was misread up to here is not what this directory would lie as.
	if model.Check(d) != api.OK || !holds(t, content(d, mark)) {
		return api.Dir{}, api.ErrBad
	}
	return d, api.OK
}

// holds tells whether a store has just the keys that acts set, with their texts.
func holds(t *store.Store, l []api.Act) bool {
	return t.Len() == len(l) && len(news(t, l)) == 0
}

// news is those acts that set a key to what is not its text yet; the list is used up.
func news(t *store.Store, l []api.Act) []api.Act {
	return slices.DeleteFunc(l, func(a api.Act) bool {
		text, ok := t.Get(a.Key)
		return ok && bytes.Equal(text, a.Data)
	})
}

// foreign tells whether a disk, if it can be read, has what is not of those secrets. It looks at a copy: to open a store may write to its disk.
func foreign(d *disk.Disk, mark api.Digest) bool {
	if d == nil {
		return false
	}
	if _, e := d.Read(0); e != api.OK {
		return false
	}
	twin, e := disk.Load(d.Dump())
	if e != api.OK {
		return false
	}
	t, e := store.Open(twin)
	if e != api.OK { // the disk's own store will tell the same
		return false
	}
	_, e = read(t, mark)
	return e != api.OK
}
