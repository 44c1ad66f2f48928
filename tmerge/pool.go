package tmerge

import (
	"graftage/api"
	"graftage/store"
)

// pool is a store that grows. What was created is kept apart from what was given, since a store is copied whenever an object is added.
type pool struct{ given, made api.Store }

// get returns the object with the given ID.
func (p *pool) get(id string) (api.Object, api.Errno) {
	if o, e := store.Get(p.given, id); e == api.OK {
		return o, api.OK
	}
	return store.Get(p.made, id)
}

// blob returns the content of a blob.
func (p *pool) blob(id string) (string, api.Errno) {
	o, e := p.get(id)
	switch {
	case e != api.OK:
		return "", api.ErrMissingObject
	case o.Kind != api.Blob:
		return "", api.ErrKind
	}
	return o.Body, api.OK
}

// put adds an object and returns its ID. Its errors are those that store.Put would have for all that is there.
func (p *pool) put(o api.Object) (string, api.Errno) {
	made, id, e := store.Put(p.made, o)
	if e != api.OK {
		return "", e
	}
	known, e := p.get(id)
	switch {
	case e == api.OK && known != o:
		return "", api.ErrCollision
	case e == api.OK:
		return id, api.OK
	case len(p.given.Items)+len(p.made.Items) >= api.MaxItems:
		return "", api.ErrTooLarge
	}
	p.made = made
	return id, api.OK
}

// all returns the store of all objects.
func (p *pool) all() (api.Store, api.Errno) {
	return store.Union(p.given, p.made)
}
