package pack

import (
	"graftage/api"
	"graftage/commit"
	"graftage/delta"
	"graftage/ident"
	"graftage/object"
	"graftage/octet"
	"graftage/squeeze"
)

// isPlanOf reports whether plan is a valid delta plan for a list of objects.
func isPlanOf(l []api.Object, plan []api.DeltaPlan) bool {
	if len(plan) != len(l) {
		return false
	}
	for i, step := range plan {
		if step == wholly {
			continue
		}
		if step.Base < 0 || step.Base >= i || l[step.Base].Kind != l[i].Kind {
			return false
		}
		if step.Deep != plan[step.Base].Deep+1 || step.Deep > api.MaxChain {
			return false
		}
	}
	return true
}

// encode returns the pack of the objects from index first on, as they are planned. Those ahead of it are in no pack.
func encode(all []api.Object, first int, plan []api.DeltaPlan) (string, api.Errno) {
	out := []byte(octet.Put(signature, uint64(len(all)-first)))
	met := make(map[api.Object]bool)
	for i := first; i < len(all); i++ {
		if e := commit.Whole(all[i]); e != api.OK {
			return "", e
		}
		if met[all[i]] {
			return "", api.ErrDuplicate
		}
		met[all[i]] = true
		head, content := split(all, first, i, plan[i].Base)
		data := squeeze.Compress(content)
		if len(data) > api.MaxBytes {
			return "", api.ErrTooLarge
		}
		out = append(out, head...)
		out = append(out, octet.Text("", data)...)
	}
	return closed(string(out)), api.OK
}

// split returns what the object at index i is stored as, with the object at index base as its base: what goes ahead of its data, and the data, not yet compressed.
func split(all []api.Object, first, i, base int) (string, string) {
	kind := all[i].Kind
	if base < 0 {
		return string([]byte{byte(kind)}), all[i].Body
	}
	content := delta.Make(all[base].Body, all[i].Body)
	if base >= first {
		return octet.Put(string([]byte{byte(kind + inside)}), uint64(i-base)), content
	}
	raw, _ := ident.Raw(object.Id(all[base]))
	return string([]byte{byte(kind + outside)}) + raw, content
}

// closed returns s followed by its checksum.
func closed(s string) string {
	return s + sumOf(s)
}

// sumOf returns the checksum of s.
func sumOf(s string) string {
	return ident.Digest(s)[:sumBytes]
}
