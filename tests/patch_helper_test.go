package tests

import (
	"fmt"
	"strings"
	"testing"

	"loop.example/g00606/impl"
)

// patch is one with a Put that is told as a text.
func patch(at int64, cut int64, put string) impl.Patch {
	return impl.Patch{At: at, Cut: cut, Put: []byte(put)}
}

func patches(list ...impl.Patch) []impl.Patch {
	return list
}

// shownPatches tells all there is of patches, nil and an empty list as the same.
func shownPatches(list []impl.Patch) string {
	var text strings.Builder
	for _, p := range list {
		fmt.Fprintf(&text, "[at %d, %d cut, %q put]", p.At, p.Cut, p.Put)
	}
	return text.String()
}

func briefPatches(list []impl.Patch) string {
	return fmt.Sprintf("%d patches %.400s", len(list), shownPatches(list))
}

// patchFaultOf is the fault that a patch has by itself, and behind what ends at free.
func patchFaultOf(p impl.Patch, size int64, free int64) int64 {
	switch {
	case len(p.Put) > 240:
		return impl.ErrMany
	// Each is held against the size by itself ahead of their sum, which is small then.
	case p.At < 0 || p.Cut < 0 || p.At > size || p.Cut > size || p.At+p.Cut > size:
		return impl.ErrRange
	case p.At < free:
		return impl.ErrForm
	}
	return impl.OK
}

// patchesFaultOf is what the document asks of PatchesFault.
func patchesFaultOf(list []impl.Patch, size int64) int64 {
	if size < 0 || size > 2000 {
		return impl.ErrRange
	}
	if len(list) > 20 {
		return impl.ErrMany
	}
	free := int64(0)
	for _, p := range list {
		if code := patchFaultOf(p, size, free); code != impl.OK {
			return code
		}
		free = p.At + p.Cut
	}
	return impl.OK
}

// diffOf is what the document asks of DiffText, each end asked from the greatest one down.
func diffOf(a string, b string) impl.PatchesResult {
	if len(a) > 240 || len(b) > 240 {
		return impl.PatchesResult{Code: impl.ErrLarge}
	}
	if a == b {
		return impl.PatchesResult{}
	}
	ahead := len(a)
	for !strings.HasPrefix(b, a[:ahead]) {
		ahead--
	}
	cut, put := a[ahead:], b[ahead:]
	behind := len(cut)
	for !strings.HasSuffix(put, cut[len(cut)-behind:]) {
		behind--
	}
	return impl.PatchesResult{Patches: patches(patch(int64(ahead), int64(len(cut)-behind), put[:len(put)-behind]))}
}

// appliedOf is what the document asks of ApplyPatches, place by place: what is put there, and then the byte that stands there, if no patch cuts it.
func appliedOf(data string, list []impl.Patch) impl.BytesResult {
	if code := patchesFaultOf(list, int64(len(data))); code != impl.OK {
		return impl.BytesResult{Code: code}
	}
	var out strings.Builder
	for place := range int64(len(data)) + 1 {
		stays := place < int64(len(data))
		for _, p := range list {
			if p.At == place {
				out.Write(p.Put)
			}
			stays = stays && (place < p.At || place >= p.At+p.Cut)
		}
		if stays {
			out.WriteByte(data[place])
		}
	}
	if out.Len() > 2000 {
		return impl.BytesResult{Code: impl.ErrLarge}
	}
	return impl.BytesResult{Bytes: []byte(out.String())}
}

// patchSizeOf is what the document asks of PatchSize.
func patchSizeOf(list []impl.Patch) impl.IntResult {
	if len(list) > 20 {
		return impl.IntResult{Code: impl.ErrMany}
	}
	all := ""
	for _, p := range list {
		if len(p.Put) > 240 {
			return impl.IntResult{Code: impl.ErrMany}
		}
		all += string(p.Put)
	}
	return impl.IntResult{Value: int64(len(all))}
}

func wantPatches(t *testing.T, what string, got impl.PatchesResult, want impl.PatchesResult) {
	t.Helper()
	if got.Code != want.Code || shownPatches(got.Patches) != shownPatches(want.Patches) {
		t.Errorf("%s: got %d, %s, want %d, %s", what, got.Code, briefPatches(got.Patches), want.Code, briefPatches(want.Patches))
	}
}

func wantPatchesFault(t *testing.T, list []impl.Patch, size int64, code int64) {
	t.Helper()
	if got := impl.PatchesFault(list, size); got != code {
		t.Errorf("PatchesFault of %s by %d: got %d, want %d", briefPatches(list), size, got, code)
	}
}

func wantSamePatches(t *testing.T, a []impl.Patch, b []impl.Patch, want bool) {
	t.Helper()
	if impl.SamePatches(a, b) != want || impl.SamePatches(b, a) != want {
		t.Errorf("SamePatches of %s and %s: got %t, %t, want %t", briefPatches(a), briefPatches(b), impl.SamePatches(a, b), impl.SamePatches(b, a), want)
	}
}

// wantOneDiff holds a difference against the document, and asks P15 of it by what the program itself tells.
func wantOneDiff(t *testing.T, a string, b string) impl.PatchesResult {
	t.Helper()
	what := fmt.Sprintf("DiffText of %.250q and %.250q", a, b)
	got := impl.DiffText([]byte(a), []byte(b))
	wantPatches(t, what, got, diffOf(a, b))
	if got.Code != impl.OK {
		return got
	}
	if code := impl.PatchesFault(got.Patches, int64(len(a))); code != impl.OK {
		t.Errorf("%s: it has the fault %d", what, code)
	}
	wantTold(t, what+", done", impl.ApplyPatches([]byte(a), got.Patches), impl.BytesResult{Bytes: []byte(b)})
	if (len(got.Patches) == 0) != (a == b) || len(got.Patches) > 1 {
		t.Errorf("%s: got %s", what, briefPatches(got.Patches))
	}
	for _, p := range got.Patches {
		wantNoByteThatStays(t, what, a[p.At:p.At+p.Cut], string(p.Put))
		wantNumber(t, what+", PatchSize", impl.PatchSize(got.Patches), impl.IntResult{Value: int64(len(p.Put))})
	}
	return got
}

// wantNoByteThatStays asks that what is cut and what is put do not begin or end with the same byte.
func wantNoByteThatStays(t *testing.T, what string, cut string, put string) {
	t.Helper()
	if cut == "" && put == "" {
		t.Errorf("%s: nothing is cut, and nothing put", what)
	}
	if cut == "" || put == "" {
		return
	}
	if cut[0] == put[0] || cut[len(cut)-1] == put[len(put)-1] {
		t.Errorf("%s: %q is cut, %q put", what, cut, put)
	}
}

// wantDiff is wantOneDiff there and back: what was cut is put again then, and what was put is cut, at the same place.
func wantDiff(t *testing.T, a string, b string) {
	t.Helper()
	there, back := wantOneDiff(t, a, b), wantOneDiff(t, b, a)
	if there.Code != back.Code || len(there.Patches) != len(back.Patches) {
		t.Errorf("DiffText of %.250q and %.250q: there is another number of patches back", a, b)
		return
	}
	for i, p := range there.Patches {
		q := back.Patches[i]
		if p.At != q.At || string(p.Put) != b[q.At:q.At+q.Cut] || string(q.Put) != a[p.At:p.At+p.Cut] {
			t.Errorf("DiffText of %.250q and %.250q: %s there, %s back", a, b, briefPatches(there.Patches), briefPatches(back.Patches))
		}
	}
}

// wantPatched holds all that is asked of patches for a text against the document.
func wantPatched(t *testing.T, data string, list []impl.Patch) impl.BytesResult {
	t.Helper()
	what := fmt.Sprintf("of %.250q by %s", data, briefPatches(list))
	wantPatchesFault(t, list, int64(len(data)), patchesFaultOf(list, int64(len(data))))
	wantNumber(t, "PatchSize "+what, impl.PatchSize(list), patchSizeOf(list))
	got := impl.ApplyPatches([]byte(data), list)
	wantTold(t, "ApplyPatches "+what, got, appliedOf(data, list))
	if got.Code == impl.OK {
		wantAllElseStays(t, what, data, list, string(got.Bytes))
	}
	return got
}

// wantAllElseStays asks P15 of patches that were done: what came out is what stays ahead of each one, what it puts, and what stays behind all.
func wantAllElseStays(t *testing.T, what string, data string, list []impl.Patch, out string) {
	t.Helper()
	cut := int64(0)
	for i := len(list) - 1; i >= 0; i-- {
		p := list[i]
		stays := data[p.At+p.Cut:]
		if !strings.HasSuffix(out, string(p.Put)+stays) {
			t.Errorf("ApplyPatches %s: %.250q does not end with %.250q and %.250q", what, out, p.Put, stays)
			return
		}
		out = strings.TrimSuffix(out, string(p.Put)+stays)
		data = data[:p.At]
		cut += p.Cut
	}
	if out != data {
		t.Errorf("ApplyPatches %s: %.250q stands ahead of all patches, want %.250q", what, out, data)
	}
}

// somePatches are patches without a fault for a text of so many bytes, by chance: some of them meet, some have no Cut, some no Put.
func somePatches(n int, size int64, seed uint32) []impl.Patch {
	var list []impl.Patch
	chance := func(below int64) int64 {
		seed = seed*1664525 + 1013904223
		return int64(seed>>16) % max(below, 1)
	}
	free := int64(0)
	for range n {
		at := min(free+chance(4), size)
		cut := min(chance(5), size-at)
		list = append(list, patch(at, cut, mixed([]string{"x", "yz", "<b>", ""}, int(chance(4)), seed)))
		free = at + cut
	}
	return list
}
