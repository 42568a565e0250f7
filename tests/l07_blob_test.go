package tests

import (
	"crypto/sha256"
	"fmt"
	"math"
	"slices"
	"strings"
	"testing"

	"loop.example/g00954/impl"
)

func wantShort(s string) string {
	sum := sha256.Sum256([]byte(s))
	return string(sum[:8])
}

func intact(data string) impl.Blob {
	return impl.Blob{Id: wantShort(data), Data: data}
}

func bad(id string, data string) impl.Blob {
	return impl.Blob{Id: id, Data: data, Bad: true}
}

// storeOf puts the chunks in order, whatever their Ids are.
func storeOf(quota int, chunks ...impl.Blob) impl.Blobs {
	list := slices.Clone(chunks)
	slices.SortStableFunc(list, func(a, b impl.Blob) int { return strings.Compare(a.Id, b.Id) })
	return impl.Blobs{Quota: quota, List: list}
}

// intactOf is a store of these strings that is exactly full.
func intactOf(texts ...string) impl.Blobs {
	var chunks []impl.Blob
	for _, s := range texts {
		chunks = append(chunks, intact(s))
	}
	return storeOf(len(strings.Join(texts, "")), chunks...)
}

// plainCall says in a message what was called.
type plainCall struct {
	name  string
	with  string
	store impl.Blobs
}

func (p plainCall) String() string {
	return fmt.Sprintf("%s(%+q) of %#v", p.name, p.with, p.store)
}

func equalBlobs(a impl.Blobs, b impl.Blobs) bool {
	return a.Quota == b.Quota && slices.Equal(a.List, b.List)
}

func copyOfBlobs(b impl.Blobs) impl.Blobs {
	b.List = slices.Clone(b.List)
	return b
}

// wantBlobsOk goes through the conditions in the order of the chapter.
func wantBlobsOk(b impl.Blobs) bool {
	total := 0
	for i, x := range b.List {
		ascending := i == 0 || strings.Compare(b.List[i-1].Id, x.Id) < 0
		named := x.Id == wantShort(x.Data) || x.Bad && len(x.Id) == 8
		if !ascending || len(x.Data) > 40 || !named {
			return false
		}
		total += len(x.Data)
	}
	return 0 <= b.Quota && b.Quota <= 1000 && len(b.List) <= 12 && total <= b.Quota
}

// placeOf is where the chunk is, or would be, and whether it is there.
func placeOf(b impl.Blobs, id string) (int, bool) {
	for i, x := range b.List {
		if x.Id >= id {
			return i, x.Id == id
		}
	}
	return len(b.List), false
}

func wantPut(b impl.Blobs, data string) (impl.Blobs, string, int) {
	if !wantBlobsOk(b) {
		return impl.Blobs{}, "", 1
	}
	if len(data) > 40 {
		return b, "", 1
	}
	x := intact(data)
	out := copyOfBlobs(b)
	at, found := placeOf(b, x.Id)
	if !found {
		out.List = slices.Insert(out.List, at, x)
	} else if b.List[at].Bad {
		out.List[at] = x
	}
	if !wantBlobsOk(out) {
		return b, "", 2
	}
	return out, x.Id, 0
}

func wantGet(b impl.Blobs, id string) (string, int) {
	at, found := placeOf(b, id)
	if !wantBlobsOk(b) || !found {
		return "", 1
	}
	if b.List[at].Bad {
		return "", 2
	}
	return b.List[at].Data, 0
}

func wantDrop(b impl.Blobs, id string) (impl.Blobs, bool) {
	if !wantBlobsOk(b) {
		return impl.Blobs{}, false
	}
	at, found := placeOf(b, id)
	if !found {
		return b, false
	}
	out := copyOfBlobs(b)
	out.List = slices.Delete(out.List, at, at+1)
	return out, true
}

func wantBend(b impl.Blobs, id string) (impl.Blobs, bool) {
	if !wantBlobsOk(b) {
		return impl.Blobs{}, false
	}
	at, found := placeOf(b, id)
	if !found || b.List[at].Bad {
		return b, false
	}
	out := copyOfBlobs(b)
	out.List[at].Bad = true
	return out, true
}

// checkBlobsOk also tells what is used.
func checkBlobsOk(t *testing.T, what string, b impl.Blobs) {
	t.Helper()
	want, used := wantBlobsOk(b), 0
	if got := impl.BlobsOk(b); got != want {
		t.Fatalf("%s: BlobsOk(%#v) = %v", what, b, got)
	}
	for _, x := range b.List {
		used += len(x.Data)
	}
	if !want {
		used = 0
	}
	if got := impl.BlobUsed(b); got != used {
		t.Fatalf("%s: BlobUsed(%#v) = %d, want %d", what, b, got, used)
	}
}

// tryPut makes the call and holds it against the second reading of the
// chapter, as tryDrop and tryBend do: the store remains valid, and the
// argument is as before.
func tryPut(t *testing.T, b impl.Blobs, data string) impl.Blobs {
	t.Helper()
	call, given := plainCall{"BlobPut", data, copyOfBlobs(b)}, copyOfBlobs(b)
	got, id, code := impl.BlobPut(given, data)
	want, wantId, wantCode := wantPut(b, data)
	if !equalBlobs(got, want) || id != wantId || code != wantCode {
		t.Fatalf("%v: %#v, %+q, %d, want %#v, %+q, %d", call, got, id, code, want, wantId, wantCode)
	}
	endOfCall(t, call, given, got)
	if s, k := impl.BlobGet(got, id); code == 0 && (s != data || k != 0) {
		t.Fatalf("%v: then BlobGet = %+q, %d", call, s, k)
	}
	return got
}

func tryDrop(t *testing.T, b impl.Blobs, id string) impl.Blobs {
	t.Helper()
	call, given := plainCall{"BlobDrop", id, copyOfBlobs(b)}, copyOfBlobs(b)
	got, ok := impl.BlobDrop(given, id)
	want, wantOk := wantDrop(b, id)
	if !equalBlobs(got, want) || ok != wantOk {
		t.Fatalf("%v: %#v, %v, want %#v, %v", call, got, ok, want, wantOk)
	}
	endOfCall(t, call, given, got)
	if s, k := impl.BlobGet(got, id); s != "" || k != 1 {
		t.Fatalf("%v: then BlobGet = %+q, %d", call, s, k)
	}
	return got
}

func tryBend(t *testing.T, b impl.Blobs, id string) impl.Blobs {
	t.Helper()
	call, given := plainCall{"BlobBend", id, copyOfBlobs(b)}, copyOfBlobs(b)
	got, ok := impl.BlobBend(given, id)
	want, wantOk := wantBend(b, id)
	if !equalBlobs(got, want) || ok != wantOk {
		t.Fatalf("%v: %#v, %v, want %#v, %v", call, got, ok, want, wantOk)
	}
	endOfCall(t, call, given, got)
	if s, k := impl.BlobGet(got, id); ok && (s != "" || k != 2) {
		t.Fatalf("%v: then BlobGet = %+q, %d", call, s, k)
	}
	return got
}

func endOfCall(t *testing.T, call plainCall, given impl.Blobs, got impl.Blobs) {
	t.Helper()
	if !equalBlobs(given, call.store) {
		t.Fatalf("%v: the argument has become %#v", call, given)
	}
	if !impl.BlobsOk(got) || !wantBlobsOk(got) {
		t.Fatalf("%v: the result %#v is invalid", call, got)
	}
}

func checkGet(t *testing.T, b impl.Blobs, id string) {
	t.Helper()
	s, code := impl.BlobGet(b, id)
	if want, wantCode := wantGet(b, id); s != want || code != wantCode {
		t.Fatalf("BlobGet(%#v, %+q) = %+q, %d, want %+q, %d", b, id, s, code, want, wantCode)
	}
}

// checkInvalid tells that every function answers an invalid store as such.
func checkInvalid(t *testing.T, what string, b impl.Blobs) {
	t.Helper()
	if impl.BlobsOk(b) {
		t.Fatalf("%s: %#v is valid", what, b)
	}
	checkBlobsOk(t, what, b)
	texts := []string{"", "a", "hello", someBytes(1, 40), someBytes(1, 41)}
	ids := []string{"", "a", idA, wantShort(""), wantShort("hello")}
	for _, x := range b.List[:min(len(b.List), 14)] {
		texts = append(texts, x.Data)
		ids = append(ids, x.Id)
	}
	before := copyOfBlobs(b)
	for _, s := range texts {
		if got, id, code := impl.BlobPut(b, s); !equalBlobs(got, impl.Blobs{}) || id != "" || code != 1 {
			t.Fatalf("%s: BlobPut(%#v, %.60q) = %#v, %q, %d", what, b, s, got, id, code)
		}
	}
	for _, id := range ids {
		if s, code := impl.BlobGet(b, id); s != "" || code != 1 {
			t.Fatalf("%s: BlobGet(%#v, %.60q) = %q, %d", what, b, id, s, code)
		}
		if got, ok := impl.BlobDrop(b, id); !equalBlobs(got, impl.Blobs{}) || ok {
			t.Fatalf("%s: BlobDrop(%#v, %.60q) = %#v, %v", what, b, id, got, ok)
		}
		if got, ok := impl.BlobBend(b, id); !equalBlobs(got, impl.Blobs{}) || ok {
			t.Fatalf("%s: BlobBend(%#v, %.60q) = %#v, %v", what, b, id, got, ok)
		}
	}
	if !equalBlobs(b, before) {
		t.Fatalf("%s: %#v has become %#v", what, before, b)
	}
}

// checkValid tells it of a store, and that each chunk is read for what it is.
func checkValid(t *testing.T, what string, b impl.Blobs) {
	t.Helper()
	if !impl.BlobsOk(b) {
		t.Fatalf("%s: %#v is invalid", what, b)
	}
	checkBlobsOk(t, what, b)
	for _, x := range b.List {
		checkGet(t, b, x.Id)
	}
}

func checkWhether(t *testing.T, what string, b impl.Blobs, valid bool) {
	t.Helper()
	if valid {
		checkValid(t, what, b)
	} else {
		checkInvalid(t, what, b)
	}
}

// orderedTexts are count strings, each of size bytes, in the order of their
// Ids. The first byte makes them differ.
func orderedTexts(count int, size int) []string {
	var out []string
	for i := range count {
		out = append(out, string([]byte{byte(i*19 + size)})+someBytes(uint64(i), size-1))
	}
	slices.SortFunc(out, func(a, b string) int { return strings.Compare(wantShort(a), wantShort(b)) })
	return out
}

// badIds are 8 bytes each, in order.
func badIds(count int) []string {
	var out []string
	for i := range count {
		out = append(out, impl.Fixed(i, 4)+"bad!")
	}
	return out
}

// validStores are stores of every kind: empty, with one chunk, full by count,
// by size and by both, with Bad chunks of their own and of other bytes.
func validStores() []impl.Blobs {
	twelve := orderedTexts(12, 40)
	mixed := []impl.Blob{}
	for i, s := range orderedTexts(9, 11) {
		x := intact(s)
		x.Bad = i%3 == 1
		mixed = append(mixed, x)
	}
	alien := storeOf(1000, bad(wantShort("hello"), "other"), bad("\x00\x00\x00\x00\x00\x00\x00\x00", ""),
		bad("\xff\xff\xff\xff\xff\xff\xff\xff", someBytes(3, 40)), intact("other"), intact(""))
	var allBad []impl.Blob
	for i, id := range badIds(12) {
		allBad = append(allBad, bad(id, someBytes(uint64(i), i)))
	}
	return []impl.Blobs{
		{},
		{Quota: 1},
		{Quota: 1000},
		{Quota: 0, List: []impl.Blob{}},
		{Quota: 0, List: []impl.Blob{intact("")}},
		{Quota: 0, List: []impl.Blob{bad(wantShort(""), "")}},
		{Quota: 0, List: []impl.Blob{bad(idA, "")}},
		{Quota: 5, List: []impl.Blob{intact("hello")}},
		{Quota: 9, List: []impl.Blob{intact("hello")}},
		{Quota: 5, List: []impl.Blob{bad(wantShort("hello"), "hello")}},
		{Quota: 5, List: []impl.Blob{bad(wantShort("hello"), "")}},
		{Quota: 40, List: []impl.Blob{intact(someBytes(2, 40))}},
		intactOf("a", "b", "", "\x00", "\xff\xfe", "hello", someBytes(9, 40)),
		storeOf(1000, mixed...),
		storeOf(99, mixed...),
		storeOf(100, mixed...),
		alien,
		storeOf(66, allBad...),
		storeOf(1000, allBad...),
		intactOf(twelve...),
		intactOf(twelve[:11]...),
		{Quota: 1000, List: intactOf(twelve...).List},
		{Quota: 1000, List: intactOf(twelve[:11]...).List},
	}
}

func invalidStores() []impl.Blobs {
	hello, world := intact("hello"), intact("world")
	thirteen := orderedTexts(13, 1)
	return []impl.Blobs{
		{Quota: -1},
		{Quota: 1001},
		{Quota: math.MinInt},
		{Quota: math.MaxInt},
		{Quota: -1, List: []impl.Blob{intact("")}},
		{Quota: 1001, List: []impl.Blob{hello}},
		{Quota: 4, List: []impl.Blob{hello}},
		{Quota: 4, List: []impl.Blob{bad(hello.Id, "hello")}},
		{Quota: 1000, List: []impl.Blob{hello, hello}},
		{Quota: 1000, List: []impl.Blob{hello, bad(hello.Id, "hello")}},
		{Quota: 1000, List: reversed(storeOf(1000, hello, world).List)},
		{Quota: 1000, List: []impl.Blob{intact(someBytes(1, 41))}},
		{Quota: 1000, List: []impl.Blob{bad(idA, someBytes(1, 41))}},
		{Quota: 1000, List: []impl.Blob{{Id: hello.Id, Data: "world"}}},
		{Quota: 1000, List: []impl.Blob{{Id: idA, Data: "world"}}},
		{Quota: 1000, List: []impl.Blob{{}}},
		{Quota: 1000, List: []impl.Blob{bad("", "world")}},
		{Quota: 1000, List: []impl.Blob{bad(world.Id[:7], "world")}},
		{Quota: 1000, List: []impl.Blob{bad(world.Id+"x", "world")}},
		{Quota: 1000, List: intactOf(thirteen...).List},
	}
}

func reversed(l []impl.Blob) []impl.Blob {
	out := slices.Clone(l)
	slices.Reverse(out)
	return out
}

// idsOf are the Ids of the chunks, and such that are near to one.
func idsOf(b impl.Blobs) []string {
	out := []string{"", "\x00", idA, idB, strings.Repeat("\xff", 8), strings.Repeat("\x00", 8), wantShort(""), wantShort("hello"), "nothing!"}
	for _, x := range b.List {
		last := len(x.Id) - 1
		out = append(out, x.Id, x.Id[:last], x.Id[:1], x.Id[1:], x.Id+"\x00", x.Id+x.Id, " "+x.Id, x.Data,
			flipBit(x.Id, last, 0), flipBit(x.Id, 0, 7), impl.Sha(x.Data), impl.Hex(x.Id))
	}
	return out
}

// textsOf are what the chunks contain, what they should, and other strings.
func textsOf(b impl.Blobs) []string {
	out := []string{"", "a", "hello", "other", "\x00", "\xff", someBytes(2, 39), someBytes(2, 40), someBytes(2, 41), someBytes(3, 1000)}
	for _, x := range b.List {
		out = append(out, x.Data, x.Data+"x", x.Id)
	}
	return out
}

func TestBlobConstants(t *testing.T) {
	if impl.MaxBlobs != 12 || impl.MaxBlob != 40 {
		t.Errorf("MaxBlobs = %d, MaxBlob = %d", impl.MaxBlobs, impl.MaxBlob)
	}
}

func TestZeroBlobs(t *testing.T) {
	for _, b := range []impl.Blobs{{}, {List: []impl.Blob{}}, {List: make([]impl.Blob, 0, 5)}} {
		checkValid(t, "zero", b)
		if got, id, code := impl.BlobPut(b, ""); !equalBlobs(got, intactOf("")) || id != wantShort("") || code != 0 {
			t.Errorf("BlobPut of nothing: %#v, %q, %d", got, id, code)
		}
		if got, id, code := impl.BlobPut(b, "a"); !equalBlobs(got, impl.Blobs{}) || id != "" || code != 2 {
			t.Errorf("BlobPut without room: %#v, %q, %d", got, id, code)
		}
		if s, code := impl.BlobGet(b, ""); s != "" || code != 1 {
			t.Errorf("BlobGet: %q, %d", s, code)
		}
		if got, ok := impl.BlobDrop(b, ""); !equalBlobs(got, impl.Blobs{}) || ok {
			t.Errorf("BlobDrop: %#v, %v", got, ok)
		}
		if got, ok := impl.BlobBend(b, ""); !equalBlobs(got, impl.Blobs{}) || ok {
			t.Errorf("BlobBend: %#v, %v", got, ok)
		}
		if got := impl.BlobUsed(b); got != 0 {
			t.Errorf("BlobUsed: %d", got)
		}
	}
}

func TestStoresThatAreValid(t *testing.T) {
	for _, b := range validStores() {
		checkValid(t, "given", b)
	}
}

func TestStoresThatAreInvalid(t *testing.T) {
	for _, b := range invalidStores() {
		checkInvalid(t, "given", b)
	}
}

func TestBlobsOkQuota(t *testing.T) {
	for quota, want := range map[int]bool{-1: false, 0: true, 1: true, 999: true, 1000: true, 1001: false} {
		checkWhether(t, "Quota", impl.Blobs{Quota: quota}, want)
		checkWhether(t, "Quota of an empty chunk", impl.Blobs{Quota: quota, List: []impl.Blob{intact("")}}, want)
	}
	for _, quota := range bigNumbers() {
		checkWhether(t, "Quota", impl.Blobs{Quota: quota}, quota >= 0 && quota <= 1000)
		for _, b := range validStores() {
			used := len(strings.Join(dataOf(b), ""))
			b.Quota = quota
			checkWhether(t, "Quota", b, quota >= used && quota <= 1000)
		}
	}
}

func dataOf(b impl.Blobs) []string {
	var out []string
	for _, x := range b.List {
		out = append(out, x.Data)
	}
	return out
}

func TestBlobsOkNumberOfChunks(t *testing.T) {
	for count := range 30 {
		full := impl.Blobs{Quota: 1000, List: intactOf(orderedTexts(count, 3)...).List}
		checkWhether(t, "intact chunks", full, count <= impl.MaxBlobs)
		var empty []impl.Blob
		for _, id := range badIds(count) {
			empty = append(empty, bad(id, ""))
		}
		checkWhether(t, "Bad chunks without bytes", storeOf(0, empty...), count <= impl.MaxBlobs)
	}
	var many []impl.Blob
	for _, id := range badIds(100000) {
		many = append(many, bad(id, ""))
	}
	if impl.BlobsOk(storeOf(1000, many...)) || impl.BlobUsed(storeOf(1000, many...)) != 0 {
		t.Error("many chunks are valid")
	}
}

func TestBlobsOkOrder(t *testing.T) {
	for _, c := range []struct {
		first  string
		second string
		want   bool
	}{
		{"aaaaaaaa", "aaaaaaab", true},
		{"aaaaaaab", "aaaaaaaa", false},
		{"aaaaaaaa", "aaaaaaaa", false},
		{"aaaaaaaz", "aaaaaaba", true},
		{"aaaaaaba", "aaaaaaaz", false},
		{"baaaaaaa", "azzzzzzz", false},
		{"\x7f\xff\xff\xff\xff\xff\xff\xff", "\x80\x00\x00\x00\x00\x00\x00\x00", true},
		{"\x80\x00\x00\x00\x00\x00\x00\x00", "\x7f\xff\xff\xff\xff\xff\xff\xff", false},
		{"\x00\x00\x00\x00\x00\x00\x00\x00", "\xff\xff\xff\xff\xff\xff\xff\xff", true},
		{"\xff\xff\xff\xff\xff\xff\xff\xff", "\x00\x00\x00\x00\x00\x00\x00\x00", false},
		{"\xff\xff\xff\xff\xff\xff\xff\xff", "\xff\xff\xff\xff\xff\xff\xff\xff", false},
		{"\x00\x00\x00\x00\x00\x00\x00\x00", "\x00\x00\x00\x00\x00\x00\x00\x01", true},
	} {
		for _, data := range []string{"", "same"} {
			list := []impl.Blob{bad(c.first, data), bad(c.second, data)}
			checkWhether(t, "order", impl.Blobs{Quota: 1000, List: list}, c.want)
		}
	}
	for _, b := range validStores() {
		b.Quota = 1000
		for i := range b.List {
			twice := copyOfBlobs(b)
			twice.List = slices.Insert(twice.List, i, b.List[i])
			checkInvalid(t, "chunk twice", twice)
			for j := range i {
				swapped := copyOfBlobs(b)
				swapped.List[i], swapped.List[j] = swapped.List[j], swapped.List[i]
				checkInvalid(t, "chunks swapped", swapped)
			}
			less := copyOfBlobs(b)
			less.List = slices.Delete(less.List, i, i+1)
			checkValid(t, "chunk less", less)
		}
	}
	// An intact and a Bad chunk of one Id are two of the same Id all the same.
	x := intact("hello")
	for _, y := range []impl.Blob{x, bad(x.Id, "hello"), bad(x.Id, "other")} {
		checkInvalid(t, "same Id", impl.Blobs{Quota: 1000, List: []impl.Blob{x, y}})
		checkInvalid(t, "same Id", impl.Blobs{Quota: 1000, List: []impl.Blob{y, x}})
	}
}

func TestBlobsOkSizeOfAChunk(t *testing.T) {
	for size := range 100 {
		s := someBytes(4, size)
		for _, x := range []impl.Blob{intact(s), bad(wantShort(s), s), bad(idA, s)} {
			checkWhether(t, "alone", storeOf(1000, x), size <= impl.MaxBlob)
			checkWhether(t, "among others", storeOf(1000, x, intact("hello"), bad(idB, "x")), size <= impl.MaxBlob)
		}
	}
	long := strings.Repeat("a", 1<<24)
	checkInvalid(t, "long", storeOf(1000, impl.Blob{Id: idA, Data: long}))
	checkInvalid(t, "long", storeOf(1000, bad(idA, long)))
	checkInvalid(t, "long Id", storeOf(1000, bad(long, "")))
	checkInvalid(t, "long Id", storeOf(1000, impl.Blob{Id: long}))
}

func TestBlobsOkSizeOfAll(t *testing.T) {
	for _, count := range []int{1, 2, 5, 12} {
		for _, size := range []int{1, 7, 39, 40} {
			b := intactOf(orderedTexts(count, size)...)
			bent := copyOfBlobs(b)
			for i := range bent.List {
				bent.List[i].Bad = i%2 == 0
			}
			for _, off := range []int{-size, -1, 0, 1} {
				b.Quota = count*size + off
				bent.Quota = b.Quota
				checkWhether(t, "intact", b, off >= 0)
				checkWhether(t, "Bad", bent, off >= 0)
			}
		}
	}
}

func TestBlobsOkIdOfAnIntactChunk(t *testing.T) {
	for _, s := range []string{"", "a", "hello", "\x00", someBytes(1, 40)} {
		id := wantShort(s)
		others := []string{"", id[:7], id + "\x00", id[1:], idA, impl.Hex(id), impl.Sha(s), s, wantShort(s + "x"), wantShort(id)}
		for at := range 8 {
			for bit := range 8 {
				others = append(others, flipBit(id, at, bit))
			}
		}
		for _, other := range others {
			checkInvalid(t, "other Id", storeOf(1000, impl.Blob{Id: other, Data: s}))
			checkWhether(t, "other Id of a Bad chunk", storeOf(1000, bad(other, s)), len(other) == 8)
		}
		checkValid(t, "its Id", storeOf(1000, intact(s)))
		checkValid(t, "its Id of a Bad chunk", storeOf(1000, bad(id, s)))
	}
	for _, b := range validStores() {
		for i, x := range b.List {
			changed := copyOfBlobs(b)
			changed.Quota = 1000
			changed.List[i].Data = strings.Repeat("q", len(x.Data)+1)
			checkWhether(t, "other Data", changed, x.Bad && len(x.Data) < 40)
			changed.List[i] = impl.Blob{Id: x.Id, Data: x.Data, Bad: !x.Bad}
			checkWhether(t, "other mark", changed, !x.Bad || x.Id == wantShort(x.Data))
		}
	}
}

func TestBlobsOkIdOfABadChunk(t *testing.T) {
	for size := range 20 {
		id := strings.Repeat("a", size)
		checkWhether(t, "length of an Id", storeOf(1000, bad(id, "")), size == 8)
		checkWhether(t, "length of an Id", storeOf(1000, bad(id, "x"), bad("bbbbbbbb", ""), intact("hello")), size == 8)
	}
}

// TestBadChunkIsStoredAgain is the promise: whatever is wrong with a chunk, it
// is intact after its bytes are stored once more, and no other one is touched.
func TestBadChunkIsStoredAgain(t *testing.T) {
	hello := intact("hello")
	rest := []impl.Blob{intact("one"), intact("three"), bad(idA, "four"), bad(wantShort("five"), "five")}
	for _, wrong := range []string{"hello", "", "h", "hellO", "hell", "hello!", "world", someBytes(1, 40), "\x00\x00\x00\x00\x00"} {
		b := storeOf(1000, append(rest[:4:4], bad(hello.Id, wrong))...)
		if s, code := impl.BlobGet(b, hello.Id); s != "" || code != 2 {
			t.Errorf("Bad: %q, %d", s, code)
		}
		got, id, code := impl.BlobPut(b, "hello")
		if want := storeOf(1000, append(rest[:4:4], hello)...); !equalBlobs(got, want) || id != hello.Id || code != 0 {
			t.Errorf("stored again: %#v, %q, %d", got, id, code)
		}
		if s, code := impl.BlobGet(got, hello.Id); s != "hello" || code != 0 {
			t.Errorf("intact again: %q, %d", s, code)
		}
		if got := impl.BlobUsed(got); got != len("onethreefourfivehello") {
			t.Errorf("used: %d", got)
		}
		tryPut(t, b, "hello")
	}
}

func TestBentChunkIsStoredAgain(t *testing.T) {
	for _, b := range validStores() {
		for i, x := range b.List {
			if x.Bad {
				continue
			}
			bent, ok := impl.BlobBend(b, x.Id)
			want := copyOfBlobs(b)
			want.List[i].Bad = true
			if !ok || !equalBlobs(bent, want) {
				t.Fatalf("BlobBend(%#v, %+q) = %#v, %v", b, x.Id, bent, ok)
			}
			if s, code := impl.BlobGet(bent, x.Id); s != "" || code != 2 {
				t.Errorf("BlobGet of a Bad chunk: %q, %d", s, code)
			}
			again, id, code := impl.BlobPut(bent, x.Data)
			if !equalBlobs(again, b) || id != x.Id || code != 0 {
				t.Fatalf("BlobPut(%#v, %+q) = %#v, %+q, %d", bent, x.Data, again, id, code)
			}
			if s, code := impl.BlobGet(again, x.Id); s != x.Data || code != 0 {
				t.Errorf("BlobGet of an intact chunk: %q, %d", s, code)
			}
		}
	}
}

// TestBlobPutOfTheWrongBytes stores what a Bad chunk holds: that is another
// chunk, and the Bad one is as before.
func TestBlobPutOfTheWrongBytes(t *testing.T) {
	b := storeOf(20, bad(wantShort("hello"), "world"))
	got, id, code := impl.BlobPut(b, "world")
	want := storeOf(20, bad(wantShort("hello"), "world"), intact("world"))
	if !equalBlobs(got, want) || id != wantShort("world") || code != 0 {
		t.Errorf("%#v, %q, %d", got, id, code)
	}
	if s, code := impl.BlobGet(got, wantShort("hello")); s != "" || code != 2 {
		t.Errorf("the Bad chunk: %q, %d", s, code)
	}
	if s, code := impl.BlobGet(got, wantShort("world")); s != "world" || code != 0 {
		t.Errorf("the other chunk: %q, %d", s, code)
	}
}

func TestBlobPutOfEverySize(t *testing.T) {
	for size := range 100 {
		s := someBytes(6, size)
		for _, b := range []impl.Blobs{{Quota: 1000}, {Quota: 40}, storeOf(1000, intact("hello"), bad(idA, "x"))} {
			got, id, code := impl.BlobPut(b, s)
			if size <= 40 && (id != wantShort(s) || code != 0 || len(got.List) != len(b.List)+1) {
				t.Errorf("%d bytes: %#v, %q, %d", size, got, id, code)
			}
			if size > 40 && (id != "" || code != 1 || !equalBlobs(got, b)) {
				t.Errorf("%d bytes: %#v, %q, %d", size, got, id, code)
			}
			tryPut(t, b, s)
		}
	}
	tryPut(t, impl.Blobs{Quota: 1000}, strings.Repeat("a", 1<<24))
}

func TestBlobPutOfWhatIsStored(t *testing.T) {
	for _, b := range validStores() {
		for _, x := range b.List {
			if x.Bad {
				continue
			}
			got, id, code := impl.BlobPut(b, x.Data)
			if !equalBlobs(got, b) || id != x.Id || code != 0 {
				t.Errorf("BlobPut(%#v, %+q) = %#v, %+q, %d", b, x.Data, got, id, code)
			}
		}
	}
}

func TestBlobPutIntoEveryPlace(t *testing.T) {
	for _, size := range []int{2, 5, 40} {
		for count := 1; count <= 12; count++ {
			whole := intactOf(orderedTexts(count, size)...)
			for i, x := range whole.List {
				less := copyOfBlobs(whole)
				less.List = slices.Delete(less.List, i, i+1)
				got, id, code := impl.BlobPut(less, x.Data)
				if !equalBlobs(got, whole) || id != x.Id || code != 0 {
					t.Fatalf("chunk %d of %d: %#v, %q, %d", i, count, got, id, code)
				}
				tryPut(t, less, x.Data)
			}
		}
	}
	// Ids are compared as bytes: one of 128 and more comes last, whatever its sign.
	for _, s := range numbered(1, 60, 9) {
		b := storeOf(1000, bad("\x00\x00\x00\x00\x00\x00\x00\x00", ""), bad("\x7f\xff\xff\xff\xff\xff\xff\xff", "a"),
			bad("\x80\x00\x00\x00\x00\x00\x00\x00", "b"), bad("\xff\xff\xff\xff\xff\xff\xff\xff", "c"))
		got := tryPut(t, b, s)
		at := 1
		if wantShort(s)[0] >= 128 {
			at = 3
		}
		if len(got.List) != 5 || got.List[at] != intact(s) {
			t.Errorf("%#v: not at %d", got, at)
		}
	}
}

func TestBlobPutInAnyOrder(t *testing.T) {
	texts := []string{"", "a", "bb", "ccc", "\xff\xff", "\x00"}
	want := impl.Blobs{Quota: 20, List: intactOf(texts...).List}
	var visit func(b impl.Blobs, left []string)
	visit = func(b impl.Blobs, left []string) {
		if len(left) == 0 && !equalBlobs(b, want) {
			t.Fatalf("%#v, want %#v", b, want)
		}
		for i, s := range left {
			next, id, code := impl.BlobPut(b, s)
			if id != wantShort(s) || code != 0 {
				t.Fatalf("%q, %d", id, code)
			}
			visit(next, slices.Delete(slices.Clone(left), i, i+1))
		}
	}
	visit(impl.Blobs{Quota: 20}, texts)
}

func TestBlobPutAtMaxBlobs(t *testing.T) {
	texts := orderedTexts(13, 3)
	for extra := range texts {
		stored := slices.Delete(slices.Clone(texts), extra, extra+1)
		b := impl.Blobs{Quota: 1000, List: intactOf(stored...).List}
		for _, s := range []string{texts[extra], "", "new", someBytes(1, 40)} {
			if got, id, code := impl.BlobPut(b, s); !equalBlobs(got, b) || id != "" || code != 2 {
				t.Errorf("a new one: %#v, %q, %d", got, id, code)
			}
			tryPut(t, b, s)
		}
		for i, s := range stored {
			if got, id, code := impl.BlobPut(b, s); !equalBlobs(got, b) || id != wantShort(s) || code != 0 {
				t.Errorf("one that is contained: %#v, %q, %d", got, id, code)
			}
			for _, wrong := range []string{s, "", "wrong"} {
				bent := copyOfBlobs(b)
				bent.List[i] = bad(wantShort(s), wrong)
				if got, id, code := impl.BlobPut(bent, s); !equalBlobs(got, b) || id != wantShort(s) || code != 0 {
					t.Errorf("one that is Bad: %#v, %q, %d", got, id, code)
				}
				if got, id, code := impl.BlobPut(bent, texts[extra]); !equalBlobs(got, bent) || id != "" || code != 2 {
					t.Errorf("a new one beside a Bad one: %#v, %q, %d", got, id, code)
				}
			}
			less := tryDrop(t, b, wantShort(s))
			if got, id, code := impl.BlobPut(less, texts[extra]); len(got.List) != 12 || id != wantShort(texts[extra]) || code != 0 {
				t.Errorf("into the last place: %#v, %q, %d", got, id, code)
			}
		}
	}
}

func TestBlobPutAtQuota(t *testing.T) {
	for size := 1; size <= 40; size++ {
		s := someBytes(8, size)
		for _, used := range []int{0, 1, 17, 40} {
			other := someBytes(9, used)
			for _, held := range []impl.Blob{intact(other), bad(wantShort(other), other), bad(idA, other)} {
				full := storeOf(used+size, held)
				if got, id, code := impl.BlobPut(full, s); code != 0 || id != wantShort(s) || impl.BlobUsed(got) != used+size {
					t.Fatalf("%d bytes to %d, exactly full: %#v, %q, %d", size, used, got, id, code)
				}
				over := storeOf(used+size-1, held)
				if got, id, code := impl.BlobPut(over, s); code != 2 || id != "" || !equalBlobs(got, over) {
					t.Fatalf("%d bytes to %d, one too many: %#v, %q, %d", size, used, got, id, code)
				}
				tryPut(t, full, s)
				tryPut(t, over, s)
			}
		}
	}
	// A full store still takes what needs no room.
	b := intactOf("hello", "world")
	tryPut(t, b, "hello")
	if got, id, code := impl.BlobPut(b, ""); len(got.List) != 3 || id != wantShort("") || code != 0 {
		t.Errorf("nothing into a full store: %#v, %q, %d", got, id, code)
	}
}

// TestBlobPutInPlaceOfABadChunk: what the Bad chunk took is free again, and no
// more than that.
func TestBlobPutInPlaceOfABadChunk(t *testing.T) {
	for size := range 41 {
		s := someBytes(10, size)
		for wrong := range 41 {
			held := bad(wantShort(s), someBytes(11, wrong))
			for _, more := range []int{0, 1, 2, 100} {
				b := storeOf(5+wrong+more, held, intact("hello"))
				got, id, code := impl.BlobPut(b, s)
				if size <= wrong+more {
					if want := storeOf(b.Quota, intact(s), intact("hello")); !equalBlobs(got, want) || id != wantShort(s) || code != 0 {
						t.Fatalf("%d bytes for %d: %#v, %q, %d", size, wrong, got, id, code)
					}
				} else if !equalBlobs(got, b) || id != "" || code != 2 {
					t.Fatalf("%d bytes for %d: %#v, %q, %d", size, wrong, got, id, code)
				}
				tryPut(t, b, s)
			}
		}
	}
}

func TestBlobPutOfBothCodes(t *testing.T) {
	long := someBytes(12, 41)
	full := impl.Blobs{Quota: 1000, List: intactOf(orderedTexts(12, 4)...).List}
	for _, b := range []impl.Blobs{
		{},
		{Quota: 40},
		intactOf("hello"),
		full,
		intactOf(orderedTexts(12, 40)...),
		storeOf(40, bad(wantShort(long), long[:40])),
		storeOf(1000, bad(wantShort(long), "")),
	} {
		for _, s := range []string{long, long + long} {
			if got, id, code := impl.BlobPut(b, s); !equalBlobs(got, b) || id != "" || code != 1 {
				t.Errorf("BlobPut(%#v, %d bytes) = %#v, %q, %d", b, len(s), got, id, code)
			}
		}
	}
	// An invalid store has the same code, but is not handed back.
	for _, b := range []impl.Blobs{{Quota: -1}, {Quota: 1001}, storeOf(4, intact("hello"))} {
		for _, s := range []string{"", "hello", "world", long} {
			if got, id, code := impl.BlobPut(b, s); !equalBlobs(got, impl.Blobs{}) || id != "" || code != 1 {
				t.Errorf("BlobPut(%#v, %q) = %#v, %q, %d", b, s, got, id, code)
			}
		}
	}
}

func TestBlobGetDropAndBendAtEachPlace(t *testing.T) {
	for count := 1; count <= 12; count++ {
		b := impl.Blobs{Quota: 500, List: intactOf(orderedTexts(count, 6)...).List}
		for i, x := range b.List {
			if s, code := impl.BlobGet(b, x.Id); s != x.Data || code != 0 {
				t.Errorf("BlobGet of %d of %d: %q, %d", i, count, s, code)
			}
			less, bent := copyOfBlobs(b), copyOfBlobs(b)
			less.List = slices.Delete(less.List, i, i+1)
			bent.List[i].Bad = true
			if got, ok := impl.BlobDrop(b, x.Id); !equalBlobs(got, less) || !ok {
				t.Errorf("BlobDrop of %d of %d: %#v, %v", i, count, got, ok)
			}
			if got, ok := impl.BlobBend(b, x.Id); !equalBlobs(got, bent) || !ok {
				t.Errorf("BlobBend of %d of %d: %#v, %v", i, count, got, ok)
			}
			if got, ok := impl.BlobDrop(less, x.Id); !equalBlobs(got, less) || ok {
				t.Errorf("BlobDrop twice of %d of %d: %#v, %v", i, count, got, ok)
			}
			if got, ok := impl.BlobBend(less, x.Id); !equalBlobs(got, less) || ok {
				t.Errorf("BlobBend after BlobDrop of %d of %d: %#v, %v", i, count, got, ok)
			}
			if s, code := impl.BlobGet(less, x.Id); s != "" || code != 1 {
				t.Errorf("BlobGet after BlobDrop of %d of %d: %q, %d", i, count, s, code)
			}
		}
	}
}

func TestBlobGetDropAndBendOfABadChunk(t *testing.T) {
	for count := 1; count <= 12; count++ {
		whole := impl.Blobs{Quota: 500, List: intactOf(orderedTexts(count, 6)...).List}
		for i, x := range whole.List {
			for _, wrong := range []string{x.Data, "", "wrong"} {
				b, less := copyOfBlobs(whole), copyOfBlobs(whole)
				b.List[i] = bad(x.Id, wrong)
				less.List = slices.Delete(less.List, i, i+1)
				if s, code := impl.BlobGet(b, x.Id); s != "" || code != 2 {
					t.Errorf("BlobGet: %q, %d", s, code)
				}
				if got, ok := impl.BlobBend(b, x.Id); !equalBlobs(got, b) || ok {
					t.Errorf("BlobBend: %#v, %v", got, ok)
				}
				if got, ok := impl.BlobDrop(b, x.Id); !equalBlobs(got, less) || !ok {
					t.Errorf("BlobDrop: %#v, %v", got, ok)
				}
			}
		}
	}
}

func TestBlobBendTwice(t *testing.T) {
	b := storeOf(30, intact("hello"), intact("world"), intact(""))
	for _, x := range b.List {
		once, ok := impl.BlobBend(b, x.Id)
		if !ok {
			t.Errorf("%q does not bend", x.Data)
		}
		if twice, ok := impl.BlobBend(once, x.Id); ok || !equalBlobs(twice, once) {
			t.Errorf("%q bends twice: %#v", x.Data, twice)
		}
		for _, y := range b.List {
			tryBend(t, once, y.Id)
		}
	}
}

// TestBlobsOfOtherIds asks for what is near to a chunk, but not contained:
// prefixes, longer Ids, changed bits, and what is no Id at all.
func TestBlobsOfOtherIds(t *testing.T) {
	for _, b := range validStores() {
		for _, id := range idsOf(b) {
			if _, found := placeOf(b, id); !found {
				if s, code := impl.BlobGet(b, id); s != "" || code != 1 {
					t.Errorf("BlobGet(%#v, %+q) = %q, %d", b, id, s, code)
				}
				if got, ok := impl.BlobDrop(b, id); !equalBlobs(got, b) || ok {
					t.Errorf("BlobDrop(%#v, %+q) = %#v, %v", b, id, got, ok)
				}
				if got, ok := impl.BlobBend(b, id); !equalBlobs(got, b) || ok {
					t.Errorf("BlobBend(%#v, %+q) = %#v, %v", b, id, got, ok)
				}
			}
			checkGet(t, b, id)
			tryDrop(t, b, id)
			tryBend(t, b, id)
		}
		long := strings.Repeat("a", 1<<20)
		checkGet(t, b, long)
		tryDrop(t, b, long)
		tryBend(t, b, long)
	}
}

func TestBlobPutOfOtherTexts(t *testing.T) {
	for _, b := range validStores() {
		for _, s := range textsOf(b) {
			tryPut(t, b, s)
		}
	}
}

func TestBlobUsed(t *testing.T) {
	for _, c := range []struct {
		store impl.Blobs
		want  int
	}{
		{impl.Blobs{}, 0},
		{impl.Blobs{Quota: 1000}, 0},
		{intactOf(""), 0},
		{intactOf("hello"), 5},
		{intactOf("hello", "", "ab"), 7},
		{storeOf(9, bad(wantShort("hello"), "hello"), intact("ab")), 7},
		{storeOf(9, bad(wantShort("hello"), "hey"), bad(idA, "abcdef")), 9},
		{storeOf(9, bad(idA, "")), 0},
		{intactOf(orderedTexts(12, 40)...), 480},
		{impl.Blobs{Quota: -1}, 0},
		{impl.Blobs{Quota: 1001, List: []impl.Blob{intact("hello")}}, 0},
		{storeOf(4, intact("hello")), 0},
		{storeOf(9, impl.Blob{Id: idA, Data: "hello"}), 0},
		{storeOf(1000, intact("hello"), intact("hello")), 0},
	} {
		if got := impl.BlobUsed(c.store); got != c.want {
			t.Errorf("BlobUsed(%#v) = %d, want %d", c.store, got, c.want)
		}
	}
}

// anyBlobStep makes one call with one of these strings, or with its Id.
func anyBlobStep(t *testing.T, r *lcg, b impl.Blobs, texts []string) impl.Blobs {
	t.Helper()
	s := texts[r.below(len(texts))]
	switch kind := r.below(10); {
	case kind < 6:
		return tryPut(t, b, s)
	case kind < 8:
		return tryBend(t, b, wantShort(s))
	default:
		return tryDrop(t, b, wantShort(s))
	}
}

func TestBlobsAnySequence(t *testing.T) {
	var texts []string
	for i, size := range []int{0, 1, 1, 2, 3, 5, 8, 13, 20, 21, 30, 34, 39, 40, 40, 40, 41, 60} {
		texts = append(texts, someBytes(uint64(i+50), size))
	}
	quotas := []int{0, 1, 20, 60, 100, 200, 480, 1000}
	for seed := range 100 {
		r := lcg(seed + 7)
		b := impl.Blobs{Quota: quotas[seed%len(quotas)]}
		if seed%10 == 9 {
			b = storeOf(300, bad(wantShort(texts[3]), "wrong"), bad(wantShort(texts[11]), ""), bad(wantShort(texts[17]), "x"))
		}
		for range 150 {
			b = anyBlobStep(t, &r, b, texts)
		}
	}
}

// heldChunk is what a client remembers of a chunk.
type heldChunk struct {
	data string
	bad  bool
}

// TestBlobsHoldWhatWasStored says the promise with nothing but a map of what
// was stored, which knows neither limits nor an order.
func TestBlobsHoldWhatWasStored(t *testing.T) {
	for seed := range 150 {
		r := lcg(seed + 3000)
		b := impl.Blobs{Quota: 30 + r.below(300)}
		held := map[string]heldChunk{}
		for range 120 {
			s := someBytes(uint64(r.below(20)), r.below(4)*9)
			id := impl.Short(s)
			switch kind := r.below(9); {
			case kind < 5:
				got, at, code := impl.BlobPut(b, s)
				if code == 0 && at != id || code == 1 {
					t.Fatalf("BlobPut(%#v, %+q) = %q, %d", b, s, at, code)
				}
				if code == 0 {
					held[id] = heldChunk{s, false}
				}
				b = got
			case kind < 7:
				got, ok := impl.BlobBend(b, id)
				if x, found := held[id]; ok != (found && !x.bad) {
					t.Fatalf("BlobBend(%#v, %+q) = %v", b, id, ok)
				}
				if ok {
					held[id] = heldChunk{s, true}
				}
				b = got
			default:
				got, ok := impl.BlobDrop(b, id)
				if _, found := held[id]; ok != found {
					t.Fatalf("BlobDrop(%#v, %+q) = %v", b, id, ok)
				}
				delete(held, id)
				b = got
			}
			holds(t, b, held)
		}
	}
}

func holds(t *testing.T, b impl.Blobs, held map[string]heldChunk) {
	t.Helper()
	used := 0
	for id, x := range held {
		used += len(x.data)
		s, code := impl.BlobGet(b, id)
		if x.bad && (s != "" || code != 2) || !x.bad && (s != x.data || code != 0) {
			t.Fatalf("BlobGet(%#v, %+q) = %+q, %d, want %#v", b, id, s, code, x)
		}
	}
	if !impl.BlobsOk(b) || len(b.List) != len(held) || impl.BlobUsed(b) != used {
		t.Fatalf("%#v holds %d, want %#v", b, impl.BlobUsed(b), held)
	}
}

func TestBlobsEverySequence(t *testing.T) {
	acts := []func(b impl.Blobs) impl.Blobs{
		func(b impl.Blobs) impl.Blobs { return tryPut(t, b, "hello") },
		func(b impl.Blobs) impl.Blobs { return tryPut(t, b, "a") },
		func(b impl.Blobs) impl.Blobs { return tryPut(t, b, "") },
		func(b impl.Blobs) impl.Blobs { return tryPut(t, b, strings.Repeat("b", 41)) },
		func(b impl.Blobs) impl.Blobs { return tryBend(t, b, wantShort("hello")) },
		func(b impl.Blobs) impl.Blobs { return tryBend(t, b, wantShort("a")) },
		func(b impl.Blobs) impl.Blobs { return tryDrop(t, b, wantShort("hello")) },
		func(b impl.Blobs) impl.Blobs { return tryDrop(t, b, wantShort("a")) },
	}
	var visit func(b impl.Blobs, left int)
	visit = func(b impl.Blobs, left int) {
		if left == 0 {
			return
		}
		for _, act := range acts {
			visit(act(b), left-1)
		}
	}
	visit(impl.Blobs{Quota: 5}, 4)
	visit(impl.Blobs{Quota: 6}, 4)
	visit(storeOf(8, bad(wantShort("hello"), "xy"), bad(wantShort("a"), "z")), 4)
	visit(impl.Blobs{Quota: 485, List: intactOf(orderedTexts(11, 40)...).List}, 3)
}

// blobCalls are the results of calls of every kind, with the rejected ones.
func blobCalls(b impl.Blobs) (stores []impl.Blobs, texts []string) {
	for _, s := range textsOf(b) {
		got, id, _ := impl.BlobPut(b, s)
		stores = append(stores, got)
		texts = append(texts, id)
	}
	for _, id := range idsOf(b) {
		dropped, _ := impl.BlobDrop(b, id)
		bent, _ := impl.BlobBend(b, id)
		s, _ := impl.BlobGet(b, id)
		stores = append(stores, dropped, bent)
		texts = append(texts, s)
	}
	return stores, texts
}

func TestBlobFunctionsChangeNoArgument(t *testing.T) {
	spare := impl.Blob{Id: "spare---", Data: "spare", Bad: true}
	for _, want := range validStores() {
		for _, room := range []int{0, 1, 20} {
			all := append(slices.Clone(want.List), slices.Repeat([]impl.Blob{spare}, room)...)
			b := impl.Blobs{Quota: want.Quota, List: all[:len(want.List)]}
			blobCalls(b)
			impl.BlobsOk(b)
			impl.BlobUsed(b)
			if !equalBlobs(b, want) {
				t.Errorf("%#v has become %#v", want, b)
			}
			for _, x := range all[len(want.List):] {
				if x != spare {
					t.Errorf("%#v: unused capacity has become %#v", want, x)
				}
			}
		}
	}
}

// stringsOf are all strings of a store.
func stringsOf(b impl.Blobs) []string {
	var out []string
	for _, x := range b.List {
		out = append(out, x.Id, x.Data)
	}
	return out
}

// apart tells that no two of the strings share memory.
func apart(t *testing.T, what string, l []string) {
	t.Helper()
	for i, a := range l {
		for j, b := range l[:i] {
			if shareBytes(a, b) {
				t.Fatalf("%s: string %d shares memory with %d: %+q, %+q", what, i, j, a, b)
			}
		}
	}
}

func freshBlobs(b impl.Blobs) impl.Blobs {
	b = copyOfBlobs(b)
	for i, x := range b.List {
		b.List[i].Id, b.List[i].Data = strings.Clone(x.Id), strings.Clone(x.Data)
	}
	return b
}

func TestBlobPutSharesNoMemory(t *testing.T) {
	for _, given := range validStores() {
		for _, s := range textsOf(given) {
			b, data := freshBlobs(given), strings.Clone(s)
			first, id, _ := impl.BlobPut(b, data)
			second, again, _ := impl.BlobPut(b, data)
			all := slices.Concat(stringsOf(b), []string{data, id, again}, stringsOf(first), stringsOf(second))
			apart(t, "BlobPut", all)
			changeAll(t, "BlobPut", b, first, second)
		}
	}
}

func TestBlobDropAndBendShareNoMemory(t *testing.T) {
	for _, given := range validStores() {
		for _, s := range idsOf(given) {
			b, id := freshBlobs(given), strings.Clone(s)
			for name, call := range map[string]func(impl.Blobs, string) (impl.Blobs, bool){"BlobDrop": impl.BlobDrop, "BlobBend": impl.BlobBend} {
				first, _ := call(b, id)
				second, _ := call(b, id)
				apart(t, name, slices.Concat(stringsOf(b), []string{id}, stringsOf(first), stringsOf(second)))
				changeAll(t, name, b, first, second)
			}
		}
	}
}

func TestBlobGetSharesNoMemory(t *testing.T) {
	for _, given := range validStores() {
		b := freshBlobs(given)
		for _, x := range b.List {
			id := strings.Clone(x.Id)
			first, _ := impl.BlobGet(b, id)
			second, _ := impl.BlobGet(b, id)
			apart(t, "BlobGet", append(stringsOf(b), id, first, second))
		}
	}
}

// changeAll overwrites one result with all its capacity, and tells that
// neither the argument nor the other result is changed by that.
func changeAll(t *testing.T, what string, given impl.Blobs, first impl.Blobs, second impl.Blobs) {
	t.Helper()
	before, after := copyOfBlobs(given), copyOfBlobs(second)
	all := first.List[:cap(first.List)]
	for i := range all {
		all[i] = bad("changed-", "changed")
	}
	if !equalBlobs(given, before) || !equalBlobs(second, after) {
		t.Fatalf("%s: a change of a result changes %#v or %#v", what, given, second)
	}
}

func TestBlobFunctionsKeepNoState(t *testing.T) {
	for _, b := range validStores() {
		stores, texts := blobCalls(b)
		for _, other := range append(validStores(), invalidStores()...) {
			impl.BlobPut(other, "hello")
			impl.BlobBend(other, wantShort("hello"))
			impl.BlobDrop(other, wantShort("hello"))
			impl.BlobGet(other, wantShort("hello"))
		}
		again, same := blobCalls(b)
		if !slices.EqualFunc(stores, again, equalBlobs) || !slices.Equal(texts, same) {
			t.Errorf("%#v has other results later", b)
		}
	}
}
