package tag

import (
	"math"
	"math/big"
	"slices"
	"testing"
)

// The chapter's bounds, written out once more.
const (
	lastStamp  = 72057594037927935 // 2^56 - 1
	slotsInAll = 64
)

// strangeSlots are integers that are no slots, some of which would be ones if only their last bits counted.
var strangeSlots = []int{math.MinInt, math.MinInt + 5, -1 << 32, -256, -251, -64, -63, -5, -1, 64, 65, 69, 127, 128, 255, 256, 261, 319, 1 << 32, 1<<32 + 5, math.MaxInt - 1, math.MaxInt}

// goodStamps are stamps of all sizes, with both ends.
func goodStamps() []uint64 {
	l := []uint64{3, 255, 256, 257, 0x123456789abcde, lastStamp - 2, lastStamp - 1, lastStamp}
	for i := range 56 {
		one := uint64(1) << i
		l = append(l, one, one|1)
	}
	slices.Sort(l)
	return slices.Compact(l)
}

// badStamps are integers that are no stamps; 256 times some of them is 0 or small again, modulo 2^64.
func badStamps() []uint64 {
	l := []uint64{0, lastStamp + 1, lastStamp + 2, lastStamp + 257, math.MaxInt64, math.MaxUint64 - 1, math.MaxUint64}
	for i := 56; i < 64; i++ {
		l = append(l, 1<<i, 1<<i+1)
	}
	return l
}

// byWords is 256 times the stamp plus the slot, on unbounded integers.
func byWords(stamp uint64, slot int) uint64 {
	x := new(big.Int).SetUint64(stamp)
	x.Mul(x, big.NewInt(256))
	x.Add(x, big.NewInt(int64(slot)))
	if !x.IsUint64() {
		panic("a word of more than 64 bits")
	}
	return x.Uint64()
}

// holdNoTag holds what Of returns for an integer that is no word.
func holdNoTag(t *testing.T, word uint64) {
	t.Helper()
	if tag, ok := Of(word); ok || tag != (Tag{}) {
		t.Fatalf("Of(%d) = %v, %t, but it is no word", word, tag, ok)
	}
}

// P6.1: Of and Word, of tags with every slot.
func TestOfAndWord(t *testing.T) {
	for _, stamp := range goodStamps() {
		for slot := range slotsInAll {
			tag, word := Tag{stamp, slot}, byWords(stamp, slot)
			if x, ok := tag.Word(); !ok || x != word {
				t.Fatalf("%v has the word %d, %t, want %d", tag, x, ok, word)
			}
			if x, ok := Of(word); !ok || x != tag {
				t.Fatalf("Of(%d) = %v, %t, want %v", word, x, ok, tag)
			}
		}
	}
}

// P6.1: tags at both ends, as numbers.
func TestWordsAtTheBounds(t *testing.T) {
	for _, c := range []struct {
		tag  Tag
		word uint64
	}{
		{Tag{1, 0}, 256}, {Tag{1, 5}, 261}, {Tag{1, 63}, 319}, {Tag{2, 0}, 512}, {Tag{2, 5}, 517}, {Tag{256, 1}, 65537},
		{Tag{lastStamp, 0}, math.MaxUint64 - 255}, {Tag{lastStamp, 63}, math.MaxUint64 - 192},
	} {
		if x, ok := c.tag.Word(); !ok || x != c.word {
			t.Errorf("%v has the word %d, %t, want %d", c.tag, x, ok, c.word)
		}
		if x, ok := Of(c.word); !ok || x != c.tag {
			t.Errorf("Of(%d) = %v, %t, want %v", c.word, x, ok, c.tag)
		}
	}
}

// P6.1: no other integer is a word: none with the stamp 0, none with a number from 64 to 255 in the place of the slot.
func TestOfNoWord(t *testing.T) {
	for word := range uint64(256) {
		holdNoTag(t, word)
	}
	for _, stamp := range goodStamps() {
		for slot := slotsInAll; slot < 256; slot++ {
			holdNoTag(t, byWords(stamp, slot))
		}
	}
	holdNoTag(t, 0)
	holdNoTag(t, 320)
	holdNoTag(t, math.MaxUint64-191)
	holdNoTag(t, math.MaxUint64)
}

// P6.1: a stamp or a slot beyond its bounds, or both.
func TestWordOfNoTag(t *testing.T) {
	var tags []Tag
	for _, stamp := range badStamps() {
		for slot := range slotsInAll {
			tags = append(tags, Tag{stamp, slot})
		}
		for _, slot := range strangeSlots {
			tags = append(tags, Tag{stamp, slot})
		}
	}
	for _, stamp := range goodStamps() {
		for _, slot := range strangeSlots {
			tags = append(tags, Tag{stamp, slot})
		}
	}
	for _, tag := range append(tags, Tag{}) {
		if x, ok := tag.Word(); ok || x != 0 {
			t.Fatalf("%v has the word %d, %t, but it is no tag", tag, x, ok)
		}
	}
}

// P6.1: of all small integers exactly those are words that some tag has, and no two tags share one.
func TestWordsOfAllSmallTags(t *testing.T) {
	tags := map[uint64]Tag{}
	for stamp := range uint64(20) {
		for slot := -3; slot < 300; slot++ {
			tag := Tag{stamp, slot}
			word, ok := tag.Word()
			if !ok {
				continue
			}
			if other, taken := tags[word]; taken {
				t.Fatalf("%v and %v both have the word %d", tag, other, word)
			}
			tags[word] = tag
		}
	}
	if len(tags) != 19*slotsInAll {
		t.Errorf("%d tags have a word", len(tags))
	}
	for word := range uint64(20 * 256) {
		if tag, ok := Of(word); tag != tags[word] || ok != (tags[word] != Tag{}) {
			t.Fatalf("Of(%d) = %v, %t, want %v", word, tag, ok, tags[word])
		}
	}
}

// model is a book by the chapter's words: the last stamp, the word of each slot that has one, and all words that were generated, in order.
type model struct {
	last uint64
	has  map[int]uint64
	all  []uint64
}

func newModel(last uint64) *model {
	if last > lastStamp {
		last = lastStamp
	}
	return &model{last: last, has: map[int]uint64{}}
}

func (m *model) next(slot int) (uint64, bool) {
	if slot < 0 || slot > 63 || m.last == lastStamp {
		return 0, false
	}
	m.last++
	word := byWords(m.last, slot)
	m.has[slot] = word
	m.all = append(m.all, word)
	return word, true
}

func (m *model) live(word uint64) (int, bool) {
	for slot, x := range m.has {
		if x == word {
			return slot, true
		}
	}
	return 0, false
}

// pair is a book with its model.
type pair struct {
	t    *testing.T
	book *Book
	by   *model
	path []int
}

func newPair(t *testing.T, last uint64) *pair {
	b := New(last)
	if b == nil {
		t.Fatalf("New(%d) is nil", last)
	}
	return &pair{t: t, book: b, by: newModel(last)}
}

func (p *pair) next(slot int) {
	p.t.Helper()
	p.path = append(p.path, slot)
	x, ok := p.book.Next(slot)
	if want, wantOk := p.by.next(slot); x != want || ok != wantOk {
		p.t.Fatalf("Next(%d), the last one of %d, = %d, %t, want %d, %t", slot, p.path, x, ok, want, wantOk)
	}
}

func (p *pair) drop(slot int) {
	p.path = append(p.path, slot)
	p.book.Drop(slot)
	delete(p.by.has, slot)
}

// holdLive holds what Live returns for one word.
func (p *pair) holdLive(word uint64) {
	p.t.Helper()
	slot, ok := p.book.Live(word)
	if want, wantOk := p.by.live(word); slot != want || ok != wantOk {
		p.t.Fatalf("Live(%d), after %d, = %d, %t, want %d, %t", word, p.path, slot, ok, want, wantOk)
	}
}

// holdAll holds the words of all slots, and which words are live: of those that were generated, the ones around them, and strange ones.
func (p *pair) holdAll() {
	p.t.Helper()
	for slot := range slotsInAll {
		if x := p.book.Now(slot); x != p.by.has[slot] {
			p.t.Fatalf("Now(%d), after %d, = %d, want %d", slot, p.path, x, p.by.has[slot])
		}
	}
	for _, slot := range strangeSlots {
		if x := p.book.Now(slot); x != 0 {
			p.t.Fatalf("Now(%d), after %d, = %d", slot, p.path, x)
		}
	}
	for _, word := range p.by.all {
		for _, x := range []uint64{word, word - 256, word + 256, word - 1, word + 1, word + 64, word &^ 255, word | 63} {
			p.holdLive(x)
		}
	}
	for _, word := range []uint64{0, 1, 5, 63, 64, 255, 256, math.MaxUint64, math.MaxUint64 - 192, math.MaxUint64 - 255} {
		p.holdLive(word)
	}
}

// starts are last stamps: small ones, those that leave room for no more than a few, and those that are too great.
func starts() []uint64 {
	return []uint64{0, 1, 2, 254, 255, 256, 1 << 32, lastStamp - 3, lastStamp - 2, lastStamp - 1, lastStamp, lastStamp + 1, lastStamp + 2, 1 << 57, 1 << 63, math.MaxUint64 - 1, math.MaxUint64}
}

// P6.2: New returns a book without words; no word is live in it.
func TestNewHasNoWords(t *testing.T) {
	for _, last := range starts() {
		p := newPair(t, last)
		p.holdAll()
		for _, stamp := range goodStamps() {
			for slot := range slotsInAll {
				p.holdLive(byWords(stamp, slot))
			}
		}
	}
}

// P6.2: the first word has the stamp after the last one; a last stamp that is too great counts as the greatest one.
func TestNextAfterNew(t *testing.T) {
	for _, c := range []struct {
		last uint64
		want uint64
		ok   bool
	}{
		{0, 256 + 9, true}, {1, 512 + 9, true}, {255, 65536 + 9, true}, {lastStamp - 1, lastStamp<<8 + 9, true},
		{lastStamp, 0, false}, {lastStamp + 1, 0, false}, {lastStamp + 2, 0, false}, {1 << 57, 0, false}, {math.MaxUint64, 0, false},
	} {
		if x, ok := New(c.last).Next(9); x != c.want || ok != c.ok {
			t.Errorf("New(%d).Next(9) = %d, %t, want %d, %t", c.last, x, ok, c.want, c.ok)
		}
	}
}

// P6.2: every slot gets a word, with stamps in the order of the calls, whatever slots they are for.
func TestNextOfAllSlots(t *testing.T) {
	for _, last := range starts() {
		p := newPair(t, last)
		for range 2 {
			for slot := range slotsInAll {
				p.next(slot)
			}
			p.holdAll()
		}
		for slot := slotsInAll - 1; slot >= 0; slot-- {
			p.next(slot)
			p.next(slot)
		}
		p.holdAll()
	}
}

// P6.2: a slot that is none costs no stamp and changes no word.
func TestNextOfNoSlot(t *testing.T) {
	for _, last := range starts() {
		p := newPair(t, last)
		p.next(0)
		p.next(63)
		for _, slot := range strangeSlots {
			p.next(slot)
			p.holdAll()
		}
		p.next(5)
		p.holdAll()
	}
}

// P6.2: when the stamps have run out, no slot gets a word any more, and each keeps the one that it has.
func TestNextWithoutAStamp(t *testing.T) {
	b := New(lastStamp - 2)
	first, _ := b.Next(5)
	second, ok := b.Next(7)
	if !ok || second != lastStamp<<8+7 {
		t.Fatal(second, ok)
	}
	for range 3 {
		for slot := range slotsInAll {
			if x, ok := b.Next(slot); ok || x != 0 {
				t.Fatalf("Next(%d) = %d, %t", slot, x, ok)
			}
		}
		if x := b.Now(5); x != first {
			t.Errorf("Now(5) = %d, want %d", x, first)
		}
		if x := b.Now(7); x != second {
			t.Errorf("Now(7) = %d, want %d", x, second)
		}
		if x := b.Now(6); x != 0 {
			t.Errorf("Now(6) = %d", x)
		}
	}
	b.Drop(7)
	if x, ok := b.Next(7); ok || x != 0 {
		t.Errorf("Next(7) = %d, %t: a dropped word gives no stamp back", x, ok)
	}
	if slot, ok := b.Live(first); !ok || slot != 5 {
		t.Error(slot, ok)
	}
}

// P6.2, P6.3: all short sequences of calls, held against the model after each.
func TestAllShortSequences(t *testing.T) {
	slots := []int{-1, 0, 5, 63, 64}
	const longest = 4
	for _, last := range []uint64{0, lastStamp - 2, lastStamp} {
		seq := make([]int, longest)
		for {
			p := newPair(t, last)
			for _, op := range seq {
				if slot := slots[op/2]; op%2 == 0 {
					p.next(slot)
				} else {
					p.drop(slot)
				}
			}
			p.holdAll()
			i := 0
			for ; i < longest; i++ {
				if seq[i]++; seq[i] < 2*len(slots) {
					break
				}
				seq[i] = 0
			}
			if i == longest {
				break
			}
		}
	}
}

// P6.2, P6.3, P6.4: a long walk over all slots, held against the model.
func TestLongWalk(t *testing.T) {
	for _, last := range []uint64{0, 1 << 40, lastStamp - 150} {
		p := newPair(t, last)
		x := uint64(11)
		for i := range 400 {
			x = x*6364136223846793005 + 1442695040888963407
			slot := int(x>>40%70) - 3
			if x>>33%4 == 0 {
				p.drop(slot)
			} else {
				p.next(slot)
			}
			if i%7 == 0 {
				p.holdAll()
			}
		}
		p.holdAll()
		for slot := range slotsInAll {
			p.drop(slot)
		}
		p.holdAll()
	}
}

// P6.3: a word is live in the slot that has it, until the slot gets another one or loses it.
func TestLive(t *testing.T) {
	for slot := range slotsInAll {
		b := New(10)
		first, _ := b.Next(slot)
		if x, ok := b.Live(first); !ok || x != slot || b.Now(slot) != first {
			t.Fatal(slot, x, ok, b.Now(slot))
		}
		second, _ := b.Next(slot)
		if x, ok := b.Live(first); ok || x != 0 {
			t.Fatalf("Live(%d) = %d, %t, but the slot has the word %d", first, x, ok, second)
		}
		if x, ok := b.Live(second); !ok || x != slot || b.Now(slot) != second {
			t.Fatal(slot, x, ok, b.Now(slot))
		}
		b.Drop(slot)
		if x, ok := b.Live(second); ok || x != 0 || b.Now(slot) != 0 {
			t.Fatal(slot, x, ok, b.Now(slot))
		}
	}
}

// P6.3: the word that another slot would have with the same stamp is not live, nor is a word that is yet to be generated.
func TestLiveOfNeighbours(t *testing.T) {
	b := New(0)
	b.Next(5)
	for slot := range 256 {
		if x, ok := b.Live(byWords(1, slot)); ok != (slot == 5) || x != 5 && slot == 5 || x != 0 && slot != 5 {
			t.Errorf("Live of stamp 1, slot %d: %d, %t", slot, x, ok)
		}
		if x, ok := b.Live(byWords(2, slot)); ok || x != 0 {
			t.Errorf("Live of stamp 2, slot %d: %d, %t", slot, x, ok)
		}
		if x, ok := b.Live(uint64(slot)); ok || x != 0 {
			t.Errorf("Live(%d) = %d, %t", slot, x, ok)
		}
	}
}

// P6.3: asking changes nothing.
func TestAskingChangesNothing(t *testing.T) {
	b := New(0)
	word, _ := b.Next(5)
	for range 3 {
		for slot := -3; slot < 70; slot++ {
			b.Now(slot)
		}
		for x := range uint64(1000) {
			b.Live(x)
		}
		if slot, ok := b.Live(word); !ok || slot != 5 || b.Now(5) != word {
			t.Fatal(slot, ok, b.Now(5))
		}
	}
	if x, ok := b.Next(6); !ok || x != 518 {
		t.Error(x, ok)
	}
}

// P6.3: Drop leaves the other slots their words, and what is no slot has none to lose.
func TestDrop(t *testing.T) {
	for gone := range slotsInAll {
		p := newPair(t, 0)
		for slot := range slotsInAll {
			p.next(slot)
		}
		for _, slot := range strangeSlots {
			p.drop(slot)
		}
		p.holdAll()
		p.drop(gone)
		p.holdAll()
		p.drop(gone)
		p.holdAll()
		p.next(gone)
		p.holdAll()
	}
}

// P6.2, P6.3: one book knows nothing of another.
func TestBooksAreApart(t *testing.T) {
	p, q := newPair(t, 0), newPair(t, 0)
	p.next(5)
	p.next(7)
	q.holdAll()
	q.next(5)
	q.drop(7)
	p.holdAll()
	q.holdAll()
	p.drop(5)
	q.holdAll()
}

// A nil book: 0 and false.
func TestNilBook(t *testing.T) {
	var b *Book
	for _, slot := range append(slices.Clone(strangeSlots), 0, 1, 5, 62, 63) {
		if x, ok := b.Next(slot); ok || x != 0 {
			t.Errorf("Next(%d) = %d, %t", slot, x, ok)
		}
		if x := b.Now(slot); x != 0 {
			t.Errorf("Now(%d) = %d", slot, x)
		}
		b.Drop(slot)
	}
	for _, word := range []uint64{0, 5, 256, 261, 320, math.MaxUint64 - 192, math.MaxUint64} {
		if x, ok := b.Live(word); ok || x != 0 {
			t.Errorf("Live(%d) = %d, %t", word, x, ok)
		}
	}
}

// P6.4: each word is greater than all before it, and one that has ceased to be live never becomes live again, also when its slot gets other words or loses them.
func TestWordsAreUnique(t *testing.T) {
	b := New(0)
	var words, stale []uint64
	x := uint64(3)
	for range 2000 {
		x = x*6364136223846793005 + 1442695040888963407
		slot := int(x >> 40 % 8 * 9)
		if before := b.Now(slot); before != 0 {
			stale = append(stale, before)
		}
		b.Drop(slot)
		if x>>33%3 == 0 {
			continue
		}
		b.Next(-1)
		word, ok := b.Next(slot)
		if !ok || len(words) > 0 && word <= words[len(words)-1] {
			t.Fatalf("the word %d, %t, after %d others", word, ok, len(words))
		}
		words = append(words, word)
		for _, old := range stale {
			if slot, ok := b.Live(old); ok || slot != 0 {
				t.Fatalf("%d is live again, in %d", old, slot)
			}
		}
	}
	if len(stale) < 1000 {
		t.Errorf("only %d words went stale", len(stale))
	}
}

// The chapter's example.
func TestExample(t *testing.T) {
	if word, ok := (Tag{1, 5}).Word(); !ok || word != 261 {
		t.Error(word, ok)
	}
	b := New(0)
	for _, want := range []uint64{261, 517} {
		if word, ok := b.Next(5); !ok || word != want {
			t.Error(word, ok)
		}
	}
	if slot, ok := b.Live(261); ok || slot != 0 {
		t.Error(slot, ok)
	}
	if slot, ok := b.Live(517); !ok || slot != 5 {
		t.Error(slot, ok)
	}
}
