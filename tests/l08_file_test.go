package tests

import (
	"bytes"
	"encoding/binary"
	"hash/crc32"
	"math"
	"strings"
	"testing"

	"loop.example/g00241/impl"
)

// greatStamp has each number at its limit.
func greatStamp() impl.Stamp { return impl.Stamp{Time: impl.MaxTime, Seq: maxSeq, Node: maxNode} }

func file(s impl.Stamp, data string) impl.File { return impl.File{Stamp: s, Data: []byte(data)} }

func deadFile(s impl.Stamp) impl.File { return impl.File{Stamp: s, Dead: true} }

// fileRight is the document's own rule, written apart from the program's way.
func fileRight(f impl.File) bool {
	most := 200
	if f.Dead {
		most = 0
	}
	return stampRight(f.Stamp) && len(f.Data) <= most
}

func sameFile(a, b impl.File) bool {
	return a.Stamp == b.Stamp && a.Dead == b.Dead && bytes.Equal(a.Data, b.Data)
}

func zeroFile(f impl.File) bool { return f.Stamp == impl.Stamp{} && !f.Dead && len(f.Data) == 0 }

// sealed puts the right sum behind a body, by the library's own sum.
func sealed(body string) string {
	sum := crc32.Checksum([]byte(body), crc32.MakeTable(crc32.Castagnoli))
	return string(binary.BigEndian.AppendUint32([]byte(body), sum))
}

// bodyOf is what stands ahead of the sum, whether the numbers are a file's or not.
func bodyOf(time, seq, node, mark, size int, data string) string {
	return groupsOf(time) + groupsOf(seq) + groupsOf(node) + groupsOf(mark) + groupsOf(size) + data
}

// bytesRight is the document's own rule of what is right.
func bytesRight(f impl.File) string {
	mark := 0
	if f.Dead {
		mark = 1
	}
	return sealed(bodyOf(f.Stamp.Time, f.Stamp.Seq, f.Stamp.Node, mark, len(f.Data), string(f.Data)))
}

// fileRead is a file of bytes, by numbers of the library's own: a file's bytes are those that this file would have.
func fileRead(b string) (impl.File, bool) {
	rest, nums := []byte(b), [5]int{}
	for i := range nums {
		n, size := binary.Uvarint(rest)
		if size <= 0 || n > math.MaxUint32 {
			return impl.File{}, false
		}
		nums[i], rest = int(n), rest[size:]
	}
	if len(rest) < 4 {
		return impl.File{}, false
	}
	f := file(impl.Stamp{Time: nums[0], Seq: nums[1], Node: nums[2]}, string(rest[:len(rest)-4]))
	f.Dead = nums[3] == 1
	if !fileRight(f) || bytesRight(f) != b {
		return impl.File{}, false
	}
	return f, true
}

// holdBytes asks whether these bytes are told to be the file that they are by the document's rule, or none.
func holdBytes(t *testing.T, b string) bool {
	t.Helper()
	arg := []byte(b)
	got, ok := impl.GetFile(arg)
	want, right := fileRead(b)
	if ok != right || !sameFile(got, want) {
		t.Fatalf("GetFile of %x: %v %v, not %v %v", b, got, ok, want, right)
	}
	if string(arg) != b {
		t.Fatalf("GetFile of %x: written into: %x", b, arg)
	}
	return ok
}

// isNone asks that these bytes are no file.
func isNone(t *testing.T, why string, b string) {
	t.Helper()
	if f, ok := impl.GetFile([]byte(b)); ok || !zeroFile(f) {
		t.Errorf("%s: GetFile of %x: %v %v", why, b, f, ok)
	}
	holdBytes(t, b)
}

// edgeSizes holds how many bytes of Data a right file has at its edges.
func edgeSizes() []int { return []int{0, 1, 2, 3, 126, 127, 128, 129, 199, 200} }

// rightStamps holds the least and the greatest numbers, those beside which a number grows by a byte, and some between.
func rightStamps() []impl.Stamp {
	return []impl.Stamp{
		{}, {Time: 1}, {Seq: 1}, {Node: 1}, {Time: impl.MaxTime}, {Seq: maxSeq}, {Node: maxNode}, greatStamp(),
		{Time: 127, Seq: 127, Node: 5}, {Time: 128, Seq: 128, Node: 19}, {Time: 16383, Seq: 16384}, {Time: 16384, Seq: 16383, Node: 2},
		{Time: 2097151, Seq: 999999}, {Time: 2097152, Seq: 1, Node: 20}, {Time: 268435455}, {Time: 268435456}, {Time: 999999999, Seq: 300, Node: 7},
		{Time: 5, Seq: 1, Node: 2},
	}
}

// rightFiles holds each of these Stamps with each size of Data, of mixed bytes, of noughts and of bytes that look like numbers going on.
func rightFiles() []impl.File {
	var out []impl.File
	for i, s := range rightStamps() {
		for _, n := range edgeSizes() {
			out = append(out, file(s, string(someBytes(n, uint32(i*1000+n)))))
		}
		out = append(out, deadFile(s), file(s, strings.Repeat("\x00", 9)), file(s, strings.Repeat("\xff", 131)))
	}
	return out
}

// fewFiles holds one of each kind, for what is asked of each bit.
func fewFiles() []impl.File {
	low, high := impl.Stamp{Time: 5, Seq: 1, Node: 2}, greatStamp()
	return []impl.File{
		{}, deadFile(impl.Stamp{}), file(low, "hi"), deadFile(low), file(high, ""), deadFile(high), file(high, "x"),
		file(low, strings.Repeat("\x00", 127)), file(low, string(someBytes(128, 3))), file(high, string(someBytes(200, 9))),
		// Its Data are a file's bytes themselves.
		file(low, bytesRight(file(high, "within"))),
	}
}

func TestFilesComeBack(t *testing.T) {
	if impl.MaxData != 200 {
		t.Error("MaxData", impl.MaxData)
	}
	for _, f := range rightFiles() {
		b := impl.PutFile(f)
		if string(b) != bytesRight(f) {
			t.Fatalf("PutFile of %v: %x, not %x", f, b, bytesRight(f))
		}
		if got, ok := impl.GetFile(b); !ok || !sameFile(got, f) {
			t.Fatalf("GetFile of %x: %v %v, not %v", b, got, ok, f)
		}
		holdBytes(t, string(b))
	}
}

func TestFilesAreWrittenAsTold(t *testing.T) {
	long := strings.Repeat("z", 128)
	for _, x := range []struct {
		f    impl.File
		body string
	}{
		{impl.File{}, "\x00\x00\x00\x00\x00"},
		{impl.File{Data: []byte{}}, "\x00\x00\x00\x00\x00"},
		{deadFile(impl.Stamp{}), "\x00\x00\x00\x01\x00"},
		{file(impl.Stamp{Time: 5, Seq: 1, Node: 2}, "hi"), "\x05\x01\x02\x00\x02hi"},
		{file(greatStamp(), "x"), "\x80\x94\xeb\xdc\x03\xc0\x84\x3d\x14\x00\x01x"},
		{deadFile(greatStamp()), "\x80\x94\xeb\xdc\x03\xc0\x84\x3d\x14\x01\x00"},
		{file(impl.Stamp{Node: 20}, long[1:]), "\x00\x00\x14\x00\x7f" + long[1:]},
		{file(impl.Stamp{Seq: 300}, long), "\x00\xac\x02\x00\x00\x80\x01" + long},
	} {
		want := sealed(x.body)
		if b := impl.PutFile(x.f); string(b) != want {
			t.Errorf("PutFile of %v: %x, not %x", x.f, b, want)
		}
		if !holdBytes(t, want) {
			t.Errorf("is a file: %x", want)
		}
	}
	// The sum of five noughts, written out.
	if b := impl.PutFile(impl.File{}); string(b) != "\x00\x00\x00\x00\x00\x45\x72\x76\x35" {
		t.Errorf("PutFile of the zero one: %x", b)
	}
}

func TestAFileWithOneBitTurnedIsNone(t *testing.T) {
	for _, f := range fewFiles() {
		b := impl.PutFile(f)
		for bit := range len(b) * 8 {
			b[bit/8] ^= 1 << (bit % 8)
			if got, ok := impl.GetFile(b); ok || !zeroFile(got) {
				t.Errorf("%v with the bit %d turned: %v %v", f, bit, got, ok)
			}
			b[bit/8] ^= 1 << (bit % 8)
		}
		if got, ok := impl.GetFile(b); !ok || !sameFile(got, f) {
			t.Errorf("%v with each bit turned back: %v %v", f, got, ok)
		}
	}
}

func TestEachBitOfEachFile(t *testing.T) {
	for _, f := range rightFiles() {
		b := impl.PutFile(f)
		for bit := range len(b) * 8 {
			b[bit/8] ^= 1 << (bit % 8)
			if _, ok := impl.GetFile(b); ok {
				t.Fatalf("%v with the bit %d turned", f, bit)
			}
			b[bit/8] ^= 1 << (bit % 8)
		}
	}
}

func TestAFileWithOneByteChangedIsNone(t *testing.T) {
	for _, f := range fewFiles() {
		b := impl.PutFile(f)
		for i, was := range b {
			for c := range 256 {
				b[i] = byte(c)
				if _, ok := impl.GetFile(b); ok != (byte(c) == was) {
					t.Fatalf("%v with %d for its byte %d: %v", f, c, i, ok)
				}
			}
			b[i] = was
		}
	}
}

// Here the sum is right again behind the change: what else the document asks for decides.
func TestAFileWithOneByteChangedAndItsSumMadeRight(t *testing.T) {
	files := 0
	for _, f := range fewFiles() {
		whole := bytesRight(f)
		body := []byte(whole[:len(whole)-4])
		for i, was := range body {
			for c := range 256 {
				body[i] = byte(c)
				if holdBytes(t, sealed(string(body))) {
					files++
				}
			}
			body[i] = was
		}
	}
	if files < 1000 {
		t.Error("hardly any is a file:", files)
	}
}

func TestAFileCutAtAnyPlaceIsNone(t *testing.T) {
	for _, f := range rightFiles() {
		whole := bytesRight(f)
		room := []byte(whole)
		for cut := range len(whole) {
			// The others still stand behind its length.
			if got, ok := impl.GetFile(room[:cut]); ok || !zeroFile(got) {
				t.Errorf("%v: its first %d bytes: %v %v", f, cut, got, ok)
			}
			if _, ok := impl.GetFile(room[cut+1:]); ok {
				t.Errorf("%v without its first %d bytes", f, cut+1)
			}
		}
	}
	for _, f := range fewFiles() {
		whole := bytesRight(f)
		for cut := range len(whole) {
			isNone(t, "cut", whole[:cut])
			isNone(t, "one out of the midst", whole[:cut]+whole[cut+1:])
			holdBytes(t, sealed(whole[:cut]))
			if cut < len(whole)-4 {
				isNone(t, "cut, its sum made right", sealed(whole[:cut]))
			}
		}
	}
}

func TestAFileWithMoreBytesIsNone(t *testing.T) {
	for _, f := range fewFiles() {
		whole := bytesRight(f)
		body := whole[:len(whole)-4]
		for c := range 256 {
			more := string([]byte{byte(c)})
			isNone(t, "a byte behind", whole+more)
			isNone(t, "a byte ahead", more+whole)
			isNone(t, "a byte behind the Data", body+more+whole[len(body):])
			isNone(t, "a byte behind the Data, its sum made right", sealed(body+more))
		}
		isNone(t, "twice", whole+whole)
		isNone(t, "its sum twice", whole+whole[len(body):])
		isNone(t, "the sum of all behind", sealed(whole))
		isNone(t, "many behind", whole+strings.Repeat("\x00", 5000))
		isNone(t, "many behind the Data, its sum made right", sealed(body+strings.Repeat("\x00", 5000)))
	}
}

func TestBytesOfNoFile(t *testing.T) {
	if f, ok := impl.GetFile(nil); ok || !zeroFile(f) {
		t.Error("nil", f)
	}
	isNone(t, "none", "")
	for x := range 256 {
		isNone(t, "one", string([]byte{byte(x)}))
	}
	for n := range 260 {
		isNone(t, "noughts", strings.Repeat("\x00", n))
		isNone(t, "all bits", strings.Repeat("\xff", n))
		isNone(t, "the highest bits", strings.Repeat("\x80", n))
		isNone(t, "words", strings.Repeat("words ", 60)[:n])
		for seed := range uint32(20) {
			isNone(t, "mixed", string(someBytes(n, seed+uint32(n)*20)))
		}
	}
	for n := range 5 {
		isNone(t, "few, of the right sum", sealed("\x00\x00\x00\x00"[:n]))
	}
	isNone(t, "very many", strings.Repeat("\x05\x01\x02\x00\x02", 100000))
	isNone(t, "very many, of the right sum", sealed("\x05\x01\x02\x00\x02hi"+strings.Repeat("\x00", 300000)))
}

func TestBytesWithAnotherSum(t *testing.T) {
	for _, f := range fewFiles() {
		whole := bytesRight(f)
		body, sum := whole[:len(whole)-4], []byte(whole[len(whole)-4:])
		isNone(t, "no sum", body)
		isNone(t, "a sum of 0", body+"\x00\x00\x00\x00")
		isNone(t, "the lowest byte first", body+string([]byte{sum[3], sum[2], sum[1], sum[0]}))
		isNone(t, "all its bits turned", body+string([]byte{^sum[0], ^sum[1], ^sum[2], ^sum[3]}))
		isNone(t, "the sum ahead", string(sum)+body)
		isNone(t, "a byte of the sum gone", whole[:len(whole)-1])
		isNone(t, "the sum put as a number", body+groupsOf(int(binary.BigEndian.Uint32(sum))))
		isNone(t, "another polynomial's sum", string(binary.BigEndian.AppendUint32([]byte(body), crc32.ChecksumIEEE([]byte(body)))))
		ofData := crc32.Checksum(f.Data, crc32.MakeTable(crc32.Castagnoli))
		isNone(t, "the sum of the Data alone", string(binary.BigEndian.AppendUint32([]byte(body), ofData)))
	}
}

func TestBytesOfTheRightSumThatAreNone(t *testing.T) {
	long := strings.Repeat("d", 400)
	for _, x := range []struct {
		why  string
		body string
	}{
		{"a Time above", bodyOf(impl.MaxTime+1, 0, 0, 0, 1, "x")},
		{"a Time far above", bodyOf(1<<62, 0, 0, 0, 1, "x")},
		{"a Seq above", bodyOf(0, 1000001, 0, 0, 1, "x")},
		{"a Seq far above", bodyOf(0, impl.MaxNum, 0, 0, 1, "x")},
		{"a Seq past all numbers", bodyOf(0, impl.MaxNum+1, 0, 0, 1, "x")},
		{"a Node above", bodyOf(0, 0, 21, 0, 1, "x")},
		{"a Node far above", bodyOf(0, 0, impl.MaxNum, 0, 1, "x")},
		{"all at their limits but the Node", bodyOf(impl.MaxTime, 1000000, 21, 0, 1, "x")},
		{"all at their limits but the Seq", bodyOf(impl.MaxTime, 1000001, 20, 0, 1, "x")},
		{"all at their limits but the Time", bodyOf(impl.MaxTime+1, 1000000, 20, 0, 1, "x")},
		{"a Stamp above of one that is Dead", bodyOf(0, 0, 21, 1, 0, "")},
		{"a mark of 2", bodyOf(5, 1, 2, 2, 0, "")},
		{"a mark of 2, and Data", bodyOf(5, 1, 2, 2, 1, "x")},
		{"a mark of 3", bodyOf(5, 1, 2, 3, 0, "")},
		{"a mark of 127", bodyOf(5, 1, 2, 127, 0, "")},
		{"a mark of 128", bodyOf(5, 1, 2, 128, 0, "")},
		{"a mark of 129", bodyOf(5, 1, 2, 129, 0, "")},
		{"a mark of 256", bodyOf(5, 1, 2, 256, 0, "")},
		{"a mark of 257", bodyOf(5, 1, 2, 257, 0, "")},
		{"Dead with a byte of Data", bodyOf(5, 1, 2, 1, 1, "x")},
		{"Dead with a nought of Data", bodyOf(5, 1, 2, 1, 1, "\x00")},
		{"Dead with 200 bytes of Data", bodyOf(5, 1, 2, 1, 200, long[:200])},
		{"Dead, a size of 1 and no Data", bodyOf(5, 1, 2, 1, 1, "")},
		{"Dead, a size of 0 and Data", bodyOf(5, 1, 2, 1, 0, "x")},
		{"201 bytes of Data", bodyOf(5, 1, 2, 0, 201, long[:201])},
		{"400 bytes of Data", bodyOf(5, 1, 2, 0, 400, long)},
		{"201 told, 200 there", bodyOf(5, 1, 2, 0, 201, long[:200])},
		{"200 told, 201 there", bodyOf(5, 1, 2, 0, 200, long[:201])},
		{"200 told, 199 there", bodyOf(5, 1, 2, 0, 200, long[:199])},
		{"128 told, 127 there", bodyOf(5, 1, 2, 0, 128, long[:127])},
		{"127 told, 128 there", bodyOf(5, 1, 2, 0, 127, long[:128])},
		{"0 told, 1 there", bodyOf(5, 1, 2, 0, 0, "x")},
		{"1 told, none there", bodyOf(5, 1, 2, 0, 1, "")},
		{"4 told, none but the sum there", bodyOf(5, 1, 2, 0, 4, "")},
		{"4 told, 3 and the sum there", bodyOf(5, 1, 2, 0, 4, "abc")},
		{"5 told, 1 and the sum there", bodyOf(5, 1, 2, 0, 5, "x")},
		{"MaxNum told", bodyOf(5, 1, 2, 0, impl.MaxNum, "x")},
		{"more than MaxNum told", bodyOf(5, 1, 2, 0, impl.MaxNum+1, "x")},
		{"no size", "\x05\x01\x02\x00"},
		{"no mark", "\x05\x01\x02"},
		{"no Node", "\x05\x01"},
		{"no Seq", "\x05"},
		{"nothing", ""},
		{"a number that ends nowhere", "\x05\x01\x02\x00\x80"},
		{"a Time that goes on and on", strings.Repeat("\x80", 20) + "\x01\x01\x02\x00\x00"},
		{"a longer Time", "\x85\x00\x01\x02\x00\x02hi"},
		{"a longer Seq", "\x05\x81\x00\x02\x00\x02hi"},
		{"a longer Node", "\x05\x01\x82\x00\x00\x02hi"},
		{"a longer mark", "\x05\x01\x02\x80\x00\x02hi"},
		{"a longer mark of 1", "\x05\x01\x02\x81\x00\x00"},
		{"a longer size", "\x05\x01\x02\x00\x82\x00hi"},
		{"a longer size of 0", "\x05\x01\x02\x00\x80\x00"},
		{"a Time of six groups", "\x85\x80\x80\x80\x80\x00\x01\x02\x00\x02hi"},
		{"a longer size of 200", "\x05\x01\x02\x00\xc8\x81\x00" + long[:200]},
		{"one number too few", "\x05\x02\x00\x02hi"},
		{"one number too many", "\x05\x01\x02\x00\x00\x02hi"},
	} {
		isNone(t, x.why, sealed(x.body))
	}
	for _, body := range []string{
		bodyOf(impl.MaxTime, 1000000, 20, 0, 200, long[:200]), bodyOf(impl.MaxTime, 1000000, 20, 1, 0, ""),
		bodyOf(0, 0, 0, 0, 0, ""), bodyOf(0, 0, 0, 1, 0, ""), bodyOf(5, 1, 2, 0, 127, long[:127]), bodyOf(5, 1, 2, 0, 128, long[:128]),
	} {
		if !holdBytes(t, sealed(body)) {
			t.Errorf("is a file: %x", sealed(body))
		}
	}
}

func TestNumbersOfAFileAtAllEdges(t *testing.T) {
	files := 0
	for _, time := range edgesOf(impl.MaxTime)[3:] {
		for _, seq := range edgesOf(maxSeq)[3:] {
			for _, node := range edgesOf(maxNode)[3:] {
				for mark := range 4 {
					for size := range 3 {
						if holdBytes(t, sealed(bodyOf(time, seq, node, mark, size, "dd"[:size]))) {
							files++
						}
					}
				}
			}
		}
	}
	if files == 0 {
		t.Error("none is a file")
	}
}

func TestWhichFilesAreRight(t *testing.T) {
	for _, s := range edgeStamps() {
		for _, dead := range []bool{false, true} {
			for _, n := range []int{0, 1, 200, 201} {
				f := impl.File{Stamp: s, Dead: dead, Data: make([]byte, n)}
				if impl.FileOk(f) != fileRight(f) {
					t.Fatal(f, impl.FileOk(f))
				}
				if b := impl.PutFile(f); !fileRight(f) && len(b) != 0 || fileRight(f) && string(b) != bytesRight(f) {
					t.Fatalf("PutFile of %v: %x", f, b)
				}
			}
		}
	}
}

func TestFilesByTheirSize(t *testing.T) {
	for n := range 300 {
		for _, dead := range []bool{false, true} {
			f := impl.File{Stamp: greatStamp(), Dead: dead, Data: someBytes(n, 1)}
			want := n <= 200 && !dead || n == 0
			b := impl.PutFile(f)
			if impl.FileOk(f) != want || (len(b) > 0) != want {
				t.Errorf("%d bytes, dead %v: %v, %x", n, dead, impl.FileOk(f), b)
			}
			if got, ok := impl.GetFile(b); ok != want || want && !sameFile(got, f) {
				t.Errorf("%d bytes, dead %v: back %v %v", n, dead, got, ok)
			}
		}
	}
	room := make([]byte, 5000)
	for _, f := range []impl.File{{Data: nil}, {Data: []byte{}}, {Dead: true, Data: room[:0]}, {Data: room[:200]}, {Data: room[4800:]}} {
		if !impl.FileOk(f) || len(impl.PutFile(f)) != 9+len(f.Data)+len(f.Data)/128 {
			t.Errorf("%d bytes, more behind: %x", len(f.Data), impl.PutFile(f))
		}
	}
	for _, f := range []impl.File{{Data: room}, {Dead: true, Data: room}, {Dead: true, Data: room[:1]}, {Data: room[:201]}, {Data: room[:256]}} {
		if impl.FileOk(f) || len(impl.PutFile(f)) != 0 {
			t.Errorf("%d bytes: is not right", len(f.Data))
		}
	}
}

func TestFilesWithAStampThatIsNotRight(t *testing.T) {
	for _, s := range []impl.Stamp{
		{Time: -1}, {Seq: -1}, {Node: -1}, {Time: 1000000001}, {Seq: 1000001}, {Node: 21}, {Time: math.MinInt}, {Seq: math.MinInt}, {Node: math.MinInt},
		{Time: math.MaxInt}, {Seq: math.MaxInt}, {Node: math.MaxInt}, {Time: 1 << 32}, {Seq: 1 << 32}, {Node: 1 << 32}, {Node: 256},
		{Time: 1000000000, Seq: 1000000, Node: 21}, {Time: 1000000000, Seq: 1000001, Node: 20}, {Time: 1000000001, Seq: 1000000, Node: 20},
	} {
		for _, f := range []impl.File{file(s, ""), file(s, "hi"), deadFile(s)} {
			if impl.FileOk(f) || len(impl.PutFile(f)) != 0 {
				t.Errorf("is not right: %v %x", f, impl.PutFile(f))
			}
		}
	}
}

func TestNewer(t *testing.T) {
	rising := []impl.Stamp{
		{Time: math.MinInt}, {Time: -1, Seq: 9}, {}, {Node: 1}, {Node: 20}, {Seq: 1}, {Seq: 1, Node: 20}, {Seq: 2, Node: 1}, {Time: 1}, {Time: 1, Node: 2},
		{Time: 1, Seq: 1, Node: 1}, {Time: 2}, greatStamp(), {Time: math.MaxInt},
	}
	for i, a := range rising {
		for k, b := range rising {
			// What else they hold counts for nothing, nor whether they are right.
			for _, f := range []impl.File{file(a, ""), file(a, "zz"), deadFile(a), {Stamp: a, Dead: true, Data: make([]byte, 300)}} {
				for _, g := range []impl.File{file(b, ""), file(b, "a"), deadFile(b)} {
					if impl.Newer(f, g) != (i > k) {
						t.Errorf("%v newer than %v: %v", f, g, impl.Newer(f, g))
					}
				}
			}
		}
	}
	if !impl.Newer(file(impl.NextStamp(greatStamp(), 0, 0), ""), impl.File{}) || impl.Newer(impl.File{}, impl.File{}) {
		t.Error("of the zero one")
	}
}

func TestSumOf(t *testing.T) {
	for _, x := range []struct {
		data string
		want int
	}{
		{"", 0}, {"a", 0xc1d04330}, {"123456789", 0xe3069283}, {strings.Repeat("\x00", 32), 0x8a9136aa}, {strings.Repeat("\xff", 32), 0x62a8ab43},
	} {
		for _, s := range []impl.Stamp{{}, greatStamp(), {Time: -1, Seq: -1, Node: -1}} {
			for _, dead := range []bool{false, true} {
				if sum := impl.SumOf(impl.File{Stamp: s, Dead: dead, Data: []byte(x.data)}); sum != x.want {
					t.Errorf("%q of %v, dead %v: %x", x.data, s, dead, sum)
				}
			}
		}
	}
	for _, n := range []int{127, 128, 199, 200, 201, 5000} {
		data := someBytes(n+5, uint32(n))
		sum := int(crc32.Checksum(data[:n], crc32.MakeTable(crc32.Castagnoli)))
		if impl.SumOf(impl.File{Data: data[:n]}) != sum || impl.Crc(data[:n]) != sum {
			t.Errorf("%d bytes, more behind: %x", n, impl.SumOf(impl.File{Data: data[:n]}))
		}
	}
	if impl.SumOf(impl.File{}) != 0 {
		t.Error("of the zero one")
	}
}

// Whatever is read is what would be put, and whatever is put is read.
func TestFilesHaveOneFormOfBytes(t *testing.T) {
	files := 0
	for seed := range uint32(20000) {
		mix := someBytes(16, seed)
		body := []byte(bodyOf(int(mix[0])*int(mix[1])*int(mix[2])*60, int(mix[3])*int(mix[4])*16, int(mix[5])%23, int(mix[6])%3, int(mix[7])%9, string(mix[8:8+int(mix[7])%9])))
		if seed%4 == 3 {
			body[int(mix[15])%len(body)] ^= 1 << (mix[14] % 8)
		}
		if !holdBytes(t, sealed(string(body))) {
			continue
		}
		files++
		f, _ := impl.GetFile([]byte(sealed(string(body))))
		if string(impl.PutFile(f)) != sealed(string(body)) {
			t.Fatalf("%x comes back as %x", sealed(string(body)), impl.PutFile(f))
		}
	}
	if files < 5000 || files > 19000 {
		t.Error("too few of one kind:", files)
	}
}

// fill writes into all memory of bytes, and the room behind them.
func fill(b []byte, c byte) {
	for i := range b[:cap(b)] {
		b[:cap(b)][i] = c
	}
}

func TestFilesLeaveArgumentsAlone(t *testing.T) {
	for _, f := range fewFiles() {
		room := append(append([]byte("ahead"), f.Data...), "and much more room behind it, which is nobody's"...)
		kept := bytes.Clone(room)
		g := impl.File{Stamp: f.Stamp, Dead: f.Dead, Data: room[5 : 5+len(f.Data)]}
		b := impl.PutFile(g)
		impl.FileOk(g)
		impl.SumOf(g)
		impl.Newer(g, g)
		if string(b) != bytesRight(f) || !bytes.Equal(room, kept) {
			t.Errorf("%v: %x, written into: %q", f, b, room)
		}
		whole := append(append([]byte("ahead"), b...), "behind"...)
		keptWhole := bytes.Clone(whole)
		for end := 5; end <= 5+len(b); end++ {
			got, ok := impl.GetFile(whole[5:end])
			if ok != (end == 5+len(b)) || ok && !sameFile(got, f) {
				t.Errorf("%v, %d bytes of it: %v %v", f, end-5, got, ok)
			}
			fill(got.Data, 99)
			if !bytes.Equal(whole, keptWhole) {
				t.Fatalf("%v, %d bytes of it: written into: %x", f, end-5, whole)
			}
		}
	}
}

func TestFilesShareNoMemory(t *testing.T) {
	for _, f := range fewFiles() {
		want := bytesRight(f)
		arg := impl.File{Stamp: f.Stamp, Dead: f.Dead, Data: append(bytes.Clone(f.Data), "room"...)[:len(f.Data)]}
		b, again := impl.PutFile(arg), impl.PutFile(arg)
		fill(b, 1)
		if !sameFile(arg, f) || string(arg.Data[:cap(arg.Data)][len(f.Data):][:4]) != "room" || string(again) != want {
			t.Errorf("%v: what is put is shared: %v, %x", f, arg, again)
		}
		fill(arg.Data, 2)
		if string(again) != want {
			t.Errorf("%v: what is put changes with the Data: %x", f, again)
		}
		one, _ := impl.GetFile(again)
		two, _ := impl.GetFile(again)
		fill(one.Data, 3)
		one.Data = append(one.Data, "more"...)
		if string(again) != want || !sameFile(two, f) {
			t.Errorf("%v: what comes back is shared: %x, %v", f, again, two)
		}
		fill(again, 4)
		if !sameFile(two, f) {
			t.Errorf("%v: what came back changes with the bytes: %v", f, two)
		}
		// Nothing is kept from one call to another.
		if third, ok := impl.GetFile([]byte(want)); !ok || !sameFile(third, f) {
			t.Errorf("%v: back again: %v %v", f, third, ok)
		}
	}
}

// What is refused hands out nothing, so writing into it reaches nobody.
func TestRefusedFilesShareNoMemory(t *testing.T) {
	data := bytes.Repeat([]byte{7}, 201)
	fill(impl.PutFile(impl.File{Data: data}), 1)
	fill(impl.PutFile(impl.File{Dead: true, Data: data[:3]}), 1)
	fill(impl.PutFile(impl.File{Stamp: impl.Stamp{Node: 21}, Data: data[:3]}), 1)
	if !bytes.Equal(data, bytes.Repeat([]byte{7}, 201)) {
		t.Error("of a file that is not right:", data)
	}
	for _, body := range []string{bodyOf(5, 1, 21, 0, 3, "abc"), bodyOf(5, 1, 2, 1, 3, "abc"), bodyOf(5, 1, 2, 0, 201, string(data))} {
		b := []byte(sealed(body))
		f, ok := impl.GetFile(b)
		fill(f.Data, 1)
		if ok || string(b) != sealed(body) {
			t.Errorf("of bytes that are none: %v, %x", f, b)
		}
	}
}
