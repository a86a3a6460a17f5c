package name_test

import (
	"math"
	"strings"
	"testing"

	"signet/api"
	"signet/name"
)

func TestEncode(t *testing.T) {
	for _, inode := range rightInodes {
		for _, s := range rightNames {
			got, err := name.Encode(link(inode, s))
			if want := inBytes(inode, s); got != want || err != api.OK || len(got) != 64 {
				t.Errorf("Encode(%d, %q) = %q, %d; want %q", inode, s, got, err, want)
			}
		}
	}
}

func TestEncodeOfWhatIsNoEntry(t *testing.T) {
	for _, inode := range wrongInodes {
		got, err := name.Encode(link(inode, "a"))
		wantErr(t, "Encode of a wrong inode", err, api.ErrArg, got == "")
		for _, s := range wrongNames {
			got, err := name.Encode(link(inode, s))
			wantErr(t, "Encode of a wrong inode and a wrong name", err, api.ErrArg, got == "")
		}
	}
	for _, inode := range rightInodes {
		for _, s := range wrongNames {
			got, err := name.Encode(link(inode, s))
			wantErr(t, "Encode of a wrong name", err, api.ErrName, got == "")
		}
	}
}

func TestDecodeOfEncode(t *testing.T) {
	for _, inode := range rightInodes {
		for _, s := range rightNames {
			want := link(inode, s)
			in, _ := name.Encode(want)
			for _, ahead := range []string{"", "x", zeros, strings.Repeat("\xff", 64), in} {
				for _, behind := range []string{"", "y", zeros, in} {
					got, there, err := name.Decode(ahead+in+behind, len(ahead))
					if got != want || !there || err != api.OK {
						t.Errorf("Decode of Encode(%d, %q) = %v, %v, %d", inode, s, got, there, err)
					}
				}
			}
		}
	}
}

func TestDecodeOfZeros(t *testing.T) {
	in := inBytes(7, "abc")
	for _, c := range []struct {
		s  string
		at int
	}{
		{zeros, 0}, {zeros + "x", 0}, {"x" + zeros, 1}, {in + zeros + in, 64}, {zeros + zeros, 0}, {zeros + zeros, 1}, {zeros + zeros, 63}, {zeros + zeros, 64}, {strings.Repeat("\x00", 1000), 936},
	} {
		got, there, err := name.Decode(c.s, c.at)
		if got != (api.Link{}) || there || err != api.OK {
			t.Errorf("Decode(%q, %d) = %v, %v, %d; want the zero entry, false, OK", c.s, c.at, got, there, err)
		}
	}
}

// wantNoEntry asks that Decode answers ErrEntry, and zero values beside it.
func wantNoEntry(t *testing.T, s string, at int) {
	t.Helper()
	got, there, err := name.Decode(s, at)
	if got != (api.Link{}) || there || err != api.ErrEntry {
		t.Errorf("Decode(%q, %d) = %v, %v, %d; want ErrEntry alone", s, at, got, there, err)
	}
}

func TestDecodeOutsideOfTheText(t *testing.T) {
	in := inBytes(1, "a")
	for _, s := range []string{"", "a", zeros[:63], zeros, in[:63], in, in + zeros, zeros + in, in + in + in[:63]} {
		for _, at := range []int{-1, -2, -63, -64, -65, len(s) - 63, len(s) - 1, len(s), len(s) + 1, len(s) + 64, math.MinInt, math.MinInt + 63, math.MinInt + 64, math.MaxInt, math.MaxInt - 1, math.MaxInt - 63, math.MaxInt - 64, math.MaxInt - 65, 1 << 32, -1 << 32} {
			wantNoEntry(t, s, at)
		}
	}
}

// With 63 bytes left there is no entry, with 64 there is one, wherever it begins.
func TestDecodeAtTheEndOfTheText(t *testing.T) {
	for ahead := range 130 {
		s := strings.Repeat("\xee", ahead) + inBytes(5, "end")
		if got, there, err := name.Decode(s, ahead); got != link(5, "end") || !there || err != api.OK {
			t.Errorf("Decode at %d with 64 bytes left = %v, %v, %d", ahead, got, there, err)
		}
		wantNoEntry(t, s[:len(s)-1], ahead)
		wantNoEntry(t, s, ahead+1)
		wantNoEntry(t, strings.Repeat("\x00", ahead+63), ahead)
	}
}

// Each byte of some entries, turned to each other one, is held against what its parts say.
func TestDecodeOfSpoiltBytes(t *testing.T) {
	for _, x := range []api.Link{link(1, "a"), link(256, "b"), link(api.MaxInodes, "..."), link(4095, "..x"), link(300, strings.Repeat("n", 55)), link(2, strings.Repeat("m", 56)), {}} {
		in := []byte(inBytes(x.Inode, x.Name))
		for at, was := range in {
			for b := range 256 {
				in[at] = byte(b)
				want, wantThere, wantErr := entry(string(in))
				got, there, err := name.Decode("ahead"+string(in)+"behind", 5)
				if got != want || there != wantThere || err != wantErr {
					t.Fatalf("Decode(%q) = %v, %v, %d; want %v, %v, %d", in, got, there, err, want, wantThere, wantErr)
				}
			}
			in[at] = was
		}
	}
}

// The parts that may not be, each by itself, in an entry that is right but for it.
func TestDecodeOfWrongParts(t *testing.T) {
	right := inBytes(9, "name")
	spoilt := func(at int, b ...byte) string {
		return right[:at] + string(b) + right[at+len(b):]
	}
	for _, s := range []string{
		spoilt(0, 0), spoilt(0, 1, 16), spoilt(0, 0xff, 0xff, 0xff, 0xff), spoilt(2, 1), spoilt(3, 1), spoilt(3, 0x80),
		spoilt(4, 0), spoilt(4, 3), spoilt(4, 5), spoilt(4, 56), spoilt(4, 57), spoilt(4, 255), spoilt(5, 1), spoilt(4, 0xff, 0xff), spoilt(4, 4, 0x80),
		spoilt(6, 1), spoilt(7, 1), spoilt(6, 0xff, 0xff),
		spoilt(8, 0), spoilt(8, '/'), spoilt(9, '/'), spoilt(11, 0), spoilt(11, '/'),
		spoilt(12, 1), spoilt(12, 'x'), spoilt(40, 1), spoilt(63, 1), spoilt(62, 0xff),
		inBytes(1, ""), inBytes(1, "."), inBytes(1, ".."), inBytes(1, "/"), inBytes(1, "\x00"), inBytes(1, "a\x00"), inBytes(0, "a"), inBytes(4097, "a"), inBytes(-1, "a"),
		inBytes(1, strings.Repeat("a", 57)), inBytes(1, strings.Repeat("a", 256+56)), inBytes(1, strings.Repeat("a", 1<<16-1)),
	} {
		wantNoEntry(t, s, 0)
		wantNoEntry(t, right+s+right, 64)
	}
}
