package impl

// Error codes, shared by all chapters. ErrDamage means that something cannot be corrected.
const (
	ErrNone = iota
	ErrInvalid
	ErrRange
	ErrLimit
	ErrNotFound
	ErrState
	ErrSyntax
	ErrDamage
)

// Limits of bit lists.
const (
	MaxBits  = 8192
	MaxWidth = 32
)

const byteWidth = 8

// IsBits reports whether list is a bit list.
func IsBits(list []int64) bool {
	if len(list) > MaxBits {
		return false
	}
	for _, bit := range list {
		if bit != 0 && bit != 1 {
			return false
		}
	}
	return true
}

// AppendBits returns the list with a value appended in a width, and ErrNone.
//
// Errors, in this order: ErrInvalid if list is not a bit list; ErrRange if width is not in
// 0..MaxWidth or value not in 0..2^width - 1; ErrLimit if there would be more than MaxBits bits.
func AppendBits(list []int64, value int64, width int64) ([]int64, int64) {
	if !IsBits(list) {
		return nil, ErrInvalid
	}
	if !isWidth(width) || !fitsWidth(value, width) {
		return nil, ErrRange
	}
	total := int64(len(list)) + width
	if total > MaxBits {
		return nil, ErrLimit
	}
	// A new list, because append to the argument could write into the memory behind it.
	out := make([]int64, 0, total)
	out = append(out, list...)
	return appendNumber(out, value, width), ErrNone
}

// NumberAt returns the number that is written from the index at on in a width, and ErrNone.
//
// Errors, in this order: ErrInvalid if list is not a bit list; ErrRange if width is not in
// 0..MaxWidth, or at is negative, or the list has fewer than at + width bits.
func NumberAt(list []int64, at int64, width int64) (int64, int64) {
	if !IsBits(list) {
		return 0, ErrInvalid
	}
	// at is compared with a difference, because at + width could overflow.
	if !isWidth(width) || at < 0 || at > int64(len(list))-width {
		return 0, ErrRange
	}
	return numberOf(list[at : at+width]), ErrNone
}

// BitsOfString returns the bits of a string, and ErrNone. It returns nil and ErrLimit if there
// are more than MaxBits.
func BitsOfString(s string) ([]int64, int64) {
	if len(s) > MaxBits/byteWidth {
		return nil, ErrLimit
	}
	out := make([]int64, 0, len(s)*byteWidth)
	for i := range len(s) {
		out = appendNumber(out, int64(s[i]), byteWidth)
	}
	return out, ErrNone
}

// StringOfBits returns the string with these bits, and ErrNone.
//
// Errors, in this order: ErrInvalid if list is not a bit list; ErrState if its length is not a
// multiple of 8.
func StringOfBits(list []int64) (string, int64) {
	if !IsBits(list) {
		return "", ErrInvalid
	}
	if len(list)%byteWidth != 0 {
		return "", ErrState
	}
	out := make([]byte, 0, len(list)/byteWidth)
	for at := 0; at < len(list); at += byteWidth {
		out = append(out, byte(numberOf(list[at:at+byteWidth])))
	}
	return string(out), ErrNone
}

// BitDistance returns the number of indices at which two lists differ, and ErrNone.
//
// Errors, in this order: ErrInvalid if a or b is not a bit list; ErrState if they have different
// lengths.
func BitDistance(a []int64, b []int64) (int64, int64) {
	if code := pairError(a, b); code != ErrNone {
		return 0, code
	}
	count := int64(0)
	for i, bit := range a {
		count += bit ^ b[i]
	}
	return count, ErrNone
}

// XorBits returns the list with a 1 at every index at which two lists differ, and ErrNone. Errors
// as for BitDistance.
func XorBits(a []int64, b []int64) ([]int64, int64) {
	if code := pairError(a, b); code != ErrNone {
		return nil, code
	}
	out := make([]int64, len(a))
	for i, bit := range a {
		out[i] = bit ^ b[i]
	}
	return out, ErrNone
}

// BitsText returns the bits as characters 0 and 1. It returns "" if list is not a bit list.
func BitsText(list []int64) string {
	if !IsBits(list) {
		return ""
	}
	out := make([]byte, len(list))
	for i, bit := range list {
		out[i] = '0' + byte(bit)
	}
	return string(out)
}

// ReadBits returns the bit list whose BitsText is s, and true, or nil and false if there is none;
// the empty string yields the empty list.
func ReadBits(s string) ([]int64, bool) {
	if len(s) > MaxBits {
		return nil, false
	}
	out := make([]int64, len(s))
	for i := range len(s) {
		if s[i] != '0' && s[i] != '1' {
			return nil, false
		}
		out[i] = int64(s[i] - '0')
	}
	return out, true
}

func isWidth(width int64) bool {
	return width >= 0 && width <= MaxWidth
}

// fitsWidth needs a width for which isWidth holds: a shift by a negative number would panic.
func fitsWidth(value int64, width int64) bool {
	return value >= 0 && value < int64(1)<<width
}

// appendNumber may write behind out, so out must be memory of the caller's own.
func appendNumber(out []int64, value int64, width int64) []int64 {
	for shift := width - 1; shift >= 0; shift-- {
		out = append(out, value>>shift&1)
	}
	return out
}

func numberOf(bits []int64) int64 {
	number := int64(0)
	for _, bit := range bits {
		number = number<<1 | bit
	}
	return number
}

func pairError(a []int64, b []int64) int64 {
	if !IsBits(a) || !IsBits(b) {
		return ErrInvalid
	}
	if len(a) != len(b) {
		return ErrState
	}
	return ErrNone
}
