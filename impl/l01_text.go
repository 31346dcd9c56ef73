package impl

import (
	"strconv"
	"strings"
)

const (
	MaxInputLen      = 20000
	MaxUint          = 1000000000
	MaxLineLen       = 600
	MaxFieldsPerLine = 24
)

// The index of a digit is its value; uppercase digits are left out because DecodeHex must reject them.
const hexDigits = "0123456789abcdef"

// EncodeHex returns the lowercase hexadecimal encoding of s.
func EncodeHex(s string) (string, bool) {
	if len(s) > MaxInputLen {
		return "", false
	}
	digits := make([]byte, 0, 2*len(s))
	for i := range len(s) {
		digits = append(digits, hexDigits[s[i]>>4], hexDigits[s[i]&15])
	}
	return string(digits), true
}

// DecodeHex returns the string whose EncodeHex is s.
func DecodeHex(s string) (string, bool) {
	if len(s)%2 != 0 || len(s) > 2*MaxInputLen {
		return "", false
	}
	decoded := make([]byte, 0, len(s)/2)
	for i := 0; i < len(s); i += 2 {
		high := strings.IndexByte(hexDigits, s[i])
		low := strings.IndexByte(hexDigits, s[i+1])
		if high < 0 || low < 0 {
			return "", false
		}
		decoded = append(decoded, byte(high<<4|low))
	}
	return string(decoded), true
}

// FormatInt returns n in decimal.
func FormatInt(n int) string {
	return strconv.Itoa(n)
}

// ParseUint returns the number in the range 0 to MaxUint whose FormatInt is s.
func ParseUint(s string) (int, bool) {
	n, err := strconv.Atoi(s)
	if err != nil || n < 0 || n > MaxUint {
		return 0, false
	}
	// Atoi also reads a sign and leading zeros, which FormatInt never writes for these numbers.
	if FormatInt(n) != s {
		return 0, false
	}
	return n, true
}

// SplitFields returns the fields of a line, which spaces separate.
func SplitFields(line string) ([]string, bool) {
	if len(line) > MaxLineLen {
		return nil, false
	}
	var fields []string
	begin, at := 0, 0
scan:
	for at < len(line) {
		switch b := line[at]; {
		case b < 32 || b > 126:
			break scan
		case b == ' ':
			fields = appendField(fields, line[begin:at])
			begin = at + 1
		}
		at++
	}
	if at < len(line) {
		return nil, false
	}
	fields = appendField(fields, line[begin:])
	if len(fields) > MaxFieldsPerLine {
		return nil, false
	}
	return fields, true
}

// appendField leaves out the empty text between two adjacent spaces.
// It copies the field because a result shares no memory with an argument.
func appendField(fields []string, field string) []string {
	if field == "" {
		return fields
	}
	return append(fields, strings.Clone(field))
}

// Clamp returns n clamped to the range low to high.
func Clamp(n int, low int, high int) int {
	// max comes last so that low wins if high is less than low.
	return max(low, min(n, high))
}
