package impl

import "strconv"

const (
	MaxInputLen      = 20000
	MaxUint          = 1000000000
	MaxLineLen       = 600
	MaxFieldsPerLine = 24
)

const hexDigits = "0123456789abcdef"

// The bytes that a line may contain run from the space to the tilde.
const (
	firstLineByte = ' '
	lastLineByte  = '~'
)

// EncodeHex returns the lowercase hexadecimal encoding of s.
func EncodeHex(s string) (string, bool) {
	if len(s) > MaxInputLen {
		return "", false
	}
	text := make([]byte, 0, 2*len(s))
	for i := 0; i < len(s); i++ {
		text = append(text, hexDigits[s[i]>>4], hexDigits[s[i]&15])
	}
	return string(text), true
}

// DecodeHex returns the string whose encoding by EncodeHex is s.
func DecodeHex(s string) (string, bool) {
	if len(s)%2 != 0 || len(s) > 2*MaxInputLen {
		return "", false
	}
	decoded := make([]byte, 0, len(s)/2)
	for i := 0; i < len(s); i += 2 {
		high, highOk := hexValue(s[i])
		low, lowOk := hexValue(s[i+1])
		if !highOk || !lowOk {
			return "", false
		}
		decoded = append(decoded, high<<4|low)
	}
	return string(decoded), true
}

// hexValue rejects uppercase digits, because EncodeHex never writes them.
func hexValue(digit byte) (byte, bool) {
	switch {
	case '0' <= digit && digit <= '9':
		return digit - '0', true
	case 'a' <= digit && digit <= 'f':
		return digit - 'a' + 10, true
	}
	return 0, false
}

// FormatInt returns n in decimal.
func FormatInt(n int) string {
	return strconv.Itoa(n)
}

// ParseUint returns the number from 0 to MaxUint whose decimal text is s.
func ParseUint(s string) (int, bool) {
	n, err := strconv.Atoi(s)
	// Atoi also reads a sign and leading zeros, which FormatInt does not write.
	if err != nil || n < 0 || n > MaxUint || FormatInt(n) != s {
		return 0, false
	}
	return n, true
}

// SplitFields returns the parts of a line between its spaces.
func SplitFields(line string) ([]string, bool) {
	if len(line) > MaxLineLen {
		return nil, false
	}
	var fields []string
	var field []byte
	valid := true
scan:
	for i := 0; i < len(line); i++ {
		switch b := line[i]; {
		case b < firstLineByte || b > lastLineByte:
			valid = false
			break scan
		case b != ' ':
			field = append(field, b)
		case len(field) > 0:
			fields = append(fields, string(field))
			field = field[:0]
		}
	}
	if len(field) > 0 {
		fields = append(fields, string(field))
	}
	if !valid || len(fields) > MaxFieldsPerLine {
		return nil, false
	}
	return fields, true
}

// Clamp returns n clamped to the range low to high.
func Clamp(n int, low int, high int) int {
	// low is applied last, so that it wins where high is less than low.
	return max(low, min(n, high))
}
