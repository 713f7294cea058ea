package written

import "strconv"

// greatest is the greatest number that has forms; it has 12 digits.
const greatest = 999999999999

// pieces are the parts of a written form: its lists of digits, and a shape, which has a single 0 in place of each of them.
type pieces struct {
	shape   string
	numbers []string
}

func isDigit(r rune) bool { return '0' <= r && r <= '9' }

// cut returns the pieces of a string.
func cut(written string) pieces {
	var shape []rune
	var numbers []string
	start := 0
	for i, r := range written {
		switch {
		case !isDigit(r):
			shape = append(shape, r)
		case i > 0 && isDigit(rune(written[i-1])):
			numbers[len(numbers)-1] = written[start : i+1]
		default:
			start = i
			shape = append(shape, '0')
			numbers = append(numbers, written[i:i+1])
		}
	}
	return pieces{string(shape), numbers}
}

// cardinalOf returns a number that is not negative, or -1 if no cardinal is written with these digits.
func cardinalOf(digits string) int {
	if len(digits) > 12 || digits[0] == '0' && digits != "0" {
		return -1
	}
	n, _ := strconv.Atoi(digits)
	return n
}

// fieldOf returns the number with so many digits, which may begin with zeros, or -1 if there are more or fewer digits.
func fieldOf(digits string, width int) int {
	if len(digits) != width {
		return -1
	}
	n, _ := strconv.Atoi(digits)
	return n
}

// twoDigits writes a number below 100 with two digits.
func twoDigits(n int) string { return strconv.Itoa(n/10) + strconv.Itoa(n%10) }
