// Package sum has checksums.
package sum

import "gangplank/api"

// most is the greatest number of 16 bits.
const most = 65535

// Of bytes.
func Of(b []byte) (int, error) {
	if len(b) > api.MaxBytes {
		return 0, api.ErrFull
	}
	total := 0
	for i, x := range b {
		if i%2 == 0 {
			total += int(x) * 256
		} else {
			total += int(x)
		}
	}
	return fold(total), nil
}

// Add two.
func Add(a, b int) (int, error) {
	if err := check16(a, b); err != nil {
		return 0, err
	}
	return fold(a + b), nil
}

// Not of a number.
func Not(a int) (int, error) {
	if err := check16(a); err != nil {
		return 0, err
	}
	return most - a, nil
}

// Swap a number for another one.
func Swap(check, before, after int) (int, error) {
	if err := check16(check, before, after); err != nil {
		return 0, err
	}
	without := fold((most - check) + (most - before))
	return most - fold(without+after), nil
}

// check16 looks ahead of any adding, so that no total can wrap round.
func check16(numbers ...int) error {
	for _, n := range numbers {
		if n < 0 || n > most {
			return api.ErrRange
		}
	}
	return nil
}

// fold needs a loop: folding once may carry over again.
func fold(total int) int {
	for total > most {
		total = total>>16 + total&most
	}
	return total
}
