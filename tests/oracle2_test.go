package tests

import "slices"

// The orders of chapter 2 as the document words them, written out as whole
// lists: what the program returns for a rank is compared with them.

// reflectedList has 0, 1, .. less than 2 to the power of digits reflected,
// each digit more being set in the list of the others told backwards.
func reflectedList(digits int) []int {
	list := []int{0}
	for k := range digits {
		for i := len(list) - 1; i >= 0; i-- {
			list = append(list, list[i]+1<<k)
		}
	}
	return list
}

func digitText(g, digits int) string {
	s := ""
	for range digits {
		s = string(rune('0'+g%2)) + s
		g /= 2
	}
	return s
}

// choiceList has the choices of count numbers less than size in their order.
func choiceList(size, count int) [][]int {
	if count == 0 {
		return [][]int{nil}
	}
	if count > size {
		return nil
	}
	list := slices.Clone(choiceList(size-1, count))
	with := choiceList(size-1, count-1)
	for i := len(with) - 1; i >= 0; i-- {
		list = append(list, slices.Concat(with[i], []int{size - 1}))
	}
	return list
}

// swapList has the lists of 0, 1, .. less than size in the order by swaps.
func swapList(size int) [][]int {
	if size == 0 {
		return [][]int{nil}
	}
	var list [][]int
	for rank, l := range swapList(size - 1) {
		for i := range size {
			place := i
			if rank%2 == 0 {
				place = size - 1 - i
			}
			list = append(list, slices.Concat(l[:place], []int{size - 1}, l[place:]))
		}
	}
	return list
}

// mixedList has the mixed digits of limits in their order.
func mixedList(limits []int) [][]int {
	if len(limits) == 0 {
		return [][]int{nil}
	}
	var list [][]int
	for digit := range limits[0] {
		others := mixedList(limits[1:])
		if digit%2 == 1 {
			slices.Reverse(others)
		}
		for _, l := range others {
			list = append(list, slices.Concat([]int{digit}, l))
		}
	}
	return list
}

// pascal returns how many choices there are by the sums of Pascal's triangle.
func pascal(size, count int) int {
	row := []int{1}
	for range size {
		next := []int{1}
		for i := 1; i < len(row); i++ {
			next = append(next, row[i-1]+row[i])
		}
		row = append(next, 1)
	}
	return row[count]
}
