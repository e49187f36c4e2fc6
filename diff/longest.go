package diff

// longest answers the longest pairs of a and b, and of as many those that are least.
func longest[T any](a []T, b []T, same func(x, y T) bool) [][2]int {
	most := mostPairs(a, b, same)
	var pairs [][2]int
	j := 0
search:
	for i := range a {
		for k := j; k < len(b); k++ {
			switch {
			case most[i][j] == 0:
				break search
			case same(a[i], b[k]) && 1+most[i+1][k+1] == most[i][j]:
				pairs = append(pairs, [2]int{i, k})
				j = k + 1
				continue search
			}
		}
	}
	return pairs
}

// mostPairs answers, of each i and j, how many pairs a from i on and b from j on have at most.
func mostPairs[T any](a []T, b []T, same func(x, y T) bool) [][]int {
	most := make([][]int, len(a)+1)
	most[len(a)] = make([]int, len(b)+1)
	for i := len(a) - 1; i >= 0; i-- {
		most[i] = make([]int, len(b)+1)
		for j := len(b) - 1; j >= 0; j-- {
			most[i][j] = max(most[i+1][j], most[i][j+1])
			if same(a[i], b[j]) {
				most[i][j] = 1 + most[i+1][j+1]
			}
		}
	}
	return most
}
