package script

import (
	"strconv"
	"strings"

	"emender/block"
	"emender/world"
)

// do does a line in a world. What the world refuses is just not done.
func do(w *world.World, line string) {
	if n, ok := rounds(line); ok {
		w.Calm(n)
		return
	}
	a, _ := Act(line)
	w.Do(a)
}

// report tells what a world has come to.
func report(w *world.World) string {
	var text strings.Builder
	k := w.Keeper()
	tell(&text, "keeper", k.Version(), k.Sure())
	for i := 0; w.Client(i) != nil; i++ {
		c := w.Client(i)
		tell(&text, "client", i, c.Version(), len(c.Pending()), c.Lost())
	}
	tell(&text, "doc")
	page, _ := block.Print(k.Doc()) // the keeper's document is valid
	for _, line := range lines(strings.TrimSuffix(page, end)) {
		tell(&text, "| "+line)
	}
	return text.String()
}

// tell writes a line of a word and numbers.
func tell(text *strings.Builder, word string, numbers ...int) {
	text.WriteString(word)
	for _, n := range numbers {
		text.WriteString(blank + strconv.Itoa(n))
	}
	text.WriteString(end)
}
