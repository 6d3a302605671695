package facts

// Texts gives texts numbers, from 0 on, in the order in which they come: rows of
// numbers are held against each other sooner than rows of texts.
type Texts struct {
	list    []string
	numbers map[string]int
}

// Number answers the number of a text, a new one if it has none yet.
func (t *Texts) Number(text string) int {
	if number, known := t.numbers[text]; known {
		return number
	}
	number := len(t.list)
	t.numbers[text] = number
	t.list = append(t.list, text)
	return number
}

// Text answers the text of a number.
func (t *Texts) Text(number int) string { return t.list[number] }

// TextsOf answers the texts of numbers.
func (t *Texts) TextsOf(numbers []int) []string {
	texts := make([]string, len(numbers))
	for i, number := range numbers {
		texts[i] = t.Text(number)
	}
	return texts
}

// find answers the number of a text, if it has one.
func (t *Texts) find(text string) (int, bool) {
	number, known := t.numbers[text]
	return number, known
}
