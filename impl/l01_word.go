package impl

const MaxWidth = 8

// word holds the bits of a number of at most MaxWidth bits. uint8 wraps at the
// greatest width by itself; cut takes off what runs over at a lesser one.
type word uint8

// At MaxWidth the 1 is shifted out, and 0 - 1 wraps to every bit, as it should.
func mask(w int) word { return word(1<<w - 1) }

func (a word) cut(w int) word { return a & mask(w) }

func (a word) plus(w int, b word) word { return (a + b).cut(w) }

func (a word) minus(w int, b word) word { return (a - b).cut(w) }

func (a word) times(w int, b word) word { return (a * b).cut(w) }

func (a word) over(w int, b word) word {
	if b == 0 {
		return mask(w)
	}
	return a / b
}

func (a word) rest(b word) word {
	if b == 0 {
		return a
	}
	return a % b
}

func (a word) up(w int, b word) word { return (a << b).cut(w) }

func (a word) down(b word) word { return a >> b }

func (a word) flip(w int) word { return (^a).cut(w) }

func (a word) signed(w int) int {
	if a>>(w-1) == 0 {
		return int(a)
	}
	return int(a) - 1<<w
}

func widthOk(w int) bool { return 1 <= w && w <= MaxWidth }

func WordOk(w int, a int) bool { return widthOk(w) && 0 <= a && a < 1<<w }

func wordsOk(w int, a int, b int) bool { return WordOk(w, a) && WordOk(w, b) }

func oneIf(yes bool) int {
	if yes {
		return 1
	}
	return 0
}

func Add(w int, a int, b int) int {
	if !wordsOk(w, a, b) {
		return 0
	}
	return int(word(a).plus(w, word(b)))
}

func Sub(w int, a int, b int) int {
	if !wordsOk(w, a, b) {
		return 0
	}
	return int(word(a).minus(w, word(b)))
}

func Mul(w int, a int, b int) int {
	if !wordsOk(w, a, b) {
		return 0
	}
	return int(word(a).times(w, word(b)))
}

func Div(w int, a int, b int) int {
	if !wordsOk(w, a, b) {
		return 0
	}
	return int(word(a).over(w, word(b)))
}

func Rem(w int, a int, b int) int {
	if !wordsOk(w, a, b) {
		return 0
	}
	return int(word(a).rest(word(b)))
}

func Shl(w int, a int, b int) int {
	if !wordsOk(w, a, b) {
		return 0
	}
	return int(word(a).up(w, word(b)))
}

func Shr(w int, a int, b int) int {
	if !wordsOk(w, a, b) {
		return 0
	}
	return int(word(a).down(word(b)))
}

func Flip(w int, a int) int {
	if !WordOk(w, a) {
		return 0
	}
	return int(word(a).flip(w))
}

func Signed(w int, a int) int {
	if !WordOk(w, a) {
		return 0
	}
	return word(a).signed(w)
}

func Less(w int, a int, b int) int {
	return oneIf(wordsOk(w, a, b) && a < b)
}

func LessSigned(w int, a int, b int) int {
	return oneIf(wordsOk(w, a, b) && word(a).signed(w) < word(b).signed(w))
}

func Join(w int, a int, v int, b int) int {
	if !WordOk(w, a) || !WordOk(v, b) || w+v > MaxWidth {
		return 0
	}
	return int(word(a).up(w+v, word(v)) | word(b))
}

func Slice(w int, a int, low int, n int) int {
	// w - n and not low + n: the sum of two great numbers would wrap.
	if !WordOk(w, a) || n < 1 || low < 0 || low > w-n {
		return 0
	}
	return int(word(a).down(word(low)).cut(n))
}
