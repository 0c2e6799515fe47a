package impl

import "strings"

const MaxLetters = 40
const MaxPresses = 200
const MaxKeys = 8
const MaxSame = 1000000000000000

const alphabetSize = 26

// mostOnKey is the number of letters on the fullest keys, 7 and 9.
const mostOnKey = 4

// mostCounted bounds each count of a letter.
const mostCounted = 1000

// mostTime bounds the time of a press and of a wait.
const mostTime = 1000

// noLayout is more than any layout costs, and small enough to add to.
const noLayout = 1 << 40

// padKey is a key with letters; keys are compared as values, so that no numbering of them is needed.
type padKey struct {
	digit   byte
	letters string
}

var padKeys = [8]padKey{
	{'2', "abc"},
	{'3', "def"},
	{'4', "ghi"},
	{'5', "jkl"},
	{'6', "mno"},
	{'7', "pqrs"},
	{'8', "tuv"},
	{'9', "wxyz"},
}

// letterPad is the pad as it stands for one letter: its key, and the place of the letter on it.
type letterPad struct {
	padKey
	place int
}

// layoutCosts tells, for so many keys and from a letter on, the least presses of the letters that are left.
type layoutCosts [MaxKeys + 1][alphabetSize + 1]int

func (k padKey) sign() byte { return k.digit }

func (k padKey) firstLetter() byte { return k.letters[0] }

func (k padKey) size() int { return len(k.letters) }

func (p letterPad) presses() int { return p.place + 1 }

func isLetter(c byte) bool { return 'a' <= c && c <= 'z' }

func padOf(letter byte) letterPad {
	for _, key := range padKeys {
		if place := strings.IndexByte(key.letters, letter); place >= 0 {
			return letterPad{key, place}
		}
	}
	return letterPad{}
}

func isKeyDigit(c byte) bool { return '2' <= c && c <= '9' }

func keyWith(digit byte) padKey { return padKeys[digit-'2'] }

func areKeys(keys string) bool {
	if len(keys) < 1 || len(keys) > MaxLetters {
		return false
	}
	for i := range len(keys) {
		if !isKeyDigit(keys[i]) {
			return false
		}
	}
	return true
}

// IsWord reports whether a text is a word.
func IsWord(word string) bool {
	if len(word) < 1 || len(word) > MaxLetters {
		return false
	}
	for i := range len(word) {
		if !isLetter(word[i]) {
			return false
		}
	}
	return true
}

func isOneLetter(letter string) bool { return len(letter) == 1 && IsWord(letter) }

// signsOf returns the signs that the pad has for the letters of a word, one for each.
func signsOf(word string, sign func(letterPad) byte) string {
	signs := make([]byte, len(word))
	for i := range signs {
		signs[i] = sign(padOf(word[i]))
	}
	return string(signs)
}

func sumOf(word string, amount func(letterPad) int) int {
	sum := 0
	for i := range len(word) {
		sum += amount(padOf(word[i]))
	}
	return sum
}

// KeyOf returns the key of a letter, a word of one.
func KeyOf(letter string) (string, bool) {
	if !isOneLetter(letter) {
		return "", false
	}
	return signsOf(letter, letterPad.sign), true
}

// PressesFor returns how often the key of a letter is pressed for it.
func PressesFor(letter string) (int, bool) {
	if !isOneLetter(letter) {
		return 0, false
	}
	return padOf(letter[0]).presses(), true
}

// CountPresses returns how often keys are pressed for a word.
func CountPresses(word string) (int, bool) {
	if !IsWord(word) {
		return 0, false
	}
	return sumOf(word, letterPad.presses), true
}

// mustWait reports whether there is a wait before the letter of a word with an index.
func mustWait(word string, i int) bool {
	return i > 0 && padOf(word[i-1]).padKey == padOf(word[i]).padKey
}

// PressText returns the presses of a word.
func PressText(word string) (string, bool) {
	if !IsWord(word) {
		return "", false
	}
	var text []byte
	for i := range len(word) {
		if mustWait(word, i) {
			text = append(text, ' ')
		}
		pad := padOf(word[i])
		for range pad.presses() {
			text = append(text, pad.sign())
		}
	}
	return string(text), true
}

// ReadPresses returns the word whose presses a text of at most MaxPresses signs is.
func ReadPresses(presses string) (string, bool) {
	if len(presses) > MaxPresses {
		return "", false
	}
	word := wordOfRuns(presses)
	// Only the presses of the word itself tell whether each wait is where it must be.
	text, ok := PressText(word)
	if !ok || text != presses {
		return "", false
	}
	return word, true
}

// wordOfRuns returns the letters that the runs of one digit tell, or "" if one of them tells none.
func wordOfRuns(presses string) string {
	var word []byte
	for at := 0; at < len(presses); {
		end := runEnd(presses, at)
		if presses[at] != ' ' {
			letter, ok := letterOfRun(presses[at], end-at)
			if !ok {
				return ""
			}
			word = append(word, letter)
		}
		at = end
	}
	return string(word)
}

func runEnd(text string, at int) int {
	end := at
	for end < len(text) && text[end] == text[at] {
		end++
	}
	return end
}

func letterOfRun(digit byte, presses int) (byte, bool) {
	if !isKeyDigit(digit) || presses > keyWith(digit).size() {
		return 0, false
	}
	return keyWith(digit).letters[presses-1], true
}

// KeysOf returns the keys of a word.
func KeysOf(word string) (string, bool) {
	if !IsWord(word) {
		return "", false
	}
	return signsOf(word, letterPad.sign), true
}

// CountSameKeys returns how many words have these keys, if they are at most MaxSame.
func CountSameKeys(keys string) (int, bool) {
	if !areKeys(keys) {
		return 0, false
	}
	count := 1
	for i := range len(keys) {
		count *= keyWith(keys[i]).size()
		// The count never falls again, and would overflow if it went on.
		if count > MaxSame {
			return 0, false
		}
	}
	return count, true
}

// FirstWord returns the first word that has these keys.
func FirstWord(keys string) (string, bool) {
	if !areKeys(keys) {
		return "", false
	}
	word := make([]byte, len(keys))
	for i := range word {
		word[i] = keyWith(keys[i]).firstLetter()
	}
	return string(word), true
}

// WordOfRank returns that word with these keys before which just rank of them come, rank in 0..MaxSame.
func WordOfRank(keys string, rank int) (string, bool) {
	if !areKeys(keys) || rank < 0 || rank > MaxSame {
		return "", false
	}
	word := make([]byte, len(keys))
	left := rank
	for i := len(keys) - 1; i >= 0; i-- {
		key := keyWith(keys[i])
		word[i] = key.letters[left%key.size()]
		left /= key.size()
	}
	if left > 0 {
		return "", false
	}
	return string(word), true
}

// RankOfWord returns how many words with the same keys come before a word, if these are at most MaxSame.
func RankOfWord(word string) (int, bool) {
	if !IsWord(word) {
		return 0, false
	}
	rank := 0
	for i := range len(word) {
		pad := padOf(word[i])
		rank = rank*pad.size() + pad.place
		// The rank never falls again, and would overflow if it went on.
		if rank > MaxSame {
			return 0, false
		}
	}
	return rank, true
}

// SameKeys reports whether two words have the same keys.
func SameKeys(a string, b string) (bool, bool) {
	if !IsWord(a) || !IsWord(b) {
		return false, false
	}
	return signsOf(a, letterPad.sign) == signsOf(b, letterPad.sign), true
}

// WaitsIn returns how many waits there are in a word.
func WaitsIn(word string) (int, bool) {
	if !IsWord(word) {
		return 0, false
	}
	waits := 0
	for i := range len(word) {
		if mustWait(word, i) {
			waits++
		}
	}
	return waits, true
}

// TimeFor returns the time for a word, if each press takes press and each wait takes wait more, both in 0..1000.
func TimeFor(word string, press int, wait int) (int, bool) {
	waits, ok := WaitsIn(word)
	if !ok || press < 0 || press > mostTime || wait < 0 || wait > mostTime {
		return 0, false
	}
	return sumOf(word, letterPad.presses)*press + waits*wait, true
}

// PressesBy returns how often keys are pressed for a word if the keys of a layout have these letters in this order.
func PressesBy(layout []string, word string) (int, bool) {
	if !IsLayout(layout) || !IsWord(word) {
		return 0, false
	}
	presses := 0
	for i := range len(word) {
		key := keyInLayout(layout, word[i])
		presses += strings.IndexByte(layout[key], word[i]) + 1
	}
	return presses, true
}

// IsLayout reports whether a list of texts is a layout.
func IsLayout(layout []string) bool {
	if len(layout) < 1 || len(layout) > MaxKeys {
		return false
	}
	var seen [alphabetSize]bool
	letters := 0
	for _, text := range layout {
		if text == "" {
			return false
		}
		for i := range len(text) {
			if !isLetter(text[i]) || seen[text[i]-'a'] {
				return false
			}
			seen[text[i]-'a'] = true
			letters++
		}
	}
	return letters == alphabetSize
}

func keyInLayout(layout []string, letter byte) int {
	for key, text := range layout {
		if strings.IndexByte(text, letter) >= 0 {
			return key
		}
	}
	return -1
}

// BestLayout returns how many letters each key gets, and the least number of presses, if a text has each letter of a, b, .. as often as counts tells and the letters stay in their order on the keys.
func BestLayout(counts []int, keys int) ([]int, int, bool) {
	if !areCounts(counts) || keys < 1 || keys > MaxKeys {
		return nil, 0, false
	}
	least := costsOfLayouts(counts, keys)
	sizes := make([]int, 0, keys)
	from := 0
	for left := keys; left > 0; left-- {
		size := firstBestSize(counts, from, least[left-1], least[left][from])
		sizes = append(sizes, size)
		from += size
	}
	return sizes, least[keys][0], true
}

func areCounts(counts []int) bool {
	if len(counts) != alphabetSize {
		return false
	}
	for _, count := range counts {
		if count < 0 || count > mostCounted {
			return false
		}
	}
	return true
}

func costsOfLayouts(counts []int, keys int) layoutCosts {
	var least layoutCosts
	for from := range alphabetSize {
		least[0][from] = noLayout
	}
	for left := 1; left <= keys; left++ {
		for from := range alphabetSize + 1 {
			least[left][from] = leastFrom(counts, from, least[left-1])
		}
	}
	return least
}

// leastFrom returns the least presses of the letters from one on, if rest tells those of the letters behind the next key.
func leastFrom(counts []int, from int, rest [alphabetSize + 1]int) int {
	least := noLayout
	onKey := 0
	for end := from + 1; end <= alphabetSize; end++ {
		onKey += counts[end-1] * (end - from)
		least = min(least, onKey+rest[end])
	}
	return least
}

// firstBestSize returns the least number of letters on the next key with which the presses are as few as least.
func firstBestSize(counts []int, from int, rest [alphabetSize + 1]int, least int) int {
	onKey := 0
	for end := from + 1; end <= alphabetSize; end++ {
		onKey += counts[end-1] * (end - from)
		if onKey+rest[end] == least {
			return end - from
		}
	}
	return 0
}

// LongestPressed returns the first word of just so many letters, 1..MaxLetters, that has just so many presses.
func LongestPressed(presses int, letters int) (string, bool) {
	if letters < 1 || letters > MaxLetters || !canPress(presses, letters) {
		return "", false
	}
	word := make([]byte, letters)
	left := presses
	for i := range word {
		word[i] = firstLetterLeaving(left, letters-i-1)
		left -= padOf(word[i]).presses()
	}
	return string(word), true
}

// canPress needs no search: some letter has each number of presses from 1 to mostOnKey, so every sum between is reached.
func canPress(presses int, letters int) bool {
	return letters <= presses && presses <= mostOnKey*letters
}

// firstLetterLeaving returns the first letter behind which the presses that are left suffice just for so many letters.
func firstLetterLeaving(presses int, letters int) byte {
	letter := byte('a')
	for letter < 'z' && !canPress(presses-padOf(letter).presses(), letters) {
		letter++
	}
	return letter
}

// KeysOfLayout returns for each letter of a word the index of the key of a layout on which it is.
func KeysOfLayout(layout []string, word string) ([]int, bool) {
	if !IsLayout(layout) || !IsWord(word) {
		return nil, false
	}
	keys := make([]int, len(word))
	for i := range keys {
		keys[i] = keyInLayout(layout, word[i])
	}
	return keys, true
}
