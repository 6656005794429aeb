package tests

import (
	"fmt"
	"math/rand"
	"strings"
	"testing"

	"loop.example/g00635/impl"
)

// checkDeskRefused holds both calls against what is wanted, and against the model.
func checkDeskRefused(t *testing.T, of string, text string, want impl.DeskOut) {
	t.Helper()
	if got := impl.DeskRun(text); got != want {
		t.Errorf("%s: of %.200q: got %+v, want %+v", of, text, got, want)
	}
	if got := impl.DeskFault(text); got != want {
		t.Errorf("%s: of %.200q: the fault is %+v, want %+v", of, text, got, want)
	}
	if model := modelRun(text); model != want {
		t.Errorf("%s: of %.200q: the model says %+v, wanted is %+v", of, text, model, want)
	}
}

func wrongLine(at int) impl.DeskOut {
	return impl.DeskOut{Line: int64(at), Code: impl.ErrSyntax}
}

// rightLines has a line of each row of the table, by its word.
func rightLines() map[string]string {
	return map[string]string{
		"fill": "fill 0 1 2 3 4", "fork": "fork b", "go": "go main", "undo": "undo", "redo": "redo",
		"join": "join b", "show": "show", "way": "way 0 1 2 3", "size": "size", "prune": "prune",
	}
}

// wrongNumbers are words that are no numbers of a desk.
func wrongNumbers() []string {
	return []string{
		"", "00", "01", "007", "0000000000", "-1", "-0", "+1", "+0", "1234567890", "1000000000", "0123456789", "99999999999999999999999", "18446744073709551617",
		"a", "1a", "a1", "0x1", "1e1", "1.0", "1_0", "0b1", "1,", "1\t", "\t1", "1\r", "1\x00", "\x00", "٣", "１", "\xff", "é", "one", "-", "+",
	}
}

// wrongWords are none with which a line begins.
func wrongWords() []string {
	return []string{"", "f", "Fill", "FILL", "fil", "fills", "fill\t", "\tshow", "show\r", "show\x00", "\x00", "ok", "error", "quit", "main", "0", "clashes", "\xffshow", "shöw", "way0", "sho w"}
}

func wrongLines() []string {
	lines := []string{"", " ", "  ", "fill", "way", "fork", "go", "join", "fork ", "go ", "join ", "fork  b", "join b ", " join b", "go b c", "fork b\tc d"}
	for _, right := range rightLines() {
		lines = append(lines, " "+right, right+" ", right+" 1", right+" x", right+"  ", strings.ToUpper(right), right[1:], right+" \xff")
		if strings.Contains(right, " ") {
			lines = append(lines, strings.Replace(right, " ", "  ", 1), strings.Replace(right, " ", "\t", 1), strings.Replace(right, " ", "", 1))
			lines = append(lines, right[:strings.LastIndex(right, " ")], right[:strings.LastIndex(right, " ")+1])
		}
	}
	for _, n := range wrongNumbers() {
		for at := range 5 {
			numbers := strings.Fields("0 0 1 1 5")
			numbers[at] = n
			lines = append(lines, "fill "+strings.Join(numbers, " "))
			if at < 4 {
				lines = append(lines, "way "+strings.Join(numbers[:4], " "))
			}
		}
	}
	for _, w := range wrongWords() {
		lines = append(lines, w, w+" b", w+" 0 0 1 1", w+" 0 0 1 1 5")
	}
	return lines
}

func TestDeskOfEachWrongLine(t *testing.T) {
	for _, wrong := range wrongLines() {
		checkDeskRefused(t, "alone", wrong+"\n", wrongLine(0))
		checkDeskRefused(t, "ahead", deskLines(wrong, "show"), wrongLine(0))
		checkDeskRefused(t, "behind", deskLines("show", "undo", "fork b", wrong), wrongLine(3))
		checkDeskRefused(t, "between", deskLines("fill 0 0 1 1 5", wrong, "size"), wrongLine(1))
		checkDeskRefused(t, "the last one that may be", strings.Repeat("show\n", impl.MaxDesk-1)+wrong+"\n", wrongLine(impl.MaxDesk-1))
		checkDeskRefused(t, "without its end", "show\n"+wrong+"!", wrongLine(1))
	}
}

// Of more than one wrong line it is the first one, whatever makes each wrong.
func TestDeskOfSeveralWrongLines(t *testing.T) {
	wrong := []string{"", "none", "way 1", "fill 0 0 01 1 5", "go", " show"}
	for i, first := range wrong {
		for at := range 4 {
			lines := []string{"show", "go b", "undo", "size"}
			lines[at] = first
			for next := at + 1; next < 4; next += 2 {
				lines[next] = wrong[(i+next)%len(wrong)]
			}
			checkDeskRefused(t, "several", deskLines(lines...), wrongLine(at))
			checkDeskRefused(t, "several, the last without its end", strings.TrimSuffix(deskLines(lines...), "\n")+"x", wrongLine(at))
			checkDeskRefused(t, "several, and too many", deskLines(lines...)+strings.Repeat("show\n", impl.MaxDesk), wrongLine(at))
		}
	}
}

// A line that can not be followed is no fault: it comes behind lines that are.
func TestDeskFaultIsOfTheText(t *testing.T) {
	for _, line := range []string{"go none", "fork B", "fill 9 9 0 0 99", "fill 999999999 0 1 1 5", "way 4 4 4 4", "undo", "redo", "join main", "fork \xff\x00\t", "go ä", "join 1"} {
		text := deskLines(line, "show")
		if got := impl.DeskFault(text); got != (impl.DeskOut{}) {
			t.Errorf("%q: the fault is %+v", text, got)
		}
		if got := impl.DeskRun(text); got.Code != impl.OK || !strings.HasPrefix(got.Text, "error ") || !strings.HasSuffix(got.Text, "\n"+plainShow+"\n") {
			t.Errorf("%q: got %+v", text, got)
		}
		checkDeskRefused(t, "behind it", text+"none\n", wrongLine(2))
	}
}

func TestDeskLacksLineFeed(t *testing.T) {
	for _, line := range rightLines() {
		checkDeskRefused(t, "alone", line, wrongLine(0))
		checkDeskRefused(t, "behind another", "show\n"+line, wrongLine(1))
		checkDeskRefused(t, "carriage return", line+"\r", wrongLine(0))
		checkDeskRefused(t, "the last one that may be", strings.Repeat("show\n", impl.MaxDesk-1)+line, wrongLine(impl.MaxDesk-1))
		checkDeskRefused(t, "one too many", strings.Repeat("show\n", impl.MaxDesk)+line, wrongLine(impl.MaxDesk))
	}
	checkDeskRefused(t, "a blank at the end", "show\n ", wrongLine(1))
	checkDeskRefused(t, "a line feed too many", "show\n\n", wrongLine(1))
	checkDeskRefused(t, "a line feed alone", "\n", wrongLine(0))
}

func TestDeskOfMaxDesk(t *testing.T) {
	for _, line := range rightLines() {
		full := strings.Repeat(line+"\n", impl.MaxDesk)
		if got := impl.DeskRun(full); got.Code != impl.OK || strings.Count(got.Text, "\n") != impl.MaxDesk || got != modelRun(full) {
			t.Errorf("%q: got %+v", line, got)
		}
		if got := impl.DeskFault(full); got != (impl.DeskOut{}) {
			t.Errorf("%q: the fault is %+v", line, got)
		}
		for _, more := range []string{line + "\n", "none\n", "\n", line, " ", line + "\n" + line + "\n", line + "\nnone\n"} {
			checkDeskRefused(t, "too many", full+more, wrongLine(impl.MaxDesk))
		}
	}
	if impl.MaxDesk != 30 {
		t.Errorf("MaxDesk is %d", impl.MaxDesk)
	}
}

func TestDeskOfMaxBytes(t *testing.T) {
	for _, word := range []string{"fork", "go", "join"} {
		code := map[string]int{"fork": impl.ErrForm, "go": impl.ErrNone, "join": impl.ErrNone}[word]
		for _, fill := range []string{"a", "1", "-", "\xff"} {
			line := word + " " + strings.Repeat(fill, impl.MaxBytes-len(word)-2) + "\n"
			checkTold(t, "just as long", line, fmt.Sprintf("error %d\n", code))
			checkDeskRefused(t, "one byte longer", line[:len(line)-1]+fill+"\n", impl.DeskOut{Code: impl.ErrSize})
		}
	}
	for _, line := range []string{"fill 0 0 1 1 5", "none", "", "show", "way " + strings.Repeat("0", 9000)} {
		text := line + "\n" + strings.Repeat("show\n", impl.MaxBytes/5)
		checkDeskRefused(t, "too long", text, impl.DeskOut{Code: impl.ErrSize})
	}
	checkDeskRefused(t, "too long, of one byte", strings.Repeat("\n", impl.MaxBytes+1), impl.DeskOut{Code: impl.ErrSize})
	checkDeskRefused(t, "as long as may be, and wrong", strings.Repeat("\n", impl.MaxBytes), wrongLine(0))
	checkDeskRefused(t, "a number as long as may be", "way 0 0 0 "+strings.Repeat("1", impl.MaxBytes-11)+"\n", wrongLine(0))
	checkDeskRefused(t, "too many lines, as long as may be", strings.Repeat("show\n", impl.MaxBytes/5), wrongLine(impl.MaxDesk))
}

// Each byte in place of, and ahead of, each byte of a text: none panics, and what is told is what the model says.
func TestDeskOfEachByte(t *testing.T) {
	text := deskLines("fork b", "fill 0 1 20 1 5", "go b", "way 0 0 3 3")
	for at := range len(text) + 1 {
		for b := range 256 {
			put := text[:at] + string([]byte{byte(b)}) + text[at:]
			checkLikeModel(t, put)
			if at < len(text) {
				checkLikeModel(t, put[:at+1]+text[at+1:])
			}
		}
		checkLikeModel(t, text[:at])
		checkLikeModel(t, text[at:])
	}
}

func checkLikeModel(t *testing.T, text string) {
	t.Helper()
	got, want := impl.DeskRun(text), modelRun(text)
	if got != want {
		t.Fatalf("%q:\ngot  %+v\nwant %+v", text, got, want)
	}
	want.Text = ""
	if fault := impl.DeskFault(text); fault != want {
		t.Fatalf("%q: the fault is %+v, want %+v", text, fault, want)
	}
}

func TestDeskOfAnyBytes(t *testing.T) {
	signs := "fillforkgoundoredojoinshowwaysizeprune 0123456789  \n\n\n-+\x00\xff\xc3\xa4\r\tbmain"
	r := rand.New(rand.NewSource(8))
	for range 4000 {
		text := make([]byte, r.Intn(60))
		for i := range text {
			text[i] = signs[r.Intn(len(signs))]
			if r.Intn(9) == 0 {
				text[i] = byte(r.Intn(256))
			}
		}
		checkLikeModel(t, string(text))
	}
}

// Texts of the table's lines, in which some bytes are turned, taken out, or put in.
func TestDeskOfTurnedTexts(t *testing.T) {
	r := rand.New(rand.NewSource(9))
	refused := 0
	for seed := range int64(800) {
		text := []byte(deskLines(drawnLines(seed, 1+int(seed)%(impl.MaxDesk+2))...))
		for range r.Intn(3) {
			at := r.Intn(len(text))
			switch r.Intn(3) {
			case 0:
				text[at] = " \n0b-\xff"[r.Intn(6)]
			case 1:
				text = append(text[:at], text[at+1:]...)
			default:
				text = append(text[:at+1], text[at:]...)
			}
		}
		checkLikeModel(t, string(text))
		if modelFault(string(text)).Code != impl.OK {
			refused++
		}
	}
	if refused < 200 || refused > 700 {
		t.Errorf("%d of 800 are refused", refused)
	}
}

func TestDeskWords(t *testing.T) {
	want := []string{"fill", "fork", "go", "join", "prune", "redo", "show", "size", "undo", "way"}
	got := impl.DeskWords()
	if fmt.Sprint(got) != fmt.Sprint(want) {
		t.Fatalf("got %q, want %q", got, want)
	}
	for i := range got[:cap(got)] {
		got[:cap(got)][i] = "scribbled"
	}
	if again := impl.DeskWords(); fmt.Sprint(again) != fmt.Sprint(want) {
		t.Errorf("got %q behind another one, want %q", again, want)
	}
	if text := deskLines("show", "undo"); impl.DeskRun(text).Text != deskLines(plainShow, "error 10") {
		t.Errorf("%q tells %+v then", text, impl.DeskRun(text))
	}
}

// With each of the words a line may begin, and with no other one.
func TestDeskWordsAreThoseOfLines(t *testing.T) {
	right := rightLines()
	for _, word := range impl.DeskWords() {
		if got := impl.DeskFault(right[word] + "\n"); got != (impl.DeskOut{}) {
			t.Errorf("%s: the fault is %+v", word, got)
		}
		delete(right, word)
	}
	if len(right) != 0 {
		t.Errorf("no words of these lines: %v", right)
	}
}
