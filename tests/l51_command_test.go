package tests

import (
	"fmt"
	"math/rand/v2"
	"slices"
	"strings"
	"sync"
	"testing"

	"loop.example/tiervolume/impl"
)

// As in the tests of frames, the numbers and the words of the document are written out.
const (
	maxScript   = 600
	blankShow   = "free 3 objects 0 lost 0"
	tooLong     = "too long\n"
	wideWrite   = "write 0 1 1 2 2 3 3 4 4 5 5 6 6 7 7 8 8 9\n"
	sixObjects  = "write 0 1\npack 0\nwrite 0 2\npack 0\nwrite 0 3\npack 0\nwrite 0 4\npack 0\nwrite 0 5\npack 0\nwrite 0 6\npack 0\n"
	threeInCold = "write 1 2 3 4 5 6 7 8\ndemote 1 3 5\n"
)

var (
	// doingNames are the commands that are events, each with the index of its kind less 1, and answers are what they output.
	doingNames = []string{"write", "sync", "demote", "promote", "pack", "copy", "collect", "sweep", "tick", "crash"}
	answers    = []string{"ok", "full", "none", "no"}
	// eachAnswer is what each of these commands can output.
	eachAnswer = []string{
		"write ok", "write full", "write no", "sync ok", "demote ok", "demote full", "demote none", "demote no",
		"promote ok", "promote full", "promote none", "promote no", "pack ok", "pack full", "pack none", "pack no",
		"copy ok", "copy none", "collect ok", "collect none", "sweep ok", "sweep none", "tick ok", "tick none", "crash ok", "crash no",
	}
	// unusing are the commands that use no number.
	unusing = []string{"sync", "copy", "collect", "sweep", "tick"}
	// numberWords are all words that are numbers, each at its own index.
	numberWords = wordsOfNumbers()
	// noNumbers are words without blanks and newlines that are no numbers.
	noNumbers = []string{
		"", "00", "01", "02", "05", "09", "000", "001", "007", "011", "010", "0000", "100", "101", "110", "255", "256", "261", "999", "1000",
		"-1", "+1", "-0", "+0", "-5", "+5", "-", "+", "--1", "-99", "5-", "a", "x", "O", "l", "five", "1a", "a1", "5x", "x5", "0x5", "0b1", "0o7", "5e0",
		"1_0", "_1", "1_", "5.", ".5", "5.0", "5,", ",5", "0,", "'5'", "\"5\"", "5;", "#5", "(5)", "=", "~", "0=5", "\t", "\t5", "5\t", "\r", "5\r", "\r5", "\v5", "5\f",
		"\x00", "\x005", "5\x00", "\x80", "5\x80", "\xff", "\xff5", "\xb5", "é", "5é", "٥", "٠", "５", "1５", "²", "½", "Ⅴ", "五", "\u00a0", "5\u00a0", "\u20095",
		"\ufeff5", "NaN", "Inf", "nil", "4294967296", "4294967301", "18446744073709551616", "18446744073709551621", "-18446744073709551611",
		strings.Repeat("0", 50), strings.Repeat("9", 50),
	}
	// noCommands are lines that tell no command.
	noCommands = []string{
		"", " ", "  ", "     ", "what", "ok", "x", "zzz", "0", "5 7", "-1", "help", "exit", "format", "read 0", "use 0", "open", "free", "lost", "too long",
		" sync", "  sync", " show", " write 0 5", "\tsync", "\rsync", "\x00sync", "\xffsync", "\u00a0sync", "\ufeffsync", "sync\t", "sync\r", "sync\x00", "sync\xff", "sync\u00a0",
		"Sync", "SYNC", "sYnc", "Show", "SHOW", "Write 0 5", "WRITE 0 5", "Demote 0", "DEMOTE 0", "Promote 0", "PROMOTE 0", "Pack 0", "PACK 0", "Copy", "COPY",
		"Collect", "COLLECT", "Sweep", "SWEEP", "Tick", "TICK", "Crash 0 0 0 0", "CRASH 0 0 0 0", "shows", "sho", "how", "syncs", "syn", "ync", "writes 0 5",
		"writ 0 5", "demot 0", "demoted 0", "promot 0", "packs 0", "copied", "coll", "sweeps", "ticks", "tic", "crashed 0 0 0 0", "write0 5", "write,0,5", "write=0 5",
		"write\t0 5", "write\t0\t5", "sync;", "sync,tick", "sync;tick", "crash\x000 0 0 0", "ｓync", "sy nc", "sync\vtick", "sync\rtick", "0 write 5", "5 0 write", "EvSync",
		"2", "10", "evsync", "show ", "show  ", "show 0", "show x", "show show", "show\t", "show\r", "show 1 2 3", "show -1", "show \x00", "show all",
		"show sync", "show;", "show,", "showsync", "\xf0\x9f\x98\x80", "sync\u2028tick", "#sync", "// sync", "'sync'", "\"sync\"", "sync()", "!sync",
	}
)

// wordsOfNumbers returns the numbers from 0 to 99 as they are written.
func wordsOfNumbers() []string {
	var list []string
	for n := range 100 {
		list = append(list, fmt.Sprint(n))
	}
	return list
}

// linesOf returns the lines of a script, apart from the program.
func linesOf(text string) []string {
	var lines []string
	for {
		line, rest, ok := strings.Cut(text, "\n")
		if !ok {
			return lines
		}
		lines, text = append(lines, line), rest
	}
}

// wordsOf returns the words of a line, apart from the program.
func wordsOf(line string) []string {
	words := []string{""}
	for i := range len(line) {
		if line[i] == ' ' {
			words = append(words, "")
		} else {
			words[len(words)-1] += line[i : i+1]
		}
	}
	return words
}

// eventOfLine returns the event that a line tells, apart from the program. It fails if the line tells none.
func eventOfLine(line string) (impl.Event, bool) {
	words := wordsOf(line)
	e := impl.Event{Kind: 1 + slices.Index(doingNames, words[0])}
	for _, word := range words[1:] {
		// A word that is not there has the index -1.
		e.List = append(e.List, slices.Index(numberWords, word))
	}
	if many := len(e.List); e.Kind == evWrite && many%2 == 0 {
		for i := range many / 2 {
			e.Pairs = append(e.Pairs, impl.Pair{Block: e.List[2*i], Value: e.List[2*i+1]})
		}
	}
	return e, e.Kind > 0
}

// lineOf returns the line that tells an event with a name and numbers.
func lineOf(name string, list ...int) string {
	for _, n := range list {
		name += fmt.Sprint(" ", n)
	}
	return name + "\n"
}

// shownOf returns what show tells about a volume, by the functions of the chapters before.
func shownOf(v impl.Volume) string {
	line := ""
	for block, value := range impl.VolumeAll(v) {
		if tier := v.Map[block].Tier; tier != tierNone {
			line += fmt.Sprintf("%d%s%d ", block, []string{"", "=", "~"}[tier], value)
		}
	}
	return line + fmt.Sprintf("free %d objects %d lost %d", impl.VolumeFree(v), len(v.Store), impl.VolumeLost(v))
}

// executed returns what Execute returns, apart from the program, where do tells what an event does.
func executed(text string, do func(impl.Volume, impl.Event) (impl.Volume, int)) string {
	if len(text) > maxScript {
		return tooLong
	}
	v := blankVolume()
	output := ""
	for _, line := range linesOf(text) {
		answer := "what"
		if e, ok := eventOfLine(line); ok {
			var code int
			v, code = do(v, e)
			answer = answers[code]
		} else if line == "show" {
			answer = shownOf(v)
		}
		output += answer + "\n"
	}
	return output + shownOf(v) + "\n"
}

// volumeBehind returns the volume behind a script.
func volumeBehind(text string) impl.Volume {
	v := blankVolume()
	for _, line := range linesOf(text) {
		if e, ok := eventOfLine(line); ok {
			v, _ = impl.RunDo(v, e)
		}
	}
	return v
}

// wantText requires what Execute returns, byte for byte.
func wantText(t *testing.T, text string, want string) {
	t.Helper()
	if got := impl.Execute(text); got != want {
		t.Fatalf("Execute(%q) returned %q; want %q", text, got, want)
	}
}

// wantLines requires the lines that Execute returns.
func wantLines(t *testing.T, text string, lines ...string) {
	t.Helper()
	wantText(t, text, strings.Join(lines, "\n")+"\n")
}

// linesFrom returns the lines of an output, which must all end with a newline.
func linesFrom(t *testing.T, output string) []string {
	t.Helper()
	if !strings.HasSuffix(output, "\n") {
		t.Fatalf("Execute returned %q, in which a line does not end", output)
	}
	return strings.Split(output[:len(output)-1], "\n")
}

// outputLines returns the lines that Execute returns.
func outputLines(t *testing.T, text string) []string {
	t.Helper()
	return linesFrom(t, impl.Execute(text))
}

// wantExecuted requires that Execute returns what RunDo and the other functions tell, and one line for each line of the script,
// and the line of show. It returns these lines.
func wantExecuted(t *testing.T, text string) []string {
	t.Helper()
	got := impl.Execute(text)
	if want := executed(text, impl.RunDo); got != want {
		t.Fatalf("Execute(%q) returned %q; want %q", text, got, want)
	}
	lines := linesFrom(t, got)
	if len(text) <= maxScript && len(lines) != strings.Count(text, "\n")+1 {
		t.Fatalf("Execute(%q) returned the lines %q", text, lines)
	}
	return lines
}

// lastShown returns the last line that Execute returns.
func lastShown(t *testing.T, text string) string {
	t.Helper()
	lines := outputLines(t, text)
	return lines[len(lines)-1]
}

// wantAnswer requires the line that Execute returns for a line behind a script, and, unless this is ok, that show tells the same as
// before.
func wantAnswer(t *testing.T, ahead string, line string, want string) {
	t.Helper()
	text := ahead + line + "\n"
	lines := wantExecuted(t, text)
	if got := lines[max(0, len(lines)-2)]; got != want {
		t.Fatalf("Execute(%q) returned %q for the last line; want %q", text, got, want)
	}
	if before := lastShown(t, ahead); want != "ok" && lines[len(lines)-1] != before {
		t.Fatalf("Execute(%q) shows %q at the end; want %q", text, lines[len(lines)-1], before)
	}
}

// roomless returns a script behind which one zone is free, and no frame fits into the current one: block 11 is cold, the blocks 0 to 9
// are hot, and there is one object.
func roomless() string {
	return "write 11 1\ndemote 11\n" + strings.Repeat(wideWrite, 6) + strings.Repeat("write 9 1\n", 3)
}

// freeless returns a script behind which no zone is free.
func freeless() string {
	return roomless() + "copy\n"
}

// settings returns scripts that lead to volumes of all kinds, with room for further lines.
func settings() []string {
	return []string{
		"", "write 0 5\n", threeInCold, sixObjects, roomless(), freeless(), wideWrite + "write 9 10 10 11 11 12\n", wideWrite + "write 9 10 10 11 11 12\ndemote 0 5 9\ndemote 11\nsync\nwrite 5 1\n",
		"write 11 99\n" + strings.Repeat(wideWrite, 3), "write 3 1\nsync\nwrite 3 2\nwrite 4 2\n", "write 0 1\npack 0\n", threeInCold + "promote 1 5\n", "write 0 1\npack 0\nwrite 0 2\nsync\n",
		strings.Repeat("write 0 1 1 1 2 1 3 1 4 1 5 1 6 1\ntick\n", 2), strings.Repeat("write 0 1\ndemote 0\n", 6), "write 0 5\nwrite 0 0\n", "what\nshow\n" + wideWrite,
	}
}

func TestScriptConstants(t *testing.T) {
	wantList(t, []int{impl.MaxScript}, []int{600}, "the constants")
}

// Promise 167, and scripts of few bytes.
func TestExecuteOfShortScripts(t *testing.T) {
	wantText(t, "", "free 3 objects 0 lost 0\n")
	wantText(t, "\n", "what\nfree 3 objects 0 lost 0\n")
	wantText(t, "\n\n\n", "what\nwhat\nwhat\nfree 3 objects 0 lost 0\n")
	wantText(t, "show\n", "free 3 objects 0 lost 0\nfree 3 objects 0 lost 0\n")
	wantText(t, "sync\n", "ok\nfree 3 objects 0 lost 0\n")
	wantText(t, "write 0 5\n", "ok\n0=5 free 3 objects 0 lost 6\n")
	wantText(t, "sync\n\nsync\n", "ok\nwhat\nok\nfree 3 objects 0 lost 0\n")
	for b := range 256 {
		for _, text := range []string{string([]byte{byte(b)}), string([]byte{byte(b), byte(b)}), "sync" + string([]byte{byte(b)})} {
			wantText(t, text, strings.Repeat("what\n", strings.Count(text, "\n")-strings.Count(text, "sync\n"))+strings.Repeat("ok\n", strings.Count(text, "sync\n"))+"free 3 objects 0 lost 0\n")
		}
	}
}

// The given examples of the document's promises and of the tests beside it.
func TestExecuteOfGivenScripts(t *testing.T) {
	wantLines(t, "write 0 5 3 7\ndemote 3\n", "ok", "ok", "0=5 3~7 free 3 objects 1 lost 15")
	wantLines(t, "tick\nx\ndemote 99\n", "none", "what", "no", blankShow)
}

// Promise 171.
func TestExecuteShowsHotAndColdBlocks(t *testing.T) {
	wantLines(t, "write 0 5 3 7\ndemote 3\nsync\n", "ok", "ok", "ok", "0=5 3~7 free 3 objects 1 lost 0")
}

// Promise 172.
func TestExecuteOfACrashLosesWhatDoesNotLast(t *testing.T) {
	wantLines(t, "write 0 5\nsync\nwrite 0 6\nshow\ncrash 0 0 0 0\n", "ok", "ok", "ok", "0=6 free 3 objects 0 lost 6", "ok", "0=5 free 3 objects 0 lost 0")
	wantLines(t, "write 0 5\nsync\nwrite 0 6\nshow\ncrash 5 9 9 9\n", "ok", "ok", "ok", "0=6 free 3 objects 0 lost 6", "ok", "0=5 free 3 objects 0 lost 0")
	wantLines(t, "write 0 5\nsync\nwrite 0 6\nshow\ncrash 6 0 0 0\n", "ok", "ok", "ok", "0=6 free 3 objects 0 lost 6", "ok", "0=6 free 3 objects 0 lost 0")
	wantLines(t, "write 0 5\ncrash 0 0 0 0\nshow\nwrite 0 6\n", "ok", "ok", blankShow, "ok", "0=6 free 3 objects 0 lost 6")
}

// Promise 173.
func TestExecuteOfACrashLosesUnusedObjects(t *testing.T) {
	wantLines(t, "write 1 9\npack 1\nshow\ncrash 9 9 9 9\n", "ok", "ok", "1=9 free 3 objects 1 lost 6", "ok", "1=9 free 3 objects 0 lost 0")
}

// Promise 174.
func TestExecuteOfWhatIsNotDone(t *testing.T) {
	text := "demote 0\npromote 0\ncollect\nsweep\ntick\nwrite 0\nwrite 12 1\ncrash 0\n"
	wantLines(t, text, "none", "none", "none", "none", "none", "no", "no", "no", blankShow)
}

// padded are scripts of so many bytes, and what is output for them if they are not too long.
func padded(n int) map[string]string {
	of := func(unit string) string { return strings.Repeat(unit, n/len(unit)+1)[:n] }
	scripts := map[string]string{
		of("\n"):                  strings.Repeat("what\n", n) + blankShow + "\n",
		of("x"):                   blankShow + "\n",
		of("\xff"):                blankShow + "\n",
		of("x")[1:] + "\n":        "what\n" + blankShow + "\n",
		of(" ")[1:] + "\n":        "what\n" + blankShow + "\n",
		"\n" + of("sync")[1:]:     "what\n" + blankShow + "\n",
		of("sync\n"):              strings.Repeat("ok\n", n/5) + blankShow + "\n",
		of("show\n"):              strings.Repeat(blankShow+"\n", n/5+1),
		of("é\n"):                 strings.Repeat("what\n", n/3) + blankShow + "\n",
		"sync\n" + of("tick")[5:]: "ok\n" + blankShow + "\n",
	}
	scripts["tick"+of(" 1")[4:n-1]+"\n"] = "none\n" + blankShow + "\n"
	scripts["write 0 5\n"+of("write 0 6 ")[10:]] = "ok\n0=5 free 3 objects 0 lost 6\n"
	scripts["write 0 5\n"+of("0")[11:]+"\n"] = "ok\nwhat\n0=5 free 3 objects 0 lost 6\n"
	return scripts
}

// Scripts of MaxScript-1, MaxScript and MaxScript+1 bytes, of complete lines and not, and far longer ones.
func TestExecuteOfLongScripts(t *testing.T) {
	for _, n := range []int{100, 300, 511, 512, 513, 598, 599, 600, 601, 602, 603, 605, 610, 700, 1023, 1024, 1200, 6000, 65536, 65536 + 600, 1 << 20} {
		for text, want := range padded(n) {
			if len(text) != n {
				t.Fatalf("a script has %d bytes; want %d", len(text), n)
			}
			if n > 600 {
				want = "too long\n"
			}
			wantText(t, text, want)
		}
	}
}

// Bytes are counted, not characters.
func TestExecuteCountsBytes(t *testing.T) {
	for unit, most := range map[string]int{"é": 300, "五": 200, "😀": 150, "\xff": 600, "\x00": 600, "é\n": 200} {
		for _, many := range []int{most - 1, most, most + 1, 2 * most} {
			want := strings.Repeat("what\n", many*strings.Count(unit, "\n")) + blankShow + "\n"
			if many > most {
				want = "too long\n"
			}
			wantText(t, strings.Repeat(unit, many), want)
		}
	}
}

// Scripts whose last line makes them too long are not run at all, be it complete or not.
func TestExecuteOfScriptsThatGetTooLong(t *testing.T) {
	for _, ahead := range settings() {
		fill := strings.Repeat("\n", maxScript-len(ahead))
		wantExecuted(t, ahead+fill)
		for _, more := range []string{"\n", "x", "show\n", "sync\n", " ", "\x00"} {
			wantText(t, ahead+fill+more, "too long\n")
			wantText(t, ahead+fill[1:]+more+more, "too long\n")
		}
	}
}

// Promise 168: what follows the last newline is ignored, whatever it is.
func TestExecuteIgnoresALineThatDoesNotEnd(t *testing.T) {
	rests := slices.Concat([]string{"show", "sync", "write 0 7", "demote 0", "crash 0 0 0 0", "tick", "sweep", "pack 0"}, noCommands, noNumbers)
	for i, ahead := range append(settings(), randomScripts(11, 100)...) {
		want := impl.Execute(ahead)
		for j, rest := range rests {
			if (j < 8 || (i+j)%20 == 0) && len(ahead+rest) <= maxScript {
				wantText(t, ahead+rest, want)
			}
		}
		if room := maxScript - len(ahead); room > 0 {
			wantText(t, ahead+strings.Repeat("x", room), want)
			wantText(t, ahead+strings.Repeat("x", room+1), "too long\n")
		}
	}
}

// Promises 169 and 170: a line that is not known, and show, behind complete lines.
func TestExecuteOfAFurtherLine(t *testing.T) {
	tried := 0
	for _, ahead := range append(settings(), randomScripts(12, 200)...) {
		lines := outputLines(t, ahead)
		last := lines[len(lines)-1]
		if len(ahead) <= maxScript-4 {
			wantLines(t, ahead+"zzz\n", append(slices.Clone(lines[:len(lines)-1]), "what", last)...)
		}
		if len(ahead) <= maxScript-5 {
			wantLines(t, ahead+"show\n", append(slices.Clone(lines), last)...)
			tried++
		}
	}
	if tried < 150 {
		t.Errorf("show was tried behind %d scripts; want at least 150", tried)
	}
}

// Promises 169 and 170: with no byte more than there is room for.
func TestExecuteOfAFurtherLineThatJustFits(t *testing.T) {
	for _, ahead := range settings() {
		fill := strings.Repeat("\n", maxScript-len(ahead))
		for _, more := range []string{"zzz\n", "show\n"} {
			fits := ahead + fill[len(more):] + more
			lines := wantExecuted(t, fits)
			n := len(lines)
			if want := map[string]string{"zzz\n": "what", "show\n": lines[n-1]}[more]; lines[n-2] != want || len(fits) != 600 {
				t.Fatalf("Execute(%q) returned %q", fits, lines)
			}
			wantText(t, ahead+fill[len(more)-1:]+more, "too long\n")
		}
	}
}

// All numbers, as values and as blocks: one and two digits.
func TestExecuteOfNumbers(t *testing.T) {
	for n := range 100 {
		want := fmt.Sprintf("0=%d free 3 objects 0 lost 6", n)
		if n == 0 {
			want = "free 3 objects 0 lost 6"
		}
		wantLines(t, fmt.Sprintf("write 0 %d\n", n), "ok", want)
		if n < blocks {
			want = fmt.Sprintf("%d=%d free 3 objects 0 lost 6", n, 99-n)
			wantLines(t, fmt.Sprintf("write %d %d\n", n, 99-n), "ok", want)
			wantLines(t, fmt.Sprintf("write %d 7\npack %d\ndemote %d\n", n, n, n), "ok", "ok", "full", fmt.Sprintf("%d=7 free 3 objects 1 lost 6", n))
			wantLines(t, fmt.Sprintf("write %d 7\ndemote %d\n", n, n), "ok", "ok", fmt.Sprintf("%d~7 free 3 objects 1 lost 13", n))
			wantLines(t, fmt.Sprintf("write %d 7\ndemote %d\npromote %d\n", n, n, n), "ok", "ok", "ok", fmt.Sprintf("%d=7 free 3 objects 1 lost 19", n))
			continue
		}
		for _, line := range []string{"write %d 1", "demote %d", "promote %d", "pack %d"} {
			wantLines(t, fmt.Sprintf(line+"\n", n), "no", blankShow)
		}
	}
}

// All numbers, as words that a crash keeps: ten frames of six words do not last.
func TestExecuteOfNumbersOfACrash(t *testing.T) {
	ahead, done := "", []string{}
	for value := 1; value <= 10; value++ {
		ahead, done = ahead+fmt.Sprintf("write 0 %d\n", value), append(done, "ok")
	}
	for n := range 100 {
		want := fmt.Sprintf("0=%d %s", min(n/6, 10), blankShow)
		if n < 6 {
			want = blankShow
		}
		wantLines(t, fmt.Sprintf("%scrash %d 0 0 0\n", ahead, n), append(slices.Clone(done), "ok", want)...)
		for z := 1; z < zones; z++ {
			wantLines(t, ahead+lineOf("crash", keeping(z, n)...), append(slices.Clone(done), "ok", blankShow)...)
		}
	}
}

// Words that are no numbers: as a block, as a value, as a block that is moved, and as a number of words that are kept, at each place.
func TestExecuteOfWordsThatAreNoNumbers(t *testing.T) {
	for _, word := range noNumbers {
		if slices.Contains(numberWords, word) || strings.ContainsAny(word, " \n") {
			t.Fatalf("%q is a number, or several words", word)
		}
		for _, line := range []string{
			"write %s 5", "write 0 %s", "write %s 5 1 6", "write 0 %s 1 6", "write 0 5 %s 6", "write 0 5 1 %s", "write %s", "write 0 5 %s", "write %[1]s %[1]s",
			"demote %s", "demote %s 1", "demote 0 %s", "demote 0 %s 1", "promote %s", "promote 2 %s", "promote %s 2", "pack %s", "pack 0 %s", "pack %s 1", "pack 0 1 %s",
			"crash %s 0 0 0", "crash 0 %s 0 0", "crash 0 0 %s 0", "crash 0 0 0 %s", "crash %[1]s %[1]s %[1]s %[1]s", "crash %s", "crash 0 0 0 0 %s", "crash 9 9 9 %s",
		} {
			wantAnswer(t, "write 0 5 1 6 2 7\ndemote 2\n", fmt.Sprintf(line, word), "no")
		}
		for _, name := range unusing {
			ahead := "write 11 99\n" + strings.Repeat(wideWrite, 3) + "write 3 1\npack 3\nwrite 3 1\n"
			wantAnswer(t, ahead, name+" "+word, "ok")
			wantText(t, ahead+name+" "+word+"\n", impl.Execute(ahead+name+"\n"))
		}
		wantAnswer(t, "write 0 5\n", "show "+word, "what")
		wantAnswer(t, "write 0 5\n", word, "what")
		wantAnswer(t, "write 0 5\n", word+" 0 5", "what")
	}
}

// Empty words: blanks side by side, at the beginning of a line and at its end.
func TestExecuteOfEmptyWords(t *testing.T) {
	for line, want := range map[string]string{
		"write  0 6": "no", "write 0  6": "no", "write 0 6 ": "no", "write 0 6  ": "no", "write  0  6": "no", "write ": "no", "write  ": "no", "write   ": "no", " write 0 6": "what",
		"crash 0 0 0": "no", "crash 0 0 0 ": "no", "crash  0 0 0": "no", "crash 0  0 0": "no", "crash 0 0 0 0 ": "no", "crash  0 0 0 0": "no", "crash    ": "no", "crash ": "no", " crash 0 0 0 0": "what",
		"demote ": "no", "demote 0 ": "no", "demote  0": "no", "demote 0  1": "no", " demote 0": "what", "promote ": "no", "promote 2 ": "no", "promote  2": "no", " promote 2": "what",
		"pack ": "no", "pack 0 ": "no", "pack  0": "no", "pack 0  1": "no", " pack 0": "what", "sync ": "ok", "sync  ": "ok", " sync": "what", "tick ": "none", "tick  ": "none", " tick": "what",
		"sweep ": "none", " sweep": "what", "copy ": "none", " copy": "what", "collect ": "none", "collect  ": "none", " collect": "what", "show ": "what", "show  ": "what", " show": "what",
		"": "what", " ": "what", "  ": "what", "          ": "what",
	} {
		ahead := "write 0 5 1 6 2 7\ndemote 2\n"
		wantAnswer(t, ahead, line, want)
		if line != "sync " && line != "sync  " {
			wantLines(t, ahead+line+"\n", "ok", "ok", want, "0=5 1=6 2~7 free 3 objects 1 lost 17")
		}
	}
}

// Lines that tell no command, alone, behind other lines, and in the middle of a script, where they change nothing.
func TestExecuteOfUnknownLines(t *testing.T) {
	for _, line := range noCommands {
		wantLines(t, line+"\n", "what", blankShow)
		wantLines(t, line+"\n"+line+"\n", "what", "what", blankShow)
		wantLines(t, "write 4 2\n"+line+"\ndemote 4\n"+line+"\nshow\n", "ok", "what", "ok", "what", "4~2 free 3 objects 1 lost 13", "4~2 free 3 objects 1 lost 13")
		for _, ahead := range settings() {
			wantAnswer(t, ahead, line, "what")
		}
	}
}

// show, with further words and without them, in the middle of a script.
func TestExecuteOfShow(t *testing.T) {
	wantLines(t, "show\nwrite 3 4\nshow\nshow \nshow\nsync\nshow x\nshow\n",
		blankShow, "ok", "3=4 free 3 objects 0 lost 6", "what", "3=4 free 3 objects 0 lost 6", "ok", "what", "3=4 "+blankShow, "3=4 "+blankShow)
	for _, ahead := range settings() {
		shown := lastShown(t, ahead)
		if v := volumeBehind(ahead); shown != shownOf(v) {
			t.Fatalf("Execute(%q) shows %q; want %q", ahead, shown, shownOf(v))
		}
		wantLines(t, ahead+"show\nshow\nshow 0\nsync\nshow\n", append(outputLines(t, ahead), shown, "what", "ok", lastShown(t, ahead+"sync\n"), lastShown(t, ahead+"sync\n"))...)
	}
}

// The line of show for no block, one, and all twelve; hot and cold ones; values of one and two digits.
func TestExecuteShowsBlocks(t *testing.T) {
	all := "write 0 1 1 22 2 3 3 44 4 5 5 66\nwrite 6 7 7 88 8 9 9 10 10 99 11 12\n"
	wantLines(t, all, "ok", "ok", "0=1 1=22 2=3 3=44 4=5 5=66 6=7 7=88 8=9 9=10 10=99 11=12 free 3 objects 0 lost 32")
	wantLines(t, all+"demote 0 1 2 3 4 5\n", "ok", "ok", "ok", "0~1 1~22 2~3 3~44 4~5 5~66 6=7 7=88 8=9 9=10 10=99 11=12 free 3 objects 1 lost 54")
	wantLines(t, all+"demote 0 2 4\ndemote 11\n", "ok", "ok", "ok", "ok", "0~1 1=22 2~3 3=44 4~5 5=66 6=7 7=88 8=9 9=10 10=99 11~12 free 3 objects 2 lost 52")
	// The frame with six blocks more does not fit into the first zone, so that all up to there lasts.
	wantLines(t, all+"demote 0 1 2 3 4 5\ndemote 6 7 8 9 10 11\n", "ok", "ok", "ok", "ok",
		"0~1 1~22 2~3 3~44 4~5 5~66 6~7 7~88 8~9 9~10 10~99 11~12 free 2 objects 2 lost 22")
	wantLines(t, all+"write 0 0 1 0 2 0 3 0 4 0 5 0 6 0 7 0 8 0\n", "ok", "ok", "ok", "9=10 10=99 11=12 free 3 objects 0 lost 54")
	for block := range blocks {
		wantLines(t, fmt.Sprintf("write %d %d\n", block, block+1), "ok", fmt.Sprintf("%d=%d free 3 objects 0 lost 6", block, block+1))
		wantLines(t, fmt.Sprintf("write %d %d\ndemote %[1]d\n", block, block+50), "ok", "ok", fmt.Sprintf("%d~%d free 3 objects 1 lost 13", block, block+50))
		wantLines(t, fmt.Sprintf("write %d %d\nwrite %[1]d 0\n", block, block+50), "ok", "ok", "free 3 objects 0 lost 12")
	}
}

// A storyStep is a line of a script, what is output for it, and what show tells behind it.
type storyStep struct {
	line, answer, shown string
}

// wantStory requires what is output for the first lines of a story, for each number of them, and what show tells behind each line.
func wantStory(t *testing.T, steps []storyStep) {
	t.Helper()
	text, lines := "", []string{}
	for _, s := range steps {
		text, lines = text+s.line+"\n", append(lines, s.answer)
		wantLines(t, text, append(slices.Clone(lines), s.shown)...)
		if len(text) <= maxScript-10 {
			wantLines(t, text+"show\nshow\n", append(slices.Clone(lines), s.shown, s.shown, s.shown)...)
		}
	}
}

// What show tells behind each command: words that do not last, objects, and tiers.
func TestExecuteOfAStoryOfTiers(t *testing.T) {
	wantStory(t, []storyStep{
		{"write 0 5 3 7", "ok", "0=5 3=7 free 3 objects 0 lost 8"},
		{"promote 0", "none", "0=5 3=7 free 3 objects 0 lost 8"},
		{"pack 0", "ok", "0=5 3=7 free 3 objects 1 lost 8"},
		{"pack 3", "full", "0=5 3=7 free 3 objects 1 lost 8"},
		{"demote 3", "full", "0=5 3=7 free 3 objects 1 lost 8"},
		{"sweep", "ok", "0=5 3=7 free 3 objects 0 lost 0"},
		{"sweep", "none", "0=5 3=7 free 3 objects 0 lost 0"},
		{"demote 3", "ok", "0=5 3~7 free 3 objects 1 lost 7"},
		{"demote 0 3", "none", "0=5 3~7 free 3 objects 1 lost 7"},
		{"pack 3", "none", "0=5 3~7 free 3 objects 1 lost 7"},
		{"promote 3", "ok", "0=5 3=7 free 3 objects 1 lost 13"},
		{"demote 0 3", "ok", "0~5 3~7 free 3 objects 2 lost 23"},
		{"tick", "ok", "0~5 3~7 free 3 objects 1 lost 0"},
		{"tick", "none", "0~5 3~7 free 3 objects 1 lost 0"},
		{"write 3 0", "ok", "0~5 free 3 objects 1 lost 6"},
		{"sync", "ok", "0~5 free 3 objects 1 lost 0"},
		{"write 11 99", "ok", "0~5 11=99 free 3 objects 1 lost 6"},
		{"copy", "none", "0~5 11=99 free 3 objects 1 lost 6"},
		{"collect", "none", "0~5 11=99 free 3 objects 1 lost 6"},
		{"write 11 100", "no", "0~5 11=99 free 3 objects 1 lost 6"},
		{"crash 9 9 9", "no", "0~5 11=99 free 3 objects 1 lost 6"},
		{"crash 5 9 9 9", "ok", "0~5 free 3 objects 1 lost 0"},
		{"crash 9 9 9 9", "ok", "0~5 free 3 objects 1 lost 0"},
	})
}

// What show tells behind each command: free zones, which get fewer until nothing can be written, and more as zones are collected.
func TestExecuteOfAStoryOfZones(t *testing.T) {
	wide := strings.TrimSuffix(wideWrite, "\n")
	hot := "0=1 1=2 2=3 3=4 4=5 5=6 6=7 7=8 8=9 "
	wantStory(t, []storyStep{
		{"write 11 1", "ok", "11=1 free 3 objects 0 lost 6"},
		{"demote 11", "ok", "11~1 free 3 objects 1 lost 13"},
		{wide, "ok", hot + "11~1 free 3 objects 1 lost 35"},
		{wide, "ok", hot + "11~1 free 3 objects 1 lost 57"},
		{wide, "ok", hot + "11~1 free 2 objects 1 lost 22"},
		{wide, "ok", hot + "11~1 free 2 objects 1 lost 44"},
		{wide, "ok", hot + "11~1 free 1 objects 1 lost 22"},
		{wide, "ok", hot + "11~1 free 1 objects 1 lost 44"},
		{wide, "full", hot + "11~1 free 1 objects 1 lost 44"},
		{"write 9 1 10 2 11 0", "ok", hot + "9=1 10=2 free 1 objects 1 lost 54"},
		{"write 9 1 10 2 11 0", "ok", hot + "9=1 10=2 free 1 objects 1 lost 64"},
		{"write 0 1", "full", hot + "9=1 10=2 free 1 objects 1 lost 64"},
		{"demote 0", "full", hot + "9=1 10=2 free 1 objects 1 lost 64"},
		{"copy", "ok", hot + "9=1 10=2 free 1 objects 1 lost 64"},
		{"sync", "ok", hot + "9=1 10=2 free 1 objects 1 lost 0"},
		{"tick", "ok", hot + "9=1 10=2 free 2 objects 1 lost 0"},
		{"tick", "ok", "0~1 1=2 2=3 3=4 4=5 5=6 6=7 7=8 8=9 9~1 10~2 free 1 objects 2 lost 13"},
		{"collect", "ok", "0~1 1=2 2=3 3=4 4=5 5=6 6=7 7=8 8=9 9~1 10~2 free 2 objects 2 lost 0"},
		{"collect", "ok", "0~1 1=2 2=3 3=4 4=5 5=6 6=7 7=8 8=9 9~1 10~2 free 3 objects 2 lost 0"},
		{"collect", "none", "0~1 1=2 2=3 3=4 4=5 5=6 6=7 7=8 8=9 9~1 10~2 free 3 objects 2 lost 0"},
		{"sweep", "ok", "0~1 1=2 2=3 3=4 4=5 5=6 6=7 7=8 8=9 9~1 10~2 free 3 objects 1 lost 0"},
	})
}

// Without a free zone, nothing can be written and moved; the oldest zone can be collected nevertheless.
func TestExecuteOfAStoryWithoutFreeZones(t *testing.T) {
	hot := "0=1 1=2 2=3 3=4 4=5 5=6 6=7 7=8 8=9 9=1 "
	text := freeless()
	wantLines(t, text, append(slices.Repeat([]string{"ok"}, 12), hot+"11~1 free 0 objects 1 lost 7")...)
	for _, s := range []storyStep{
		{"write 0 5", "full", hot + "11~1 free 0 objects 1 lost 7"},
		{"write 0 0", "full", hot + "11~1 free 0 objects 1 lost 7"},
		{"demote 0", "full", hot + "11~1 free 0 objects 1 lost 7"},
		{"demote 0 11", "none", hot + "11~1 free 0 objects 1 lost 7"},
		{"promote 11", "full", hot + "11~1 free 0 objects 1 lost 7"},
		{"promote 0", "none", hot + "11~1 free 0 objects 1 lost 7"},
		{"pack 0 1", "ok", hot + "11~1 free 0 objects 2 lost 7"},
		{"copy", "ok", hot + "11~1 free 0 objects 1 lost 7"},
		{"sync", "ok", hot + "11~1 free 0 objects 1 lost 0"},
		{"collect", "ok", hot + "11~1 free 1 objects 1 lost 0"},
		{"tick", "ok", hot + "11~1 free 1 objects 1 lost 0"},
		{"crash 0 0 0 0", "ok", hot + "11~1 free 0 objects 1 lost 0"},
		{"crash 7 7 7 7", "ok", hot + "11~1 free 0 objects 1 lost 0"},
		{"sweep", "none", hot + "11~1 free 0 objects 1 lost 7"},
	} {
		wantAnswer(t, text, s.line, s.answer)
		if got := lastShown(t, text+s.line+"\n"); got != s.shown {
			t.Fatalf("Execute shows %q behind %s; want %q", got, s.line, s.shown)
		}
	}
}

// A coded is a line that has an answer behind a script.
type coded struct {
	ahead, line, answer string
}

// writesWithAnswers returns writes with each answer, also of volumes without room.
func writesWithAnswers() []coded {
	return []coded{
		{"", "write 0 5", "ok"}, {"", "write 11 99", "ok"}, {"", "write 0 0", "ok"}, {"", "write 0 1 1 2 2 3 3 4 4 5 5 6 6 7 7 8 8 9", "ok"},
		{threeInCold, "write 1 9 2 8", "ok"}, {sixObjects, "write 0 7", "ok"}, {strings.Repeat(wideWrite, 6), "write 0 5 1 6 2 7 3 8", "ok"},
		{strings.Repeat(wideWrite, 6), strings.TrimSpace(wideWrite), "full"}, {roomless(), "write 0 5", "full"}, {freeless(), "write 0 5", "full"}, {freeless(), "write 0 0 11 0", "full"},
		{"", "write", "no"}, {"", "write 0", "no"}, {"", "write 0 5 1", "no"}, {"", "write 0 5 1 6 2", "no"}, {"", "write 0 1 1 2 2 3 3 4 4 5 5 6 6 7 7 8 8", "no"},
		{"", "write 0 1 1 2 2 3 3 4 4 5 5 6 6 7 7 8 8 9 9 1", "no"}, {"", "write 0 1 1 2 2 3 3 4 4 5 5 6 6 7 7 8 8 9 9", "no"}, {"", "write 0 1 1 2 2 3 3 4 4 5 5 6 6 7 7 8 8 9 9 1 10 1 11 1", "no"},
		{"", "write 5 0 4 0", "no"}, {"", "write 4 0 4 0", "no"}, {"", "write 3 1 2 1", "no"}, {"", "write 0 1 2 1 1 1", "no"}, {"", "write 1 1 1 1", "no"},
		{"", "write 12 1", "no"}, {"", "write 99 1", "no"}, {"", "write 0 100", "no"}, {"", "write 0 5 12 1", "no"}, {"", "write 0 5 1 100", "no"}, {"", "write -1 5", "no"},
		{"", "write 0 -1", "no"}, {"", "write zero five", "no"}, {"", "write 0=5", "no"}, {"", "write 0,5", "no"}, {"", "write 00 5", "no"}, {"", "write 0 05", "no"},
		{roomless(), "write", "no"}, {roomless(), "write 0", "no"}, {roomless(), "write 12 1", "no"}, {freeless(), "write 0 x", "no"}, {freeless(), "write 1 1 0 0", "no"},
	}
}

// movesWithAnswers returns lines that move blocks, with each answer, also of volumes without room and with as many objects as there
// may be.
func movesWithAnswers() []coded {
	return []coded{
		{"write 0 5\n", "demote 0", "ok"}, {wideWrite, "demote 0 1 2 3 4 5", "ok"}, {wideWrite, "demote 3 8", "ok"}, {threeInCold, "demote 7", "ok"},
		{sixObjects, "demote 0", "full"}, {"write 0 5\npack 0\n", "demote 0", "full"}, {roomless(), "demote 0", "full"}, {freeless(), "demote 0 9", "full"},
		{"", "demote 0", "none"}, {"write 0 5\n", "demote 0 1", "none"}, {"write 0 0\n", "demote 0", "none"}, {threeInCold, "demote 1", "none"}, {threeInCold, "demote 1 7", "none"},
		{sixObjects, "demote 11", "none"}, {roomless(), "demote 11", "none"}, {freeless(), "demote 0 10", "none"},
		{"", "demote", "no"}, {"", "demote 12", "no"}, {wideWrite, "demote 0 0", "no"}, {wideWrite, "demote 3 2", "no"}, {wideWrite, "demote 0 1 2 3 4 5 6", "no"}, {wideWrite, "demote 0 12", "no"},
		{wideWrite, "demote 0 x", "no"}, {wideWrite, "demote 01", "no"}, {roomless(), "demote", "no"}, {sixObjects, "demote 12", "no"}, {freeless(), "demote 1 0", "no"},
		{threeInCold, "promote 1", "ok"}, {threeInCold, "promote 1 3 5", "ok"}, {threeInCold + "promote 3\n", "promote 1 5", "ok"},
		{roomless(), "promote 11", "full"}, {freeless(), "promote 11", "full"},
		{"", "promote 0", "none"}, {"write 0 5\n", "promote 0", "none"}, {threeInCold, "promote 7", "none"}, {threeInCold, "promote 1 7", "none"}, {threeInCold, "promote 0 1", "none"},
		{roomless(), "promote 0", "none"}, {freeless(), "promote 0 11", "none"}, {sixObjects, "promote 0", "none"},
		{"", "promote", "no"}, {"", "promote 12", "no"}, {threeInCold, "promote 3 1", "no"}, {threeInCold, "promote 1 1", "no"}, {threeInCold, "promote 1 x", "no"}, {threeInCold, "promote 03", "no"},
		{threeInCold, "promote 0 1 2 3 4 5 6", "no"}, {roomless(), "promote", "no"}, {freeless(), "promote 12", "no"},
		{"write 0 5\n", "pack 0", "ok"}, {wideWrite, "pack 0 1 2 3 4 5", "ok"}, {roomless(), "pack 0", "ok"}, {freeless(), "pack 0 9", "ok"},
		{"write 0 5\npack 0\n", "pack 0", "full"}, {sixObjects, "pack 0", "full"},
		{"", "pack 0", "none"}, {"write 0 5\n", "pack 0 1", "none"}, {threeInCold, "pack 1", "none"}, {threeInCold, "pack 1 7", "none"}, {sixObjects, "pack 1", "none"}, {freeless(), "pack 11", "none"},
		{"", "pack", "no"}, {"", "pack 12", "no"}, {wideWrite, "pack 0 1 2 3 4 5 6", "no"}, {wideWrite, "pack 1 0", "no"}, {wideWrite, "pack 1 1", "no"}, {wideWrite, "pack one", "no"}, {sixObjects, "pack", "no"},
	}
}

// othersWithAnswers returns all other lines with each answer.
func othersWithAnswers() []coded {
	list := []coded{
		{"", "copy", "none"}, {wideWrite, "copy", "none"}, {strings.Repeat(wideWrite, 3), "copy", "ok"}, {roomless(), "copy", "ok"}, {freeless(), "copy", "ok"},
		{"", "collect", "none"}, {wideWrite, "collect", "none"}, {strings.Repeat(wideWrite, 3), "collect", "ok"}, {roomless(), "collect", "ok"}, {freeless(), "collect", "ok"},
		{"", "sweep", "none"}, {threeInCold, "sweep", "none"}, {"write 0 5\npack 0\n", "sweep", "ok"}, {sixObjects, "sweep", "ok"}, {threeInCold + "promote 1 3 5\n", "sweep", "ok"},
		{threeInCold + "promote 1 3\n", "sweep", "none"}, {freeless(), "sweep", "none"},
		{"", "tick", "none"}, {threeInCold, "tick", "none"}, {wideWrite, "tick", "ok"}, {sixObjects, "tick", "ok"}, {roomless(), "tick", "ok"}, {freeless(), "tick", "ok"},
		{wideWrite + "demote 0 1 2\n", "tick", "none"}, {strings.Repeat(wideWrite, 5), "tick", "ok"},
		// The number of the next frame is that of an object already, so that the coldest blocks cannot get cold.
		{wideWrite + "pack 0\n", "tick", "none"}, {wideWrite + "pack 0\nwrite 0 1\n", "tick", "ok"},
		{"", "crash 0 0 0 0", "ok"}, {"", "crash 99 99 99 99", "ok"}, {threeInCold, "crash 9 9 9 9", "ok"}, {roomless(), "crash 0 1 2 3", "ok"}, {freeless(), "crash 0 0 0 0", "ok"},
		{"", "crash", "no"}, {"", "crash 0", "no"}, {"", "crash 0 0", "no"}, {"", "crash 0 0 0", "no"}, {"", "crash 0 0 0 0 0", "no"}, {"", "crash 0 0 0 -1", "no"}, {"", "crash 0 0 0 100", "no"},
		{"", "crash 00 0 0 0", "no"}, {threeInCold, "crash a b c d", "no"}, {freeless(), "crash 0 0 0", "no"}, {roomless(), "crash 64 64 64 064", "no"},
	}
	for _, ahead := range settings() {
		list = append(list, coded{ahead, "sync", "ok"})
	}
	return list
}

// Each command with each answer that it can have.
func TestExecuteWithEachAnswer(t *testing.T) {
	seen := map[string]bool{}
	for _, c := range slices.Concat(writesWithAnswers(), movesWithAnswers(), othersWithAnswers()) {
		wantAnswer(t, c.ahead, c.line, c.answer)
		seen[wordsOf(c.line)[0]+" "+c.answer] = true
		// The volume is as it was unless the answer is ok, so that a write of one value, a sync and a crash do the same as without the line.
		behind := "write 9 1\nsync\ncrash 0 0 0 0\n"
		if with, bare := c.ahead+c.line+"\n"+behind, c.ahead+behind; c.answer != "ok" && len(with) <= maxScript {
			if got, want := lastShown(t, with), lastShown(t, bare); got != want {
				t.Fatalf("Execute(%q) shows %q; want %q", with, got, want)
			}
		}
	}
	for _, want := range eachAnswer {
		if !seen[want] {
			t.Errorf("%s was not tried", want)
		}
	}
	if len(seen) != len(eachAnswer) {
		t.Errorf("%v were tried; want %v", seen, eachAnswer)
	}
}

// Commands that use no number do the same with any words behind them.
func TestExecuteOfUnusedWords(t *testing.T) {
	for _, ahead := range settings() {
		for _, name := range unusing {
			want := impl.Execute(ahead + name + "\n")
			for _, more := range []string{" ", "  ", " 1", " 5 6", " x", " 0", " -1", " 100", " 0 0 0 0", " 0 1 2 3 4 5 6 7 8 9 10 11 12", " sync", " 1 1 0 0", " \x00\xff", " 3", " \t"} {
				wantText(t, ahead+name+more+"\n", want)
			}
		}
	}
}

// Too few and too many words of all commands, in all settings.
func TestExecuteOfAnyNumberOfWords(t *testing.T) {
	for _, ahead := range settings() {
		for _, name := range append(slices.Clone(doingNames), "show", "other") {
			for _, many := range []int{0, 1, 2, 3, 4, 5, 6, 7, 9, 10, 13} {
				for _, first := range []int{0, 5} {
					wantExecuted(t, ahead+lineOf(name, counting(many, first)...))
				}
				wantExecuted(t, ahead+lineOf(name, make([]int, many)...))
				wantExecuted(t, ahead+lineOf(name, slices.Repeat([]int{50}, many)...))
			}
		}
	}
}

// All values and blocks, two at a time.
func TestExecuteOfPairs(t *testing.T) {
	for many := range blocks + 1 {
		line, shown := "write", ""
		for block := range many {
			line += fmt.Sprint(" ", block, 7*block+3)
			shown += fmt.Sprintf("%d=%d ", block, 7*block+3)
		}
		if many == 0 || many > 9 {
			wantLines(t, line+"\n", "no", blankShow)
		} else {
			wantLines(t, line+"\n", "ok", fmt.Sprintf("%sfree 3 objects 0 lost %d", shown, 4+2*many))
		}
		wantLines(t, line+" 11\n", "no", blankShow)
	}
}

// A tick halves the heat, also if there is nothing to be done; what was used least gets cold first, of equal blocks those with the
// least numbers.
func TestExecuteOfTicks(t *testing.T) {
	six := "write 1 1 2 2 3 3 4 4 5 5 6 6\n"
	for ahead, want := range map[string]string{
		"write 0 9\nwrite 0 9\n":                                    "0=9 1~1 2~2 3~3 4=4 5=5 6=6",
		"write 0 9\nwrite 0 9\ntick\n":                              "0~9 1~1 2~2 3=3 4=4 5=5 6=6",
		"write 0 9\nwrite 0 9\ntick\ntick\n":                        "0~9 1~1 2~2 3=3 4=4 5=5 6=6",
		"write 0 9\nwrite 0 9\nwrite 0 9\ntick\n":                   "0=9 1~1 2~2 3~3 4=4 5=5 6=6",
		"write 0 9\nwrite 0 9\nwrite 0 9\ntick 7\ntick\n":           "0~9 1~1 2~2 3=3 4=4 5=5 6=6",
		"write 0 9\nsync\ncrash 0 0 0 0\n":                          "0~9 1~1 2~2 3=3 4=4 5=5 6=6",
		"write 0 9\nwrite 0 9\nshow\nx\ncrash 0\nsweep\ndemote 5\n": "0=9 1~1 2~2 3~3 4=4 5=5 6=6",
	} {
		got := lastShown(t, ahead+six+"write 6 6\ntick\n")
		if !strings.HasPrefix(got, want+" free 3 objects 1 ") {
			t.Fatalf("Execute shows %q behind %q; want %q", got, ahead, want)
		}
	}
	// The first two blocks of these six get hotter, and a seventh one is written: others than the first ones get cold.
	text := six + "write 1 1 2 2\nwrite 0 9\ntick\n"
	wantLines(t, text+"tick\nsync\n", "ok", "ok", "ok", "ok", "none", "ok", "0~9 1=1 2=2 3~3 4~4 5=5 6=6 free 3 objects 1 lost 0")
}

// lineOfEvent returns the line that tells an event, or one that tells none if there is no such kind.
func lineOfEvent(e impl.Event) string {
	if !slices.Contains(kinds, e.Kind) {
		return lineOf("other", e.List...)
	}
	list := e.List
	for _, p := range e.Pairs {
		list = append(list, p.Block, p.Value)
	}
	return lineOf(doingNames[e.Kind-1], list...)
}

// randomLine returns a line that often tells an event that is possible for a volume.
func randomLine(r *rand.Rand, v impl.Volume) string {
	switch r.IntN(30) {
	case 0:
		return "show\n"
	case 1:
		return noCommands[r.IntN(len(noCommands))] + "\n"
	case 2, 3:
		line := append(doingNames, "show", "Sync", "")[r.IntN(len(doingNames)+3)]
		for range r.IntN(7) {
			line += " " + append(noNumbers, numberWords...)[r.IntN(len(noNumbers)+len(numberWords))]
		}
		return line + "\n"
	case 4:
		words := wordsOf(strings.TrimSuffix(lineOfEvent(randomEvent(r, v)), "\n"))
		words[r.IntN(len(words))] = noNumbers[r.IntN(len(noNumbers))]
		return strings.Join(words, " ") + "\n"
	case 5, 6, 7:
		return wideWrite
	case 8, 9:
		return lineOf("write", r.IntN(blocks), r.IntN(valueMax+1))
	case 10:
		return lineOf("demote", chosen(r, impl.MapTier(v.Map, tierHot))...)
	case 11:
		return lineOf("pack", chosen(r, impl.MapTier(v.Map, tierHot))...)
	case 12:
		return "copy\n"
	}
	return lineOfEvent(randomEvent(r, v))
}

// randomScript returns a script of at most so many bytes, all of whose lines are complete.
func randomScript(r *rand.Rand, most int) string {
	text := ""
	if list := settings(); r.IntN(2) == 0 {
		text = list[r.IntN(len(list))]
	}
	v := volumeBehind(text)
	for {
		line := randomLine(r, v)
		if len(text)+len(line) > most {
			return text
		}
		text += line
		if e, ok := eventOfLine(strings.TrimSuffix(line, "\n")); ok {
			v, _ = impl.RunDo(v, e)
		}
	}
}

// randomScripts returns so many scripts of complete lines, of all lengths.
func randomScripts(seed uint64, many int) []string {
	r := rand.New(rand.NewPCG(seed, 51))
	var list []string
	for i := range many {
		most := maxScript
		if i%4 == 0 {
			most = 400 + r.IntN(200)
		}
		list = append(list, randomScript(r, most))
	}
	return list
}

// Long scripts drawn at random, line by line.
func TestExecuteOfRandomScripts(t *testing.T) {
	seen := map[string]int{}
	for i, text := range randomScripts(1, 1000) {
		if i%5 == 0 && len(text) < maxScript {
			text += strings.Repeat("tick"[:1+i%4], (maxScript-len(text))/(1+i%4))
		}
		answers := wantExecuted(t, text)
		for i, line := range linesOf(text) {
			if name := wordsOf(line)[0]; slices.Contains(doingNames, name) {
				seen[name+" "+answers[i]]++
			}
		}
	}
	for _, want := range eachAnswer {
		if seen[want] < 20 {
			t.Errorf("%s was seen %d times; want at least 20", want, seen[want])
		}
	}
	if len(seen) != len(eachAnswer) {
		t.Errorf("%v were seen; want %v", seen, eachAnswer)
	}
}

// The same, where what an event does is known apart from the program.
func TestExecuteOfRandomScriptsApartFromTheProgram(t *testing.T) {
	for _, text := range append(settings(), randomScripts(2, 200)...) {
		wantText(t, text, executed(text, afterEvent))
	}
}

// randomBytes returns a script of so many bytes out of some.
func randomBytes(r *rand.Rand, bytes string, many int) string {
	text := make([]byte, many)
	for i := range text {
		text[i] = bytes[r.IntN(len(bytes))]
	}
	return string(text)
}

// Scripts of any bytes, and ones in which some bytes of good lines are changed. Execute panics for none of them.
func TestExecuteOfRandomBytes(t *testing.T) {
	r := rand.New(rand.NewPCG(3, 51))
	all := ""
	for b := range 256 {
		all += string([]byte{byte(b)})
	}
	for i := range 620 {
		for _, bytes := range []string{all, "\n", "\n ", "\n 0", "sync\n", "showtick \n", "write 0123456789\n", "crash 0\n", "abcdefghijklmnopqrstuvwxyz 0123456789-\n\r\t\x00\xff"} {
			wantExecuted(t, randomBytes(r, bytes, i))
		}
	}
	for _, text := range randomScripts(4, 200) {
		changed := []byte(text)
		for range 1 + r.IntN(10) {
			changed[r.IntN(len(changed))] = all[r.IntN(256)]
		}
		wantExecuted(t, string(changed))
		for range 1 + r.IntN(10) {
			changed[r.IntN(len(changed))] = " \n0159"[r.IntN(6)]
		}
		wantExecuted(t, string(changed))
	}
}

// General rules: functions keep no state, so that a script has the same output whatever was run before, and at the same time.
func TestScriptsAtTheSameTime(t *testing.T) {
	scripts := append(settings(), randomScripts(5, 40)...)
	var want []string
	for _, text := range scripts {
		want = append(want, executed(text, impl.RunDo))
	}
	var calls sync.WaitGroup
	for first := range 8 {
		calls.Go(func() {
			for i := range scripts {
				at := (i*7 + first) % len(scripts)
				if got := impl.Execute(scripts[at]); got != want[at] {
					t.Errorf("Execute(%q) returned %q; want %q", scripts[at], got, want[at])
				}
			}
		})
	}
	calls.Wait()
}
