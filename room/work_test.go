package room_test

import (
	"encoding/hex"
	"fmt"
	"strings"
	"testing"

	"silverside/api"
	"silverside/label"
)

// checked returns a plant with so many check bytes.
func checked(check int) api.Plant {
	return changed(func(p *api.Plant) { p.Check = check })
}

// codeOf returns a codeword in hexadecimal.
func codeOf(t *testing.T, text string, check int) string {
	t.Helper()
	word, e := label.Encode(text, check)
	if e != api.OK {
		t.Fatalf("Encode(%q, %d): %d", text, check, e)
	}
	return hex.EncodeToString([]byte(word))
}

func TestLabel(t *testing.T) {
	r := roomOf(t, plant())
	say(t, r, "label a", "label 61a3c2")
	say(t, r, "label \x01", "label 010302")
	for _, text := range []string{" ", "  two words ", "\x00\xff\x80\r", "ä", strings.Repeat("z", 253)} {
		say(t, r, "label "+text, "label "+codeOf(t, text, 2))
	}
	say(t, r, "label "+strings.Repeat("z", 254), "error 2")
	say(t, r, "label ", "error 4")
	for check, most := range map[int]int{0: 255, 1: 254, 64: 191} {
		r := roomOf(t, checked(check))
		longest := strings.Repeat("m", most)
		say(t, r, "label "+longest, "label "+codeOf(t, longest, check))
		say(t, r, "label "+longest+"m", "error 2")
	}
	say(t, roomOf(t, checked(0)), "label \x0a", "error 4")
	say(t, roomOf(t, checked(0)), "label \x0b", "label 0b")
}

func TestScan(t *testing.T) {
	r := roomOf(t, plant())
	talk(t, r, `
		scan 61a3c2 -> scan 0 61
		scan 61a3c3 -> scan 1 61
		scan 60a3c2 -> scan 1 61
		scan 6000c2 2 -> error 6
		scan 6000c2 0 1 -> scan 2 61
		scan 6000c2 1 0 0 1 -> scan 2 61
		scan 61a3c2 2 -> scan 0 61
		scan 61a3c2 0 1 2 -> error 6
		scan 000000 -> scan 0 00
		scan 0a0b0c -> error 6
		scan 61a3c2 3 -> error 2
		scan 61a3c2 -1 -> error 2
		scan 61a3c2 0 9223372036854775807 -> error 2
		scan 61a3 -> error 2
		scan 61 -> error 2
		scan 61A3 -> error 4
		scan 61a3c -> error 4
		scan 61a3c2 -> scan 0 61
	`)
	say(t, r, "scan 61a3c2"+strings.Repeat(" 1", 255), "scan 0 61")
	say(t, r, "scan 61a3c2"+strings.Repeat(" 1", 256), "error 2")
	say(t, r, "scan "+strings.Repeat("00", 255), "scan 0 "+strings.Repeat("00", 253))
	say(t, r, "scan "+strings.Repeat("00", 256), "error 2")
	talk(t, roomOf(t, checked(0)), "scan 00ff10 -> scan 0 00ff10\nscan 00ff10 1 -> error 6")
}

// TestScanOfLabel damages labels at half as many positions as there are check bytes (P9.10).
func TestScanOfLabel(t *testing.T) {
	for _, check := range []int{0, 1, 2, 3, 8, 64} {
		r := roomOf(t, checked(check))
		for _, text := range []string{"a", " cut 7 \x00\xfe", strings.Repeat("brisket ", 20)} {
			code, _ := strings.CutPrefix(strings.TrimSpace(r.Say("label "+text)), "label ")
			word, err := hex.DecodeString(code)
			if err != nil || len(word) != len(text)+check {
				t.Fatalf("label %q: %s", text, code)
			}
			damaged := min(check/2, len(word))
			for i := range damaged {
				word[i*len(word)/damaged] ^= byte(i + 1)
			}
			say(t, r, "scan "+hex.EncodeToString(word), fmt.Sprintf("scan %d %x", damaged, text))
		}
	}
}

func TestJobs(t *testing.T) {
	talk(t, roomOf(t, plant()), `
		plan -> plan 1
		benches -> benches 1
		job 0 2 2 -> job 0
		job 0 2 2 -> job 1
		plan -> plan 1
		benches -> benches 2
		job 0 2 2 -> job 2
		plan -> plan 0
		benches -> benches 3
		done 0 -> ok
		plan -> plan 1
		job 0 2 3 -> job 2
		plan -> plan 0
		benches -> benches 0
		job 0 1048576 1048576 -> job 3
		done 4 -> error 6
		done -1 -> error 6
		done 3 -> ok
		done 3 -> error 6
	`)
	talk(t, roomOf(t, changed(func(p *api.Plant) { p.Benches = 1 })), "job 0 3 2 -> job 0\nplan -> plan 1\njob 0 3 2 -> job 1\nplan -> plan 0\nbenches -> benches 2")
	talk(t, roomOf(t, changed(func(p *api.Plant) { p.Benches = 8 })), strings.Repeat("job 5 6 1 -> job 0\ndone 0 -> ok\n", 2)+"done 0 -> error 6\nplan -> plan 1")
}

func TestWrongJobs(t *testing.T) {
	r := roomOf(t, plant())
	talk(t, r, `
		job 2 2 1 -> error 2
		job 3 2 1 -> error 2
		job -1 2 1 -> error 2
		job 0 1048577 1 -> error 2
		job 0 2 0 -> error 2
		job 0 2 -1 -> error 2
		job 0 2 1048577 -> error 2
		job 0 2 1048576 -> job 0
	`)
	for k := 1; k < mostJobs; k++ {
		say(t, r, "job 0 9 1", fmt.Sprintf("job %d", k))
	}
	talk(t, r, `
		job 0 9 1 -> error 5
		job 9 9 1 -> error 2
		done 0 -> ok
		benches -> benches 4
		job 0 9 2 -> job 31
		job 0 9 2 -> error 5
	`)
}

// TestDone checks which job is removed, and that those after it have lesser numbers.
func TestDone(t *testing.T) {
	r := roomOf(t, plant())
	quickly(t, r, "job 0 10 1", "job 1 11 1", "job 2 12 1", "job 3 13 1", "done 1", "done 2")
	jobs := r.Jobs()
	if len(jobs) != 2 || jobs[0] != (api.Job{Ready: 0, Due: 10, Work: 1}) || jobs[1] != (api.Job{Ready: 2, Due: 12, Work: 1}) {
		t.Errorf("Jobs: %v", jobs)
	}
	talk(t, r, "done 2 -> error 6\njob 4 14 1 -> job 2\ndone 0 -> ok\ndone 0 -> ok\ndone 0 -> ok\ndone 0 -> error 6")
}
