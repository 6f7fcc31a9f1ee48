package disk_test

import (
	"slices"
	"testing"

	"bursary/api"
	"bursary/disk"
)

// few is how many sectors those disks have that are gone through whole.
const few = 3

// pasts hands on disks of few sectors with all pasts of up to long Writes and Syncs; each Write's block has a name of its own. held and said are, for each sector, the names of what it holds and of what it says.
func pasts(t *testing.T, long int, use func(d *disk.Disk, held, said [few]byte)) {
	t.Helper()
	var next func(d *disk.Disk, held, said [few]byte, left int)
	next = func(d *disk.Disk, held, said [few]byte, left int) {
		use(d.Copy(), held, said)
		if left == 0 {
			return
		}
		for i := range few {
			name := byte(10*(long-left+1) + i)
			c, now := d.Copy(), said
			expect(t, "Write", c.Write(i, block(name)), api.OK)
			now[i] = name
			next(c, held, now, left-1)
		}
		c := d.Copy()
		expect(t, "Sync", c.Sync(), api.OK)
		next(c, said, said, left-1)
	}
	next(made(t, few), [few]byte{}, [few]byte{}, long)
}

// choices are all keeps of up to n parts.
func choices(n int) [][]bool {
	out := [][]bool{nil}
	for at := 0; at < len(out); at++ {
		if keep := out[at]; len(keep) < n {
			out = append(out, append(slices.Clone(keep), false), append(slices.Clone(keep), true))
		}
	}
	return out
}

// P2.6: behind a Crash with every choice of what is kept each sector says what it held, or what it said, and keep alone says which, sector by sector. What was written over is never seen: it is neither of both.
func TestEveryCrash(t *testing.T) {
	pasts(t, 4, func(d *disk.Disk, held, said [few]byte) {
		places := d.Pending()
		for i := range few {
			says(t, d, i, said[i])
			if held[i] != said[i] && !slices.Contains(places, i) {
				t.Fatalf("%d is not pending: %v", i, places)
			}
		}
		for _, keep := range choices(few + 1) {
			c, want := d.Copy(), held
			for nth, i := range places {
				if nth < len(keep) && keep[nth] {
					want[i] = said[i]
				}
			}
			expect(t, "Crash", c.Crash(keep), api.OK)
			for i := range few {
				says(t, c, i, want[i])
			}
			pending(t, c)
		}
	})
}

// P2.6: the same with the power gone at a Write, whose block is one that was said, or at a Sync.
func TestEveryCrashOfADeadDisk(t *testing.T) {
	pasts(t, 3, func(d *disk.Disk, held, said [few]byte) {
		for at := range few + 1 {
			dead, said := d.Copy(), said
			dead.Arm(0)
			if at < few {
				said[at] = 200
				expect(t, "Write", dead.Write(at, block(200)), api.ErrDead)
			} else {
				expect(t, "Sync", dead.Sync(), api.ErrDead)
			}
			for _, keep := range choices(few) {
				c, want := dead.Copy(), held
				for nth, i := range dead.Pending() {
					if nth < len(keep) && keep[nth] {
						want[i] = said[i]
					}
				}
				expect(t, "Crash", c.Crash(keep), api.OK)
				for i := range few {
					says(t, c, i, want[i])
				}
			}
		}
	})
}

// P2.6: behind a Sync no Crash changes anything.
func TestNoCrashBehindASync(t *testing.T) {
	pasts(t, 3, func(d *disk.Disk, _, _ [few]byte) {
		expect(t, "Sync", d.Sync(), api.OK)
		want := look(d)
		for _, keep := range choices(few) {
			c := d.Copy()
			expect(t, "Crash", c.Crash(keep), api.OK)
			same(t, "behind a Sync and a Crash", look(c), want)
		}
	})
}

// P2.6: a Crash that keeps everything is a Sync, but that it is not counted.
func TestCrashOfAllIsASync(t *testing.T) {
	pasts(t, 4, func(d *disk.Disk, _, _ [few]byte) {
		c := d.Copy()
		expect(t, "Sync", c.Sync(), api.OK)
		want := look(c)
		want.ops--
		expect(t, "Crash", d.Crash(all(few)), api.OK)
		same(t, "behind a Crash that keeps everything", look(d), want)
	})
}

// P2.6: of what was written between two Syncs only the last block is seen, whichever Crash comes.
func TestWrittenOverIsNeverSeen(t *testing.T) {
	for _, keep := range choices(2) {
		for _, power := range []bool{true, false} {
			d := made(t, 2)
			d.Write(1, block(1))
			d.Sync()
			d.Write(1, block(2))
			d.Write(1, block(3))
			if !power {
				d.Arm(0)
				d.Sync()
			}
			d.Crash(keep)
			if len(keep) > 0 && keep[0] {
				says(t, d, 1, 3)
			} else {
				says(t, d, 1, 1)
			}
		}
	}
}
