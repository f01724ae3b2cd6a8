package bench

import (
	"silverside/api"
)

func isRight(benches int, jobs []api.Job, a api.Answer) bool {
	if a.Possible {
		return len(a.Jobs) == 0 && len(a.Spans) == 0 && isSchedule(benches, jobs, a.Slots)
	}
	return len(a.Slots) == 0 && isRefusal(benches, jobs, a.Jobs, a.Spans)
}

func isSchedule(benches int, jobs []api.Job, slots []api.Slot) bool {
	if len(slots) > api.MaxSlots {
		return false
	}
	done := make([]int, len(jobs))
	for _, slot := range slots {
		if !isSlot(slot, benches, jobs) {
			return false
		}
		done[slot.Job] += slot.To - slot.From
	}
	for j, job := range jobs {
		if done[j] != job.Work {
			return false
		}
	}
	return areApart(slots, benchOf) && areApart(slots, jobOf)
}

func isSlot(slot api.Slot, benches int, jobs []api.Job) bool {
	if slot.Job < 0 || slot.Job >= len(jobs) || slot.Bench < 0 || slot.Bench >= benches {
		return false
	}
	job := jobs[slot.Job]
	return job.Ready <= slot.From && slot.From < slot.To && slot.To <= job.Due
}

// areApart reports whether no two slots of one owner, a bench or a job, overlap.
func areApart(slots []api.Slot, owner func(api.Slot) int) bool {
	list := sorted(slots, inOrderOf(owner))
	for k := 1; k < len(list); k++ {
		if owner(list[k-1]) == owner(list[k]) && list[k-1].To > list[k].From {
			return false
		}
	}
	return true
}

func isRefusal(benches int, jobs []api.Job, positions []int, spans [][2]int) bool {
	if !areAscending(positions, len(jobs)) || !areSpans(spans) {
		return false
	}
	surplus := 0
	for _, span := range spans {
		surplus -= benches * length(span)
	}
	for _, j := range positions {
		surplus += jobs[j].Work - timeBeside(jobs[j], spans)
	}
	return surplus > 0
}

// areAscending reports whether the list consists of different positions below end, in ascending order.
func areAscending(list []int, end int) bool {
	least := 0
	for _, k := range list {
		if k < least || k >= end {
			return false
		}
		least = k + 1
	}
	return true
}

func areSpans(spans [][2]int) bool {
	if len(spans) > api.MaxSlots {
		return false
	}
	least := 0
	for _, span := range spans {
		if span[0] < least || span[0] >= span[1] || span[1] > api.MaxTime {
			return false
		}
		least = span[1]
	}
	return true
}

// timeBeside returns how much of the time from Ready to Due is in no span.
func timeBeside(job api.Job, spans [][2]int) int {
	beside := job.Due - job.Ready
	for _, span := range spans {
		beside -= max(0, min(span[1], job.Due)-max(span[0], job.Ready))
	}
	return beside
}

func length(span [2]int) int {
	return span[1] - span[0]
}
