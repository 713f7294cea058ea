package talk

import (
	"slices"

	"earshot/api"
	"earshot/checks"
	"earshot/feature"
	"earshot/frac"
	"earshot/lists"
)

// checkGroups returns the error of groups of vectors. Layer 3 has no seeds of a list that is no list of vectors.
func checkGroups(groups ...[][]int) api.Errno {
	if len(groups) == 0 {
		return api.OK
	}
	_, e := feature.Seeds(slices.Concat(groups...), 1)
	empty := slices.ContainsFunc(groups, func(vectors [][]int) bool { return len(vectors) == 0 })
	return checks.First(checks.Length(len(groups), api.MaxGroups), e, checks.Argument(!empty))
}

// Gap returns the gap of two groups.
func Gap(a, b [][]int) (api.Frac, api.Errno) {
	if e := checkGroups(a, b); e != api.OK {
		return api.Frac{}, e
	}
	return voiceOf(a).gap(voiceOf(b)), api.OK
}

// canCluster reports whether there may be so many speakers at most, with such a limit.
func canCluster(most int, limit api.Frac) bool { return most >= 1 && frac.Sign(limit) >= 0 }

// Cluster returns the speaker of each group.
func Cluster(groups [][][]int, most int, limit api.Frac) ([]int, api.Errno) {
	if e := checks.First(checkGroups(groups...), checks.Argument(canCluster(most, limit))); e != api.OK {
		return nil, e
	}
	return speakers(lists.Map(groups, voiceOf), most, limit), api.OK
}

// cluster is some groups that have become one.
type cluster struct {
	voice
	groups []int
}

// speakers returns the speaker of each group, of which the voices are given.
func speakers(voices []voice, most int, limit api.Frac) []int {
	var clusters []cluster // in the order of their first groups
	for group, v := range voices {
		clusters = append(clusters, cluster{v, []int{group}})
	}
	for len(clusters) > 1 {
		a, b, gap := closest(clusters)
		if len(clusters) <= most && frac.Cmp(gap, limit) > 0 {
			break
		}
		clusters[a] = cluster{clusters[a].with(clusters[b].voice), append(clusters[a].groups, clusters[b].groups...)}
		clusters = slices.Delete(clusters, b, b+1)
	}
	speaker := make([]int, len(voices))
	for number, c := range clusters {
		for _, group := range c.groups {
			speaker[group] = number
		}
	}
	return speaker
}

// closest returns the first two clusters with the least gap, and this gap. There are at least two clusters.
func closest(clusters []cluster) (int, int, api.Frac) {
	first, second, least := 0, 1, clusters[0].gap(clusters[1].voice)
search:
	for a, c := range clusters {
		for b := a + 1; b < len(clusters); b++ {
			if frac.Sign(least) == 0 {
				break search
			}
			if gap := c.gap(clusters[b].voice); frac.Cmp(gap, least) < 0 {
				first, second, least = a, b, gap
			}
		}
	}
	return first, second, least
}
