package tests

import (
	"testing"

	"loop.example/wellhead/impl"
)

// The tests name limits and codes by their constants; here these are held against the document's numbers.
func TestLimitsAndCodes(t *testing.T) {
	cases := []struct {
		name      string
		got, want int
	}{
		{"RowMax", impl.RowMax, 24}, {"BlockMax", impl.BlockMax, 16}, {"SeedMax", impl.SeedMax, 2147483647}, {"PartAll", impl.PartAll, 65536},
		{"LongMax", impl.LongMax, 300}, {"WindowMax", impl.WindowMax, 3}, {"IdMax", impl.IdMax, 9999}, {"NameMax", impl.NameMax, 6}, {"DataMax", impl.DataMax, 80}, {"CountMax", impl.CountMax, 99999}, {"LogMaxText", impl.LogMaxText, 9000}, {"LineMax", impl.LineMax, 500},
		{"CatMax", impl.CatMax, 8}, {"HouseMax", impl.HouseMax, 2}, {"HouseBytes", impl.HouseBytes, 500}, {"PoolMax", impl.PoolMax, 8}, {"PoolHouse", impl.PoolHouse, 5}, {"TimeMax", impl.TimeMax, 99999},
		{"ClientMax", impl.ClientMax, 4}, {"BucketMost", impl.BucketMost, 40}, {"BucketRate", impl.BucketRate, 8},
		{"SolveNew", impl.SolveNew, 0}, {"SolveKnown", impl.SolveKnown, 1}, {"SolveWrong", impl.SolveWrong, 2}, {"SolveBad", impl.SolveBad, 3},
		{"WordOpen", impl.WordOpen, 1}, {"WordAccept", impl.WordAccept, 2}, {"WordSymbol", impl.WordSymbol, 3}, {"WordKnown", impl.WordKnown, 4}, {"WordDone", impl.WordDone, 5}, {"WordGone", impl.WordGone, 6},
		{"CatDone", impl.CatDone, 0}, {"CatBad", impl.CatBad, 1}, {"CatThere", impl.CatThere, 2}, {"CatNone", impl.CatNone, 3}, {"CatFull", impl.CatFull, 4},
		{"PoolHit", impl.PoolHit, 0}, {"PoolMiss", impl.PoolMiss, 1}, {"PoolFull", impl.PoolFull, 2}, {"PoolBad", impl.PoolBad, 3},
		{"ClientIdle", impl.ClientIdle, 0}, {"ClientAsks", impl.ClientAsks, 1}, {"ClientGets", impl.ClientGets, 2}, {"ClientFull", impl.ClientFull, 3}, {"ClientLost", impl.ClientLost, 4},
		{"RadioMax", impl.RadioMax, 60}, {"PlayMax", impl.PlayMax, 400}, {"CalmMax", impl.CalmMax, 10}, {"ToServer", impl.ToServer, 9},
		{"WorldPut", impl.WorldPut, 1}, {"WorldTake", impl.WorldTake, 2}, {"WorldOpen", impl.WorldOpen, 3}, {"WorldAgain", impl.WorldAgain, 4}, {"WorldStop", impl.WorldStop, 5}, {"WorldServe", impl.WorldServe, 6}, {"WorldTick", impl.WorldTick, 7}, {"WorldBring", impl.WorldBring, 8}, {"WorldLose", impl.WorldLose, 9}, {"WorldSpoil", impl.WorldSpoil, 10}, {"WorldFall", impl.WorldFall, 11}, {"WorldRise", impl.WorldRise, 12},
	}
	for _, c := range cases {
		if c.got != c.want {
			t.Errorf("%s is %d, not %d", c.name, c.got, c.want)
		}
	}
}
