package name_test

import (
	"testing"

	"seneschal/api"
)

// The tests of this file hold package api against the document's section 'Words'; they lie here since
// nothing is laid beside api's own file.

func TestErrors(t *testing.T) {
	for want, e := range []api.Errno{
		api.OK, api.ErrArg, api.ErrLarge, api.ErrSyntax, api.ErrDeep, api.ErrTwice, api.ErrName, api.ErrNone,
		api.ErrKind, api.ErrMix, api.ErrTest, api.ErrConflict, api.ErrRev, api.ErrGone, api.ErrDenied, api.ErrLate,
		api.ErrForm, api.ErrSum, api.ErrQuota, api.ErrInvalid, api.ErrEnding, api.ErrBusy, api.ErrFull,
	} {
		if int(e) != want {
			t.Errorf("error %d is %d", want, e)
		}
	}
}

func TestKinds(t *testing.T) {
	for what, l := range map[string][]int{
		"values":    {api.KNull, api.KBool, api.KNumber, api.KText, api.KList, api.KObject},
		"steps":     {api.OpAdd, api.OpRemove, api.OpReplace, api.OpMove, api.OpCopy, api.OpTest},
		"selectors": {api.IsIn, api.IsNotIn, api.IsThere, api.IsNot},
		"events":    {api.EvAdded, api.EvChanged, api.EvRemoved},
		"chains":    {api.AddLabel, api.AddField, api.NeedLabel, api.BarField, api.MostField},
	} {
		for i, k := range l {
			if k != i+1 {
				t.Errorf("%s: kind %d is %d", what, i+1, k)
			}
		}
	}
}

func TestLimits(t *testing.T) {
	for _, r := range []struct {
		what      string
		has, want int
	}{
		{"MaxText", api.MaxText, 2000}, {"MaxNodes", api.MaxNodes, 200}, {"MaxDeep", api.MaxDeep, 10},
		{"MaxSteps", api.MaxSteps, 10}, {"MaxOps", api.MaxOps, 40}, {"MaxName", api.MaxName, 63},
		{"MaxShape", api.MaxShape, 30}, {"MaxFields", api.MaxFields, 8}, {"MaxLabels", api.MaxLabels, 10},
		{"MaxReqs", api.MaxReqs, 8}, {"MaxVals", api.MaxVals, 8}, {"MaxQuery", api.MaxQuery, 300},
		{"MaxManagers", api.MaxManagers, 6}, {"MaxKey", api.MaxKey, 64}, {"MaxUser", api.MaxUser, 20},
		{"MaxGroups", api.MaxGroups, 6}, {"MaxTime", api.MaxTime, 1099511627776}, {"MaxRules", api.MaxRules, 8},
		{"MaxWords", api.MaxWords, 6}, {"MaxRoles", api.MaxRoles, 12}, {"MaxBinds", api.MaxBinds, 12},
		{"MaxObjects", api.MaxObjects, 60}, {"MaxRevs", api.MaxRevs, 1099511627776}, {"MaxPage", api.MaxPage, 50},
		{"MaxWatch", api.MaxWatch, 8}, {"MaxSpaces", api.MaxSpaces, 6}, {"MaxUnits", api.MaxUnits, 1099511627776},
		{"MaxPlugins", api.MaxPlugins, 8}, {"MaxOwners", api.MaxOwners, 4}, {"MaxHolds", api.MaxHolds, 4},
		{"MaxFlows", api.MaxFlows, 8}, {"MaxHand", api.MaxHand, 6}, {"MaxWeight", api.MaxWeight, 10},
		{"MaxCost", api.MaxCost, 1000}, {"MaxQueue", api.MaxQueue, 64}, {"Scale", api.Scale, 2520},
		{"MaxTries", api.MaxTries, 4}, {"MaxDecks", api.MaxDecks, 64}, {"MaxEntries", api.MaxEntries, 200},
		{"MaxAsks", api.MaxAsks, 40}, {"MaxScript", api.MaxScript, 200}, {"MaxLines", api.MaxLines, 60},
		{"MaxLine", api.MaxLine, 300},
	} {
		if r.has != r.want {
			t.Errorf("%s is %d, want %d", r.what, r.has, r.want)
		}
	}
}
