package exec

import (
	"slices"

	"pointsman/api"
)

// mostSteps is more than a pass goes through of any program's own code behind the parser. Calls, and the parts of the action that they do, are together at most MaxParts, so that by them at most MaxParts * MaxParts / 4 parts are done, none of which comes to more than four instructions; what else there is, each table being applied once at most, is far less than that once more. Other code that may be could go on for many times as long.
const mostSteps = 2 * api.MaxParts * api.MaxParts

// fits: has the code, which must be one that may be, the arrays, the tables and the actions of the program? With others a world of the program can't be gone through.
func fits(c *api.Code, p api.Program, w api.World) bool {
	return slices.EqualFunc(c.Arrays, w.Arrays, arrayFits) &&
		slices.EqualFunc(c.Tables, declared(p, api.DeTable), tableFits) &&
		slices.EqualFunc(c.Acts, declared(p, api.DeAction), func(a api.Act, d api.Decl) bool { return actFits(c, a, d) })
}

func declared(p api.Program, kind api.DeclKind) []api.Decl {
	var l []api.Decl
	for _, d := range p {
		if d.Kind == kind {
			l = append(l, d)
		}
	}
	return l
}

func arrayFits(a api.Arr, in api.Array) bool {
	return a.Name == in.Name && a.Kind == in.Kind && a.W == in.W
}

func tableFits(t api.Table, d api.Decl) bool {
	return t.Name == d.Name && slices.EqualFunc(t.Kinds, d.Keys, func(kind api.KeyKind, k api.Key) bool { return kind == k.Kind })
}

func actFits(c *api.Code, a api.Act, d api.Decl) bool {
	return a.Name == d.Name && slices.EqualFunc(a.Params, d.Fields, func(slot int, f api.Field) bool { return c.Slots[slot] == f.W })
}

// shortEnough: does no pass through the code take longer than one through a program's own? What the parser goes through is little enough, whatever the code is.
func shortEnough(c *api.Code) bool {
	longest := 0
	for _, a := range c.Acts {
		longest = max(longest, len(a.Code))
	}
	n := len(c.Main)
	for _, i := range c.Main {
		switch i.Op {
		case api.InCall:
			n += len(c.Acts[i.N].Code)
		case api.InApply:
			n += len(c.Tables[i.N].Before) + longest
		}
	}
	return n <= mostSteps
}
