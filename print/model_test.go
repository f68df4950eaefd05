package print_test

import (
	"fmt"
	"reflect"
	"strings"
	"testing"

	"pointsman/api"
	"pointsman/bits"
	"pointsman/parse"
	"pointsman/print"
)

// written is what the chapter's tables tell of a program, whether it is a text's tree or not.
func written(p api.Program) string { return each(p, "", declText) }

func each[T any](l []T, between string, text func(T) string) string {
	s := make([]string, len(l))
	for i, x := range l {
		s[i] = text(x)
	}
	return strings.Join(s, between)
}

func litText(b api.Bits) string {
	s, _ := bits.Text(b)
	return s
}

func fieldText(f api.Field) string { return fmt.Sprintf("%s %d", f.Name, f.W) }

func fieldLine(f api.Field) string { return fieldText(f) + ";\n" }

func nameLine(s string) string { return s + ";\n" }

func sameText(s string) string { return s }

func takeLine(s string) string { return "take " + s + ";\n" }

func caseLine(c api.Case) string {
	if c.Mask == ones(c.Value.W) {
		return fmt.Sprintf("%s: %s;\n", litText(c.Value), c.To)
	}
	return fmt.Sprintf("%s & %s: %s;\n", litText(c.Value), litText(c.Mask), c.To)
}

// ones is a number with all its bits set.
func ones(w int) api.Bits {
	b := api.Bits{W: w}
	for i := range min(w, api.MaxWidth) {
		if i < 64 {
			b.Lo |= 1 << i
		} else {
			b.Hi |= 1 << (i - 64)
		}
	}
	return b
}

func keyLine(k api.Key) string {
	words := [256]string{api.KeExact: "exact", api.KePrefix: "prefix", api.KeMask: "mask", api.KeRange: "range"}
	return exprText(k.Expr) + " " + words[k.Kind] + ";\n"
}

func stateText(s api.State) string {
	end := fmt.Sprintf("go %s;\n", s.To)
	if len(s.Select) > 0 {
		end = fmt.Sprintf("select %s {\n%selse %s;\n}\n", each(s.Select, ", ", exprText), each(s.Cases, "", caseLine), s.To)
	}
	return fmt.Sprintf("%s {\n%s%s}\n", s.Name, each(s.Headers, "", takeLine), end)
}

func declText(d api.Decl) string {
	switch d.Kind {
	case api.DeHeader:
		return fmt.Sprintf("header %s {\n%s}\n", d.Name, each(d.Fields, "", fieldLine))
	case api.DeMeta:
		return fmt.Sprintf("meta {\n%s}\n", each(d.Fields, "", fieldLine))
	case api.DeRegister:
		return fmt.Sprintf("register %s %d %d;\n", d.Name, d.W, d.N)
	case api.DeCounter:
		return fmt.Sprintf("counter %s %d;\n", d.Name, d.N)
	case api.DeMeter:
		return fmt.Sprintf("meter %s %d %d %d;\n", d.Name, d.N, d.Rate, d.Burst)
	case api.DeParser:
		return fmt.Sprintf("parser {\n%s}\n", each(d.States, "", stateText))
	case api.DeAction:
		return fmt.Sprintf("action %s(%s) {\n%s}\n", d.Name, each(d.Fields, ", ", fieldText), each(d.Body, "", stmtText))
	case api.DeTable:
		return fmt.Sprintf("table %s {\nkey {\n%s}\nactions %s;\ndefault %s(%s);\nsize %d;\n}\n",
			d.Name, each(d.Keys, "", keyLine), each(d.Actions, " ", sameText), d.Default, each(d.Args, ", ", litText), d.N)
	case api.DeControl:
		return fmt.Sprintf("control {\n%s}\n", each(d.Body, "", stmtText))
	case api.DeDeparser:
		return fmt.Sprintf("deparser {\n%s}\n", each(d.Emits, "", nameLine))
	}
	return ""
}

func stmtText(s api.Stmt) string {
	field, args := s.Name+"."+s.Field, each(s.Args, ", ", exprText)
	switch s.Kind {
	case api.StSet:
		return fmt.Sprintf("%s = %s;\n", field, args)
	case api.StIf:
		text := fmt.Sprintf("if %s {\n%s}", args, each(s.Body, "", stmtText))
		if len(s.Else) > 0 {
			text += fmt.Sprintf(" else {\n%s}", each(s.Else, "", stmtText))
		}
		return text + "\n"
	case api.StApply:
		return fmt.Sprintf("apply %s;\n", s.Name)
	case api.StCall:
		return fmt.Sprintf("%s(%s);\n", s.Name, args)
	case api.StMake:
		return fmt.Sprintf("make %s;\n", s.Name)
	case api.StGone:
		return fmt.Sprintf("gone %s;\n", s.Name)
	case api.StCount:
		return fmt.Sprintf("count %s[%s];\n", s.Name, args)
	case api.StRead:
		return fmt.Sprintf("read %s = %s[%s];\n", field, s.Array, args)
	case api.StWrite:
		return fmt.Sprintf("write %s[%s;\n", s.Array, each(s.Args, "] = ", exprText))
	case api.StMeter:
		return fmt.Sprintf("meter %s = %s[%s];\n", field, s.Array, args)
	case api.StRandom:
		return fmt.Sprintf("random %s;\n", field)
	case api.StDrop:
		return "drop;\n"
	case api.StDigest:
		return fmt.Sprintf("digest %s;\n", args)
	case api.StClone:
		return fmt.Sprintf("clone %d;\n", s.N)
	case api.StAgain:
		return "again;\n"
	case api.StRound:
		return "round;\n"
	}
	return ""
}

var signs = map[api.Op]string{api.OpAdd: "+", api.OpSub: "-", api.OpMul: "*", api.OpAnd: "&", api.OpOr: "|", api.OpXor: "^", api.OpShl: "<<", api.OpShr: ">>", api.OpCat: "++",
	api.OpEq: "==", api.OpNe: "!=", api.OpLt: "<", api.OpLe: "<=", api.OpBoth: "&&", api.OpAny: "||"}

func operandText(x api.Expr) string {
	if x.Op == api.OpNot || signs[x.Op] != "" {
		return "(" + exprText(x) + ")"
	}
	return exprText(x)
}

func exprText(x api.Expr) string {
	switch x.Op {
	case api.OpLit:
		return litText(x.Lit)
	case api.OpField:
		return x.Name + "." + x.Field
	case api.OpParam:
		return x.Name
	case api.OpValid:
		return "valid " + x.Name
	case api.OpSlice:
		return fmt.Sprintf("%s[%d:%d]", each(x.Args, ", ", operandText), x.N, x.M)
	case api.OpCast:
		return fmt.Sprintf("cast %d(%s)", x.N, each(x.Args, ", ", exprText))
	case api.OpHash:
		return fmt.Sprintf("hash %s(%s)", x.Name, each(x.Args, ", ", exprText))
	case api.OpNot:
		return "~" + each(x.Args, ", ", operandText)
	}
	return each(x.Args, " "+signs[x.Op]+" ", operandText)
}

// copied is a copy of its own: with lines or without; each list with so much spare room, and nil where it would be empty without any.
func copied(v reflect.Value, lines bool, spare int) reflect.Value {
	out := reflect.New(v.Type()).Elem()
	switch v.Kind() {
	case reflect.Slice:
		if v.Len()+spare > 0 {
			out.Set(reflect.MakeSlice(v.Type(), v.Len(), v.Len()+spare))
		}
		for i := range v.Len() {
			out.Index(i).Set(copied(v.Index(i), lines, spare))
		}
	case reflect.Struct:
		for i := range v.NumField() {
			if lines || v.Type().Field(i).Name != "Line" {
				out.Field(i).Set(copied(v.Field(i), lines, spare))
			}
		}
	default:
		out.Set(v)
	}
	return out
}

func clone(p api.Program) api.Program {
	return copied(reflect.ValueOf(p), true, 0).Interface().(api.Program)
}

// same says whether two programs are, lines aside.
func same(p, q api.Program) bool {
	return reflect.DeepEqual(copied(reflect.ValueOf(p), false, 0).Interface(), copied(reflect.ValueOf(q), false, 0).Interface())
}

// sizeOf counts parts, and tells how deep the deepest one lies, by their types alone.
func sizeOf(v reflect.Value, deep int) (parts, deepest int) {
	deepest = deep
	add := func(within reflect.Value) {
		n, d := sizeOf(within, deep)
		parts, deepest = parts+n, max(deepest, d)
	}
	switch v.Kind() {
	case reflect.Slice:
		for i := range v.Len() {
			add(v.Index(i))
		}
	case reflect.Struct:
		switch v.Interface().(type) {
		case api.Decl, api.Field, api.State, api.Case, api.Stmt, api.Expr:
			parts++
			deep++
			deepest = deep
		}
		for i := range v.NumField() {
			add(v.Field(i))
		}
	}
	return parts, deepest
}

// wants is what the promises say of a program of which it is known whether it is a text's tree.
func wants(p api.Program, isText bool) (string, api.Errno) {
	if !isText {
		return "", api.ErrArg
	}
	s := written(p)
	if parts, deepest := sizeOf(reflect.ValueOf(p), 0); parts > api.MaxParts || deepest > api.MaxDeep || len(s) > api.MaxSource {
		return "", api.ErrLimit
	}
	return s, api.OK
}

// isText says of a program within the limits whether it is a text's tree. If it is, what the tables tell of it is such a text; and if Parse tells it of that, it is.
func isText(p api.Program) bool {
	q, _, e := parse.Parse(written(p))
	return e == api.OK && same(p, q)
}

// holds asks for what Text answers of a program within the limits. It says whether that is a text's tree.
func holds(t *testing.T, p api.Program) bool {
	t.Helper()
	ok := isText(p)
	holdsAs(t, p, ok)
	return ok
}

// holdsAs asks for what Text answers of a program of which it is known whether it is a text's tree.
func holdsAs(t *testing.T, p api.Program, isText bool) {
	t.Helper()
	want, wantError := wants(p, isText)
	if s, e := print.Text(p); s != want || e != wantError {
		t.Fatalf("Text(%.3000s) = %.2000q, %d, want %.2000q, %d", fmt.Sprintf("%+v", p), s, e, want, wantError)
	}
}
