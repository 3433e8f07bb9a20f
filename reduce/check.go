package reduce

import (
	"slices"

	"fanlight/api"
	"fanlight/expr"
	"fanlight/value"
)

const (
	maxHandlers = 16
	maxSets     = 8
	maxEmits    = 8
)

// record is the kind of what a state is, numbered as in layer 2.
const record = 5

// look looks for one error.
type look func() api.Errno

// firstOf answers the first error that the looks tell, in order; those behind it are not asked.
func firstOf(looks ...look) api.Errno {
	for _, tells := range looks {
		if err := tells(); err != api.OK {
			return err
		}
	}
	return api.OK
}

// ofEach asks check of each part, in order.
func ofEach[T any](parts []T, check func(part T) api.Errno) look {
	return func() api.Errno {
		for _, part := range parts {
			if err := check(part); err != api.OK {
				return err
			}
		}
		return api.OK
	}
}

func ofProgram(p Program) look {
	return func() api.Errno { return Check(p) }
}

func ofValue(v api.Value) look {
	return func() api.Errno { return value.Check(v) }
}

func ofExpr(e expr.Expr) look {
	return func() api.Errno { return expr.Check(e) }
}

func ofState(v api.Value) look {
	return func() api.Errno {
		err := value.Check(v)
		if err == api.OK && v.Kind != record {
			return api.ErrType
		}
		return err
	}
}

func ofCount(n, most int) look {
	return func() api.Errno {
		if n > most {
			return api.ErrCount
		}
		return api.OK
	}
}

func ofName(name string) look {
	return func() api.Errno {
		if name == "" || len(name) > api.MaxName {
			return api.ErrName
		}
		return api.OK
	}
}

func ofTwice(handlers []Handler) look {
	return func() api.Errno {
		for i, h := range handlers {
			if placeOf(handlers[:i], h.On) >= 0 {
				return api.ErrTwice
			}
		}
		return api.OK
	}
}

func checkHandler(h Handler) api.Errno {
	return firstOf(
		ofCount(len(h.Sets), maxSets),
		ofCount(len(h.Emits), maxEmits),
		ofName(h.On),
		ofEach(h.Sets, checkSet),
		ofEach(h.Emits, checkEmit),
	)
}

func checkSet(s Set) api.Errno {
	return firstOf(ofName(s.Key), ofExpr(s.Expr))
}

func checkEmit(e Emit) api.Errno {
	return firstOf(ofExpr(e.When), ofName(e.Name), ofExpr(e.Arg))
}

// placeOf answers where the handler of that event stands, -1 if none does.
func placeOf(handlers []Handler, on string) int {
	return slices.IndexFunc(handlers, func(h Handler) bool { return h.On == on })
}
