package stamp

import (
	"strings"

	"orchard/api"
)

// CheckOp is what is wrong with an operation, the first fault in the chapter's order, or OK.
func CheckOp(op api.Op) api.Errno {
	if !Check(op.Stamp) {
		return api.ErrArg
	}
	switch op.Kind {
	case api.OpMake:
		return checkMake(op)
	case api.OpMove:
		return checkMove(op)
	case api.OpAttr:
		return checkAttr(op)
	}
	return api.ErrArg
}

func checkMake(op api.Op) api.Errno {
	if op.Node != Node(op.Stamp) {
		return api.ErrArg
	}
	return checkPlace(op)
}

// checkMove asks for the node last: the chapter names a name that is too long ahead of it.
func checkMove(op api.Op) api.Errno {
	if err := checkPlace(op); err != api.OK {
		return err
	}
	if !isMade(op.Node) {
		return api.ErrArg
	}
	return api.OK
}

func checkAttr(op api.Op) api.Errno {
	switch {
	case !isMade(op.Node) && !isGiven(op.Node):
		return api.ErrArg
	case isLong(op.Key) || isLong(op.Value):
		return api.ErrLong
	case op.Key == "" || op.Parent != 0 || op.Name != "":
		return api.ErrArg
	}
	return api.OK
}

// checkPlace is what operations that put a node somewhere are asked alike.
func checkPlace(op api.Op) api.Errno {
	switch {
	case !isMade(op.Parent) && !isGiven(op.Parent):
		return api.ErrArg
	case isLong(op.Name):
		return api.ErrLong
	case !isName(op.Name) || op.Key != "" || op.Value != "":
		return api.ErrArg
	}
	return api.OK
}

// isMade tells whether an operation can have made a node.
func isMade(node int64) bool {
	_, is := Of(node)
	return is
}

// isGiven tells whether a node is one that every tree has.
func isGiven(node int64) bool { return node == api.Root || node == api.Trash }

func isLong(text string) bool { return len(text) > api.MaxText }

func isName(name string) bool {
	return name != "" && name != "." && name != ".." && !strings.Contains(name, "/")
}
