package algebra

import "jointer/api"

// exprWords has the words of the operators of expressions that have one.
var exprWords = [...]string{
	api.OpNeg:      "neg",
	api.OpAdd:      "add",
	api.OpSub:      "sub",
	api.OpMul:      "mul",
	api.OpDiv:      "div",
	api.OpMod:      "mod",
	api.OpConcat:   "concat",
	api.OpLength:   "length",
	api.OpEq:       "eq",
	api.OpNe:       "ne",
	api.OpLt:       "lt",
	api.OpLe:       "le",
	api.OpGt:       "gt",
	api.OpGe:       "ge",
	api.OpSame:     "same",
	api.OpLike:     "like",
	api.OpIsNull:   "isnull",
	api.OpIsTrue:   "istrue",
	api.OpNot:      "not",
	api.OpAnd:      "and",
	api.OpOr:       "or",
	api.OpCase:     "case",
	api.OpCoalesce: "coalesce",
	api.OpExists:   "exists",
	api.OpIn:       "in",
	api.OpScalar:   "scalar",
}

var planWords = [...]string{
	api.PlanRows:      "rows",
	api.PlanScan:      "scan",
	api.PlanFilter:    "filter",
	api.PlanProject:   "project",
	api.PlanInner:     "inner",
	api.PlanLeft:      "left",
	api.PlanFull:      "full",
	api.PlanSemi:      "semi",
	api.PlanAnti:      "anti",
	api.PlanNotIn:     "notin",
	api.PlanGroup:     "group",
	api.PlanDistinct:  "distinct",
	api.PlanSort:      "sort",
	api.PlanLimit:     "limit",
	api.PlanUnion:     "union",
	api.PlanIntersect: "intersect",
	api.PlanExcept:    "except",
}

var kindWords = [...]string{
	api.KindNull: "null",
	api.KindInt:  "int",
	api.KindText: "text",
	api.KindBool: "bool",
}

var aggWords = [...]string{
	api.AggRows:  "rows",
	api.AggCount: "count",
	api.AggSum:   "sum",
	api.AggMin:   "min",
	api.AggMax:   "max",
	api.AggAvg:   "avg",
}
