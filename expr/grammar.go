package expr

import "stencil/api"

// The levels of the grammar are numbered, the loosest first: those with two operands as in levels, one ahead of them, two behind.
const (
	choiceLevel = -1
	looseLevel  = 0
	signLevel   = 11
	partLevel   = 12
)

// operator is a sign between two operands.
type operator struct {
	sign string
	op   int
}

// levels are the operators of each level that has two operands; rows that are not full end in operators without a sign.
func levels() [signLevel][4]operator {
	return [signLevel][4]operator{
		{{"||", api.EAny}},
		{{"&&", api.EBoth}},
		{{"==", api.ESame}, {"!=", api.EOther}},
		{{"<", api.ELess}, {"<=", api.EMost}, {">", api.EMore}, {">=", api.ELeast}},
		{{"|", api.EOr}},
		{{"^", api.EXor}},
		{{"&", api.EAnd}},
		{{"<<", api.EShl}, {">>", api.EShr}},
		{{"~", api.ECat}},
		{{"+", api.EAdd}, {"-", api.ESub}},
		{{"*", api.EMul}, {"/", api.EDiv}, {"%", api.EMod}},
	}
}

// words are the names that stand for a value, each at its Op.
func words() []string {
	return []string{api.ENull: "null", api.EFalse: "false", api.ETrue: "true"}
}

// calls are the names of the calls, each at its number.
func calls() []string {
	return []string{
		api.CallLen: "len", api.CallStr: "str",
		api.CallI8: "i8", api.CallU8: "u8", api.CallI16: "i16", api.CallU16: "u16", api.CallI32: "i32", api.CallU32: "u32",
	}
}

// The bytes that are escaped in a text and, in the same row, what stands behind a `\` for each.
const (
	escapedBytes  = "'\\}\n"
	escapeLetters = `'\}n`
)
