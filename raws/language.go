package raws

import (
	"rootstock/api"
	"rootstock/dfa"
	"rootstock/mini"
	"rootstock/nfa"
	"rootstock/regs"
)

// Rules are those of the language.
func Rules() []api.Rule {
	return []api.Rule{
		rule(api.KSpace, `[\t ]+`),
		rule(api.KComment, `#.*`),
		rule(api.KJoin, `\\\r?\n`),
		rule(api.KNewline, `\r?\n`),
		// The words stand ahead of names: of rules that match as many bytes the first one is told.
		rule(api.KPass, `pass`),
		rule(api.KIf, `if`),
		rule(api.KElse, `else`),
		rule(api.KWhile, `while`),
		rule(api.KDef, `def`),
		rule(api.KReturn, `return`),
		rule(api.KName, `[A-Z_a-z][0-9A-Z_a-z]*`),
		rule(api.KNumber, `[0-9]+`),
		rule(api.KText, `'[^\n']*'`),
		rule(api.KOpen, `\(`),
		rule(api.KClose, `\)`),
		rule(api.KComma, `,`),
		rule(api.KColon, `:`),
		rule(api.KIs, `=`),
		rule(api.KPlus, `\+`),
		rule(api.KMinus, `-`),
		rule(api.KStar, `\*`),
		rule(api.KLess, `<`),
		rule(api.KMore, `>`),
	}
}

// rule is one of the language's; its pattern is none that Parse refuses.
func rule(kind int, pattern string) api.Rule {
	r, _, _ := regs.Parse(pattern)
	return api.Rule{Kind: kind, Reg: r}
}

// Dfa is the least automaton of the language's rules, which are few enough to have one.
func Dfa() api.Dfa {
	n, _ := nfa.Of(Rules())
	d, _ := dfa.Of(n)
	least, _ := mini.Least(d)
	return least
}
