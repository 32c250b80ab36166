package parse_test

import (
	"slices"
	"strconv"
	"strings"

	"triad/api"
	"triad/lex"
	"triad/term"
)

// The chapter's own words, as rules: a thing, the kinds of tokens that it begins with ('else': any other, or the end), and what it then is: tokens, things, and, behind '#', what is done. They are gone through with a stack, and without a look further ahead.
const chapter = `
Query     prefix                         prefix name: iri #prefix Query
Query     select                         select Distinct Told Where Group Grouped Ordered Limit Offset end #select
Query     ask                            ask Group end #ask
Query     construct                      construct #built { Block } #build Where Group end #construct
Distinct  distinct                       distinct #distinct
Distinct  else
Told      *                              * #star
Told      var/(                          Item Items
Items     var/(                          Item Items
Items     else
Item      var                            Var #name
Item      (                              ( Agg as Var #agg )
Agg       count                          count #count ( Each Counted )
Agg       sum                            sum #sum ( Each Var #arg )
Agg       min                            min #min ( Each Var #arg )
Agg       max                            max #max ( Each Var #arg )
Agg       avg                            avg #avg ( Each Var #arg )
Each      distinct                       distinct #each
Each      else
Counted   *                              *
Counted   else                           Var #arg
Where     where                          where
Where     else
Grouped   group                          group by Var #group Groups
Grouped   else
Groups    var                            Var #group Groups
Groups    else
Ordered   order                          order by Key Keys
Ordered   else
Keys      var/asc/desc                   Key Keys
Keys      else
Key       var                            Var #up
Key       asc                            asc ( Var #up )
Key       desc                           desc ( Var #down )
Limit     limit                          limit num #limit
Limit     else
Offset    offset                         offset num #offset
Offset    else
Update    prefix                         prefix name: iri #prefix Update
Update    clear                          clear end #clear
Update    insert                         insert Insert end #change
Update    delete                         delete Delete end #change
Insert    data                           data #facts { Block } #ins #all
Insert    else                           #built { Block } #ins where Group #where
Delete    data                           data #gone { Block } #del #all
Delete    else                           #goes { Block } #del Also where Group #where
Also      insert                         insert #built { Block } #ins
Also      else
Block     }
Block     else                           Steps
Group     {                              { #deeper #open Elements } #shallower #shut
Elements  optional                       optional Group #left Dot Elements
Elements  minus                          minus Group #minus Dot Elements
Elements  {                              Group Unions #join Dot Elements
Elements  bind                           bind ( Expr as Var ) #bind Dot Elements
Elements  values                         values Var #values { Values } #join Dot Elements
Elements  filter                         filter ( Expr ) #filter Dot Elements
Elements  var/iri/name/name:/blank/text/num/+/-/true/false #asked Steps #pattern #join Elements
Elements  else
Dot       .                              .
Dot       else
Unions    union                          union Group #union Unions
Unions    else
Values    }
Values    else                           Value #value Values
Steps     else                           Node #subject Verbs More
More      .                              . Again
More      else
Again     var/iri/name/name:/blank/text/num/+/-/true/false Steps
Again     else
Verbs     else                           Verb Node #step Others Next
Others    ,                              , Node #step Others
Others    else
Next      ;                              ; Verb?
Next      else
Verb?     var/iri/name/name:/a/^/(       Verbs
Verb?     else
Verb      var                            Var #scope #verb
Verb      else                           Way #way
Way       else                           #mark Row Ways #palt
Ways      |                              | Row Ways
Ways      else
Row       else                           #mark Turned Rows #pseq
Rows      /                              / Turned Rows
Rows      else
Turned    ^                              ^ Often #pinv
Turned    else                           Often
Often     else                           One How
How       *                              * #pstar
How       +                              + #pplus
How       ?                              ? #popt
How       else
One       (                              ( #deeper Way ) #shallower
One       a                              a #type #piri
One       else                           Iri #check #piri
Node      var                            Var #scope
Node      blank                          #miss blank #blank #check
Node      else                           Value
Value     +                              + num #number #check
Value     -                              - num #negative #check
Value     else                           Plain
Plain     text                           text #text Tag #check
Plain     num                            num #number #check
Plain     true                           true #bool
Plain     false                          false #bool
Plain     else                           Iri #check
Tag       lang                           lang #lang
Tag       ^^                             ^^ Iri #typed
Tag       else
Iri       iri                            iri #iri
Iri       name                           name #named
Iri       name:                          name: #named
Var       var                            var #var
Expr      else                           And Ors
Ors       ||                             || And #|| Ors
Ors       else
And       else                           Compared Ands
Ands      &&                             && Compared #&& Ands
Ands      else
Compared  else                           Sum How2
How2      =                              = Sum #=
How2      !=                             != Sum #!=
How2      <                              < Sum #<
How2      <=                             <= Sum #<=
How2      >                              > Sum #>
How2      >=                             >= Sum #>=
How2      else
Sum       else                           Product Sums
Sums      +                              + Product #+ Sums
Sums      -                              - Product #- Sums
Sums      else
Product   else                           Signed Products
Products  *                              * Signed #* Products
Products  else
Signed    !                              ! Single #!
Signed    -                              - Single #neg
Signed    else                           Single
Single    (                              ( #deeper Expr ) #shallower
Single    var                            Var #term
Single    bound                          bound ( #deeper Var #term ) #shallower #bound
Single    str                            str One( #str
Single    lang()                         lang() One( #lang()
Single    datatype                       datatype One( #datatype
Single    strlen                         strlen One( #strlen
Single    isiri                          isiri One( #isiri
Single    isblank                        isblank One( #isblank
Single    isliteral                      isliteral One( #isliteral
Single    contains                       contains ( #deeper Expr , Expr ) #shallower #contains
Single    sameterm                       sameterm ( #deeper Expr , Expr ) #shallower #sameterm
Single    if                             if ( #deeper Expr , Expr , Expr ) #shallower #if
Single    coalesce                       coalesce #begin ( #deeper Expr Exprs ) #shallower #coalesce
Single    else                           Plain #term
One(      else                           ( #deeper Expr ) #shallower
Exprs     ,                              , Expr Exprs
Exprs     else
`

// rule is what a thing is.
type rule struct {
	kind string
	is   []string
}

// rules are those of each thing.
var rules = func() map[string][]rule {
	m := map[string][]rule{}
	for line := range strings.Lines(chapter) {
		f := strings.Fields(line)
		if len(f) == 0 {
			continue
		}
		kinds := []string{f[1]}
		if f[1] != "/" {
			kinds = strings.Split(f[1], "/")
		}
		for _, kind := range kinds {
			m[f[0]] = append(m[f[0]], rule{kind, f[2:]})
		}
	}
	return m
}()

// keywords are the words that stand in rules.
var keywords = func() map[string]bool {
	m := map[string]bool{}
	for _, l := range rules {
		for _, r := range l {
			for _, y := range r.is {
				if y[0] >= 'a' && y[0] <= 'z' && !strings.Contains(" iri name name: blank var text num a true false end ", " "+y+" ") {
					m[y] = true
				}
			}
		}
	}
	delete(m, "lang") // the kind; the word is lang()
	return m
}()

// find is what a thing is that begins with a token of this kind.
func find(thing, kind string) ([]string, bool) {
	for _, r := range rules[thing] {
		if r.kind == kind || r.kind == "else" { // the last one
			return r.is, true
		}
	}
	return nil, false
}

// level is a group on its way.
type level struct {
	parts   []api.Pattern // none, or what is there
	filters []api.Expr
}

// machine goes through the rules.
type machine struct {
	l        []api.Token
	at       int // the token that comes next
	prefixes map[string]string
	deep     int
	e        api.Errno

	place    string // what was said last of where steps stand
	steps    []api.Step
	terms    []api.Term
	ways     []api.Path
	marks    []int
	exprs    []api.Expr
	patterns []api.Pattern
	levels   []level
	agg      api.Agg
	star     bool
	q        api.Query
	u        api.Update
}

// run goes through all that a thing is.
func run(s, thing string) *machine {
	l, e := lex.Tokens(s)
	m := &machine{l: l, e: e, prefixes: map[string]string{}, q: api.Query{Limit: -1}}
	todo := []string{thing}
	for len(todo) > 0 && m.e == api.OK {
		y := todo[len(todo)-1]
		todo = todo[:len(todo)-1]
		switch {
		case rules[y] != nil:
			is, there := find(y, m.kind())
			if !there {
				m.e = api.ErrWord
			}
			for _, z := range slices.Backward(is) {
				todo = append(todo, z)
			}
		case len(y) > 1 && y[0] == '#':
			m.do(y[1:])
		case y != m.kind():
			m.e = api.ErrWord
		case y != "end":
			m.at++
		}
	}
	return m
}

// query and update are Query and Update by these, and at which token they ended.
func query(s string) (api.Query, api.Errno, int) {
	m := run(s, "Query")
	if m.e != api.OK {
		return api.Query{}, m.e, m.at
	}
	return m.q, api.OK, m.at
}

func update(s string) (api.Update, api.Errno, int) {
	m := run(s, "Update")
	if m.e != api.OK {
		return api.Update{}, m.e, m.at
	}
	return m.u, api.OK, m.at
}

// kinds are those of tokens that have one name.
var kinds = map[int]string{api.TIri: "iri", api.TBlank: "blank", api.TVar: "var", api.TText: "text", api.TLang: "lang", api.TNum: "num"}

// kind is the next token's.
func (m *machine) kind() string {
	if m.at == len(m.l) {
		return "end"
	}
	t := m.l[m.at]
	switch t.Kind {
	case api.TName:
		if strings.HasSuffix(t.S, ":") {
			return "name:"
		}
		return "name"
	case api.TWord:
		low := strings.ToLower(t.S)
		switch {
		case t.S == "a" || t.S == "true" || t.S == "false":
			return t.S
		case low == "lang":
			return "lang()"
		case keywords[low]:
			return low
		}
		return "word"
	case api.TSign:
		return t.S
	}
	return kinds[t.Kind]
}

// pop takes the last ones of a row.
func pop[T any](l *[]T, n int) []T {
	at := len(*l) - n
	out := slices.Clone((*l)[at:])
	*l = (*l)[:at]
	return out
}

func (m *machine) term() api.Term { return pop(&m.terms, 1)[0] }

// back is the text of the token that was passed last.
func (m *machine) back() string { return m.l[m.at-1].S }

// fault is an error where it is so.
func (m *machine) fault(is bool, e api.Errno) {
	if is && m.e == api.OK {
		m.e = e
	}
}

// do does what stands behind '#'.
func (m *machine) do(y string) {
	switch {
	case m.doTerm(y), m.doWay(y), m.doExpr(y), m.doSteps(y), m.doGroup(y), m.doTold(y), m.doEnd(y):
	default:
		panic(y)
	}
}

func (m *machine) doTerm(y string) bool {
	push := func(t api.Term) { m.terms = append(m.terms, t) }
	switch y {
	case "prefix":
		m.prefixes[m.l[m.at-2].S] = m.back()
	case "var":
		m.fault(len(m.back()) > 12, api.ErrLong)
		push(vari(m.back()))
	case "iri":
		push(ref(m.back()))
	case "named":
		prefix, local, _ := strings.Cut(m.back(), ":")
		full, there := m.prefixes[prefix+":"]
		if !there {
			m.at-- // it is this one that does not fit
			m.e = api.ErrName
		}
		push(ref(full + local))
	case "type":
		push(ref(api.RType))
	case "miss":
		m.fault(m.place != "built" && m.place != "facts", api.ErrMiss)
	case "scope":
		m.fault(m.place == "facts" || m.place == "gone", api.ErrScope)
	case "blank":
		push(node(m.back()))
	case "text":
		push(lit(m.back()))
	case "lang":
		push(api.Term{Kind: api.Literal, S: m.term().S, Lang: m.back()})
	case "typed":
		y := m.term()
		push(typed(m.term().S, y.S))
	case "number", "negative":
		s := strings.Repeat("-", strings.Count(y, "negative")) + m.back()
		push(typed(s, []string{api.XInt, api.XDec}[strings.Count(s, ".")]))
	case "bool":
		push(typed(m.back(), api.XBool))
	case "check":
		e := term.Check(m.terms[len(m.terms)-1])
		m.fault(e != api.OK, e)
	default:
		return false
	}
	return true
}

func (m *machine) doWay(y string) bool {
	around := func(op, n int) { m.ways = append(m.ways, api.Path{Op: op, Kids: pop(&m.ways, n)}) }
	several := func(op int) {
		n := len(m.ways) - pop(&m.marks, 1)[0]
		if n > 1 {
			around(op, n)
		}
	}
	switch y {
	case "mark":
		m.marks = append(m.marks, len(m.ways))
	case "piri":
		m.ways = append(m.ways, api.Path{Op: api.PIri, S: m.term().S})
	case "palt":
		several(api.PAlt)
	case "pseq":
		several(api.PSeq)
	case "pinv":
		around(api.PInv, 1)
	case "pstar":
		around(api.PStar, 1)
	case "pplus":
		around(api.PPlus, 1)
	case "popt":
		around(api.POpt, 1)
	default:
		return false
	}
	return true
}

// ops are the expressions' numbers, and how many Kids each has.
var ops = map[string][2]int{
	"||": {2, 2}, "&&": {3, 2}, "!": {4, 1}, "=": {5, 2}, "!=": {6, 2}, "<": {7, 2}, "<=": {8, 2}, ">": {9, 2}, ">=": {10, 2}, "+": {11, 2}, "-": {12, 2}, "*": {13, 2}, "neg": {14, 1},
	"bound": {15, 1}, "str": {16, 1}, "lang()": {17, 1}, "datatype": {18, 1}, "contains": {19, 2}, "strlen": {20, 1}, "isiri": {21, 1}, "isblank": {22, 1}, "isliteral": {23, 1}, "sameterm": {24, 2}, "if": {25, 3},
}

func (m *machine) doExpr(y string) bool {
	op, there := ops[y]
	switch {
	case there:
		m.exprs = append(m.exprs, api.Expr{Op: op[0], Kids: pop(&m.exprs, op[1])})
	case y == "term":
		m.exprs = append(m.exprs, api.Expr{Op: 1, T: m.term()})
	case y == "begin":
		m.marks = append(m.marks, len(m.exprs))
	case y == "coalesce":
		n := len(m.exprs) - pop(&m.marks, 1)[0]
		m.exprs = append(m.exprs, api.Expr{Op: 26, Kids: pop(&m.exprs, n)})
	case y == "deeper":
		m.deep++
		m.fault(m.deep > 10, api.ErrDeep)
	case y == "shallower":
		m.deep--
	default:
		return false
	}
	return true
}

// doSteps keeps a subject and a verb as the last terms, or terms and ways, while their objects come.
func (m *machine) doSteps(y string) bool {
	switch y {
	case "asked", "built", "goes", "facts", "gone":
		m.place, m.steps = y, nil
	case "subject":
		m.terms = pop(&m.terms, 1)
	case "verb":
		m.ways = nil
	case "way":
		w := m.ways[len(m.ways)-1]
		if w.Op == api.PIri {
			m.terms = append(m.terms, ref(w.S))
			m.ways = nil
			break
		}
		m.fault(m.place != "asked", api.ErrMiss)
		m.terms = append(m.terms, api.Term{})
		m.ways = []api.Path{w}
	case "step":
		x := api.Step{S: m.terms[0], P: m.terms[1], O: m.terms[2]}
		if x.P.Kind == 0 {
			x.Way = m.ways[0]
		}
		m.steps = append(m.steps, x)
		m.terms = m.terms[:2]
		if k := m.kind(); k != "," { // they are over
			m.terms = m.terms[:1]
		}
	default:
		return false
	}
	return true
}

func (m *machine) doGroup(y string) bool {
	var now *level
	if len(m.levels) > 0 {
		now = &m.levels[len(m.levels)-1]
	}
	there := func() api.Pattern {
		if len(now.parts) == 0 {
			return api.Pattern{Op: api.GSteps}
		}
		return now.parts[0]
	}
	with := func(op int) {
		now.parts = []api.Pattern{{Op: op, Kids: append([]api.Pattern{there()}, pop(&m.patterns, 1)...)}}
	}
	switch y {
	case "open":
		m.levels = append(m.levels, level{})
	case "shut":
		p := there()
		for _, x := range now.filters {
			p = api.Pattern{Op: api.GFilter, Kids: []api.Pattern{p}, E: x}
		}
		m.patterns = append(m.patterns, p)
		pop(&m.levels, 1)
	case "left":
		with(api.GLeft)
	case "minus":
		with(api.GMinus)
	case "join":
		if len(now.parts) == 0 {
			now.parts = pop(&m.patterns, 1)
		} else {
			with(api.GJoin)
		}
	case "union":
		m.patterns = append(m.patterns, api.Pattern{Op: api.GUnion, Kids: pop(&m.patterns, 2)})
	case "pattern":
		m.patterns = append(m.patterns, api.Pattern{Op: api.GSteps, Steps: m.steps})
		m.terms = nil
	case "values":
		m.patterns = append(m.patterns, api.Pattern{Op: api.GValues, Name: m.term().S})
	case "value":
		p := &m.patterns[len(m.patterns)-1]
		p.Terms = append(p.Terms, m.term())
	case "filter":
		now.filters = append(now.filters, pop(&m.exprs, 1)...)
	case "bind":
		p := api.Pattern{Op: api.GBind, Kids: []api.Pattern{there()}, E: pop(&m.exprs, 1)[0], Name: m.term().S}
		m.fault(names(there())[p.Name], api.ErrScope)
		now.parts = []api.Pattern{p}
	default:
		return false
	}
	return true
}

func (m *machine) doTold(y string) bool {
	switch y {
	case "distinct":
		m.q.Distinct = true
	case "star":
		m.star = true
	case "name":
		m.q.Names = append(m.q.Names, m.term().S)
	case "count", "sum", "min", "max", "avg":
		m.agg = api.Agg{Op: map[string]int{"count": 1, "sum": 2, "min": 3, "max": 4, "avg": 5}[y]}
	case "each":
		m.agg.Distinct = true
	case "arg":
		m.agg.Arg = m.term().S
	case "agg":
		m.agg.Name = m.term().S
		m.q.Aggs = append(m.q.Aggs, m.agg)
	case "group":
		m.q.Group = append(m.q.Group, m.term().S)
	case "up", "down":
		m.q.Order = append(m.q.Order, api.Key{Name: m.term().S, Down: y == "down"})
	case "limit", "offset":
		n, err := strconv.ParseUint(m.back(), 10, 20)
		m.fault(err != nil || len(m.back()) > 6, api.ErrOver)
		if y == "limit" {
			m.q.Limit = int(n)
		} else {
			m.q.Offset = int(n)
		}
	default:
		return false
	}
	return true
}

func (m *machine) doEnd(y string) bool {
	switch y {
	case "ins":
		m.u.Ins, m.terms = m.steps, nil
	case "del":
		m.u.Del, m.terms = m.steps, nil
	case "build":
		m.q.Build, m.terms = m.steps, nil
	case "all":
		m.u.Where = api.Pattern{Op: api.GSteps}
	case "where":
		m.u.Where = m.patterns[0]
	case "clear":
		m.u.Clear = true
	case "change":
		all := names(m.u.Where)
		within(append(slices.Clone(m.u.Del), m.u.Ins...), all)
		m.fault(len(all) > 12, api.ErrMany)
	case "select", "ask", "construct":
		m.q.Form = map[string]int{"select": 1, "ask": 2, "construct": 3}[y]
		m.q.Where = m.patterns[0]
		all := names(m.q.Where)
		within(m.q.Build, all)
		m.fault(len(all) > 12, api.ErrMany)
		if y == "select" {
			m.told()
		}
	default:
		return false
	}
	return true
}

// told is what a SELECT may not.
func (m *machine) told() {
	had, there, by := map[string]int{}, names(m.q.Where), map[string]int{}
	for _, n := range m.q.Names {
		had[n]++
	}
	for _, a := range m.q.Aggs {
		had[a.Name]++
		m.fault(there[a.Name], api.ErrScope)
	}
	for _, n := range m.q.Group {
		by[n]++
	}
	for _, counts := range []map[string]int{had, by} {
		for _, k := range counts {
			m.fault(k > 1, api.ErrScope)
		}
	}
	if m.q.Aggs == nil && m.q.Group == nil {
		return
	}
	m.fault(m.star, api.ErrScope)
	for _, n := range m.q.Names {
		m.fault(by[n] == 0, api.ErrScope)
	}
}

// names are those of a pattern.
func names(p api.Pattern) map[string]bool {
	m := map[string]bool{}
	within(p.Steps, m)
	if p.Op == api.GBind || p.Op == api.GValues {
		m[p.Name] = true
	}
	for i, k := range p.Kids {
		for n := range names(k) {
			if i == 0 || p.Op != api.GMinus {
				m[n] = true
			}
		}
	}
	return m
}

// within puts the variables of steps to others.
func within(l []api.Step, m map[string]bool) {
	for _, x := range l {
		for _, t := range []api.Term{x.S, x.P, x.O} {
			if t.Kind == api.Var {
				m[t.S] = true
			}
		}
	}
}
