package tests

import (
	"slices"
	"strings"
	"testing"
)

// checkOutput requires an output. In both texts, a semicolon is a line break, and the output ends with one more.
func checkOutput(t *testing.T, script, want string) {
	t.Helper()
	if want != "" {
		want += ";"
	}
	if got := checkScript(t, linesOf(script)); got != linesOf(want) {
		t.Errorf("RunScript of %s = %s, want %s", brief(linesOf(script)), brief(got), brief(linesOf(want)))
	}
}

// TestScriptExample is the example of the document.
func TestScriptExample(t *testing.T) {
	checkOutput(t, "protocol AB{aBC{c.}|bBC{d.}};project C;check;send A B a;send A B b;enabled;receive B A a;send B C c;state;stuck;subtype B!{a.} B!{a.|b.};protocol AB{a.|bCA{a.}};help",
		"ok;B?{c.|d.};states 8;safe;ok;error: not enabled;B?Aa end;ok;ok;A .;B .;C B?{c.|d.};BC c;end;no;yes;error: not projectable;error: unknown command")
}

// TestLinesAndFields has scripts that differ in line breaks and spaces only.
func TestLinesAndFields(t *testing.T) {
	for _, c := range [][2]string{
		{"", ""}, {";", ""}, {";;;", ""}, {" ", ""}, {"   ", ""}, {" ; ;  ;", ""}, {"; ;", ""},
		{"roles", "roles "}, {"roles;", "roles "}, {"roles;;", "roles "}, {";roles", "roles "}, {";;roles;;", "roles "}, {"roles;roles", "roles ;roles "}, {"roles;;roles;", "roles ;roles "}, {"roles; ;  ;roles", "roles ;roles "},
		{" roles", "roles "}, {"roles ", "roles "}, {"   roles   ;", "roles "}, {"roles ;roles", "roles ;roles "}, {"roles; roles", "roles ;roles "}, {"roles  ;  roles", "roles ;roles "},
		{"subtype . .", "yes"}, {"subtype  . .", "yes"}, {"subtype .    .", "yes"}, {"   subtype   .   .   ;", "yes"}, {" subtype . . ; subtype . . ", "yes;yes"}, {"subtype .;.", "error: unknown command;error: unknown command"}, {"subtype;. .", "error: unknown command;error: unknown command"},
		{"protocol   AB{a.}; send   A  B   a ;  state  ", "ok;ok;A .;B A?{a.};C .;AB a;end"}, {"protocol AB{a.};send A B a;state;", "ok;ok;A .;B A?{a.};C .;AB a;end"},
	} {
		checkOutput(t, c[0], c[1])
	}
}

// TestStrangeBytes has bytes within a line that are neither spaces nor line
// breaks, so that they belong to a field, also if they are no UTF-8.
func TestStrangeBytes(t *testing.T) {
	for _, strange := range []string{"\t", "\r", "\v", "\f", "\x00", "\x01", "\x7f", "\x80", "\xff", "\xa0", "\x85", "\xc3", "\xc2", "\xe2\x82", "\xf0\x9f\x92", "\xc0\xa0", "\xc0\x8a", "\xed\xa0\x80", "\u00a0", "\u0085", "\u2003", "\u2028", "\u3000", "\ufeff", "\ufffd", "é", "日本", "💥"} {
		for _, line := range []string{strange, "roles" + strange, strange + "roles", "ro" + strange + "les", "roles" + strange + "roles", "roles " + strange, strange + " roles", "project" + strange + "A", "send A B" + strange + "a"} {
			checkOutput(t, line, "error: unknown command")
			checkOutput(t, " "+line+" ;roles", "error: unknown command;roles ")
		}
		checkOutput(t, "subtype ."+strange+" .;subtype . "+strange+".;subtype "+strange+" .", "error: invalid type;error: invalid type;error: invalid type")
		checkOutput(t, "protocol AB{a.}"+strange+";protocol "+strange+"AB{a.};protocol "+strange, "error: invalid protocol;error: invalid protocol;error: invalid protocol")
		checkOutput(t, "protocol AB{a.};project "+strange+";project A"+strange+";project "+strange+"A", "ok;error: no projection;error: no projection;error: no projection")
		checkOutput(t, "protocol AB{a.};send A B a"+strange+";send A"+strange+" B a;send A "+strange+"B a;send A B "+strange+";enabled", "ok;error: not enabled;error: not enabled;error: not enabled;error: not enabled;A!Ba end")
		checkOutput(t, "subtype .  "+strange+"; .", "error: invalid type;error: unknown command")
	}
	// Bytes that are no UTF-8 do not take the next one with them.
	checkOutput(t, "\xe2 roles;\xe2;roles;\xf0\x9f roles", "error: unknown command;error: unknown command;roles ;error: unknown command")
}

// TestEveryByte puts each byte in the places of a script.
func TestEveryByte(t *testing.T) {
	for i := range 256 {
		c := string([]byte{byte(i)})
		for _, script := range []string{c, c + c, "roles" + c, c + "roles", "roles" + c + "roles", "subtype ." + c + ".", "subtype" + c + ". .", "subtype . ." + c, "subtype . . " + c, "protocol AB{a.}" + c + "send A B a\nstate", "protocol AB{a.}\nsend A B a" + c + "\nstate", "protocol A" + c + "{a.}\nstate"} {
			checkScript(t, script)
		}
	}
}

// TestScanning has all scripts of a few pieces.
func TestScanning(t *testing.T) {
	pieces := []string{"roles", "subtype", ".", " ", "  ", "\n", "\r", "\xff"}
	var extend func(script string, n int)
	extend = func(script string, n int) {
		checkScript(t, script)
		for _, piece := range pieces {
			if n > 0 {
				extend(script+piece, n-1)
			}
		}
	}
	extend("", 5)
	extend("subtype .", 4)
}

// TestUnknownCommands has commands with too few or too many fields, or in other letters.
func TestUnknownCommands(t *testing.T) {
	known := map[string]int{"protocol": 1, "project": 1, "subtype": 2, "send": 3, "receive": 3, "state": 0, "enabled": 0, "finished": 0, "stuck": 0, "check": 0, "roles": 0}
	arguments := map[string][]string{"protocol": {"AB{a.}"}, "project": {"A"}, "subtype": {".", "."}, "send": {"A", "B", "a"}, "receive": {"B", "A", "a"}}
	for name, count := range known {
		fields := append([]string{name}, arguments[name]...)
		if len(fields) != count+1 {
			t.Fatalf("%s has %d fields", name, len(fields))
		}
		line := strings.Join(fields, " ")
		var wrong []string
		for i := 1; i < len(fields); i++ {
			wrong = append(wrong, strings.Join(fields[:i], " "))
		}
		for _, more := range []string{" a", " a a", " .", " A B a", " 1", strings.Repeat(" a", 500)} {
			wrong = append(wrong, line+more)
		}
		wrong = append(wrong, strings.ToUpper(line), strings.ToUpper(name), strings.ToUpper(name[:1])+line[1:], line[:len(name)-1]+strings.ToUpper(line[len(name)-1:len(name)])+line[len(name):])
		wrong = append(wrong, "."+line, name+"s"+line[len(name):], name[1:]+line[len(name):], name[:len(name)-1]+line[len(name):], name+name, name+","+line[len(name):], "\""+name+"\""+line[len(name):])
		for _, other := range wrong {
			checkOutput(t, other, "error: unknown command")
			checkOutput(t, "protocol AB{a.};send A B a;"+other+";state", "ok;ok;error: unknown command;A .;B A?{a.};C .;AB a;end")
		}
		if strings.Contains(checkScript(t, line), "unknown") {
			t.Errorf("%q is unknown", line)
		}
	}
	for _, line := range []string{"help", "x", "#", "# roles", "// state", "error: unknown command", "ok", "end", "A!Ba", "AB{a.}", "quit", "count", "0", "-", ".", "map", "run", "project1", "protocol=AB{a.}", strings.Repeat("state", 1000)} {
		checkOutput(t, line, "error: unknown command")
	}
}

// TestBeforeTheFirstProtocol has every command for the zero values, also
// after protocols that are refused.
func TestBeforeTheFirstProtocol(t *testing.T) {
	beginnings := [][2]string{{"", ""}, {"protocol AA{a.};", "error: invalid protocol;"}, {"protocol AB{a.|bCA{a.}};", "error: not projectable;"}, {"protocol " + deepLoop(20) + ";", "error: not projectable;"}, {"help;", "error: unknown command;"}}
	for _, c := range [][2]string{
		{"project A", "error: no projection"}, {"project B", "error: no projection"}, {"project C", "error: no projection"}, {"project D", "error: no projection"}, {"project a", "error: no projection"},
		{"send A B a", "error: not enabled"}, {"receive B A a", "error: not enabled"}, {"send A A a", "error: not enabled"}, {"send x y z", "error: not enabled"}, {"receive x y z", "error: not enabled"},
		{"state", "end"}, {"enabled", "end"}, {"finished", "no"}, {"stuck", "no"}, {"check", "states 0 incomplete;safe"}, {"roles", "roles "},
		{"subtype B!{a.} B!{a.|b.}", "yes"}, {"subtype B!{a.|b.} B!{a.}", "no"}, {"subtype . x", "error: invalid type"}, {"protocol AB{a.}", "ok"}, {"protocol .", "ok"},
	} {
		for _, beginning := range beginnings {
			checkOutput(t, beginning[0]+c[0], beginning[1]+c[1])
			checkOutput(t, beginning[0]+c[0]+";protocol AB{a.};state", beginning[1]+c[1]+";ok;A B!{a.};B A?{a.};C .;end")
		}
	}
}

func TestProtocolCommand(t *testing.T) {
	for _, text := range invalidProtocols() {
		checkOutput(t, "protocol "+text+";state", "error: invalid protocol;end")
	}
	for _, text := range unprojectables() {
		checkOutput(t, "protocol "+text+";state", "error: not projectable;end")
	}
	// The limits of types, and of their unfolding.
	many := strings.Repeat("AB{a", 39) + "." + strings.Repeat("}", 39)
	for _, text := range []string{".", "@.", "@@@@.", "AB{a.}", "BA{d.}", "@AB{a#0}", many, strings.Repeat("@", 39) + ".", textOf(sized(400)), deepLoop(19), strings.Repeat("@", 10) + "AB{a#9}", "CB{b.|c.|d.}"} {
		checkOutput(t, "protocol "+text+";stuck", "ok;no")
	}
	for _, text := range []string{"AB{a" + many + "}", "@" + many, strings.Repeat("@", 40) + ".", textOf(sized(401)), textOf(message("AB", branch("a", sized(400))))} {
		checkOutput(t, "protocol "+text+";stuck", "error: invalid protocol;no")
	}
}

// TestRefusedProtocols has protocols that are refused, so that the elder protocol and its network stay.
func TestRefusedProtocols(t *testing.T) {
	for _, refused := range append(unprojectables(), invalidProtocols()...) {
		message := "error: invalid protocol"
		if slices.Contains(unprojectables(), refused) {
			message = "error: not projectable"
		}
		line := ";protocol " + refused
		checkOutput(t, "protocol AB{aBC{b.}};send A B a"+line+";state;roles;project C;receive B A a"+line+line+";enabled;protocol CA{d.}"+line+";state;roles",
			"ok;ok;"+message+";A .;B A?{aC!{b.}};C B?{b.};AB a;end;roles ABC;B?{b.};ok;"+message+";"+message+";B!Cb end;ok;"+message+";A C?{d.};B .;C A!{d.};end;roles AC")
		// A refused protocol does not bring the elder one back to its start.
		checkOutput(t, "protocol AB{a.}"+line+";send A B a"+line+";send A B a;finished"+line+";receive B A a;finished",
			"ok;"+message+";ok;"+message+";error: not enabled;no;"+message+";ok;yes")
	}
}

// TestLaterProtocols has protocols after actions: their networks start with empty queues.
func TestLaterProtocols(t *testing.T) {
	checkOutput(t, "protocol AB{a.};send A B a;protocol AB{a.};state;send A B a;receive B A a;finished;protocol AB{a.};finished;enabled",
		"ok;ok;ok;A B!{a.};B A?{a.};C .;end;ok;ok;yes;ok;no;A!Ba end")
	checkOutput(t, "protocol AB{a.};roles;protocol BC{b.};roles;state;project A;project C;send A B a;send B C b;protocol .;roles;state;finished;project B",
		"ok;roles AB;ok;roles BC;A .;B C!{b.};C B?{b.};end;.;B?{b.};error: not enabled;ok;ok;roles ;A .;B .;C .;end;yes;.")
	checkOutput(t, "protocol @AB{a#0};send A B a;send A B a;protocol @AC{a#0};state;check", "ok;ok;ok;ok;A @C!{a#0};B .;C @A?{a#0};end;states 4;safe")
}

func TestProjectCommand(t *testing.T) {
	for _, role := range []string{"D", "a", "b", "AB", "ABC", "AA", "0", "1", ".", "-", "project", "A.", "á"} {
		checkOutput(t, "protocol AB{a.};project "+role, "ok;error: no projection")
	}
	// C does not occur, or only some of the roles do.
	checkOutput(t, "protocol AB{a.};project A;project B;project C", "ok;B!{a.};A?{a.};.")
	checkOutput(t, "protocol @CA{a#0|d.};project A;project B;project C", "ok;@C?{a#0|d.};.;@A!{a#0|d.}")
	checkOutput(t, "protocol AB{aBC{cCA{d.}}|bBC{d.}};project A;project B;project C", "ok;B!{aC?{d.}|b.};A?{aC!{c.}|bC!{d.}};B?{cA!{d.}|d.}")
	checkOutput(t, "protocol AB{aBC{c@CB{a#0}}|bBC{d.}};project B;project C;project A", "ok;A?{aC!{c@C?{a#0}}|bC!{d.}};B?{c@B!{a#0}|d.};B!{a.|b.}")
	// The projection is that of the protocol, whatever has happened since.
	checkOutput(t, "protocol AB{aBC{b.}};send A B a;project A;receive B A a;project A;project B;send B C b;receive C B b;project C;finished",
		"ok;ok;B!{a.};ok;B!{a.};A?{aC!{b.}};ok;ok;B?{b.};yes")
}

func TestSubtypeCommand(t *testing.T) {
	types := []string{".", "@.", "B!{a.}", "B!{a.|b.}", "B?{a.}", "B?{a.|b.}", "C!{a.}", "@B!{a#0}", "B!{a@B!{a#0}}", "@B!{a#0|b.}", "@B?{a#0}", "@B?{a#0|b.}", "A!{a.|b.|c.|d.}", "A?{a.|b.|c.|d.}", "A?{a.|c.}", "@@A?{aA!{d#1}}", strings.Repeat("@", 10) + "B!{a#9}"}
	invalid := []string{"x", "B!{a.", "B!{a.}}", "B!{}", "B!a", "D!{a.}", "B!{e.}", "B!{b.|a.}", "B!{a.|a.}", "#0", "@#0", "B!{a#0}", "@B!{a#1}", "@@@@@@@@@@@B!{a#10}", "..", "AB{a.}", "B!!{a.}", "B{a.}", strings.Repeat("B!{a", 40) + "." + strings.Repeat("}", 40), textOfLocal(sizedLocal(401))}
	for _, a := range types {
		for _, b := range types {
			if got := checkScript(t, "subtype "+a+" "+b); got != "yes\n" && got != "no\n" {
				t.Errorf("subtype %s %s = %q", a, b, got)
			}
		}
		for _, b := range invalid {
			checkOutput(t, "subtype "+a+" "+b+";subtype "+b+" "+a, "error: invalid type;error: invalid type")
		}
	}
	for i, a := range invalid {
		checkOutput(t, "subtype "+a+" "+a+";subtype "+a+" "+invalid[(i+1)%len(invalid)], "error: invalid type;error: invalid type")
	}
	checkOutput(t, "subtype B!{a.} B!{a.|b.};subtype B!{a.|b.} B!{a.};subtype B?{a.|b.} B?{a.};subtype B?{a.} B?{a.|b.};subtype @B!{a#0} B!{a@B!{a#0}};subtype B!{a@B!{a#0}} @B!{a#0};subtype . .;subtype . B!{a.}",
		"yes;no;yes;no;yes;yes;yes;no")
	largest := textOfLocal(sizedLocal(400))
	checkOutput(t, "subtype "+largest+" "+largest, "yes")
	// The protocol does not matter.
	checkOutput(t, "protocol AB{a.};subtype B!{a.} B!{a.|b.};subtype x .;state", "ok;yes;error: invalid type;A B!{a.};B A?{a.};C .;end")
}

// TestActionCommands has actions that are enabled, and others.
func TestActionCommands(t *testing.T) {
	begin, sends := "protocol @AB{aAC{a#0}|bAC{b.}};", "send A B a;send A C a;"
	for _, line := range []string{
		"send A B c", "send A B d", "send A C a", "send A A a", "send B A a", "send B C a", "send C A a", "send C C a", "receive A B a", "receive C A b", "receive B A b", "receive B C a", "receive B B a", "receive C B a",
		"send D B a", "send A D a", "send a B a", "send A b a", "send AB B a", "send A BC a", "send 0 1 a", "send A B e", "send A B A", "send A B aa", "send A B ab", "send A B .", "send . . .", "send A B 0", "send B a A", "send a A B",
		"receive D A a", "receive B D a", "receive b A a", "receive B a a", "receive B A e", "receive B A A", "receive B A aa", "receive BA A a", "receive B AC a",
	} {
		checkOutput(t, begin+line+";enabled", "ok;error: not enabled;A!Ba A!Bb end")
		checkOutput(t, begin+sends+line+";state", "ok;ok;ok;error: not enabled;A @B!{aC!{a#0}|bC!{b.}};B @A?{a#0|b.};C @A?{a#0|b.};AB a;AC a;end")
	}
	checkOutput(t, begin+"enabled;send A B b;enabled;receive B A b;enabled;send A C b;enabled;receive C A b;enabled",
		"ok;A!Ba A!Bb end;ok;A!Cb B?Ab end;ok;A!Cb end;ok;C?Ab end;ok;end")
}

// TestFullQueues fills a queue, and sends once more.
func TestFullQueues(t *testing.T) {
	begin := "protocol @AB{a#0|b.};send A B a;send A B a;enabled;"
	checkOutput(t, begin+"send A B b;state;enabled;send A B b;receive B A b;receive B A a;receive B A a;receive B A b;finished",
		"ok;ok;ok;A!Ba A!Bb B?Aa end;ok;A .;B @A?{a#0|b.};C .;AB aab;end;B?Aa end;error: not enabled;error: not enabled;ok;ok;ok;yes")
	checkOutput(t, begin+"send A B a;send A B a;send A B b;enabled;receive B A a;enabled;send A B b;send A B b;state",
		"ok;ok;ok;A!Ba A!Bb B?Aa end;ok;error: not enabled;error: not enabled;B?Aa end;ok;A!Ba A!Bb B?Aa end;ok;error: not enabled;A .;B @A?{a#0|b.};C .;AB aab;end")
	// The last of the labels is another one.
	checkOutput(t, "protocol CB{dCB{cCB{bCB{a.}}}};send C B d;send C B c;send C B b;send C B a;state;receive B C d;send C B a;state;stuck",
		"ok;ok;ok;ok;error: not enabled;A .;B C?{dC?{cC?{bC?{a.}}}};C B!{a.};CB dcb;end;ok;ok;A .;B C?{cC?{bC?{a.}}};C .;CB cba;end;no")
}

// TestManyQueues has as many queues that are not empty as there can be, in
// every order of the roles.
func TestManyQueues(t *testing.T) {
	for _, order := range []string{"ABC", "ACB", "BAC", "BCA", "CAB", "CBA"} {
		x, y, z := order[:1], order[1:2], order[2:]
		protocol := linesOf("protocol " + x + y + "{a" + x + z + "{b" + y + z + "{c" + x + y + "{d.}}}}")
		script := protocol + linesOf(";send x y a;receive y x a;send x z b;send y z c;send x y d;state;enabled")
		for i, name := range []string{"x", "y", "z"} {
			script = strings.ReplaceAll(script, " "+name, " "+order[i:i+1])
		}
		queues := []string{x + y + " d\n", x + z + " b\n", y + z + " c\n"}
		slices.Sort(queues)
		output := checkScript(t, script)
		if !strings.Contains(output, "\n"+strings.Join(queues, "")+"end\n") || strings.Contains(output, "error") {
			t.Errorf("RunScript of %s = %q, want %q", order, output, queues)
		}
	}
	checkOutput(t, "protocol AB{aAC{bBC{cAB{d.}}}};send A B a;receive B A a;send A C b;send B C c;send A B d;state;enabled",
		"ok;ok;ok;ok;ok;ok;A .;B A?{d.};C A?{bB?{c.}};AB d;AC b;BC c;end;B?Ad C?Ab end")
	checkOutput(t, "protocol CB{aCA{bBA{cCB{d.}}}};send C B a;receive B C a;send C A b;send B A c;send C B d;state;enabled",
		"ok;ok;ok;ok;ok;ok;A C?{bB?{c.}};B C?{d.};C .;BA c;CA b;CB d;end;A?Cb B?Cd end")
}

// TestFinishedAndStuck has networks that are finished, and others. Promise 4
// says that none of a protocol is stuck, so a script cannot reach one that is.
func TestFinishedAndStuck(t *testing.T) {
	checkOutput(t, "finished;stuck;protocol .;finished;stuck;protocol @@.;finished;stuck;enabled", "no;no;ok;yes;no;ok;yes;no;end")
	checkOutput(t, "protocol AB{a.};finished;stuck;send A B a;finished;stuck;receive B A a;finished;stuck;state;enabled;check",
		"ok;no;no;ok;no;no;ok;yes;no;A .;B .;C .;end;end;states 1;safe")
	checkOutput(t, "protocol @AB{a#0};finished;stuck;send A B a;receive B A a;finished;stuck;send A B a;send A B a;send A B a;finished;stuck",
		"ok;no;no;ok;ok;no;no;ok;ok;ok;no;no")
	// An action is enabled but refused, because what follows it is too deep once unfolded.
	checkOutput(t, "protocol AB{a"+deepLoop(25)+"};enabled;send A B a;enabled;finished;stuck;check", "ok;A!Ba end;error: not enabled;A!Ba end;no;no;states 1;safe")
}

// TestCheckCommand has configurations from which fewer than 80 others are reached, 80, and more.
func TestCheckCommand(t *testing.T) {
	for _, c := range [][2]string{
		{".", "states 1"}, {"AB{a.}", "states 3"}, {"@AB{a#0}", "states 4"}, {"@AB{a#0|b.}", "states 8"}, {"AB{aBC{c.}|bBC{d.}}", "states 8"}, {"AB{aBC{cCA{d.}}|bBC{d.}}", "states 10"}, {"AB{aBC{cCA{d.}}|bBC{dCA{d.}}}", "states 10"},
		{"@BA{bAC{bAC{aCB{a#0}|bCB{b#0}|dCB{d#0}}}|cAC{c@#1}}", "states 79"}, {"@@CB{a#0|c#1|d#0}", "states 80"}, {"CA{aAB{a@@@@@.}|cAB{c@@@@CB{cBA{c#2}}}}", "states 80 incomplete"}, {"@AB{aAC{aBC{a#0}}}", "states 80 incomplete"},
	} {
		checkOutput(t, "protocol "+c[0]+";check;check", "ok;"+c[1]+";safe;"+c[1]+";safe")
	}
	// It starts with the current network.
	checkOutput(t, "protocol AB{aBC{c.}|bBC{d.}};check;send A B a;check;receive B A a;check;send B C c;check;receive C B c;check",
		"ok;states 8;safe;ok;states 4;safe;ok;states 3;safe;ok;states 2;safe;ok;states 1;safe")
	checkOutput(t, "protocol CA{aAB{a@@@@@.}|cAB{c@@@@CB{cBA{c#2}}}};check;send C A a;check", "ok;states 80 incomplete;safe;ok;states 4;safe")
}

func TestRolesCommand(t *testing.T) {
	for _, c := range [][2]string{{".", ""}, {"@.", ""}, {"AB{a.}", "AB"}, {"BA{a.}", "AB"}, {"CA{a.}", "AC"}, {"CB{a.}", "BC"}, {"@CB{aBC{b#0}}", "BC"}, {"CB{aBA{b.}}", "ABC"}, {"@BA{a#0|bAC{c.}}", "-"}} {
		want := "ok;roles " + c[1]
		if c[1] == "-" {
			want = "error: not projectable;roles "
		}
		checkOutput(t, "protocol "+c[0]+";roles", want)
	}
	// The roles are those of the protocol, whatever has happened since.
	checkOutput(t, "protocol AB{aBC{b.}};send A B a;receive B A a;roles;send B C b;receive C B b;roles", "ok;ok;ok;roles ABC;ok;ok;roles ABC")
}
