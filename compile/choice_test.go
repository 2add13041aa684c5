package compile

import "testing"

// one is an expression that goes back behind all of it.
func one(e, ops string, slots int) kind { return kind{e, ops, ops + "; ret", slots} }

// P14.1: matches, and what they bind for the parts behind them.
func TestMatches(t *testing.T) {
	wantKinds(t, []kind{
		one("(Y = X)", "load 1; store 2; load 2; match 8 3 V3; load 2; jump 9; fail 1 badmatch", 4),
		one("(X = 7)", "const 7; store 2; load 2; match 8 3 V1; load 2; jump 9; fail 1 badmatch", 3),
		one("(_ = 7)", "const 7; store 2; load 2; match 8 3 _; load 2; jump 9; fail 1 badmatch", 3),
		one("(a = X)", "load 1; store 2; load 2; match 8 3 a; load 2; jump 9; fail 1 badmatch", 3),
		one("({Y, [Y|_], X, Z} = X)", "load 1; store 2; load 2; match 8 3 {V3, [V3|_], V1, V4}; load 2; jump 9; fail 1 badmatch", 5),
		one("(Y = g(X))", "load 1; call m:g/1; store 2; load 2; match 9 3 V3; load 2; jump 10; fail 1 badmatch", 4),
		one("(Y = (Z = X))", "load 1; store 2; load 2; match 8 3 V3; load 2; jump 9; fail 1 badmatch; store 4; load 4; match 14 5 V5; load 4; jump 15; fail 1 badmatch", 6),
		one("({Y, Z} = (Z = X))", "load 1; store 2; load 2; match 8 3 V3; load 2; jump 9; fail 1 badmatch; store 4; load 4; match 14 5 {V5, V3}; load 4; jump 15; fail 1 badmatch", 6),
		one("{(Y = X), Y}", "load 1; store 2; load 2; match 8 3 V3; load 2; jump 9; fail 1 badmatch; load 3; tuple 2", 4),
		one("[(Y = 1)|(Z = Y)]", "const 1; store 2; load 2; match 8 3 V3; load 2; jump 9; fail 1 badmatch; load 3; store 4; load 4; match 15 5 V5; load 4; jump 16; fail 1 badmatch; cons", 6),
		one("((Y = 1) + Y)", "const 1; store 2; load 2; match 8 3 V3; load 2; jump 9; fail 1 badmatch; load 3; arith +", 4),
		one("X((Y = 1), Y)", "load 1; const 1; store 2; load 2; match 9 3 V3; load 2; jump 10; fail 1 badmatch; load 3; apply 2", 4),
		one("exit((Y = 1), Y)", "const 1; store 2; load 2; match 8 3 V3; load 2; jump 9; fail 1 badmatch; load 3; built exit 2", 4),
		{"g((Y = 1))", "const 1; store 2; load 2; match 8 3 V3; load 2; jump 9; fail 1 badmatch; call m:g/1", "const 1; store 2; load 2; match 8 3 V3; load 2; jump 9; fail 1 badmatch; tail m:g/1", 4},
	})
	// What a match takes and binds stays so behind it, to the end of its clause.
	wantCode(t, "module m. f() -> (X = 1), {X, (Y = 2)}, Y; f() -> (Y = 3).", "m:f/0 0 4",
		"const 1; store 0; load 0; match 6 1 V1; load 0; jump 7; fail 1 badmatch; pop; load 1; const 2; store 2; load 2; match 15 3 V3; load 2; jump 16; fail 1 badmatch; tuple 2; pop; load 3; ret; const 3; store 0; load 0; match 26 1 V1; load 0; jump 27; fail 1 badmatch; ret; fail 0 function_clause")
}

// P14.1: case, of one clause and of several, in one another; which slots names get in its clauses and behind it.
func TestCases(t *testing.T) {
	wantKinds(t, []kind{
		{
			"case X of 1 -> b; _ -> X end",
			"load 1; store 2; load 2; match 8 3 1; const b; jump 16; pop; load 2; match 13 3 _; load 1; jump 16; pop; load 2; fail 1 case_clause",
			"load 1; store 2; load 2; match 8 3 1; const b; ret; pop; load 2; match 13 3 _; load 1; ret; pop; load 2; fail 1 case_clause", 3,
		},
		{
			"case X of Y when (Y > 1), is_integer(X) -> Y, g(Y); {X, Y} -> Y end",
			"load 1; store 2; load 2; match 12 3 V3; guard 13 (V3 > 1), is_integer(V1); load 3; pop; load 3; call m:g/1; jump 20; pop; load 2; match 17 3 {V1, V3}; load 3; jump 20; pop; load 2; fail 1 case_clause",
			"load 1; store 2; load 2; match 11 3 V3; guard 12 (V3 > 1), is_integer(V1); load 3; pop; load 3; tail m:g/1; pop; load 2; match 16 3 {V1, V3}; load 3; ret; pop; load 2; fail 1 case_clause", 4,
		},
		// Its expression is in no tail position, and binds for its clauses.
		{
			"case n:h() of 1 -> n:h() end",
			"call n:h/0; store 2; load 2; match 8 3 1; call n:h/0; jump 11; pop; load 2; fail 1 case_clause",
			"call n:h/0; store 2; load 2; match 7 3 1; tail n:h/0; pop; load 2; fail 1 case_clause", 3,
		},
		{
			"case (Y = X) of Y -> Y; Z -> {Y, Z} end",
			"load 1; store 2; load 2; match 8 3 V3; load 2; jump 9; fail 1 badmatch; store 4; load 4; match 14 5 V3; load 3; jump 24; pop; load 4; match 21 5 V5; load 3; load 5; tuple 2; jump 24; pop; load 4; fail 1 case_clause",
			"load 1; store 2; load 2; match 8 3 V3; load 2; jump 9; fail 1 badmatch; store 4; load 4; match 14 5 V3; load 3; ret; pop; load 4; match 21 5 V5; load 3; load 5; tuple 2; ret; pop; load 4; fail 1 case_clause", 6,
		},
		{
			"case case X of Y -> Y end of Y -> case Y of Z -> n:h() end end",
			"load 1; store 2; load 2; match 8 3 V3; load 3; jump 11; pop; load 2; fail 1 case_clause; store 2; load 2; match 24 3 V3; load 3; store 4; load 4; match 20 5 V5; call n:h/0; jump 23; pop; load 4; fail 1 case_clause; jump 27; pop; load 2; fail 1 case_clause",
			"load 1; store 2; load 2; match 8 3 V3; load 3; jump 11; pop; load 2; fail 1 case_clause; store 2; load 2; match 22 3 V3; load 3; store 4; load 4; match 19 5 V5; tail n:h/0; pop; load 4; fail 1 case_clause; pop; load 2; fail 1 case_clause", 6,
		},
		// Behind it, and behind each of its clauses, names and slots are as ahead of it.
		one("{case X of {Y, Z} -> (W = Y); Z -> Z end, (Y = 1), (W = 2)}",
			"load 1; store 2; load 2; match 14 3 {V3, V4}; load 3; store 5; load 5; match 12 6 V6; load 5; jump 13; fail 1 badmatch; jump 22; pop; load 2; match 19 3 V3; load 3; jump 22; pop; load 2; fail 1 case_clause; const 1; store 2; load 2; match 28 3 V3; load 2; jump 29; fail 1 badmatch; const 2; store 4; load 4; match 35 5 V5; load 4; jump 36; fail 1 badmatch; tuple 3", 7),
	})
}

// P14.1: try, of each class; what its expression takes and binds is given back ahead of its clauses.
func TestTries(t *testing.T) {
	wantKinds(t, []kind{
		{
			"try X catch exit:_ -> 1 end",
			"try 6; load 1; end; jump 18; store 3; store 2; load 2; match 14 4 exit; load 3; match 14 4 _; const 1; jump 18; pop; load 2; load 3; fail 2 raise",
			"try 6; load 1; end; ret; store 3; store 2; load 2; match 14 4 exit; load 3; match 14 4 _; const 1; ret; pop; load 2; load 3; fail 2 raise", 4,
		},
		{
			"try g(X) catch error:Y -> Y; C:{_, R} when (R > C) -> {C, R, X} end",
			"try 7; load 1; call m:g/1; end; jump 30; store 3; store 2; load 2; match 15 4 error; load 3; match 15 4 V4; load 4; jump 30; pop; load 2; match 26 4 V4; load 3; match 26 5 {_, V5}; guard 27 (V5 > V4); load 4; load 5; load 1; tuple 3; jump 30; pop; load 2; load 3; fail 2 raise",
			"try 7; load 1; call m:g/1; end; ret; store 3; store 2; load 2; match 15 4 error; load 3; match 15 4 V4; load 4; ret; pop; load 2; match 26 4 V4; load 3; match 26 5 {_, V5}; guard 27 (V5 > V4); load 4; load 5; load 1; tuple 3; ret; pop; load 2; load 3; fail 2 raise", 6,
		},
		{
			"try (Y = X) catch Y:Y -> Y end",
			"try 12; load 1; store 2; load 2; match 9 3 V3; load 2; jump 10; fail 1 badmatch; end; jump 24; store 3; store 2; load 2; match 20 4 V4; load 3; match 20 5 V4; load 4; jump 24; pop; load 2; load 3; fail 2 raise",
			"try 12; load 1; store 2; load 2; match 9 3 V3; load 2; jump 10; fail 1 badmatch; end; ret; store 3; store 2; load 2; match 20 4 V4; load 3; match 20 5 V4; load 4; ret; pop; load 2; load 3; fail 2 raise", 5,
		},
		// Its clauses are in tail position, its expression never is.
		{
			"try n:h() catch throw:X -> g(X), g(X) end",
			"try 6; call n:h/0; end; jump 22; store 3; store 2; load 2; match 18 4 throw; load 3; match 18 4 V1; load 1; call m:g/1; pop; load 1; call m:g/1; jump 22; pop; load 2; load 3; fail 2 raise",
			"try 6; call n:h/0; end; ret; store 3; store 2; load 2; match 17 4 throw; load 3; match 17 4 V1; load 1; call m:g/1; pop; load 1; tail m:g/1; pop; load 2; load 3; fail 2 raise", 4,
		},
		{
			"try try X catch _:_ -> n:h() end catch throw:Y -> try Y catch A:B -> {A, B} end end",
			"try 21; try 7; load 1; end; jump 19; store 3; store 2; load 2; match 15 4 _; load 3; match 15 4 _; call n:h/0; jump 19; pop; load 2; load 3; fail 2 raise; end; jump 50; store 3; store 2; load 2; match 46 4 throw; load 3; match 46 4 V4; try 31; load 4; end; jump 45; store 6; store 5; load 5; match 41 7 V7; load 6; match 41 8 V8; load 7; load 8; tuple 2; jump 45; pop; load 5; load 6; fail 2 raise; jump 50; pop; load 2; load 3; fail 2 raise",
			"try 21; try 7; load 1; end; jump 19; store 3; store 2; load 2; match 15 4 _; load 3; match 15 4 _; call n:h/0; jump 19; pop; load 2; load 3; fail 2 raise; end; ret; store 3; store 2; load 2; match 45 4 throw; load 3; match 45 4 V4; try 31; load 4; end; ret; store 6; store 5; load 5; match 41 7 V7; load 6; match 41 8 V8; load 7; load 8; tuple 2; ret; pop; load 5; load 6; fail 2 raise; pop; load 2; load 3; fail 2 raise", 9,
		},
		one("{try (Y = X) catch _:Z -> (W = Z); exit:_ -> 1 end, (Y = 2), (Z = 3)}",
			"try 12; load 1; store 2; load 2; match 9 3 V3; load 2; jump 10; fail 1 badmatch; end; jump 37; store 3; store 2; load 2; match 26 4 _; load 3; match 26 4 V4; load 4; store 5; load 5; match 24 6 V6; load 5; jump 25; fail 1 badmatch; jump 37; pop; load 2; match 33 4 exit; load 3; match 33 4 _; const 1; jump 37; pop; load 2; load 3; fail 2 raise; const 2; store 2; load 2; match 43 3 V3; load 2; jump 44; fail 1 badmatch; const 3; store 4; load 4; match 50 5 V5; load 4; jump 51; fail 1 badmatch; tuple 3", 7),
	})
}
