package compile

import "testing"

// P14.1: receive, with and without a time, with clauses and without.
func TestReceives(t *testing.T) {
	wantKinds(t, []kind{
		{"receive Y -> Y end", "recv 0 0 2 [3 2] V2 -> []; load 2; jump 5", "recv 0 0 2 [3 2] V2 -> []; load 2; ret", 3},
		{
			"receive {Y, X} when (Y > X), is_atom(X) -> Y; Z -> {Z}, X after 7 -> g(X), b end",
			"const 7; wait; recv 1 0 2 [5 7 12] {V2, V1} when (V2 > V1), is_atom(V1) -> []; V2 -> []; load 2; jump 17; load 2; tuple 1; pop; load 1; jump 17; load 1; call m:g/1; pop; const b; jump 17",
			"const 7; wait; recv 1 0 2 [5 7 12] {V2, V1} when (V2 > V1), is_atom(V1) -> []; V2 -> []; load 2; ret; load 2; tuple 1; pop; load 1; ret; load 1; call m:g/1; pop; const b; ret", 3,
		},
		{"receive after X -> n:h() end", "load 1; wait; recv 1 0 2 [5]; call n:h/0; jump 7", "load 1; wait; recv 1 0 2 [5]; tail n:h/0", 2},
		{"receive _ -> g(X); {_, [Y|Y]} -> n:h() end", "recv 0 0 2 [3 6 2] _ -> []; {_, [V2|V2]} -> []; load 1; call m:g/1; jump 8; call n:h/0; jump 8", "recv 0 0 2 [3 5 2] _ -> []; {_, [V2|V2]} -> []; load 1; tail m:g/1; tail n:h/0", 3},
		// What the time takes stays taken; what it binds is bound behind after alone.
		{
			"receive Y -> Y after (Y = 7) -> (Z = Y) end",
			"const 7; store 2; load 2; match 8 3 V3; load 2; jump 9; fail 1 badmatch; wait; recv 1 0 4 [11 13] V4 -> []; load 4; jump 21; load 3; store 4; load 4; match 19 5 V5; load 4; jump 20; fail 1 badmatch; jump 21",
			"const 7; store 2; load 2; match 8 3 V3; load 2; jump 9; fail 1 badmatch; wait; recv 1 0 4 [11 13] V4 -> []; load 4; ret; load 3; store 4; load 4; match 19 5 V5; load 4; jump 20; fail 1 badmatch; ret", 6,
		},
		// Behind it, and behind each of its clauses, names and slots are as ahead of it.
		one("{receive {Y, Z} -> Y; Z -> (W = Z) after (W = 7) -> W end, (Y = 1), (W = 2)}",
			"const 7; store 2; load 2; match 8 3 V3; load 2; jump 9; fail 1 badmatch; wait; recv 1 0 4 [11 13 21] {V4, V5} -> []; V4 -> []; load 4; jump 23; load 4; store 5; load 5; match 19 6 V6; load 5; jump 20; fail 1 badmatch; jump 23; load 3; jump 23; const 1; store 2; load 2; match 29 3 V3; load 2; jump 30; fail 1 badmatch; const 2; store 4; load 4; match 36 5 V5; load 4; jump 37; fail 1 badmatch; tuple 3", 7),
	})
}

// P14.1: tables stand in the order of their receives: that of the time, of the receive itself, of its clauses, of what stands behind after; function by function.
func TestTables(t *testing.T) {
	const e = "receive 1 -> receive Y -> Y end; Z -> receive Z -> 1 after 5 -> 2 end after receive W -> W end -> receive V -> V after 1 -> 1 end end"
	wantCode(t, "module m. f() -> "+e+".", "m:f/0 0 1",
		"recv 0 0 0 [1 0] V0 -> []; load 0; jump 3; wait; recv 1 1 0 [5 8 15] 1 -> []; V0 -> []; recv 0 2 0 [6 5] V0 -> []; load 0; ret; const 5; wait; recv 1 3 1 [11 13] V0 -> []; const 1; ret; const 2; ret; const 1; wait; recv 1 4 0 [18 20] V0 -> []; load 0; ret; const 1; ret; fail 0 function_clause")
	// Of several functions and clauses.
	wantCode(t, "module m. f(X) -> {receive X -> 1 end, receive Y -> {Y} end}; f(_) -> receive a -> b end. module n. f() -> g(). g() -> 1. module o. f(A, B) -> receive {A, B, C} -> C after B -> A end.", "m:f/1 0 3, n:f/0 19 0, n:g/0 21 0, o:f/2 24 5",
		"load 0; match 11 1 V1; recv 0 0 2 [3 2] V1 -> []; const 1; jump 5; recv 0 1 2 [6 5] V2 -> []; load 2; tuple 1; jump 9; tuple 2; ret; pop; load 0; match 17 1 _; recv 0 2 1 [15 14] a -> []; const b; ret; pop; fail 0 function_clause; tail n:g/0; fail 0 function_clause; const 1; ret; fail 0 function_clause; load 0; match 35 2 V2; load 1; match 35 3 V3; load 3; wait; recv 1 3 4 [31 33] {V2, V3, V4} -> []; load 4; ret; load 2; ret; pop; fail 0 function_clause")
}
