/- The walk of the statement AddrBack, where the first address is one and the second is none. -/
import Derived.Test.YtdbhhlggddbehaaDoorBackMath
import Derived.Deep.QuietTactic
namespace Go.Proofs.YtdbhhlggddbehaaDoor
open Go.RowKit Go.Shelf

set_option maxHeartbeats 16000000 in
set_option maxRecDepth 100000 in
theorem back_half00 (a b : List Int) (n : Int) (s : ByteArray) (w : World) (hA : LaidA w) (hP : Pow10 w) (ha : Ok6 a) (hla : a.length = 8) (hb : ¬ Ok6 b) (hn : n < 0 ∨ 4294967295 < n) (hz : AM.parseF s.data.toList = none) :
    Calls Tryd.prog 3 #[six a, six b, .int .i64 n, .string s] w fun e w' => e = .returned (.bool true) ∧ Below w.heap.size w w' := by
  have hV := Inv.start w a b hA hP
  have hpa := fun w h => print_ok a w ha h
  have hra := fun W h => parse_yes ⟨(AM.tx a).toArray⟩ W h a (by simpa using AM.parse_tx ha hla)
  unfold strv at hpa
  generalize (⟨(AM.tx a).toArray⟩ : ByteArray) = ta at hpa hra
  have hi0 := fun W => in_bad2 a b 0 W ha hb
  have hi128 := fun W => in_bad2 a b 128 W ha hb
  have hEaa := eq_six a a
  rw [(eqz_iff a a).2 (fun _ _ => rfl)] at hEaa
  clear ha hb
  unfold six at hpa hra hi0 hi128 ⊢
  have hpn : ∀ W, LaidA W → Calls Tryd.prog 7 #[.string s] W fun e w' => e = .returned (.tuple #[.agg #[.int .i64 0, .int .i64 0, .int .i64 0, .int .i64 0, .int .i64 0, .int .i64 0, .int .i64 0, .int .i64 0], .iface 45 (.int .i64 5)]) ∧ Below W.heap.size W w' := fun W h => parse_no s W h hz
  clear hz
  go_enter Tryd.func3, Tryd.ntmps3
  go_wp2_with (first
    | (go_at_call_of 4 (Value.agg #[.int .i64 8193, .int .i64 3512, .int .i64 0, .int .i64 0, .int .i64 1, .int .i64 0, .int .i64 0, .int .i64 1]); refine (fact_print _ hV.2.2.1.1).mono ?_; rintro e w1 ⟨rfl, hb1⟩; replace hV := hV.kept hb1)
    | (go_at_call 5; refine (print4_bad n _ hn).mono ?_; rintro e w2 ⟨rfl, rfl⟩)
    | (go_at_call_of 7 (Value.string s); refine (hpn _ hV.2.2.1).mono ?_; rintro e w4 ⟨rfl, hb4⟩; replace hV := hV.kept hb4; have hlt8 := hV.2.1.lt; have hb5 : Below w4.heap.size w4 (w4.alloc (.cells #[.int .i64 0, .int .i64 0, .int .i64 0, .int .i64 0, .int .i64 0, .int .i64 0, .int .i64 0, .int .i64 0] 23)) := (Below.refl _ _).alloc (Nat.le_refl _) _; replace hV := hV.kept hb5; have hX := six_new [] w4; have ca := hV.ca; have cb := hV.cb)
    | (go_at_call_of 4 (Value.agg #[.int .i64 (el a 0), .int .i64 (el a 1), .int .i64 (el a 2), .int .i64 (el a 3), .int .i64 (el a 4), .int .i64 (el a 5), .int .i64 (el a 6), .int .i64 (el a 7)]); refine (hpa _ hV.2.2.1.1).mono ?_; rintro e w7 ⟨rfl, hb7⟩; replace hV := hV.kept hb7; replace hX := SixIn.kept hX hb7)
    | (go_at_call_of 7 (Value.string ta); refine (hra _ hV.2.2.1).mono ?_; rintro e w8 ⟨rfl, hb8⟩; replace hV := hV.kept hb8; replace hX := SixIn.kept hX hb8; clear ca cb; have cx := fun j hj => (SixIn.facts hX j hj).1; have fx := fun j hj => (SixIn.facts hX j hj).2.1; have hX9 := hX.put8 a; have hV9 := hV.put8 hA hP w4.heap.size hlt8 a; obtain ⟨w9, hw9⟩ : ∃ w9, put8 w8 w4.heap.size a = w9 := ⟨_, rfl⟩; rw [hw9] at hX9 hV9; unfold put8 at hw9; have ca := hV9.ca; have cb := hV9.cb)
    | (go_at_call_of 8 (Value.int IntKind.i64 0); refine (hi0 _).mono ?_; rintro e w10 ⟨rfl, hb10⟩; have hX10 := hX9.kept hb10; have hV10 := hV9.kept hb10; clear ca cb cx fx; have ca := hV10.ca; have cb := hV10.cb)
    | (go_at_call_of 8 (Value.int IntKind.i64 128); refine (hi128 _).mono ?_; rintro e w11 ⟨rfl, hb11⟩; have hX11 := hX10.kept hb11; have hV11 := hV10.kept hb11; clear ca cb; have ca := hV11.ca; have cb := hV11.cb; have cx := fun j hj => (SixIn.facts hX11 j hj).1))
  go_quiet (fail)
  go_wp2_with fail
  go_ret
  exact ⟨rfl, below_drewN hV11.2.2.2.2 nq⟩

set_option maxHeartbeats 16000000 in
set_option maxRecDepth 100000 in
theorem back_half01 (a b : List Int) (n : Int) (s : ByteArray) (w : World) (hA : LaidA w) (hP : Pow10 w) (ha : Ok6 a) (hla : a.length = 8) (hb : ¬ Ok6 b) (hn : n < 0 ∨ 4294967295 < n) (z : List Int) (hz : AM.parseF s.data.toList = some z) :
    Calls Tryd.prog 3 #[six a, six b, .int .i64 n, .string s] w fun e w' => e = .returned (.bool true) ∧ Below w.heap.size w w' := by
  have hV := Inv.start w a b hA hP
  have hpa := fun w h => print_ok a w ha h
  have hra := fun W h => parse_yes ⟨(AM.tx a).toArray⟩ W h a (by simpa using AM.parse_tx ha hla)
  unfold strv at hpa
  generalize (⟨(AM.tx a).toArray⟩ : ByteArray) = ta at hpa hra
  have hi0 := fun W => in_bad2 a b 0 W ha hb
  have hi128 := fun W => in_bad2 a b 128 W ha hb
  have hEaa := eq_six a a
  rw [(eqz_iff a a).2 (fun _ _ => rfl)] at hEaa
  clear ha hb
  unfold six at hpa hra hi0 hi128 ⊢
  have hpy := fun W h => parse_yes s W h z hz
  have hpz := fun W h => print_ok z W (AM.parse_is hz).1 h
  unfold strv at hpz
  rw [(AM.parse_is hz).2.2] at hpz
  have hps : (⟨s.data.toList.toArray⟩ : ByteArray) = s := by simp
  rw [hps] at hpz
  clear hps hz
  unfold six at hpy hpz
  go_enter Tryd.func3, Tryd.ntmps3
  go_wp2_with (first
    | (go_at_call_of 4 (Value.agg #[.int .i64 8193, .int .i64 3512, .int .i64 0, .int .i64 0, .int .i64 1, .int .i64 0, .int .i64 0, .int .i64 1]); refine (fact_print _ hV.2.2.1.1).mono ?_; rintro e w1 ⟨rfl, hb1⟩; replace hV := hV.kept hb1)
    | (go_at_call 5; refine (print4_bad n _ hn).mono ?_; rintro e w2 ⟨rfl, rfl⟩)
    | (go_at_call_of 7 (Value.string s); refine (hpy _ hV.2.2.1).mono ?_; rintro e w4 ⟨rfl, hb4⟩; replace hV := hV.kept hb4; have hlt8 := hV.2.1.lt; have hb5 : Below w4.heap.size w4 (w4.alloc (.cells #[.int .i64 (el z 0), .int .i64 (el z 1), .int .i64 (el z 2), .int .i64 (el z 3), .int .i64 (el z 4), .int .i64 (el z 5), .int .i64 (el z 6), .int .i64 (el z 7)] 23)) := (Below.refl _ _).alloc (Nat.le_refl _) _; replace hV := hV.kept hb5; have hX := six_new z w4; have ca := hV.ca; have cb := hV.cb)
    | (go_at_call_of 4 (Value.agg #[.int .i64 (el z 0), .int .i64 (el z 1), .int .i64 (el z 2), .int .i64 (el z 3), .int .i64 (el z 4), .int .i64 (el z 5), .int .i64 (el z 6), .int .i64 (el z 7)]); refine (hpz _ hV.2.2.1.1).mono ?_; rintro e w6 ⟨rfl, hb6⟩; replace hV := hV.kept hb6; replace hX := SixIn.kept hX hb6; clear ca cb; have ca := hV.ca; have cb := hV.cb)
    | (go_at_call_of 4 (Value.agg #[.int .i64 (el a 0), .int .i64 (el a 1), .int .i64 (el a 2), .int .i64 (el a 3), .int .i64 (el a 4), .int .i64 (el a 5), .int .i64 (el a 6), .int .i64 (el a 7)]); refine (hpa _ hV.2.2.1.1).mono ?_; rintro e w7 ⟨rfl, hb7⟩; replace hV := hV.kept hb7; replace hX := SixIn.kept hX hb7)
    | (go_at_call_of 7 (Value.string ta); refine (hra _ hV.2.2.1).mono ?_; rintro e w8 ⟨rfl, hb8⟩; replace hV := hV.kept hb8; replace hX := SixIn.kept hX hb8; clear ca cb; have cx := fun j hj => (SixIn.facts hX j hj).1; have fx := fun j hj => (SixIn.facts hX j hj).2.1; have hX9 := hX.put8 a; have hV9 := hV.put8 hA hP w4.heap.size hlt8 a; obtain ⟨w9, hw9⟩ : ∃ w9, put8 w8 w4.heap.size a = w9 := ⟨_, rfl⟩; rw [hw9] at hX9 hV9; unfold put8 at hw9; have ca := hV9.ca; have cb := hV9.cb)
    | (go_at_call_of 8 (Value.int IntKind.i64 0); refine (hi0 _).mono ?_; rintro e w10 ⟨rfl, hb10⟩; have hX10 := hX9.kept hb10; have hV10 := hV9.kept hb10; clear ca cb cx fx; have ca := hV10.ca; have cb := hV10.cb)
    | (go_at_call_of 8 (Value.int IntKind.i64 128); refine (hi128 _).mono ?_; rintro e w11 ⟨rfl, hb11⟩; have hX11 := hX10.kept hb11; have hV11 := hV10.kept hb11; clear ca cb; have ca := hV11.ca; have cb := hV11.cb; have cx := fun j hj => (SixIn.facts hX11 j hj).1))
  go_quiet (fail)
  go_wp2_with fail
  go_ret
  exact ⟨rfl, below_drewN hV11.2.2.2.2 nq⟩

set_option maxHeartbeats 16000000 in
set_option maxRecDepth 100000 in
theorem back_half10 (a b : List Int) (n : Int) (s : ByteArray) (w : World) (hA : LaidA w) (hP : Pow10 w) (ha : Ok6 a) (hla : a.length = 8) (hb : ¬ Ok6 b) (hn : 0 ≤ n ∧ n ≤ 4294967295) (hz : AM.parseF s.data.toList = none) :
    Calls Tryd.prog 3 #[six a, six b, .int .i64 n, .string s] w fun e w' => e = .returned (.bool true) ∧ Below w.heap.size w w' := by
  have hV := Inv.start w a b hA hP
  have hpa := fun w h => print_ok a w ha h
  have hra := fun W h => parse_yes ⟨(AM.tx a).toArray⟩ W h a (by simpa using AM.parse_tx ha hla)
  unfold strv at hpa
  generalize (⟨(AM.tx a).toArray⟩ : ByteArray) = ta at hpa hra
  have hi0 := fun W => in_bad2 a b 0 W ha hb
  have hi128 := fun W => in_bad2 a b 128 W ha hb
  have hEaa := eq_six a a
  rw [(eqz_iff a a).2 (fun _ _ => rfl)] at hEaa
  clear ha hb
  unfold six at hpa hra hi0 hi128 ⊢
  obtain ⟨m, rfl⟩ : ∃ m : Nat, n = m := ⟨n.toNat, by omega⟩
  have hm : m ≤ 4294967295 := by omega
  have hp4 := fun W h => print4_ok m W hm h
  unfold strv at hp4
  have hr4 := fun W h1 h2 h3 => parse4_yes ⟨(AM.t4 m).toArray⟩ W h1 h2 h3 m (by simpa using AM.parse4_t4 (n := m) (by omega))
  generalize (⟨(AM.t4 m).toArray⟩ : ByteArray) = tm at hp4 hr4
  have hpn : ∀ W, LaidA W → Calls Tryd.prog 7 #[.string s] W fun e w' => e = .returned (.tuple #[.agg #[.int .i64 0, .int .i64 0, .int .i64 0, .int .i64 0, .int .i64 0, .int .i64 0, .int .i64 0, .int .i64 0], .iface 45 (.int .i64 5)]) ∧ Below W.heap.size W w' := fun W h => parse_no s W h hz
  clear hz
  go_enter Tryd.func3, Tryd.ntmps3
  go_wp2_with (first
    | (go_at_call_of 4 (Value.agg #[.int .i64 8193, .int .i64 3512, .int .i64 0, .int .i64 0, .int .i64 1, .int .i64 0, .int .i64 0, .int .i64 1]); refine (fact_print _ hV.2.2.1.1).mono ?_; rintro e w1 ⟨rfl, hb1⟩; replace hV := hV.kept hb1)
    | (go_at_call 5; refine (hp4 _ hV.2.2.2.1).mono ?_; rintro e w2 ⟨rfl, hb2⟩; replace hV := hV.kept hb2)
    | (go_at_call 6; refine (hr4 _ hV.2.2.1.2.2 hV.2.2.1.2.1 hV.2.2.2.1).mono ?_; rintro e w3 ⟨rfl, hb3⟩; replace hV := hV.kept hb3)
    | (go_at_call_of 7 (Value.string s); refine (hpn _ hV.2.2.1).mono ?_; rintro e w4 ⟨rfl, hb4⟩; replace hV := hV.kept hb4; have hlt8 := hV.2.1.lt; have hb5 : Below w4.heap.size w4 (w4.alloc (.cells #[.int .i64 0, .int .i64 0, .int .i64 0, .int .i64 0, .int .i64 0, .int .i64 0, .int .i64 0, .int .i64 0] 23)) := (Below.refl _ _).alloc (Nat.le_refl _) _; replace hV := hV.kept hb5; have hX := six_new [] w4; have ca := hV.ca; have cb := hV.cb)
    | (go_at_call_of 4 (Value.agg #[.int .i64 (el a 0), .int .i64 (el a 1), .int .i64 (el a 2), .int .i64 (el a 3), .int .i64 (el a 4), .int .i64 (el a 5), .int .i64 (el a 6), .int .i64 (el a 7)]); refine (hpa _ hV.2.2.1.1).mono ?_; rintro e w7 ⟨rfl, hb7⟩; replace hV := hV.kept hb7; replace hX := SixIn.kept hX hb7)
    | (go_at_call_of 7 (Value.string ta); refine (hra _ hV.2.2.1).mono ?_; rintro e w8 ⟨rfl, hb8⟩; replace hV := hV.kept hb8; replace hX := SixIn.kept hX hb8; clear ca cb; have cx := fun j hj => (SixIn.facts hX j hj).1; have fx := fun j hj => (SixIn.facts hX j hj).2.1; have hX9 := hX.put8 a; have hV9 := hV.put8 hA hP w4.heap.size hlt8 a; obtain ⟨w9, hw9⟩ : ∃ w9, put8 w8 w4.heap.size a = w9 := ⟨_, rfl⟩; rw [hw9] at hX9 hV9; unfold put8 at hw9; have ca := hV9.ca; have cb := hV9.cb)
    | (go_at_call_of 8 (Value.int IntKind.i64 0); refine (hi0 _).mono ?_; rintro e w10 ⟨rfl, hb10⟩; have hX10 := hX9.kept hb10; have hV10 := hV9.kept hb10; clear ca cb cx fx; have ca := hV10.ca; have cb := hV10.cb)
    | (go_at_call_of 8 (Value.int IntKind.i64 128); refine (hi128 _).mono ?_; rintro e w11 ⟨rfl, hb11⟩; have hX11 := hX10.kept hb11; have hV11 := hV10.kept hb11; clear ca cb; have ca := hV11.ca; have cb := hV11.cb; have cx := fun j hj => (SixIn.facts hX11 j hj).1))
  go_quiet (fail)
  go_wp2_with fail
  go_ret
  exact ⟨rfl, below_drewN hV11.2.2.2.2 nq⟩

set_option maxHeartbeats 16000000 in
set_option maxRecDepth 100000 in
theorem back_half11 (a b : List Int) (n : Int) (s : ByteArray) (w : World) (hA : LaidA w) (hP : Pow10 w) (ha : Ok6 a) (hla : a.length = 8) (hb : ¬ Ok6 b) (hn : 0 ≤ n ∧ n ≤ 4294967295) (z : List Int) (hz : AM.parseF s.data.toList = some z) :
    Calls Tryd.prog 3 #[six a, six b, .int .i64 n, .string s] w fun e w' => e = .returned (.bool true) ∧ Below w.heap.size w w' := by
  have hV := Inv.start w a b hA hP
  have hpa := fun w h => print_ok a w ha h
  have hra := fun W h => parse_yes ⟨(AM.tx a).toArray⟩ W h a (by simpa using AM.parse_tx ha hla)
  unfold strv at hpa
  generalize (⟨(AM.tx a).toArray⟩ : ByteArray) = ta at hpa hra
  have hi0 := fun W => in_bad2 a b 0 W ha hb
  have hi128 := fun W => in_bad2 a b 128 W ha hb
  have hEaa := eq_six a a
  rw [(eqz_iff a a).2 (fun _ _ => rfl)] at hEaa
  clear ha hb
  unfold six at hpa hra hi0 hi128 ⊢
  obtain ⟨m, rfl⟩ : ∃ m : Nat, n = m := ⟨n.toNat, by omega⟩
  have hm : m ≤ 4294967295 := by omega
  have hp4 := fun W h => print4_ok m W hm h
  unfold strv at hp4
  have hr4 := fun W h1 h2 h3 => parse4_yes ⟨(AM.t4 m).toArray⟩ W h1 h2 h3 m (by simpa using AM.parse4_t4 (n := m) (by omega))
  generalize (⟨(AM.t4 m).toArray⟩ : ByteArray) = tm at hp4 hr4
  have hpy := fun W h => parse_yes s W h z hz
  have hpz := fun W h => print_ok z W (AM.parse_is hz).1 h
  unfold strv at hpz
  rw [(AM.parse_is hz).2.2] at hpz
  have hps : (⟨s.data.toList.toArray⟩ : ByteArray) = s := by simp
  rw [hps] at hpz
  clear hps hz
  unfold six at hpy hpz
  go_enter Tryd.func3, Tryd.ntmps3
  go_wp2_with (first
    | (go_at_call_of 4 (Value.agg #[.int .i64 8193, .int .i64 3512, .int .i64 0, .int .i64 0, .int .i64 1, .int .i64 0, .int .i64 0, .int .i64 1]); refine (fact_print _ hV.2.2.1.1).mono ?_; rintro e w1 ⟨rfl, hb1⟩; replace hV := hV.kept hb1)
    | (go_at_call 5; refine (hp4 _ hV.2.2.2.1).mono ?_; rintro e w2 ⟨rfl, hb2⟩; replace hV := hV.kept hb2)
    | (go_at_call 6; refine (hr4 _ hV.2.2.1.2.2 hV.2.2.1.2.1 hV.2.2.2.1).mono ?_; rintro e w3 ⟨rfl, hb3⟩; replace hV := hV.kept hb3)
    | (go_at_call_of 7 (Value.string s); refine (hpy _ hV.2.2.1).mono ?_; rintro e w4 ⟨rfl, hb4⟩; replace hV := hV.kept hb4; have hlt8 := hV.2.1.lt; have hb5 : Below w4.heap.size w4 (w4.alloc (.cells #[.int .i64 (el z 0), .int .i64 (el z 1), .int .i64 (el z 2), .int .i64 (el z 3), .int .i64 (el z 4), .int .i64 (el z 5), .int .i64 (el z 6), .int .i64 (el z 7)] 23)) := (Below.refl _ _).alloc (Nat.le_refl _) _; replace hV := hV.kept hb5; have hX := six_new z w4; have ca := hV.ca; have cb := hV.cb)
    | (go_at_call_of 4 (Value.agg #[.int .i64 (el z 0), .int .i64 (el z 1), .int .i64 (el z 2), .int .i64 (el z 3), .int .i64 (el z 4), .int .i64 (el z 5), .int .i64 (el z 6), .int .i64 (el z 7)]); refine (hpz _ hV.2.2.1.1).mono ?_; rintro e w6 ⟨rfl, hb6⟩; replace hV := hV.kept hb6; replace hX := SixIn.kept hX hb6; clear ca cb; have ca := hV.ca; have cb := hV.cb)
    | (go_at_call_of 4 (Value.agg #[.int .i64 (el a 0), .int .i64 (el a 1), .int .i64 (el a 2), .int .i64 (el a 3), .int .i64 (el a 4), .int .i64 (el a 5), .int .i64 (el a 6), .int .i64 (el a 7)]); refine (hpa _ hV.2.2.1.1).mono ?_; rintro e w7 ⟨rfl, hb7⟩; replace hV := hV.kept hb7; replace hX := SixIn.kept hX hb7)
    | (go_at_call_of 7 (Value.string ta); refine (hra _ hV.2.2.1).mono ?_; rintro e w8 ⟨rfl, hb8⟩; replace hV := hV.kept hb8; replace hX := SixIn.kept hX hb8; clear ca cb; have cx := fun j hj => (SixIn.facts hX j hj).1; have fx := fun j hj => (SixIn.facts hX j hj).2.1; have hX9 := hX.put8 a; have hV9 := hV.put8 hA hP w4.heap.size hlt8 a; obtain ⟨w9, hw9⟩ : ∃ w9, put8 w8 w4.heap.size a = w9 := ⟨_, rfl⟩; rw [hw9] at hX9 hV9; unfold put8 at hw9; have ca := hV9.ca; have cb := hV9.cb)
    | (go_at_call_of 8 (Value.int IntKind.i64 0); refine (hi0 _).mono ?_; rintro e w10 ⟨rfl, hb10⟩; have hX10 := hX9.kept hb10; have hV10 := hV9.kept hb10; clear ca cb cx fx; have ca := hV10.ca; have cb := hV10.cb)
    | (go_at_call_of 8 (Value.int IntKind.i64 128); refine (hi128 _).mono ?_; rintro e w11 ⟨rfl, hb11⟩; have hX11 := hX10.kept hb11; have hV11 := hV10.kept hb11; clear ca cb; have ca := hV11.ca; have cb := hV11.cb; have cx := fun j hj => (SixIn.facts hX11 j hj).1))
  go_quiet (fail)
  go_wp2_with fail
  go_ret
  exact ⟨rfl, below_drewN hV11.2.2.2.2 nq⟩
end Go.Proofs.YtdbhhlggddbehaaDoor
