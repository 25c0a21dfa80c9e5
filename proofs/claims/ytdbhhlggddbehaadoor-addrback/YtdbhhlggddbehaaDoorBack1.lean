/- The walk of the statement AddrBack, where the first address is none. -/
import Derived.Test.YtdbhhlggddbehaaDoorBackMath
import Derived.Deep.QuietTactic
namespace Go.Proofs.YtdbhhlggddbehaaDoor
open Go.RowKit Go.Shelf

set_option maxHeartbeats 16000000 in
set_option maxRecDepth 100000 in
theorem back_bad00 (a b : List Int) (n : Int) (s : ByteArray) (w : World) (hA : LaidA w) (hP : Pow10 w) (ha : ¬ Ok6 a) (hn : n < 0 ∨ 4294967295 < n) (hz : AM.parseF s.data.toList = none) :
    Calls Tryd.prog 3 #[six a, six b, .int .i64 n, .string s] w fun e w' => e = .returned (.bool true) ∧ Below w.heap.size w w' := by
  have hV := Inv.start w a b hA hP
  have hpb := fun w => print_bad a w ha
  unfold six at hpb ⊢
  have hpn : ∀ W, LaidA W → Calls Tryd.prog 7 #[.string s] W fun e w' => e = .returned (.tuple #[.agg #[.int .i64 0, .int .i64 0, .int .i64 0, .int .i64 0, .int .i64 0, .int .i64 0, .int .i64 0, .int .i64 0], .iface 45 (.int .i64 5)]) ∧ Below W.heap.size W w' := fun W h => parse_no s W h hz
  clear hz
  go_enter Tryd.func3, Tryd.ntmps3
  go_wp2_with (first
    | (go_at_call_of 4 (Value.agg #[.int .i64 8193, .int .i64 3512, .int .i64 0, .int .i64 0, .int .i64 1, .int .i64 0, .int .i64 0, .int .i64 1]); refine (fact_print _ hV.2.2.1.1).mono ?_; rintro e w1 ⟨rfl, hb1⟩; replace hV := hV.kept hb1)
    | (go_at_call 5; refine (print4_bad n _ hn).mono ?_; rintro e w2 ⟨rfl, rfl⟩)
    | (go_at_call_of 7 (Value.string s); refine (hpn _ hV.2.2.1).mono ?_; rintro e w4 ⟨rfl, hb4⟩; replace hV := hV.kept hb4; have hlt8 := hV.2.1.lt; have hb5 : Below w4.heap.size w4 (w4.alloc (.cells #[.int .i64 0, .int .i64 0, .int .i64 0, .int .i64 0, .int .i64 0, .int .i64 0, .int .i64 0, .int .i64 0] 23)) := (Below.refl _ _).alloc (Nat.le_refl _) _; replace hV := hV.kept hb5; have hX := six_new [] w4; have ca := hV.ca; have cb := hV.cb)
    | (go_at_call_of 4 (Value.agg #[.int .i64 (el a 0), .int .i64 (el a 1), .int .i64 (el a 2), .int .i64 (el a 3), .int .i64 (el a 4), .int .i64 (el a 5), .int .i64 (el a 6), .int .i64 (el a 7)]); refine (hpb _).mono ?_; rintro e w7 ⟨rfl, hb7⟩; replace hV := hV.kept hb7))
  go_ret
  exact ⟨rfl, hV.2.2.2.2⟩

set_option maxHeartbeats 16000000 in
set_option maxRecDepth 100000 in
theorem back_bad01 (a b : List Int) (n : Int) (s : ByteArray) (w : World) (hA : LaidA w) (hP : Pow10 w) (ha : ¬ Ok6 a) (hn : n < 0 ∨ 4294967295 < n) (z : List Int) (hz : AM.parseF s.data.toList = some z) :
    Calls Tryd.prog 3 #[six a, six b, .int .i64 n, .string s] w fun e w' => e = .returned (.bool true) ∧ Below w.heap.size w w' := by
  have hV := Inv.start w a b hA hP
  have hpb := fun w => print_bad a w ha
  unfold six at hpb ⊢
  have hpy := fun W h => parse_yes s W h z hz
  have hpz := fun W h => print_ok z W (AM.parse_is hz).1 h
  unfold strv at hpz
  rw [(AM.parse_is hz).2.2] at hpz
  have hps : (⟨s.data.toList.toArray⟩ : ByteArray) = s := by simp
  rw [hps] at hpz
  clear hps hz
  unfold six at hpy hpz
  go_enter Tryd.func3, Tryd.ntmps3
  go_wp2_with (first
    | (go_at_call_of 4 (Value.agg #[.int .i64 8193, .int .i64 3512, .int .i64 0, .int .i64 0, .int .i64 1, .int .i64 0, .int .i64 0, .int .i64 1]); refine (fact_print _ hV.2.2.1.1).mono ?_; rintro e w1 ⟨rfl, hb1⟩; replace hV := hV.kept hb1)
    | (go_at_call 5; refine (print4_bad n _ hn).mono ?_; rintro e w2 ⟨rfl, rfl⟩)
    | (go_at_call_of 7 (Value.string s); refine (hpy _ hV.2.2.1).mono ?_; rintro e w4 ⟨rfl, hb4⟩; replace hV := hV.kept hb4; have hlt8 := hV.2.1.lt; have hb5 : Below w4.heap.size w4 (w4.alloc (.cells #[.int .i64 (el z 0), .int .i64 (el z 1), .int .i64 (el z 2), .int .i64 (el z 3), .int .i64 (el z 4), .int .i64 (el z 5), .int .i64 (el z 6), .int .i64 (el z 7)] 23)) := (Below.refl _ _).alloc (Nat.le_refl _) _; replace hV := hV.kept hb5; have hX := six_new z w4; have ca := hV.ca; have cb := hV.cb)
    | (go_at_call_of 4 (Value.agg #[.int .i64 (el z 0), .int .i64 (el z 1), .int .i64 (el z 2), .int .i64 (el z 3), .int .i64 (el z 4), .int .i64 (el z 5), .int .i64 (el z 6), .int .i64 (el z 7)]); refine (hpz _ hV.2.2.1.1).mono ?_; rintro e w6 ⟨rfl, hb6⟩; replace hV := hV.kept hb6; replace hX := SixIn.kept hX hb6; clear ca cb; have ca := hV.ca; have cb := hV.cb)
    | (go_at_call_of 4 (Value.agg #[.int .i64 (el a 0), .int .i64 (el a 1), .int .i64 (el a 2), .int .i64 (el a 3), .int .i64 (el a 4), .int .i64 (el a 5), .int .i64 (el a 6), .int .i64 (el a 7)]); refine (hpb _).mono ?_; rintro e w7 ⟨rfl, hb7⟩; replace hV := hV.kept hb7))
  go_ret
  exact ⟨rfl, hV.2.2.2.2⟩

set_option maxHeartbeats 16000000 in
set_option maxRecDepth 100000 in
theorem back_bad10 (a b : List Int) (n : Int) (s : ByteArray) (w : World) (hA : LaidA w) (hP : Pow10 w) (ha : ¬ Ok6 a) (hn : 0 ≤ n ∧ n ≤ 4294967295) (hz : AM.parseF s.data.toList = none) :
    Calls Tryd.prog 3 #[six a, six b, .int .i64 n, .string s] w fun e w' => e = .returned (.bool true) ∧ Below w.heap.size w w' := by
  have hV := Inv.start w a b hA hP
  have hpb := fun w => print_bad a w ha
  unfold six at hpb ⊢
  obtain ⟨m, rfl⟩ : ∃ m : Nat, n = m := ⟨n.toNat, by omega⟩
  have hm : m ≤ 4294967295 := by omega
  have hp4 := fun W h => print4_ok m W hm h
  unfold strv at hp4
  have hr4 := fun W h1 h2 h3 => parse4_yes ⟨(AM.t4 m).toArray⟩ W h1 h2 h3 m (by simpa using AM.parse4_t4 (n := m) (by omega))
  generalize (⟨(AM.t4 m).toArray⟩ : ByteArray) = tm at hp4 hr4
  have hpn : ∀ W, LaidA W → Calls Tryd.prog 7 #[.string s] W fun e w' => e = .returned (.tuple #[.agg #[.int .i64 0, .int .i64 0, .int .i64 0, .int .i64 0, .int .i64 0, .int .i64 0, .int .i64 0, .int .i64 0], .iface 45 (.int .i64 5)]) ∧ Below W.heap.size W w' := fun W h => parse_no s W h hz
  clear hz
  go_enter Tryd.func3, Tryd.ntmps3
  go_wp2_with (first
    | (go_at_call_of 4 (Value.agg #[.int .i64 8193, .int .i64 3512, .int .i64 0, .int .i64 0, .int .i64 1, .int .i64 0, .int .i64 0, .int .i64 1]); refine (fact_print _ hV.2.2.1.1).mono ?_; rintro e w1 ⟨rfl, hb1⟩; replace hV := hV.kept hb1)
    | (go_at_call 5; refine (hp4 _ hV.2.2.2.1).mono ?_; rintro e w2 ⟨rfl, hb2⟩; replace hV := hV.kept hb2)
    | (go_at_call 6; refine (hr4 _ hV.2.2.1.2.2 hV.2.2.1.2.1 hV.2.2.2.1).mono ?_; rintro e w3 ⟨rfl, hb3⟩; replace hV := hV.kept hb3)
    | (go_at_call_of 7 (Value.string s); refine (hpn _ hV.2.2.1).mono ?_; rintro e w4 ⟨rfl, hb4⟩; replace hV := hV.kept hb4; have hlt8 := hV.2.1.lt; have hb5 : Below w4.heap.size w4 (w4.alloc (.cells #[.int .i64 0, .int .i64 0, .int .i64 0, .int .i64 0, .int .i64 0, .int .i64 0, .int .i64 0, .int .i64 0] 23)) := (Below.refl _ _).alloc (Nat.le_refl _) _; replace hV := hV.kept hb5; have hX := six_new [] w4; have ca := hV.ca; have cb := hV.cb)
    | (go_at_call_of 4 (Value.agg #[.int .i64 (el a 0), .int .i64 (el a 1), .int .i64 (el a 2), .int .i64 (el a 3), .int .i64 (el a 4), .int .i64 (el a 5), .int .i64 (el a 6), .int .i64 (el a 7)]); refine (hpb _).mono ?_; rintro e w7 ⟨rfl, hb7⟩; replace hV := hV.kept hb7))
  go_ret
  exact ⟨rfl, hV.2.2.2.2⟩

set_option maxHeartbeats 16000000 in
set_option maxRecDepth 100000 in
theorem back_bad11 (a b : List Int) (n : Int) (s : ByteArray) (w : World) (hA : LaidA w) (hP : Pow10 w) (ha : ¬ Ok6 a) (hn : 0 ≤ n ∧ n ≤ 4294967295) (z : List Int) (hz : AM.parseF s.data.toList = some z) :
    Calls Tryd.prog 3 #[six a, six b, .int .i64 n, .string s] w fun e w' => e = .returned (.bool true) ∧ Below w.heap.size w w' := by
  have hV := Inv.start w a b hA hP
  have hpb := fun w => print_bad a w ha
  unfold six at hpb ⊢
  obtain ⟨m, rfl⟩ : ∃ m : Nat, n = m := ⟨n.toNat, by omega⟩
  have hm : m ≤ 4294967295 := by omega
  have hp4 := fun W h => print4_ok m W hm h
  unfold strv at hp4
  have hr4 := fun W h1 h2 h3 => parse4_yes ⟨(AM.t4 m).toArray⟩ W h1 h2 h3 m (by simpa using AM.parse4_t4 (n := m) (by omega))
  generalize (⟨(AM.t4 m).toArray⟩ : ByteArray) = tm at hp4 hr4
  have hpy := fun W h => parse_yes s W h z hz
  have hpz := fun W h => print_ok z W (AM.parse_is hz).1 h
  unfold strv at hpz
  rw [(AM.parse_is hz).2.2] at hpz
  have hps : (⟨s.data.toList.toArray⟩ : ByteArray) = s := by simp
  rw [hps] at hpz
  clear hps hz
  unfold six at hpy hpz
  go_enter Tryd.func3, Tryd.ntmps3
  go_wp2_with (first
    | (go_at_call_of 4 (Value.agg #[.int .i64 8193, .int .i64 3512, .int .i64 0, .int .i64 0, .int .i64 1, .int .i64 0, .int .i64 0, .int .i64 1]); refine (fact_print _ hV.2.2.1.1).mono ?_; rintro e w1 ⟨rfl, hb1⟩; replace hV := hV.kept hb1)
    | (go_at_call 5; refine (hp4 _ hV.2.2.2.1).mono ?_; rintro e w2 ⟨rfl, hb2⟩; replace hV := hV.kept hb2)
    | (go_at_call 6; refine (hr4 _ hV.2.2.1.2.2 hV.2.2.1.2.1 hV.2.2.2.1).mono ?_; rintro e w3 ⟨rfl, hb3⟩; replace hV := hV.kept hb3)
    | (go_at_call_of 7 (Value.string s); refine (hpy _ hV.2.2.1).mono ?_; rintro e w4 ⟨rfl, hb4⟩; replace hV := hV.kept hb4; have hlt8 := hV.2.1.lt; have hb5 : Below w4.heap.size w4 (w4.alloc (.cells #[.int .i64 (el z 0), .int .i64 (el z 1), .int .i64 (el z 2), .int .i64 (el z 3), .int .i64 (el z 4), .int .i64 (el z 5), .int .i64 (el z 6), .int .i64 (el z 7)] 23)) := (Below.refl _ _).alloc (Nat.le_refl _) _; replace hV := hV.kept hb5; have hX := six_new z w4; have ca := hV.ca; have cb := hV.cb)
    | (go_at_call_of 4 (Value.agg #[.int .i64 (el z 0), .int .i64 (el z 1), .int .i64 (el z 2), .int .i64 (el z 3), .int .i64 (el z 4), .int .i64 (el z 5), .int .i64 (el z 6), .int .i64 (el z 7)]); refine (hpz _ hV.2.2.1.1).mono ?_; rintro e w6 ⟨rfl, hb6⟩; replace hV := hV.kept hb6; replace hX := SixIn.kept hX hb6; clear ca cb; have ca := hV.ca; have cb := hV.cb)
    | (go_at_call_of 4 (Value.agg #[.int .i64 (el a 0), .int .i64 (el a 1), .int .i64 (el a 2), .int .i64 (el a 3), .int .i64 (el a 4), .int .i64 (el a 5), .int .i64 (el a 6), .int .i64 (el a 7)]); refine (hpb _).mono ?_; rintro e w7 ⟨rfl, hb7⟩; replace hV := hV.kept hb7))
  go_ret
  exact ⟨rfl, hV.2.2.2.2⟩
end Go.Proofs.YtdbhhlggddbehaaDoor
