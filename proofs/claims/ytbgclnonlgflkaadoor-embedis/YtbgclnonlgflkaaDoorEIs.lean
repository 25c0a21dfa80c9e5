/- The walk of the statement EmbedIs: whatever the prefix, the bits, the four and the address, the Go text returns true and writes nothing that was there. -/
import Derived.Test.YtbgclnonlgflkaaDoorRefEmbed3
import Derived.Test.YtbgclnonlgflkaaDoorTold
import Derived.Test.YtbgclnonlgflkaaDoorSixEq
import Derived.Deep.CutBlock
import Derived.Deep.RegionWith
namespace Go.Proofs.YtbgclnonlgflkaaDoor
open Go.RowKit Go.Shelf

/-- what the statement's question answers of an error and the number told. -/
def Tells (ev : Value) (e : Int) : Prop := ∀ W, Laid0 W → Calls Tryd.prog 5 #[ev, .int .i64 e] W fun r W' => r = .returned (.bool true) ∧ Below W.heap.size W W'
theorem tells_nil : Tells .nilIface 0 := fun W _ => (error_nil W).mono fun e W' ⟨h1, h2⟩ => ⟨h1, by rw [h2]; exact Below.refl _ _⟩
theorem tells_err (e : Int) : Tells (.iface 24 (.int .i64 e)) e := fun W h => error_err e W h
theorem tells_errv (k : Int) : Tells (errv k) k := by
  unfold errv
  by_cases h : k = 0
  · rw [if_pos h, h]; exact tells_nil
  · rw [if_neg h]; exact tells_err k

theorem pf_ok {p : List Int} {n : Int} (h : PF p n 0) : Ok6 p ∧ ∃ q : Nat, n = 8 * q ∧ LongP (8 * q) ∧ q ≤ 12 ∧ shp p q = false := by
  rcases h with ⟨_, h⟩ | ⟨_, _, h⟩ | ⟨_, _, _, h⟩ | ⟨h1, h2, h3, _⟩
  · exact absurd h (by decide)
  · exact absurd h (by decide)
  · exact absurd h (by decide)
  · obtain ⟨q, rfl, e, _, h12⟩ := long_q h2
    rw [e] at h3
    exact ⟨h1, q, rfl, h2, h12, h3⟩
theorem notF {f : Int} (h : ¬ IsF f) : f < 0 ∨ 4294967295 < f := by
  unfold IsF at h
  omega
/-- what is told of a prefix, and of a four in it. -/
theorem tellInto (p : List Int) (n f : Int) : ∃ (k e2 : Int) (ev1 ev2 : Value) (Z : List Int) (bis : Bool),
    (∀ w, Calls Tryd.prog 4 #[six p, .int .i64 n] w fun e w' => e = .returned (.int .i64 k) ∧ Below w.heap.size w w') ∧
    (∀ w, Calls Tryd.prog 6 #[six p, .int .i64 n] w fun e w' => e = .returned ev1 ∧ Below w.heap.size w w') ∧ Tells ev1 k ∧
    (∀ w, Calls Tryd.prog 7 #[.int .i64 f] w fun e w' => e = .returned (.bool bis) ∧ w' = w) ∧
    (∀ w, Calls Tryd.prog 9 #[six p, .int .i64 n, .int .i64 f] w fun e w' => e = .returned (.tuple #[six Z, ev2]) ∧ Below w.heap.size w w') ∧ Tells ev2 e2 ∧
    ((k ≠ 0 ∧ e2 = k ∧ Z = []) ∨ (k = 0 ∧ bis = false ∧ e2 = 1 ∧ Z = []) ∨ (k = 0 ∧ bis = true ∧ e2 = 0 ∧ ∀ w, Calls Tryd.prog 8 #[six p, .int .i64 n, .int .i64 f] w fun e w' => e = .returned (six Z) ∧ Below w.heap.size w w')) := by
  obtain ⟨k, hk⟩ := pf_ex p n
  by_cases h0 : k = 0
  · subst h0
    by_cases hf : IsF f
    · obtain ⟨hp, q, rfl, hl, hq, hs⟩ := pf_ok hk
      refine ⟨0, 0, errv 0, .nilIface, tz p q f, true, fun w => rpf_any p _ 0 w hk, fun w => echeck_any p _ 0 w hk, tells_errv 0, fun w => isfour_yes f w hf, fun w => ?_, tells_nil, .inr (.inr ⟨rfl, rfl, rfl, fun w => rinto_any p q f w hp hl hf⟩)⟩
      have := into_ok p q f w hp hl hs hf
      rw [into_six p q f hp hl hs] at this
      exact this
    · exact ⟨0, 1, errv 0, errv 1, [], false, fun w => rpf_any p n 0 w hk, fun w => echeck_any p n 0 w hk, tells_errv 0, fun w => isfour_no f w (notF hf), fun w => into_bad2 p n f w hk hf, tells_errv 1, .inr (.inl ⟨rfl, rfl, rfl, rfl⟩)⟩
  · by_cases hf : IsF f
    · exact ⟨k, k, errv k, errv k, [], true, fun w => rpf_any p n k w hk, fun w => echeck_any p n k w hk, tells_errv k, fun w => isfour_yes f w hf, fun w => into_bad1 p n f k w hk h0, tells_errv k, .inl ⟨h0, rfl, rfl⟩⟩
    · exact ⟨k, k, errv k, errv k, [], false, fun w => rpf_any p n k w hk, fun w => echeck_any p n k w hk, tells_errv k, fun w => isfour_no f w (notF hf), fun w => into_bad1 p n f k w hk h0, tells_errv k, .inl ⟨h0, rfl, rfl⟩⟩
/-- what is told of an address, and of a four out of it. -/
theorem tellOut (a : List Int) (n : Int) : ∃ (e3 e5 r : Int) (ev5 : Value) (bl : Bool),
    (∀ w, Calls Tryd.prog 10 #[six a] w fun e w' => e = .returned (.int .i64 e3) ∧ Below w.heap.size w w') ∧
    (∀ w, Calls Tryd.prog 11 #[.int .i64 n] w fun e w' => e = .returned (.bool bl) ∧ w' = w) ∧
    (∀ w, Calls Tryd.prog 13 #[six a, .int .i64 n] w fun e w' => e = .returned (.tuple #[.int .i64 r, ev5]) ∧ Below w.heap.size w w') ∧ Tells ev5 e5 ∧
    ((e3 ≠ 0 ∧ e5 = e3 ∧ r = 0) ∨ (e3 = 0 ∧ bl = false ∧ e5 = 1 ∧ r = 0) ∨ (e3 = 0 ∧ bl = true ∧ ∀ w, Calls Tryd.prog 12 #[six a, .int .i64 n] w fun e w' => e = .returned (.tuple #[.int .i64 r, .int .i64 e5]) ∧ Below w.heap.size w w')) := by
  by_cases ha : Ok6 a
  · by_cases hn : LongP n
    · obtain ⟨q, rfl, _, _, h12⟩ := long_q hn
      have hO := fun w => out_long a q w ha hn
      have hR := fun w => rout_any a q w ha hn
      cases hs : shp a (pos q 3 + 1)
      · rw [hs] at hO hR
        rw [acc_gat a q ha h12] at hO
        exact ⟨0, 0, gat a q, .nilIface, true, fun w => fault_ok a w ha, fun w => rlong_yes _ w hn, hO, tells_nil, .inr (.inr ⟨rfl, rfl, hR⟩)⟩
      · rw [hs] at hO hR
        exact ⟨0, 2, 0, .iface 24 (.int .i64 2), true, fun w => fault_ok a w ha, fun w => rlong_yes _ w hn, hO, tells_err 2, .inr (.inr ⟨rfl, rfl, hR⟩)⟩
    · exact ⟨0, 1, 0, .iface 24 (.int .i64 1), false, fun w => fault_ok a w ha, fun w => rlong_no _ w hn, fun w => out_bad2 a n w ha hn, tells_err 1, .inr (.inl ⟨rfl, rfl, rfl, rfl⟩)⟩
  · by_cases hn : LongP n
    · exact ⟨1, 1, 0, .iface 24 (.int .i64 1), true, fun w => fault_bad a w ha, fun w => rlong_yes _ w hn, fun w => out_bad1 a n w ha, tells_err 1, .inl ⟨by decide, rfl, rfl⟩⟩
    · exact ⟨1, 1, 0, .iface 24 (.int .i64 1), false, fun w => fault_bad a w ha, fun w => rlong_no _ w hn, fun w => out_bad1 a n w ha, tells_err 1, .inl ⟨by decide, rfl, rfl⟩⟩

/-- what lasts while the statement runs. -/
def VE (w : World) (p a : List Int) (W : World) : Prop := SixIn w.heap.size p W ∧ SixIn (w.heap.size + 1) a W ∧ Below w.heap.size w W
theorem VE.kept {w : World} {p a : List Int} {W W' : World} (h : VE w p a W) (hb : Below W.heap.size W W') : VE w p a W' := ⟨h.1.kept hb, h.2.1.kept hb, bt h.2.2 hb⟩
theorem VE.new {w : World} {p a : List Int} {W : World} (h : VE w p a W) (o : Obj) : VE w p a (W.alloc o) := h.kept ((Below.refl _ _).alloc (Nat.le_refl _) _)
theorem VE.cp {w : World} {p a : List Int} {W : World} (h : VE w p a W) (j : Nat) (hj : j < 8) : W.cell? ⟨w.heap.size, j, none⟩ = some (.int .i64 (el p j)) := (h.1.facts j hj).1
theorem VE.ca {w : World} {p a : List Int} {W : World} (h : VE w p a W) (j : Nat) (hj : j < 8) : W.cell? ⟨w.heap.size + 1, j, none⟩ = some (.int .i64 (el a j)) := (h.2.1.facts j hj).1
theorem VE.put {w : World} {p a : List Int} {W : World} (h : VE w p a W) {B : Nat} (hB : w.heap.size + 2 ≤ B) (Z : List Int) : VE w p a (W8 W B Z) := by
  refine ⟨?_, ?_, below8 h.2.2 (by omega) Z⟩
  · unfold W8
    exact (((((((h.1.other ⟨B, 0, none⟩ (by show w.heap.size ≠ B; omega) _).other ⟨B, 1, none⟩ (by show w.heap.size ≠ B; omega) _).other ⟨B, 2, none⟩ (by show w.heap.size ≠ B; omega) _).other ⟨B, 3, none⟩ (by show w.heap.size ≠ B; omega) _).other ⟨B, 4, none⟩ (by show w.heap.size ≠ B; omega) _).other ⟨B, 5, none⟩ (by show w.heap.size ≠ B; omega) _).other ⟨B, 6, none⟩ (by show w.heap.size ≠ B; omega) _).other ⟨B, 7, none⟩ (by show w.heap.size ≠ B; omega) _
  · unfold W8
    exact (((((((h.2.1.other ⟨B, 0, none⟩ (by show w.heap.size + 1 ≠ B; omega) _).other ⟨B, 1, none⟩ (by show w.heap.size + 1 ≠ B; omega) _).other ⟨B, 2, none⟩ (by show w.heap.size + 1 ≠ B; omega) _).other ⟨B, 3, none⟩ (by show w.heap.size + 1 ≠ B; omega) _).other ⟨B, 4, none⟩ (by show w.heap.size + 1 ≠ B; omega) _).other ⟨B, 5, none⟩ (by show w.heap.size + 1 ≠ B; omega) _).other ⟨B, 6, none⟩ (by show w.heap.size + 1 ≠ B; omega) _).other ⟨B, 7, none⟩ (by show w.heap.size + 1 ≠ B; omega) _
theorem VE.start (w : World) (p a : List Int) : VE w p a ((w.alloc (.cells #[.int .i64 (el p 0), .int .i64 (el p 1), .int .i64 (el p 2), .int .i64 (el p 3), .int .i64 (el p 4), .int .i64 (el p 5), .int .i64 (el p 6), .int .i64 (el p 7)] 23)).alloc (.cells #[.int .i64 (el a 0), .int .i64 (el a 1), .int .i64 (el a 2), .int .i64 (el a 3), .int .i64 (el a 4), .int .i64 (el a 5), .int .i64 (el a 6), .int .i64 (el a 7)] 23)) := by
  have h1 : Below w.heap.size w (w.alloc (.cells #[.int .i64 (el p 0), .int .i64 (el p 1), .int .i64 (el p 2), .int .i64 (el p 3), .int .i64 (el p 4), .int .i64 (el p 5), .int .i64 (el p 6), .int .i64 (el p 7)] 23)) := (Below.refl _ _).alloc (Nat.le_refl _) _
  have h2 : Below (w.alloc (.cells #[.int .i64 (el p 0), .int .i64 (el p 1), .int .i64 (el p 2), .int .i64 (el p 3), .int .i64 (el p 4), .int .i64 (el p 5), .int .i64 (el p 6), .int .i64 (el p 7)] 23)).heap.size (w.alloc (.cells #[.int .i64 (el p 0), .int .i64 (el p 1), .int .i64 (el p 2), .int .i64 (el p 3), .int .i64 (el p 4), .int .i64 (el p 5), .int .i64 (el p 6), .int .i64 (el p 7)] 23)) ((w.alloc (.cells #[.int .i64 (el p 0), .int .i64 (el p 1), .int .i64 (el p 2), .int .i64 (el p 3), .int .i64 (el p 4), .int .i64 (el p 5), .int .i64 (el p 6), .int .i64 (el p 7)] 23)).alloc (.cells #[.int .i64 (el a 0), .int .i64 (el a 1), .int .i64 (el a 2), .int .i64 (el a 3), .int .i64 (el a 4), .int .i64 (el a 5), .int .i64 (el a 6), .int .i64 (el a 7)] 23)) := (Below.refl _ _).alloc (Nat.le_refl _) _
  refine ⟨(six_new p w).kept h2, ?_, bt h1 h2⟩
  have := six_new a (w.alloc (.cells #[.int .i64 (el p 0), .int .i64 (el p 1), .int .i64 (el p 2), .int .i64 (el p 3), .int .i64 (el p 4), .int .i64 (el p 5), .int .i64 (el p 6), .int .i64 (el p 7)] 23))
  simp only [World.size_alloc] at this
  exact this

set_option maxHeartbeats 16000000 in
set_option maxRecDepth 100000 in
theorem eis_walk (p a : List Int) (n f : Int) (w : World) (h0 : Laid0 w) : Calls Tryd.prog 3 #[six p, .int .i64 n, .int .i64 f, six a] w fun e w' => e = .returned (.bool true) ∧ Below w.heap.size w w' := by
  obtain ⟨k, e2, ev1, ev2, Z, bis, hPF, hCh, hT1, hIs, hIn, hT2, hc1⟩ := tellInto p n f
  obtain ⟨e3, e5, r, ev5, bl, hSF, hL, hOut, hT5, hc2⟩ := tellOut a n
  have HV := hide (VE.start w p a)
  have hEz := eq_six Z Z
  rw [(eqz_iff Z Z).2 (fun _ _ => rfl)] at hEz
  have HL0 := hide h0
  clear h0
  unfold Tells at hT1 hT2 hT5
  unfold six at hPF hCh hIn hSF hOut ⊢
  go_enter Tryd.func3, Tryd.ntmps3
  have cp := HV.out.cp
  go_upto_region 7 with (first
    | (go_at_call 4; refine (hPF _).mono ?_; rintro e w1 ⟨rfl, hb1⟩; replace HV := hide (HV.out.kept hb1); clear hb1 cp; have cp := HV.out.cp)
    | (go_at_call 6; refine (hCh _).mono ?_; rintro e w2 ⟨rfl, hb2⟩; replace HV := hide (HV.out.kept hb2); clear hb2 cp; have cp := HV.out.cp)
    | (go_at_call 5; refine (hT1 _ (HL0.out.below HV.out.2.2)).mono ?_; rintro e w3 ⟨rfl, hb3⟩; replace HV := hide (HV.out.kept hb3); clear hb3 cp; have cp := HV.out.cp)
    | (go_at_call 7; refine (hIs _).mono ?_; rintro e w4 ⟨rfl, rfl⟩))
  have hB2 : w.heap.size + 2 ≤ w4.heap.size := by have := HV.out.2.1.lt; omega
  replace HV := hide (HV.out.new (.cells #[.int .i64 0, .int .i64 0, .int .i64 0, .int .i64 0, .int .i64 0, .int .i64 0, .int .i64 0, .int .i64 0] 23))
  have HN := hide (show SixIn w4.heap.size [] (w4.alloc (.cells #[.int .i64 0, .int .i64 0, .int .i64 0, .int .i64 0, .int .i64 0, .int .i64 0, .int .i64 0, .int .i64 0] 23)) from noughts_in w4)
  clear cp hPF hCh hT1 hIs
  have cp := HV.out.cp
  generalize w4.heap.size = B at hB2 HN ⊢
  generalize w4.alloc (.cells #[.int .i64 0, .int .i64 0, .int .i64 0, .int .i64 0, .int .i64 0, .int .i64 0, .int .i64 0, .int .i64 0] 23) = W4 at HV HN cp ⊢
  clear w4
  rcases hc1 with ⟨h1, rfl, hZ⟩ | ⟨rfl, rfl, rfl, hZ⟩ | ⟨rfl, rfl, rfl, hIO⟩
  · rw [← hZ] at HN
    clear hZ
    have h1b : (e2 == 0) = false := by simpa using h1
    go_upto_region 15 with (first
      | (go_at_call 9; refine (hIn _).mono ?_; rintro e w6 ⟨rfl, hb6⟩; replace HV := hide ((HV.out.kept hb6).new (.cells #[.int .i64 (el Z 0), .int .i64 (el Z 1), .int .i64 (el Z 2), .int .i64 (el Z 3), .int .i64 (el Z 4), .int .i64 (el Z 5), .int .i64 (el Z 6), .int .i64 (el Z 7)] 23)); replace HN := hide ((HN.out.kept hb6).kept ((Below.refl _ _).alloc (Nat.le_refl _) (.cells #[.int .i64 (el Z 0), .int .i64 (el Z 1), .int .i64 (el Z 2), .int .i64 (el Z 3), .int .i64 (el Z 4), .int .i64 (el Z 5), .int .i64 (el Z 6), .int .i64 (el Z 7)] 23))); have HX := hide (six_new Z w6); clear hb6 cp)
      | (go_at_call_of 5 ev2; refine (hT2 _ (HL0.out.below HV.out.2.2)).mono ?_; rintro e w7 ⟨rfl, hb7⟩; replace HV := hide (HV.out.kept hb7); obtain ⟨⟨t0, -, -⟩, ⟨t1, -, -⟩, ⟨t2, -, -⟩, ⟨t3, -, -⟩, ⟨t4, -, -⟩, ⟨t5, -, -⟩, ⟨t6, -, -⟩, ⟨t7, -, -⟩⟩ := (HN.out.kept hb7).all; obtain ⟨⟨u0, -, -⟩, ⟨u1, -, -⟩, ⟨u2, -, -⟩, ⟨u3, -, -⟩, ⟨u4, -, -⟩, ⟨u5, -, -⟩, ⟨u6, -, -⟩, ⟨u7, -, -⟩⟩ := (HX.out.kept hb7).all; clear hb7 HN HX; have ca := HV.out.ca))
    clear t0 t1 t2 t3 t4 t5 t6 t7 u0 u1 u2 u3 u4 u5 u6 u7 hEz hIn hT2
    rcases hc2 with ⟨h3, rfl, rfl⟩ | ⟨rfl, rfl, rfl, rfl⟩ | ⟨rfl, rfl, hOO⟩
    · have h3b : (e5 == 0) = false := by simpa using h3
      go_wp2_with (first
          | (go_at_call 10; refine (hSF _).mono ?_; rintro e w8 ⟨rfl, hb8⟩; replace HV := hide (HV.out.kept hb8); clear hb8 ca; have ca := HV.out.ca)
          | (go_at_call 11; refine (hL _).mono ?_; rintro e w9 ⟨rfl, rfl⟩)
          | (go_at_call 12; refine (hOO _).mono ?_; rintro e w10 ⟨rfl, hb10⟩; replace HV := hide (HV.out.kept hb10); clear hb10 ca; have ca := HV.out.ca)
          | (go_at_call 13; refine (hOut _).mono ?_; rintro e w11 ⟨rfl, hb11⟩; replace HV := hide (HV.out.kept hb11); clear hb11 ca)
          | (go_at_call_of 5 ev5; refine (hT5 _ (HL0.out.below HV.out.2.2)).mono ?_; rintro e w12 ⟨rfl, hb12⟩; replace HV := hide (HV.out.kept hb12); clear hb12))
      go_ret
      exact ⟨rfl, HV.out.2.2⟩
    · clear hB2
      go_wp2_with (first
          | (go_at_call 10; refine (hSF _).mono ?_; rintro e w8 ⟨rfl, hb8⟩; replace HV := hide (HV.out.kept hb8); clear hb8 ca; have ca := HV.out.ca)
          | (go_at_call 11; refine (hL _).mono ?_; rintro e w9 ⟨rfl, rfl⟩)
          | (go_at_call 12; refine (hOO _).mono ?_; rintro e w10 ⟨rfl, hb10⟩; replace HV := hide (HV.out.kept hb10); clear hb10 ca; have ca := HV.out.ca)
          | (go_at_call 13; refine (hOut _).mono ?_; rintro e w11 ⟨rfl, hb11⟩; replace HV := hide (HV.out.kept hb11); clear hb11 ca)
          | (go_at_call_of 5 ev5; refine (hT5 _ (HL0.out.below HV.out.2.2)).mono ?_; rintro e w12 ⟨rfl, hb12⟩; replace HV := hide (HV.out.kept hb12); clear hb12))
      go_ret
      exact ⟨rfl, HV.out.2.2⟩
    · unfold six at hOO
      go_wp2_with (first
          | (go_at_call 10; refine (hSF _).mono ?_; rintro e w8 ⟨rfl, hb8⟩; replace HV := hide (HV.out.kept hb8); clear hb8 ca; have ca := HV.out.ca)
          | (go_at_call 11; refine (hL _).mono ?_; rintro e w9 ⟨rfl, rfl⟩)
          | (go_at_call 12; refine (hOO _).mono ?_; rintro e w10 ⟨rfl, hb10⟩; replace HV := hide (HV.out.kept hb10); clear hb10 ca; have ca := HV.out.ca)
          | (go_at_call 13; refine (hOut _).mono ?_; rintro e w11 ⟨rfl, hb11⟩; replace HV := hide (HV.out.kept hb11); clear hb11 ca)
          | (go_at_call_of 5 ev5; refine (hT5 _ (HL0.out.below HV.out.2.2)).mono ?_; rintro e w12 ⟨rfl, hb12⟩; replace HV := hide (HV.out.kept hb12); clear hb12))
      go_ret
      exact ⟨rfl, HV.out.2.2⟩
  · rw [← hZ] at HN
    clear hZ
    go_upto_region 15 with (first
      | (go_at_call 9; refine (hIn _).mono ?_; rintro e w6 ⟨rfl, hb6⟩; replace HV := hide ((HV.out.kept hb6).new (.cells #[.int .i64 (el Z 0), .int .i64 (el Z 1), .int .i64 (el Z 2), .int .i64 (el Z 3), .int .i64 (el Z 4), .int .i64 (el Z 5), .int .i64 (el Z 6), .int .i64 (el Z 7)] 23)); replace HN := hide ((HN.out.kept hb6).kept ((Below.refl _ _).alloc (Nat.le_refl _) (.cells #[.int .i64 (el Z 0), .int .i64 (el Z 1), .int .i64 (el Z 2), .int .i64 (el Z 3), .int .i64 (el Z 4), .int .i64 (el Z 5), .int .i64 (el Z 6), .int .i64 (el Z 7)] 23))); have HX := hide (six_new Z w6); clear hb6 cp)
      | (go_at_call_of 5 ev2; refine (hT2 _ (HL0.out.below HV.out.2.2)).mono ?_; rintro e w7 ⟨rfl, hb7⟩; replace HV := hide (HV.out.kept hb7); obtain ⟨⟨t0, -, -⟩, ⟨t1, -, -⟩, ⟨t2, -, -⟩, ⟨t3, -, -⟩, ⟨t4, -, -⟩, ⟨t5, -, -⟩, ⟨t6, -, -⟩, ⟨t7, -, -⟩⟩ := (HN.out.kept hb7).all; obtain ⟨⟨u0, -, -⟩, ⟨u1, -, -⟩, ⟨u2, -, -⟩, ⟨u3, -, -⟩, ⟨u4, -, -⟩, ⟨u5, -, -⟩, ⟨u6, -, -⟩, ⟨u7, -, -⟩⟩ := (HX.out.kept hb7).all; clear hb7 HN HX; have ca := HV.out.ca))
    clear t0 t1 t2 t3 t4 t5 t6 t7 u0 u1 u2 u3 u4 u5 u6 u7 hEz hIn hT2
    rcases hc2 with ⟨h3, rfl, rfl⟩ | ⟨rfl, rfl, rfl, rfl⟩ | ⟨rfl, rfl, hOO⟩
    · have h3b : (e5 == 0) = false := by simpa using h3
      go_wp2_with (first
          | (go_at_call 10; refine (hSF _).mono ?_; rintro e w8 ⟨rfl, hb8⟩; replace HV := hide (HV.out.kept hb8); clear hb8 ca; have ca := HV.out.ca)
          | (go_at_call 11; refine (hL _).mono ?_; rintro e w9 ⟨rfl, rfl⟩)
          | (go_at_call 12; refine (hOO _).mono ?_; rintro e w10 ⟨rfl, hb10⟩; replace HV := hide (HV.out.kept hb10); clear hb10 ca; have ca := HV.out.ca)
          | (go_at_call 13; refine (hOut _).mono ?_; rintro e w11 ⟨rfl, hb11⟩; replace HV := hide (HV.out.kept hb11); clear hb11 ca)
          | (go_at_call_of 5 ev5; refine (hT5 _ (HL0.out.below HV.out.2.2)).mono ?_; rintro e w12 ⟨rfl, hb12⟩; replace HV := hide (HV.out.kept hb12); clear hb12))
      go_ret
      exact ⟨rfl, HV.out.2.2⟩
    · clear hB2
      go_wp2_with (first
          | (go_at_call 10; refine (hSF _).mono ?_; rintro e w8 ⟨rfl, hb8⟩; replace HV := hide (HV.out.kept hb8); clear hb8 ca; have ca := HV.out.ca)
          | (go_at_call 11; refine (hL _).mono ?_; rintro e w9 ⟨rfl, rfl⟩)
          | (go_at_call 12; refine (hOO _).mono ?_; rintro e w10 ⟨rfl, hb10⟩; replace HV := hide (HV.out.kept hb10); clear hb10 ca; have ca := HV.out.ca)
          | (go_at_call 13; refine (hOut _).mono ?_; rintro e w11 ⟨rfl, hb11⟩; replace HV := hide (HV.out.kept hb11); clear hb11 ca)
          | (go_at_call_of 5 ev5; refine (hT5 _ (HL0.out.below HV.out.2.2)).mono ?_; rintro e w12 ⟨rfl, hb12⟩; replace HV := hide (HV.out.kept hb12); clear hb12))
      go_ret
      exact ⟨rfl, HV.out.2.2⟩
    · unfold six at hOO
      go_wp2_with (first
          | (go_at_call 10; refine (hSF _).mono ?_; rintro e w8 ⟨rfl, hb8⟩; replace HV := hide (HV.out.kept hb8); clear hb8 ca; have ca := HV.out.ca)
          | (go_at_call 11; refine (hL _).mono ?_; rintro e w9 ⟨rfl, rfl⟩)
          | (go_at_call 12; refine (hOO _).mono ?_; rintro e w10 ⟨rfl, hb10⟩; replace HV := hide (HV.out.kept hb10); clear hb10 ca; have ca := HV.out.ca)
          | (go_at_call 13; refine (hOut _).mono ?_; rintro e w11 ⟨rfl, hb11⟩; replace HV := hide (HV.out.kept hb11); clear hb11 ca)
          | (go_at_call_of 5 ev5; refine (hT5 _ (HL0.out.below HV.out.2.2)).mono ?_; rintro e w12 ⟨rfl, hb12⟩; replace HV := hide (HV.out.kept hb12); clear hb12))
      go_ret
      exact ⟨rfl, HV.out.2.2⟩
  · unfold six at hIO
    go_upto_region 15 with (first
      | (go_at_call 8; refine (hIO _).mono ?_; rintro e w5 ⟨rfl, hb5⟩; replace HV := hide (HV.out.kept hb5); replace HN := hide (HN.out.kept hb5); obtain ⟨⟨c0, d0, -⟩, ⟨c1, d1, -⟩, ⟨c2, d2, -⟩, ⟨c3, d3, -⟩, ⟨c4, d4, -⟩, ⟨c5, d5, -⟩, ⟨c6, d6, -⟩, ⟨c7, d7, -⟩⟩ := HN.out.all; replace HV := hide (HV.out.put hB2 Z); replace HN := hide (HN.out.put8 Z); clear hb5 cp; have cp := HV.out.cp; unfold W8 at HV HN cp)
      | (go_at_call 9; refine (hIn _).mono ?_; rintro e w6 ⟨rfl, hb6⟩; replace HV := hide ((HV.out.kept hb6).new (.cells #[.int .i64 (el Z 0), .int .i64 (el Z 1), .int .i64 (el Z 2), .int .i64 (el Z 3), .int .i64 (el Z 4), .int .i64 (el Z 5), .int .i64 (el Z 6), .int .i64 (el Z 7)] 23)); replace HN := hide ((HN.out.kept hb6).kept ((Below.refl _ _).alloc (Nat.le_refl _) (.cells #[.int .i64 (el Z 0), .int .i64 (el Z 1), .int .i64 (el Z 2), .int .i64 (el Z 3), .int .i64 (el Z 4), .int .i64 (el Z 5), .int .i64 (el Z 6), .int .i64 (el Z 7)] 23))); have HX := hide (six_new Z w6); clear hb6 cp)
      | (go_at_call_of 5 ev2; refine (hT2 _ (HL0.out.below HV.out.2.2)).mono ?_; rintro e w7 ⟨rfl, hb7⟩; replace HV := hide (HV.out.kept hb7); obtain ⟨⟨t0, -, -⟩, ⟨t1, -, -⟩, ⟨t2, -, -⟩, ⟨t3, -, -⟩, ⟨t4, -, -⟩, ⟨t5, -, -⟩, ⟨t6, -, -⟩, ⟨t7, -, -⟩⟩ := (HN.out.kept hb7).all; obtain ⟨⟨u0, -, -⟩, ⟨u1, -, -⟩, ⟨u2, -, -⟩, ⟨u3, -, -⟩, ⟨u4, -, -⟩, ⟨u5, -, -⟩, ⟨u6, -, -⟩, ⟨u7, -, -⟩⟩ := (HX.out.kept hb7).all; clear hb7 HN HX; have ca := HV.out.ca))
    clear c0 c1 c2 c3 c4 c5 c6 c7 d0 d1 d2 d3 d4 d5 d6 d7 hIO
    clear t0 t1 t2 t3 t4 t5 t6 t7 u0 u1 u2 u3 u4 u5 u6 u7 hEz hIn hT2
    rcases hc2 with ⟨h3, rfl, rfl⟩ | ⟨rfl, rfl, rfl, rfl⟩ | ⟨rfl, rfl, hOO⟩
    · have h3b : (e5 == 0) = false := by simpa using h3
      go_wp2_with (first
          | (go_at_call 10; refine (hSF _).mono ?_; rintro e w8 ⟨rfl, hb8⟩; replace HV := hide (HV.out.kept hb8); clear hb8 ca; have ca := HV.out.ca)
          | (go_at_call 11; refine (hL _).mono ?_; rintro e w9 ⟨rfl, rfl⟩)
          | (go_at_call 12; refine (hOO _).mono ?_; rintro e w10 ⟨rfl, hb10⟩; replace HV := hide (HV.out.kept hb10); clear hb10 ca; have ca := HV.out.ca)
          | (go_at_call 13; refine (hOut _).mono ?_; rintro e w11 ⟨rfl, hb11⟩; replace HV := hide (HV.out.kept hb11); clear hb11 ca)
          | (go_at_call_of 5 ev5; refine (hT5 _ (HL0.out.below HV.out.2.2)).mono ?_; rintro e w12 ⟨rfl, hb12⟩; replace HV := hide (HV.out.kept hb12); clear hb12))
      go_ret
      exact ⟨rfl, HV.out.2.2⟩
    · clear hB2
      go_wp2_with (first
          | (go_at_call 10; refine (hSF _).mono ?_; rintro e w8 ⟨rfl, hb8⟩; replace HV := hide (HV.out.kept hb8); clear hb8 ca; have ca := HV.out.ca)
          | (go_at_call 11; refine (hL _).mono ?_; rintro e w9 ⟨rfl, rfl⟩)
          | (go_at_call 12; refine (hOO _).mono ?_; rintro e w10 ⟨rfl, hb10⟩; replace HV := hide (HV.out.kept hb10); clear hb10 ca; have ca := HV.out.ca)
          | (go_at_call 13; refine (hOut _).mono ?_; rintro e w11 ⟨rfl, hb11⟩; replace HV := hide (HV.out.kept hb11); clear hb11 ca)
          | (go_at_call_of 5 ev5; refine (hT5 _ (HL0.out.below HV.out.2.2)).mono ?_; rintro e w12 ⟨rfl, hb12⟩; replace HV := hide (HV.out.kept hb12); clear hb12))
      go_ret
      exact ⟨rfl, HV.out.2.2⟩
    · unfold six at hOO
      go_wp2_with (first
          | (go_at_call 10; refine (hSF _).mono ?_; rintro e w8 ⟨rfl, hb8⟩; replace HV := hide (HV.out.kept hb8); clear hb8 ca; have ca := HV.out.ca)
          | (go_at_call 11; refine (hL _).mono ?_; rintro e w9 ⟨rfl, rfl⟩)
          | (go_at_call 12; refine (hOO _).mono ?_; rintro e w10 ⟨rfl, hb10⟩; replace HV := hide (HV.out.kept hb10); clear hb10 ca; have ca := HV.out.ca)
          | (go_at_call 13; refine (hOut _).mono ?_; rintro e w11 ⟨rfl, hb11⟩; replace HV := hide (HV.out.kept hb11); clear hb11 ca)
          | (go_at_call_of 5 ev5; refine (hT5 _ (HL0.out.below HV.out.2.2)).mono ?_; rintro e w12 ⟨rfl, hb12⟩; replace HV := hide (HV.out.kept hb12); clear hb12))
      go_ret
      exact ⟨rfl, HV.out.2.2⟩
end Go.Proofs.YtbgclnonlgflkaaDoor
