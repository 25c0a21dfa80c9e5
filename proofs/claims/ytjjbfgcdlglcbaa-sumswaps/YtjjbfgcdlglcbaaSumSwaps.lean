/- The walk of the statement SumSwaps: whatever the bytes, the place and the number, the Go text returns true and writes nothing that was there. -/
import Derived.Test.YtjjbfgcdlglcbaaOwn
import Derived.Deep.RegionWith
import Derived.Deep.QuietTactic
import Derived.BigQuiet
import Derived.WalkSmall
namespace Go.Proofs.Ytjjbfgcdlglcbaa
open Go.RowKit

theorem bt {a b c : World} (h1 : Below a.heap.size a b) (h2 : Below b.heap.size b c) : Below a.heap.size a c := h1.trans (h2.mono h1.size)

theorem row_fact (w : World) : Row8 (w.alloc (.cells #[.int .u8 255, .int .u8 255, .int .u8 0, .int .u8 2] 5)) (some ⟨w.heap.size, 0, none⟩) 4 4 [255, 255, 0, 2] := by
  refine ⟨rfl, by simp [maxLen], ?_, (fun h => by cases h), fun _ => ⟨w.heap.size, 0, rfl, fun i hi => ?_⟩⟩
  · intro k
    match k with
    | 0 => simp
    | 1 => simp
    | 2 => simp
    | 3 => simp
    | k + 4 => simp
  · rcases (by omega : i = 0 ∨ i = 1 ∨ i = 2 ∨ i = 3) with rfl | rfl | rfl | rfl <;> simp
theorem of_fact (w : World) : Calls Try.prog 5 #[.slice (some ⟨w.heap.size, 0, none⟩) 4 4] (w.alloc (.cells #[.int .u8 255, .int .u8 255, .int .u8 0, .int .u8 2] 5)) fun e w' => e = .returned (.tuple #[.int .i64 2, .nilIface]) ∧ w' = w.alloc (.cells #[.int .u8 255, .int .u8 255, .int .u8 0, .int .u8 2] 5) := by
  have h := of_ok _ 4 4 _ _ (row_fact w) (by omega)
  have e : SM.fold (SM.tot [255, 255, 0, 2] 4) = 2 := by decide
  rw [e] at h
  exact h

set_option maxHeartbeats 1000000 in
theorem swaps_out (a : Option Addr) (len cap : Nat) (t u : Int) (w : World) (hm : len ≤ maxLen) (h : t < 0 ∨ (len : Int) / 2 ≤ t ∨ 300 < len ∨ u < 0 ∨ 65535 < u) :
    Calls Try.prog 3 #[.slice a len cap, .int .i64 t, .int .i64 u] w fun e w' => e = .returned (.bool true) ∧ Below w.heap.size w w' := by
  unfold maxLen at hm
  by_cases h1 : t < 0
  · go_enter Try.func3, Try.ntmps3
    go_wp2_with (go_at_call 5; refine (of_fact w).mono ?_; rintro e w' ⟨rfl, rfl⟩)
    go_ret
    exact ⟨rfl, (Below.refl _ _).alloc (Nat.le_refl _) _⟩
  · by_cases h2 : (len : Int) / 2 ≤ t
    · go_enter Try.func3, Try.ntmps3
      go_wp2_with (go_at_call 5; refine (of_fact w).mono ?_; rintro e w' ⟨rfl, rfl⟩)
      go_ret
      exact ⟨rfl, (Below.refl _ _).alloc (Nat.le_refl _) _⟩
    · by_cases h3 : 300 < len
      · go_enter Try.func3, Try.ntmps3
        go_wp2_with (go_at_call 5; refine (of_fact w).mono ?_; rintro e w' ⟨rfl, rfl⟩)
        go_ret
        exact ⟨rfl, (Below.refl _ _).alloc (Nat.le_refl _) _⟩
      · by_cases h4 : u < 0
        · go_enter Try.func3, Try.ntmps3
          go_wp2_with (go_at_call 5; refine (of_fact w).mono ?_; rintro e w' ⟨rfl, rfl⟩)
          go_ret
          exact ⟨rfl, (Below.refl _ _).alloc (Nat.le_refl _) _⟩
        · have h5 : 65535 < u := by omega
          go_enter Try.func3, Try.ntmps3
          go_wp2_with (go_at_call 5; refine (of_fact w).mono ?_; rintro e w' ⟨rfl, rfl⟩)
          go_ret
          exact ⟨rfl, (Below.refl _ _).alloc (Nat.le_refl _) _⟩

theorem Own.out {base : Nat} {w : World} {v : Value} {zs : List Int} (h : Own base w v zs) (hp : 0 < zs.length) : ∃ g cap, v = .slice (some ⟨g, 0, none⟩) zs.length cap ∧ base ≤ g ∧ g < w.heap.size := by
  rcases h.2.2 with ⟨_, hn⟩ | ⟨g, cap, cur, hv, hb, hg, _⟩
  · omega
  · exact ⟨g, cap, hv, hb, (Array.getElem?_eq_some_iff.1 hg).1⟩

/-- two bytes of an own slice are stored, behind some draws. -/
theorem Own.stored2 {base : Nat} {w : World} {g len cap : Nat} {zs : List Int} (h : Own base w (.slice (some ⟨g, 0, none⟩) len cap) zs) (n i : Nat) (x y : Int) (hx0 : 0 ≤ x) (hx1 : x ≤ 255) (hy0 : 0 ≤ y) (hy1 : y ≤ 255) :
    Own base (((w.drewN n).setCell ⟨g, i, none⟩ (.int .u8 x)).setCell ⟨g, i + 1, none⟩ (.int .u8 y)) (.slice (some ⟨g, 0, none⟩) len cap) ((zs.set i x).set (i + 1) y) := by
  have h0 : (w.drewN n).ownsRow base 5 1 (.slice (some ⟨g, 0, none⟩) len cap) zs.length (zs.map (Value.int .u8)) := by
    obtain ⟨h1, h2⟩ := h.2
    refine ⟨h1, ?_⟩
    rcases h2 with h2 | ⟨g', cap', cur, hv, hb, hg, rest⟩
    · exact .inl h2
    · exact .inr ⟨g', cap', cur, hv, hb, by simpa using hg, rest⟩
  have hl : zs.length = len := by
    rcases h.2.2 with ⟨hv, _⟩ | ⟨g', cap', cur, hv, _⟩
    · cases hv
    · simp at hv; exact hv.2.1.symm
  rw [hl] at h0
  have h1 := (h0.stored i (.int .u8 x)).1
  have h2 := (h1.stored (i + 1) (.int .u8 y)).1
  refine ⟨SM.oct_set _ (SM.oct_set _ h.1 _ _ hx0 hx1) _ _ hy0 hy1, ?_⟩
  simp only [List.length_set, List.map_set, hl]
  exact h2

set_option maxHeartbeats 2000000 in
theorem swaps_in (a : Option Addr) (len cap : Nat) (zs : List Int) (k : Nat) (u : Int) (w : World) (w0 : Row8 w a len cap zs) (h2 : 2 * k + 1 < len) (h3 : len ≤ 300) (h4 : 0 ≤ u) (h5 : u ≤ 65535) :
    Calls Try.prog 3 #[.slice a len cap, .int .i64 k, .int .i64 u] w fun e w' => e = .returned (.bool true) ∧ Below w.heap.size w w' := by
  have hB : Below w.heap.size w (w.alloc (.cells #[.int .u8 255, .int .u8 255, .int .u8 0, .int .u8 2] 5)) := (Below.refl _ _).alloc (Nat.le_refl _) _
  have w1 := w0.below hB
  have hbd := SM.tot_bd zs w0.2.2.1 len
  have hfb := SM.fold_bd _ hbd.1
  have hW : Word (SM.fold (SM.tot zs len)) := hfb
  have hzl : zs.length = len := w0.1
  obtain ⟨b, off, rfl, _⟩ := w0.2.2.2.2 (by omega)
  have HZL := hide hzl
  clear hzl
  go_enter Try.func3, Try.ntmps3
  go_wp2_with (first
    | (go_at_call_of 5 (Value.slice (some ⟨w.heap.size, 0, none⟩) 4 4); refine (of_fact w).mono ?_; rintro e w' ⟨rfl, rfl⟩)
    | (go_at_call_of 5 (Value.slice (some ⟨b, off, none⟩) len cap); refine (of_ok _ _ _ zs _ w1 (by omega)).mono ?_; rintro e w' ⟨rfl, rfl⟩)
    | (go_at_call 6; refine (not_ok _ _ hW).mono ?_; rintro e w2 ⟨rfl, hb⟩; replace w1 := Row8.below w1 hb; replace hB := bt hB hb; clear hb)
    | (at_builtin; refine wpList_app rfl _ _ rfl _ _ [] rfl (Own.nil _ _) (some ⟨b, off, none⟩) len cap zs rfl w1 (by simp; omega) (Nat.le_refl _) ?_; intro v3 w3 hown hgrow))
  have w3r : Row8 w3 (some ⟨b, off, none⟩) len cap zs := w1.grown hgrow (fun _ _ _ h => by cases h)
  have hB3 : Below w.heap.size w w3 := hB.grown hgrow hB.size (fun k h => by cases h)
  have hbase : w.heap.size ≤ w2.heap.size := hB.size
  rw [List.nil_append] at hown
  obtain ⟨g, cap3, hv3, hg1, hg2⟩ := hown.out (by rw [HZL.out]; omega)
  rw [HZL.out] at hv3
  rw [hv3] at hown
  have hoct := w0.2.2.1
  have hown' := hown.2
  rw [HZL.out] at hown'
  have s0 := hown'.cellAt (2 * k) (by omega)
  have s1 := hown'.cellAt (2 * k + 1) (by omega)
  have f0 := hown'.frozenAt (2 * k)
  have f1 := hown'.frozenAt (2 * k + 1)
  have HO := hide hown'
  have HV := hide hown
  have hcell : w3.cell? ⟨b, off + 2 * k, none⟩ = some (.int .u8 (zs.getD (2 * k) 0)) ∧ w3.cell? ⟨b, off + (2 * k + 1), none⟩ = some (.int .u8 (zs.getD (2 * k + 1) 0)) := by
    obtain ⟨b', off', h6, h7⟩ := w3r.2.2.2.2 (by omega)
    simp at h6
    obtain ⟨rfl, rfl⟩ := h6
    exact ⟨h7 _ (by omega), h7 _ (by omega)⟩
  obtain ⟨c0, c1⟩ := hcell
  have o0 := hoct (2 * k)
  have o1 := hoct (2 * k + 1)
  have S0 := hide (show (zs.map (Value.int .u8))[2 * k]? = some (.int .u8 (zs.getD (2 * k) 0)) by
    have : 2 * k < zs.length := by rw [HZL.out]; omega
    simp [this])
  have S1 := hide (show (zs.map (Value.int .u8))[2 * k + 1]? = some (.int .u8 (zs.getD (2 * k + 1) 0)) by
    have : 2 * k + 1 < zs.length := by rw [HZL.out]; omega
    simp [this])
  rw [S0.out] at s0
  rw [S1.out] at s1
  generalize hz0 : zs.getD (2 * k) 0 = z0 at c0 o0 s0
  generalize hz1 : zs.getD (2 * k + 1) 0 = z1 at c1 o1 s1
  have Z0 := hide hz0
  have Z1 := hide hz1
  clear hz0 hz1 hown hown' hgrow w1 w3r
  rw [hv3]
  clear hv3
  go_quiet (fail)
  go_wp2_with fail
  have hzl2 : ((zs.set (2 * k) (u / 256)).set (2 * k + 1) (u % 256)).length = len := by simp [HZL.out]
  have hO2 := HV.out.stored2 nq (2 * k) (u / 256) (u % 256) (by omega) (by omega) (by omega) (by omega)
  have hT : SM.tot ((zs.set (2 * k) (u / 256)).set (2 * k + 1) (u % 256)) len = SM.tot zs len - (256 * z0 + z1) + u := by
    have e1 := SM.tot_set zs (2 * k) (u / 256) (by rw [HZL.out]; omega) len
    have e2 := SM.tot_set (zs.set (2 * k) (u / 256)) (2 * k + 1) (u % 256) (by simp [HZL.out]; omega) len
    have e3 : (zs.set (2 * k) (u / 256)).getD (2 * k + 1) 0 = zs.getD (2 * k + 1) 0 := by simp
    rw [e2, e1, e3, Z0.out, Z1.out, if_pos (show 2 * k < len by omega), if_pos (show 2 * k + 1 < len by omega), if_pos (show 2 * k % 2 = 0 by omega), if_neg (show ¬ (2 * k + 1) % 2 = 0 by omega)]
    omega
  have hpt := SM.tot_part zs hoct (2 * k) (by omega) len h2
  rw [Z0.out, Z1.out] at hpt
  have hsw := SM.swap_is (SM.tot zs len) (256 * z0 + z1) u (by omega) (by omega) h4 (by omega) h5
  rw [← hT] at hsw
  generalize hz2 : (zs.set (2 * k) (u / 256)).set (2 * k + 1) (u % 256) = zs2 at hzl2 hO2 hT hsw
  obtain ⟨a4, cap4, hv4, hr4, _⟩ := hO2.row8
  rw [hzl2] at hv4 hr4
  simp at hv4
  obtain ⟨rfl, rfl⟩ := hv4
  have hbd2 := SM.tot_bd zs2 hO2.1 len
  have hof := of_ok _ _ _ zs2 _ hr4 (by omega)
  have hfb2 := SM.fold_bd _ hbd2.1
  have hsk := swap_ok (65535 - SM.fold (SM.tot zs len)) (256 * z0 + z1) u
  generalize SM.fold (SM.fold (65535 - (65535 - SM.fold (SM.tot zs len)) + (65535 - (256 * z0 + z1))) + u) = r at hsw hsk
  generalize SM.fold (SM.tot zs2 len) = n2 at hof hsw hfb2
  have hB4 : Below w.heap.size w (((w3.drewN nq).setCell ⟨g, 2 * k, none⟩ (.int .u8 (u / 256))).setCell ⟨g, 2 * k + 1, none⟩ (.int .u8 (u % 256))) := ((below_drewN hB3 nq).setCell (by simp; omega) _).setCell (by simp; omega) _
  have HOF := hide hof
  have HSK := hide hsk
  have hw1 : Word (65535 - SM.fold (SM.tot zs len)) := ⟨by omega, by omega⟩
  have hw2 : Word (256 * z0 + z1) := ⟨by omega, by omega⟩
  have hw3 : Word u := ⟨h4, h5⟩
  have hw4 : Word n2 := hfb2
  clear hof hsk hB3 hB hz2 hT hO2 hr4 hbd2 hpt
  by_cases hn : n2 = 0
  · have hn' : (n2 == 0) = true := by simpa using hn
    clear hsw hn
    go_wp2_with (first
      | (go_at_call 5; refine (unhide HOF).mono ?_; rintro e w' ⟨rfl, rfl⟩)
      | (go_at_call 6; refine (not_ok _ _ hw4).mono ?_; rintro e w5 ⟨rfl, hb⟩; replace hB4 := bt hB4 hb; clear hb)
      | (go_at_call 7; refine (unhide HSK _ ⟨hw1, hw2, hw3⟩).mono ?_; rintro e w6 ⟨rfl, hb⟩; replace hB4 := bt hB4 hb; clear hb))
    go_ret
    exact ⟨rfl, hB4⟩
  · have hn' : (n2 == 0) = false := by simpa using hn
    obtain rfl : r = n2 := by rcases hsw with h | h; exact absurd h hn; exact h
    clear hsw hn
    go_wp2_with (first
      | (go_at_call 5; refine (unhide HOF).mono ?_; rintro e w' ⟨rfl, rfl⟩)
      | (go_at_call 6; refine (not_ok _ _ hw4).mono ?_; rintro e w5 ⟨rfl, hb⟩; replace hB4 := bt hB4 hb; clear hb)
      | (go_at_call 7; refine (unhide HSK _ ⟨hw1, hw2, hw3⟩).mono ?_; rintro e w6 ⟨rfl, hb⟩; replace hB4 := bt hB4 hb; clear hb))
    go_ret
    exact ⟨rfl, hB4⟩

theorem swaps_walk (a : Option Addr) (len cap : Nat) (zs : List Int) (t u : Int) (w : World) (w0 : Row8 w a len cap zs) :
    Calls Try.prog 3 #[.slice a len cap, .int .i64 t, .int .i64 u] w fun e w' => e = .returned (.bool true) ∧ Below w.heap.size w w' := by
  by_cases h : t < 0 ∨ (len : Int) / 2 ≤ t ∨ 300 < len ∨ u < 0 ∨ 65535 < u
  · exact swaps_out a len cap t u w w0.2.1 h
  · obtain ⟨k, rfl⟩ := Int.eq_ofNat_of_zero_le (show 0 ≤ t by omega)
    exact swaps_in a len cap zs k u w w0 (by omega) (by omega) (by omega) (by omega)
end Go.Proofs.Ytjjbfgcdlglcbaa
