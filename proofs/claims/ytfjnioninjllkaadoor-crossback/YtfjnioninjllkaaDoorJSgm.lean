/- Segments in numbers: their bytes, what is read from them, what they add up to. Segments in numbers, second part: bytes read as a segment and written again. Encode and Decode of segments that may be. -/
import Derived.Test.YtfjnioninjllkaaDoorSgDec
namespace Go.Proofs.YtfjnioninjllkaaDoor
open Go.RowKit

theorem up_iff (m n : Int) : up m n = true ↔ 0 ≤ n ∧ n ≤ m := by unfold up; simp
theorem ups2 (m x y : Int) : ups m [x, y] = true ↔ (0 ≤ x ∧ x ≤ m) ∧ (0 ≤ y ∧ y ≤ m) := by simp [ups, up_iff]
theorem ups4 (m x y u v : Int) : ups m [x, y, u, v] = true ↔ (0 ≤ x ∧ x ≤ m) ∧ (0 ≤ y ∧ y ≤ m) ∧ (0 ≤ u ∧ u ≤ m) ∧ (0 ≤ v ∧ v ≤ m) := by simp [ups, up_iff]
theorem os_iff (z : List Int) : os z = true ↔ ((0 ≤ el z 3 ∧ el z 3 ≤ 4294967295) ∧ (0 ≤ el z 4 ∧ el z 4 ≤ 4294967295)) ∧ (0 ≤ el z 5 ∧ el z 5 ≤ 31) ∧ (0 ≤ el z 6 ∧ el z 6 ≤ 65535) := by
  unfold os
  simp only [Bool.and_eq_true, ups2, up_iff, and_assoc]
theorem kn_iff (k : Int) : kn k = true ↔ k = 6 ∨ k = 17 := by simp [kn]
/-- what a segment that may be is. -/
def Okg (z : List Int) (len : Nat) : Prop := (0 ≤ el z 1 ∧ el z 1 ≤ 65535) ∧ (0 ≤ el z 2 ∧ el z 2 ≤ 65535) ∧ len ≤ 300 ∧
  ((el z 0 = 6 ∧ (0 ≤ el z 3 ∧ el z 3 ≤ 4294967295) ∧ (0 ≤ el z 4 ∧ el z 4 ≤ 4294967295) ∧ (0 ≤ el z 5 ∧ el z 5 ≤ 31) ∧ (0 ≤ el z 6 ∧ el z 6 ≤ 65535)) ∨
   (el z 0 = 17 ∧ el z 3 = 0 ∧ el z 4 = 0 ∧ el z 5 = 0 ∧ el z 6 = 0))
theorem sf_iff (z : List Int) (len : Nat) : sf z len = 0 ↔ Okg z len := by
  unfold sf Okg
  by_cases h1 : kn (el z 0) = true ∧ ups 65535 [el z 1, el z 2] = true
  · rw [if_neg (by simp [h1])]
    have hk := (kn_iff _).1 h1.1
    have hu := (ups2 _ _ _).1 h1.2
    by_cases h6 : el z 0 = 6
    · rw [if_pos h6]
      have ho := os_iff z
      cases hos : os z
      · rw [hos] at ho
        simp only [if_true]
        refine ⟨fun h => by omega, fun ⟨_, _, _, h⟩ => ?_⟩
        rcases h with ⟨_, a, b, c, d⟩ | ⟨e, _⟩
        · exact absurd (ho.2 ⟨⟨a, b⟩, c, d⟩) (by decide)
        · omega
      · have ho' := ho.1 hos
        simp only [Bool.true_eq_false, if_false]
        split <;> omega
    · rw [if_neg h6]
      have hn := ups4 0 (el z 3) (el z 4) (el z 5) (el z 6)
      cases hun : ups 0 [el z 3, el z 4, el z 5, el z 6]
      · rw [hun] at hn
        simp only [if_true]
        refine ⟨fun h => by omega, fun ⟨_, _, _, h⟩ => ?_⟩
        rcases h with ⟨e, _⟩ | ⟨_, a, b, c, d⟩
        · exact absurd e h6
        · exact absurd (hn.2 (by omega)) (by decide)
      · have hn' := hn.1 hun
        simp only [Bool.true_eq_false, if_false]
        split <;> omega
  · rw [if_pos (by
      cases h2 : kn (el z 0)
      · rfl
      · cases h3 : ups 65535 [el z 1, el z 2]
        · rfl
        · exact absurd ⟨h2, h3⟩ h1)]
    refine ⟨fun h => by omega, fun ⟨a, b, _, h⟩ => absurd ⟨(kn_iff _).2 (by omega), (ups2 _ _ _).2 ⟨a, b⟩⟩ h1⟩
/-- the heads' bytes. -/
def hdT (f t q c g v C : Int) : List Int := [f / 256, f % 256, t / 256, t % 256, q / 16777216, q / 65536 % 256, q / 256 % 256, q % 256, c / 16777216, c / 65536 % 256, c / 256 % 256, c % 256, 80, g, v / 256, v % 256, C / 256, C % 256, 0, 0]
def hdU (f t n C : Int) : List Int := [f / 256, f % 256, t / 256, t % 256, n / 256, n % 256, C / 256, C % 256]
theorem nb4 (x : Int) (h0 : 0 ≤ x) (h1 : x ≤ 4294967295) : nb 4 x = [x / 16777216, x / 65536 % 256, x / 256 % 256, x % 256] := by
  show [x / 256 ^ 3 % 256, x / 256 ^ 2 % 256, x / 256 ^ 1 % 256, x / 256 ^ 0 % 256] = _
  rw [show x / 256 ^ 3 % 256 = x / 16777216 by omega, show x / 256 ^ 2 % 256 = x / 65536 % 256 by omega, show x / 256 ^ 1 % 256 = x / 256 % 256 by omega, show x / 256 ^ 0 % 256 = x % 256 by omega]
theorem nb1 (x : Int) (h0 : 0 ≤ x) (h1 : x ≤ 255) : nb 1 x = [x] := by
  show [x / 256 ^ 0 % 256] = _
  rw [show x / 256 ^ 0 % 256 = x by omega]
theorem ub_tcp (z data : List Int) (h : Okg z data.length) (h6 : el z 0 = 6) : ub z data = hdT (el z 1) (el z 2) (el z 3) (el z 4) (el z 5) (el z 6) 0 ++ data := by
  obtain ⟨hf, ht, _, h⟩ := h
  obtain ⟨_, hq, hc, hg, hv⟩ : el z 0 = 6 ∧ (0 ≤ el z 3 ∧ el z 3 ≤ 4294967295) ∧ (0 ≤ el z 4 ∧ el z 4 ≤ 4294967295) ∧ (0 ≤ el z 5 ∧ el z 5 ≤ 31) ∧ (0 ≤ el z 6 ∧ el z 6 ≤ 65535) := by
    rcases h with h | h
    · exact h
    · omega
  unfold ub
  rw [if_pos h6]
  show (((([] ++ nb 2 (el z 1)) ++ nb 2 (el z 2)) ++ (([] ++ nb 4 (el z 3)) ++ nb 4 (el z 4))) ++ (([] ++ nb 1 80) ++ nb 1 (el z 5)) ++ ((([] ++ nb 2 (el z 6)) ++ nb 2 0) ++ nb 2 0)) ++ data = _
  rw [nb2 _ hf.1 hf.2, nb2 _ ht.1 ht.2, nb4 _ hq.1 hq.2, nb4 _ hc.1 hc.2, nb1 80 (by omega) (by omega), nb1 _ hg.1 (by omega), nb2 _ hv.1 hv.2, nb2 0 (by omega) (by omega)]
  rfl
theorem ub_udp (z data : List Int) (h : Okg z data.length) (h6 : ¬ el z 0 = 6) : ub z data = hdU (el z 1) (el z 2) (8 + data.length) 0 ++ data := by
  obtain ⟨hf, ht, hl, _⟩ := h
  unfold ub
  rw [if_neg h6]
  show ((([] ++ nb 2 (el z 1)) ++ nb 2 (el z 2)) ++ (([] ++ nb 2 (8 + (data.length : Int))) ++ nb 2 0)) ++ data = _
  rw [nb2 _ hf.1 hf.2, nb2 _ ht.1 ht.2, nb2 (8 + (data.length : Int)) (by omega) (by omega), nb2 0 (by omega) (by omega)]
  rfl
theorem eb_tcp (z : List Int) (over : Int) (data : List Int) (h : Okg z data.length) (h6 : el z 0 = 6) : eb z over data = hdT (el z 1) (el z 2) (el z 3) (el z 4) (el z 5) (el z 6) (sck z over data) ++ data := by
  unfold eb
  generalize sck z over data = C
  rw [ub_tcp z data h h6, show cn (el z 0) = 16 by unfold cn; rw [if_pos h6]]
  rfl
theorem eb_udp (z : List Int) (over : Int) (data : List Int) (h : Okg z data.length) (h6 : ¬ el z 0 = 6) : eb z over data = hdU (el z 1) (el z 2) (8 + data.length) (sck z over data) ++ data := by
  unfold eb
  generalize sck z over data = C
  rw [ub_udp z data h h6, show cn (el z 0) = 6 by unfold cn; rw [if_neg h6]]
  rfl
/-- what a segment's bytes add up to: that of all but the check, and the check. -/
theorem eb_tot (z : List Int) (over : Int) (data : List Int) (h : Okg z data.length) : SM.tot (eb z over data) (eb z over data).length = SM.tot (ub z data) (ub z data).length + sck z over data := by
  have hu := ub_len z data
  have hc := cn_lt (el z 0)
  have he : cn (el z 0) % 2 = 0 := by unfold cn; split <;> rfl
  have g0 : (ub z data).getD (cn (el z 0)) 0 = 0 ∧ (ub z data).getD (cn (el z 0) + 1) 0 = 0 := by
    by_cases h6 : el z 0 = 6
    · rw [ub_tcp z data h h6, show cn (el z 0) = 16 by unfold cn; rw [if_pos h6]]
      exact ⟨rfl, rfl⟩
    · rw [ub_udp z data h h6, show cn (el z 0) = 6 by unfold cn; rw [if_neg h6]]
      exact ⟨rfl, rfl⟩
  unfold eb
  generalize sck z over data = C
  have hl1 : cn (el z 0) < (ub z data).length := by omega
  have hl2 : cn (el z 0) + 1 < (ub z data).length := by omega
  rw [List.length_set, List.length_set, SM.tot_set _ _ _ (by rw [List.length_set]; exact hl2), SM.tot_set _ _ _ hl1, if_pos hl1, if_pos hl2, if_pos he, if_neg (show ¬ (cn (el z 0) + 1) % 2 = 0 by omega)]
  rw [List.getD_eq_getElem?_getD (l := List.set _ _ _), List.getElem?_set_ne (by omega), ← List.getD_eq_getElem?_getD, g0.1, g0.2]
  omega
theorem fold_spec (n : Int) (_h : 0 ≤ n) : (n - SM.fold n) % 65535 = 0 ∧ 0 ≤ SM.fold n ∧ SM.fold n ≤ 65535 ∧ (SM.fold n = 0 → n = 0) ∧ (n = 0 → SM.fold n = 0) := by
  unfold SM.fold
  split <;> omega
theorem fold_full (n : Int) (_h : 0 < n) (h2 : n % 65535 = 0) : SM.fold n = 65535 := by
  unfold SM.fold
  rw [if_neg (by omega)]
  omega
/-- all together they add up to 65535. -/
theorem eb_sum (z : List Int) (over : Int) (data : List Int) (h : Okg z data.length) (hd : SM.Oct data) (ho : 0 ≤ over ∧ over ≤ 65535) : SM.fold (SM.tot (eb z over data) (eb z over data).length + over) = 65535 := by
  rw [eb_tot z over data h]
  have hb := (SM.tot_bd _ (ub_oct z data hd) (ub z data).length).1
  unfold sck ckg
  generalize SM.tot (ub z data) (ub z data).length = T at hb
  have h1 := fold_spec T hb
  generalize SM.fold T = F at h1
  have h2 := fold_spec (over + F) (by omega)
  generalize SM.fold (over + F) = S at h2
  apply fold_full
  · split <;> omega
  · split <;> omega
end Go.Proofs.YtfjnioninjllkaaDoor

namespace Go.Proofs.YtfjnioninjllkaaDoor
open Go.RowKit

theorem num_1 (zs : List Int) (j : Nat) : num (zs.drop j) 1 = zs.getD j 0 := by
  simp only [num, P4.getD_drop, Nat.add_zero]; omega
theorem num_2 (zs : List Int) (j : Nat) : num (zs.drop j) 2 = zs.getD j 0 * 256 + zs.getD (j + 1) 0 := by
  simp only [num, P4.getD_drop, Nat.add_zero]; omega
theorem num_4 (zs : List Int) (j : Nat) : num (zs.drop j) 4 = ((zs.getD j 0 * 256 + zs.getD (j + 1) 0) * 256 + zs.getD (j + 2) 0) * 256 + zs.getD (j + 3) 0 := by
  simp only [num, P4.getD_drop, Nat.add_zero]; omega
theorem num_20 (zs : List Int) : num zs 2 = zs.getD 0 0 * 256 + zs.getD 1 0 := num_2 zs 0
/-- what is read, number by number. -/
theorem rdz_tcp (zs : List Int) : el (rdz 6 zs) 0 = 6 ∧ el (rdz 6 zs) 1 = zs.getD 0 0 * 256 + zs.getD 1 0 ∧ el (rdz 6 zs) 2 = zs.getD 2 0 * 256 + zs.getD 3 0 ∧ el (rdz 6 zs) 3 = ((zs.getD 4 0 * 256 + zs.getD 5 0) * 256 + zs.getD 6 0) * 256 + zs.getD 7 0 ∧ el (rdz 6 zs) 4 = ((zs.getD 8 0 * 256 + zs.getD 9 0) * 256 + zs.getD 10 0) * 256 + zs.getD 11 0 ∧ el (rdz 6 zs) 5 = zs.getD 13 0 ∧ el (rdz 6 zs) 6 = zs.getD 14 0 * 256 + zs.getD 15 0 :=
  ⟨rfl, num_20 zs, num_2 zs 2, num_4 zs 4, num_4 zs 8, num_1 zs 13, num_2 zs 14⟩
theorem rdz_udp (zs : List Int) : el (rdz 17 zs) 0 = 17 ∧ el (rdz 17 zs) 1 = zs.getD 0 0 * 256 + zs.getD 1 0 ∧ el (rdz 17 zs) 2 = zs.getD 2 0 * 256 + zs.getD 3 0 ∧ el (rdz 17 zs) 3 = 0 ∧ el (rdz 17 zs) 4 = 0 ∧ el (rdz 17 zs) 5 = 0 ∧ el (rdz 17 zs) 6 = 0 :=
  ⟨rfl, num_20 zs, num_2 zs 2, rfl, rfl, rfl, rfl⟩
theorem okg_tcp (zs : List Int) (ho : SM.Oct zs) (n : Nat) (hn : n ≤ 300) : Okg (rdz 6 zs) n ↔ zs.getD 13 0 ≤ 31 := by
  obtain ⟨e0, e1, e2, e3, e4, e5, e6⟩ := rdz_tcp zs
  have h0 := ho 0; have h1 := ho 1; have h2 := ho 2; have h3 := ho 3; have h4 := ho 4; have h5 := ho 5; have h6 := ho 6; have h7 := ho 7
  have h8 := ho 8; have h9 := ho 9; have h10 := ho 10; have h11 := ho 11; have h13 := ho 13; have h14 := ho 14; have h15 := ho 15
  unfold Okg
  rw [e0, e1, e2, e3, e4, e5, e6]
  omega
theorem okg_udp (zs : List Int) (ho : SM.Oct zs) (n : Nat) (hn : n ≤ 300) : Okg (rdz 17 zs) n := by
  obtain ⟨e0, e1, e2, e3, e4, e5, e6⟩ := rdz_udp zs
  have h0 := ho 0; have h1 := ho 1; have h2 := ho 2; have h3 := ho 3
  unfold Okg
  rw [e0, e1, e2, e3, e4, e5, e6]
  omega
theorem getD_app (xs ys : List Int) (j : Nat) (h : j < xs.length) : (xs ++ ys).getD j 0 = xs.getD j 0 := by
  rw [List.getD_eq_getElem?_getD, List.getD_eq_getElem?_getD, List.getElem?_append_left h]
theorem drop_app (xs ys : List Int) (n : Nat) (h : xs.length = n) : (xs ++ ys).drop n = ys := by
  subst h
  simp
/-- what is read from a segment's own bytes. -/
theorem rd_eb (z : List Int) (over : Int) (data : List Int) (h : Okg z data.length) (j : Nat) (hj : j < 7) : el (rdz (el z 0) (eb z over data)) j = el z j := by
  have hh := h
  obtain ⟨hf, ht, _, hc⟩ := h
  rcases hc with ⟨h6, hq, hc, hg, hv⟩ | ⟨h17, hq, hc, hg, hv⟩
  · rw [eb_tcp z over data hh h6, h6]
    obtain ⟨e0, e1, e2, e3, e4, e5, e6⟩ := rdz_tcp (hdT (el z 1) (el z 2) (el z 3) (el z 4) (el z 5) (el z 6) (sck z over data) ++ data)
    generalize sck z over data = C at *
    have g : ∀ i, i < 20 → (hdT (el z 1) (el z 2) (el z 3) (el z 4) (el z 5) (el z 6) C ++ data).getD i 0 = (hdT (el z 1) (el z 2) (el z 3) (el z 4) (el z 5) (el z 6) C).getD i 0 := fun i hi => getD_app _ _ i hi
    rw [g 0 (by omega), g 1 (by omega)] at e1
    rw [g 2 (by omega), g 3 (by omega)] at e2
    rw [g 4 (by omega), g 5 (by omega), g 6 (by omega), g 7 (by omega)] at e3
    rw [g 8 (by omega), g 9 (by omega), g 10 (by omega), g 11 (by omega)] at e4
    rw [g 13 (by omega)] at e5
    rw [g 14 (by omega), g 15 (by omega)] at e6
    simp only [hdT, List.getD_cons_zero, List.getD_cons_succ] at e1 e2 e3 e4 e5 e6
    rcases (by omega : j = 0 ∨ j = 1 ∨ j = 2 ∨ j = 3 ∨ j = 4 ∨ j = 5 ∨ j = 6) with rfl | rfl | rfl | rfl | rfl | rfl | rfl
    · rw [e0, h6]
    · rw [show rdz 6 _ = rdz 6 _ from rfl]; unfold hdT; rw [e1]; omega
    · unfold hdT; rw [e2]; omega
    · unfold hdT; rw [e3]; omega
    · unfold hdT; rw [e4]; omega
    · unfold hdT; rw [e5]
    · unfold hdT; rw [e6]; omega
  · have h6 : ¬ el z 0 = 6 := by omega
    rw [eb_udp z over data hh h6, h17]
    obtain ⟨e0, e1, e2, e3, e4, e5, e6⟩ := rdz_udp (hdU (el z 1) (el z 2) (8 + data.length) (sck z over data) ++ data)
    generalize sck z over data = C at *
    have g : ∀ i, i < 8 → (hdU (el z 1) (el z 2) (8 + data.length) C ++ data).getD i 0 = (hdU (el z 1) (el z 2) (8 + data.length) C).getD i 0 := fun i hi => getD_app _ _ i hi
    rw [g 0 (by omega), g 1 (by omega)] at e1
    rw [g 2 (by omega), g 3 (by omega)] at e2
    simp only [hdU, List.getD_cons_zero, List.getD_cons_succ] at e1 e2
    rcases (by omega : j = 0 ∨ j = 1 ∨ j = 2 ∨ j = 3 ∨ j = 4 ∨ j = 5 ∨ j = 6) with rfl | rfl | rfl | rfl | rfl | rfl | rfl
    · rw [e0, h17]
    · unfold hdU; rw [e1]; omega
    · unfold hdU; rw [e2]; omega
    · rw [e3, hq]
    · rw [e4, hc]
    · rw [e5, hg]
    · rw [e6, hv]
theorem drop_eb (z : List Int) (over : Int) (data : List Int) (h : Okg z data.length) : (eb z over data).drop (hn (el z 0)) = data := by
  by_cases h6 : el z 0 = 6
  · rw [eb_tcp z over data h h6, show hn (el z 0) = 20 by unfold hn; rw [if_pos h6]]
    exact drop_app _ _ 20 rfl
  · rw [eb_udp z over data h h6, show hn (el z 0) = 8 by unfold hn; rw [if_neg h6]]
    exact drop_app _ _ 8 rfl
/-- all hangs on the numbers alone. -/
theorem sgC_congr (z z' : List Int) (h : ∀ j, j < 7 → el z j = el z' j) (a : Option Addr) (len cap : Nat) : sgC z a len cap = sgC z' a len cap := by
  unfold sgC
  rw [h 0 (by omega), h 1 (by omega), h 2 (by omega), h 3 (by omega), h 4 (by omega), h 5 (by omega), h 6 (by omega)]
theorem eb_congr (z z' : List Int) (h : ∀ j, j < 7 → el z j = el z' j) (over : Int) (data : List Int) : eb z over data = eb z' over data := by
  unfold eb sck ub
  rw [h 0 (by omega), h 1 (by omega), h 2 (by omega), h 3 (by omega), h 4 (by omega), h 5 (by omega), h 6 (by omega)]
theorem sf_congr (z z' : List Int) (h : ∀ j, j < 7 → el z j = el z' j) (n : Nat) : sf z n = sf z' n := by
  unfold sf os
  rw [h 0 (by omega), h 1 (by omega), h 2 (by omega), h 3 (by omega), h 4 (by omega), h 5 (by omega), h 6 (by omega)]
end Go.Proofs.YtfjnioninjllkaaDoor

namespace Go.Proofs.YtfjnioninjllkaaDoor
open Go.RowKit
theorem okg_kn {z : List Int} {len : Nat} (h : Okg z len) : kn (el z 0) = true := (kn_iff _).2 (by obtain ⟨_, _, _, h | h⟩ := h <;> omega)
/-- a segment's bytes, as Encode hands them out. -/
theorem enc_form (z : List Int) (a : Option Addr) (len cap : Nat) (over : Int) (data : List Int) (w : World) (h : Okg z len) (ho : up 65535 over = true) (hr : Row8 w a len cap data) :
    Calls Tryd.prog 13 #[.agg (sgC z a len cap), .int .i64 over] w fun e w' => ∃ g c, e = .returned (.tuple #[.slice (some ⟨g, 0, none⟩) (hn (el z 0) + len) c, .nilIface]) ∧ hn (el z 0) + len ≤ c ∧ c ≤ maxLen ∧ w.heap.size ≤ g ∧ Row8 w' (some ⟨g, 0, none⟩) (hn (el z 0) + len) c (eb z over data) ∧ Below w.heap.size w w' := by
  refine (enc_ok z a len cap over data w ((sf_iff _ _).2 h) ho hr).mono ?_
  rintro e w' ⟨v, rfl, hown, hb⟩
  have hlen : (eb z over data).length = hn (el z 0) + len := by rw [eb_len, hr.1]
  have hp : 0 < hn (el z 0) := by unfold hn; split <;> omega
  obtain ⟨g, c, rfl, h1, h2, h3, _, h4⟩ := hown.form (by omega)
  rw [hlen] at h1 h4 ⊢
  exact ⟨g, c, rfl, h1, h2, h3, h4, hb⟩
theorem eb_oct (z : List Int) (over : Int) (data : List Int) (hd : SM.Oct data) (ho : up 65535 over = true) : SM.Oct (eb z over data) := by
  have hc := sck_in z over data hd ho
  exact SM.oct_set _ (SM.oct_set _ (ub_oct z data hd) _ _ (by omega) (by omega)) _ _ (by omega) (by omega)
/-- what was written is read. -/
theorem dec_own (z : List Int) (g off n cap : Nat) (over : Int) (data : List Int) (w : World) (h : Okg z data.length) (ho : up 65535 over = true) (hr : Row8 w (some ⟨g, off, none⟩) n cap (eb z over data)) (hcl : n ≤ cap) (hcm : cap ≤ maxLen) :
    Calls Tryd.prog 52 #[.int .i64 (el z 0), .slice (some ⟨g, off, none⟩) n cap, .int .i64 over] w fun e w' => ∃ a' l' c', e = .returned (.tuple #[.agg (sgC z a' l' c'), .nilIface]) ∧ Row8 w' a' l' c' data ∧ Below w.heap.size w w' := by
  have hlen := hr.1
  rw [eb_len] at hlen
  have hz := fun j hj => rd_eb z over data h j hj
  have hd := drop_eb z over data h
  have e2 : n - hn (el z 0) = data.length := by omega
  have hl := h.2.2.1
  have he := eb_congr _ _ hz over data
  have hraw := dec_raw (el z 0) over g off n cap (eb z over data) w hr (okg_kn h) ho (by omega) (by omega) hcl hcm (by rw [e2, sf_congr _ _ hz]; exact (sf_iff _ _).2 h) true true (by rw [hd, he]; simp) (by rw [hd, he]; simp)
  refine hraw.mono ?_
  rintro e w' ⟨hh, hb⟩
  rcases hh with ⟨h1, _⟩ | ⟨_, h1, _⟩ | ⟨_, _, a', c', h1, h2⟩
  · cases h1
  · cases h1
  · rw [sgC_congr _ _ hz] at h1
    rw [hd] at h2
    exact ⟨a', _, c', h1, h2, hb⟩
theorem fold_mod (n : Int) (h : 0 ≤ n) (h2 : SM.fold n = 65535) : n % 65535 = 0 := by
  have := fold_spec n h
  omega
theorem take_eb (z : List Int) (over other : Int) (data : List Int) : (eb z other data).take (cn (el z 0)) = (eb z over data).take (cn (el z 0)) ∧ (eb z other data).drop (cn (el z 0) + 2) = (eb z over data).drop (cn (el z 0) + 2) := by
  unfold eb
  generalize sck z over data = C
  generalize sck z other data = C'
  constructor
  · apply List.ext_getElem?
    intro j
    simp only [List.getElem?_take, List.getElem?_set]
    split
    · rw [if_neg (by omega), if_neg (by omega), if_neg (by omega), if_neg (by omega)]
    · rfl
  · apply List.ext_getElem?
    intro j
    simp only [List.getElem?_drop, List.getElem?_set]
    rw [if_neg (by omega), if_neg (by omega), if_neg (by omega), if_neg (by omega)]
theorem getD_set_self (l : List Int) (j : Nat) (v : Int) (h : j < l.length) : (l.set j v).getD j 0 = v := by simp [h]
theorem getD_set_ne (l : List Int) (i j : Nat) (v : Int) (h : i ≠ j) : (l.set i v).getD j 0 = l.getD j 0 := by
  rw [List.getD_eq_getElem?_getD, List.getElem?_set_ne h, ← List.getD_eq_getElem?_getD]
theorem eb_at (z : List Int) (over : Int) (data : List Int) : (eb z over data).getD (cn (el z 0)) 0 = sck z over data / 256 ∧ (eb z over data).getD (cn (el z 0) + 1) 0 = sck z over data % 256 := by
  have hu := ub_len z data
  have hc := cn_lt (el z 0)
  unfold eb
  exact ⟨(getD_set_ne _ _ _ _ (by omega)).trans (getD_set_self _ _ _ (by omega)), getD_set_self _ _ _ (by rw [List.length_set]; omega)⟩
end Go.Proofs.YtfjnioninjllkaaDoor
