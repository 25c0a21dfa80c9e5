/- Segments in numbers, second part: bytes read as a segment and written again. -/
import Derived.Test.YtfjnioninjllkaaSgMath
namespace Go.Proofs.Ytfjnioninjllkaa
open Go.RowKit

theorem num_1 (zs : List Int) (j : Nat) : num (zs.drop j) 1 = zs.getD j 0 := by
  simp only [num, P4.getD_drop, Nat.add_zero]; omega
theorem num_2 (zs : List Int) (j : Nat) : num (zs.drop j) 2 = zs.getD j 0 * 256 + zs.getD (j + 1) 0 := by
  simp only [num, P4.getD_drop, Nat.add_zero]; omega
theorem num_4 (zs : List Int) (j : Nat) : num (zs.drop j) 4 = ((zs.getD j 0 * 256 + zs.getD (j + 1) 0) * 256 + zs.getD (j + 2) 0) * 256 + zs.getD (j + 3) 0 := by
  simp only [num, P4.getD_drop, Nat.add_zero]; omega
theorem num_20 (zs : List Int) : num zs 2 = zs.getD 0 0 * 256 + zs.getD 1 0 := num_2 zs 0
/-- what is read, number by number. -/
theorem rdz_tcp (zs : List Int) : el (rdz 6 zs) 0 = 6 ∧ el (rdz 6 zs) 1 = zs.getD 0 0 * 256 + zs.getD 1 0 ∧ el (rdz 6 zs) 2 = zs.getD 2 0 * 256 + zs.getD 3 0 ∧ el (rdz 6 zs) 3 = ((zs.getD 4 0 * 256 + zs.getD 5 0) * 256 + zs.getD 6 0) * 256 + zs.getD 7 0 ∧ el (rdz 6 zs) 4 = ((zs.getD 8 0 * 256 + zs.getD 9 0) * 256 + zs.getD 10 0) * 256 + zs.getD 11 0 ∧ el (rdz 6 zs) 5 = zs.getD 13 0 ∧ el (rdz 6 zs) 6 = zs.getD 14 0 * 256 + zs.getD 15 0 :=
  ⟨rfl, num_20 zs, num_2 zs 2, num_4 zs 4, num_4 zs 8, num_1 zs 13, num_2 zs 14⟩
theorem rdz_udp (zs : List Int) : el (rdz 17 zs) 0 = 17 ∧ el (rdz 17 zs) 1 = zs.getD 0 0 * 256 + zs.getD 1 0 ∧ el (rdz 17 zs) 2 = zs.getD 2 0 * 256 + zs.getD 3 0 ∧ el (rdz 17 zs) 3 = 0 ∧ el (rdz 17 zs) 4 = 0 ∧ el (rdz 17 zs) 5 = 0 ∧ el (rdz 17 zs) 6 = 0 :=
  ⟨rfl, num_20 zs, num_2 zs 2, rfl, rfl, rfl, rfl⟩
theorem okg_tcp (zs : List Int) (ho : SM.Oct zs) (n : Nat) (hn : n ≤ 300) : Okg (rdz 6 zs) n ↔ zs.getD 13 0 ≤ 31 := by
  obtain ⟨e0, e1, e2, e3, e4, e5, e6⟩ := rdz_tcp zs
  have h0 := ho 0; have h1 := ho 1; have h2 := ho 2; have h3 := ho 3; have h4 := ho 4; have h5 := ho 5; have h6 := ho 6; have h7 := ho 7
  have h8 := ho 8; have h9 := ho 9; have h10 := ho 10; have h11 := ho 11; have h13 := ho 13; have h14 := ho 14; have h15 := ho 15
  unfold Okg
  rw [e0, e1, e2, e3, e4, e5, e6]
  omega
theorem okg_udp (zs : List Int) (ho : SM.Oct zs) (n : Nat) (hn : n ≤ 300) : Okg (rdz 17 zs) n := by
  obtain ⟨e0, e1, e2, e3, e4, e5, e6⟩ := rdz_udp zs
  have h0 := ho 0; have h1 := ho 1; have h2 := ho 2; have h3 := ho 3
  unfold Okg
  rw [e0, e1, e2, e3, e4, e5, e6]
  omega
theorem getD_app (xs ys : List Int) (j : Nat) (h : j < xs.length) : (xs ++ ys).getD j 0 = xs.getD j 0 := by
  rw [List.getD_eq_getElem?_getD, List.getD_eq_getElem?_getD, List.getElem?_append_left h]
theorem drop_app (xs ys : List Int) (n : Nat) (h : xs.length = n) : (xs ++ ys).drop n = ys := by
  subst h
  simp
/-- what is read from a segment's own bytes. -/
theorem rd_eb (z : List Int) (over : Int) (data : List Int) (h : Okg z data.length) (j : Nat) (hj : j < 7) : el (rdz (el z 0) (eb z over data)) j = el z j := by
  have hh := h
  obtain ⟨hf, ht, _, hc⟩ := h
  rcases hc with ⟨h6, hq, hc, hg, hv⟩ | ⟨h17, hq, hc, hg, hv⟩
  · rw [eb_tcp z over data hh h6, h6]
    obtain ⟨e0, e1, e2, e3, e4, e5, e6⟩ := rdz_tcp (hdT (el z 1) (el z 2) (el z 3) (el z 4) (el z 5) (el z 6) (sck z over data) ++ data)
    generalize sck z over data = C at *
    have g : ∀ i, i < 20 → (hdT (el z 1) (el z 2) (el z 3) (el z 4) (el z 5) (el z 6) C ++ data).getD i 0 = (hdT (el z 1) (el z 2) (el z 3) (el z 4) (el z 5) (el z 6) C).getD i 0 := fun i hi => getD_app _ _ i hi
    rw [g 0 (by omega), g 1 (by omega)] at e1
    rw [g 2 (by omega), g 3 (by omega)] at e2
    rw [g 4 (by omega), g 5 (by omega), g 6 (by omega), g 7 (by omega)] at e3
    rw [g 8 (by omega), g 9 (by omega), g 10 (by omega), g 11 (by omega)] at e4
    rw [g 13 (by omega)] at e5
    rw [g 14 (by omega), g 15 (by omega)] at e6
    simp only [hdT, List.getD_cons_zero, List.getD_cons_succ] at e1 e2 e3 e4 e5 e6
    rcases (by omega : j = 0 ∨ j = 1 ∨ j = 2 ∨ j = 3 ∨ j = 4 ∨ j = 5 ∨ j = 6) with rfl | rfl | rfl | rfl | rfl | rfl | rfl
    · rw [e0, h6]
    · rw [show rdz 6 _ = rdz 6 _ from rfl]; unfold hdT; rw [e1]; omega
    · unfold hdT; rw [e2]; omega
    · unfold hdT; rw [e3]; omega
    · unfold hdT; rw [e4]; omega
    · unfold hdT; rw [e5]
    · unfold hdT; rw [e6]; omega
  · have h6 : ¬ el z 0 = 6 := by omega
    rw [eb_udp z over data hh h6, h17]
    obtain ⟨e0, e1, e2, e3, e4, e5, e6⟩ := rdz_udp (hdU (el z 1) (el z 2) (8 + data.length) (sck z over data) ++ data)
    generalize sck z over data = C at *
    have g : ∀ i, i < 8 → (hdU (el z 1) (el z 2) (8 + data.length) C ++ data).getD i 0 = (hdU (el z 1) (el z 2) (8 + data.length) C).getD i 0 := fun i hi => getD_app _ _ i hi
    rw [g 0 (by omega), g 1 (by omega)] at e1
    rw [g 2 (by omega), g 3 (by omega)] at e2
    simp only [hdU, List.getD_cons_zero, List.getD_cons_succ] at e1 e2
    rcases (by omega : j = 0 ∨ j = 1 ∨ j = 2 ∨ j = 3 ∨ j = 4 ∨ j = 5 ∨ j = 6) with rfl | rfl | rfl | rfl | rfl | rfl | rfl
    · rw [e0, h17]
    · unfold hdU; rw [e1]; omega
    · unfold hdU; rw [e2]; omega
    · rw [e3, hq]
    · rw [e4, hc]
    · rw [e5, hg]
    · rw [e6, hv]
theorem drop_eb (z : List Int) (over : Int) (data : List Int) (h : Okg z data.length) : (eb z over data).drop (hn (el z 0)) = data := by
  by_cases h6 : el z 0 = 6
  · rw [eb_tcp z over data h h6, show hn (el z 0) = 20 by unfold hn; rw [if_pos h6]]
    exact drop_app _ _ 20 rfl
  · rw [eb_udp z over data h h6, show hn (el z 0) = 8 by unfold hn; rw [if_neg h6]]
    exact drop_app _ _ 8 rfl
/-- all hangs on the numbers alone. -/
theorem sgC_congr (z z' : List Int) (h : ∀ j, j < 7 → el z j = el z' j) (a : Option Addr) (len cap : Nat) : sgC z a len cap = sgC z' a len cap := by
  unfold sgC
  rw [h 0 (by omega), h 1 (by omega), h 2 (by omega), h 3 (by omega), h 4 (by omega), h 5 (by omega), h 6 (by omega)]
theorem eb_congr (z z' : List Int) (h : ∀ j, j < 7 → el z j = el z' j) (over : Int) (data : List Int) : eb z over data = eb z' over data := by
  unfold eb sck ub
  rw [h 0 (by omega), h 1 (by omega), h 2 (by omega), h 3 (by omega), h 4 (by omega), h 5 (by omega), h 6 (by omega)]
theorem sf_congr (z z' : List Int) (h : ∀ j, j < 7 → el z j = el z' j) (n : Nat) : sf z n = sf z' n := by
  unfold sf os
  rw [h 0 (by omega), h 1 (by omega), h 2 (by omega), h 3 (by omega), h 4 (by omega), h 5 (by omega), h 6 (by omega)]
end Go.Proofs.Ytfjnioninjllkaa
