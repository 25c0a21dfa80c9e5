/- Segments in numbers: their bytes, what is read from them, what they add up to. -/
import Derived.Test.YtfjnioninjllkaaSgDec
namespace Go.Proofs.Ytfjnioninjllkaa
open Go.RowKit

theorem up_iff (m n : Int) : up m n = true ↔ 0 ≤ n ∧ n ≤ m := by unfold up; simp
theorem ups2 (m x y : Int) : ups m [x, y] = true ↔ (0 ≤ x ∧ x ≤ m) ∧ (0 ≤ y ∧ y ≤ m) := by simp [ups, up_iff]
theorem ups4 (m x y u v : Int) : ups m [x, y, u, v] = true ↔ (0 ≤ x ∧ x ≤ m) ∧ (0 ≤ y ∧ y ≤ m) ∧ (0 ≤ u ∧ u ≤ m) ∧ (0 ≤ v ∧ v ≤ m) := by simp [ups, up_iff]
theorem os_iff (z : List Int) : os z = true ↔ ((0 ≤ el z 3 ∧ el z 3 ≤ 4294967295) ∧ (0 ≤ el z 4 ∧ el z 4 ≤ 4294967295)) ∧ (0 ≤ el z 5 ∧ el z 5 ≤ 31) ∧ (0 ≤ el z 6 ∧ el z 6 ≤ 65535) := by
  unfold os
  simp only [Bool.and_eq_true, ups2, up_iff, and_assoc]
theorem kn_iff (k : Int) : kn k = true ↔ k = 6 ∨ k = 17 := by simp [kn]
/-- what a segment that may be is. -/
def Okg (z : List Int) (len : Nat) : Prop := (0 ≤ el z 1 ∧ el z 1 ≤ 65535) ∧ (0 ≤ el z 2 ∧ el z 2 ≤ 65535) ∧ len ≤ 300 ∧
  ((el z 0 = 6 ∧ (0 ≤ el z 3 ∧ el z 3 ≤ 4294967295) ∧ (0 ≤ el z 4 ∧ el z 4 ≤ 4294967295) ∧ (0 ≤ el z 5 ∧ el z 5 ≤ 31) ∧ (0 ≤ el z 6 ∧ el z 6 ≤ 65535)) ∨
   (el z 0 = 17 ∧ el z 3 = 0 ∧ el z 4 = 0 ∧ el z 5 = 0 ∧ el z 6 = 0))
theorem sf_iff (z : List Int) (len : Nat) : sf z len = 0 ↔ Okg z len := by
  unfold sf Okg
  by_cases h1 : kn (el z 0) = true ∧ ups 65535 [el z 1, el z 2] = true
  · rw [if_neg (by simp [h1])]
    have hk := (kn_iff _).1 h1.1
    have hu := (ups2 _ _ _).1 h1.2
    by_cases h6 : el z 0 = 6
    · rw [if_pos h6]
      have ho := os_iff z
      cases hos : os z
      · rw [hos] at ho
        simp only [if_true]
        refine ⟨fun h => by omega, fun ⟨_, _, _, h⟩ => ?_⟩
        rcases h with ⟨_, a, b, c, d⟩ | ⟨e, _⟩
        · exact absurd (ho.2 ⟨⟨a, b⟩, c, d⟩) (by decide)
        · omega
      · have ho' := ho.1 hos
        simp only [Bool.true_eq_false, if_false]
        split <;> omega
    · rw [if_neg h6]
      have hn := ups4 0 (el z 3) (el z 4) (el z 5) (el z 6)
      cases hun : ups 0 [el z 3, el z 4, el z 5, el z 6]
      · rw [hun] at hn
        simp only [if_true]
        refine ⟨fun h => by omega, fun ⟨_, _, _, h⟩ => ?_⟩
        rcases h with ⟨e, _⟩ | ⟨_, a, b, c, d⟩
        · exact absurd e h6
        · exact absurd (hn.2 (by omega)) (by decide)
      · have hn' := hn.1 hun
        simp only [Bool.true_eq_false, if_false]
        split <;> omega
  · rw [if_pos (by
      cases h2 : kn (el z 0)
      · rfl
      · cases h3 : ups 65535 [el z 1, el z 2]
        · rfl
        · exact absurd ⟨h2, h3⟩ h1)]
    refine ⟨fun h => by omega, fun ⟨a, b, _, h⟩ => absurd ⟨(kn_iff _).2 (by omega), (ups2 _ _ _).2 ⟨a, b⟩⟩ h1⟩
/-- the heads' bytes. -/
def hdT (f t q c g v C : Int) : List Int := [f / 256, f % 256, t / 256, t % 256, q / 16777216, q / 65536 % 256, q / 256 % 256, q % 256, c / 16777216, c / 65536 % 256, c / 256 % 256, c % 256, 80, g, v / 256, v % 256, C / 256, C % 256, 0, 0]
def hdU (f t n C : Int) : List Int := [f / 256, f % 256, t / 256, t % 256, n / 256, n % 256, C / 256, C % 256]
theorem nb4 (x : Int) (h0 : 0 ≤ x) (h1 : x ≤ 4294967295) : nb 4 x = [x / 16777216, x / 65536 % 256, x / 256 % 256, x % 256] := by
  show [x / 256 ^ 3 % 256, x / 256 ^ 2 % 256, x / 256 ^ 1 % 256, x / 256 ^ 0 % 256] = _
  rw [show x / 256 ^ 3 % 256 = x / 16777216 by omega, show x / 256 ^ 2 % 256 = x / 65536 % 256 by omega, show x / 256 ^ 1 % 256 = x / 256 % 256 by omega, show x / 256 ^ 0 % 256 = x % 256 by omega]
theorem nb1 (x : Int) (h0 : 0 ≤ x) (h1 : x ≤ 255) : nb 1 x = [x] := by
  show [x / 256 ^ 0 % 256] = _
  rw [show x / 256 ^ 0 % 256 = x by omega]
theorem ub_tcp (z data : List Int) (h : Okg z data.length) (h6 : el z 0 = 6) : ub z data = hdT (el z 1) (el z 2) (el z 3) (el z 4) (el z 5) (el z 6) 0 ++ data := by
  obtain ⟨hf, ht, _, h⟩ := h
  obtain ⟨_, hq, hc, hg, hv⟩ : el z 0 = 6 ∧ (0 ≤ el z 3 ∧ el z 3 ≤ 4294967295) ∧ (0 ≤ el z 4 ∧ el z 4 ≤ 4294967295) ∧ (0 ≤ el z 5 ∧ el z 5 ≤ 31) ∧ (0 ≤ el z 6 ∧ el z 6 ≤ 65535) := by
    rcases h with h | h
    · exact h
    · omega
  unfold ub
  rw [if_pos h6]
  show (((([] ++ nb 2 (el z 1)) ++ nb 2 (el z 2)) ++ (([] ++ nb 4 (el z 3)) ++ nb 4 (el z 4))) ++ (([] ++ nb 1 80) ++ nb 1 (el z 5)) ++ ((([] ++ nb 2 (el z 6)) ++ nb 2 0) ++ nb 2 0)) ++ data = _
  rw [nb2 _ hf.1 hf.2, nb2 _ ht.1 ht.2, nb4 _ hq.1 hq.2, nb4 _ hc.1 hc.2, nb1 80 (by omega) (by omega), nb1 _ hg.1 (by omega), nb2 _ hv.1 hv.2, nb2 0 (by omega) (by omega)]
  rfl
theorem ub_udp (z data : List Int) (h : Okg z data.length) (h6 : ¬ el z 0 = 6) : ub z data = hdU (el z 1) (el z 2) (8 + data.length) 0 ++ data := by
  obtain ⟨hf, ht, hl, _⟩ := h
  unfold ub
  rw [if_neg h6]
  show ((([] ++ nb 2 (el z 1)) ++ nb 2 (el z 2)) ++ (([] ++ nb 2 (8 + (data.length : Int))) ++ nb 2 0)) ++ data = _
  rw [nb2 _ hf.1 hf.2, nb2 _ ht.1 ht.2, nb2 (8 + (data.length : Int)) (by omega) (by omega), nb2 0 (by omega) (by omega)]
  rfl
theorem eb_tcp (z : List Int) (over : Int) (data : List Int) (h : Okg z data.length) (h6 : el z 0 = 6) : eb z over data = hdT (el z 1) (el z 2) (el z 3) (el z 4) (el z 5) (el z 6) (sck z over data) ++ data := by
  unfold eb
  generalize sck z over data = C
  rw [ub_tcp z data h h6, show cn (el z 0) = 16 by unfold cn; rw [if_pos h6]]
  rfl
theorem eb_udp (z : List Int) (over : Int) (data : List Int) (h : Okg z data.length) (h6 : ¬ el z 0 = 6) : eb z over data = hdU (el z 1) (el z 2) (8 + data.length) (sck z over data) ++ data := by
  unfold eb
  generalize sck z over data = C
  rw [ub_udp z data h h6, show cn (el z 0) = 6 by unfold cn; rw [if_neg h6]]
  rfl
/-- what a segment's bytes add up to: that of all but the check, and the check. -/
theorem eb_tot (z : List Int) (over : Int) (data : List Int) (h : Okg z data.length) : SM.tot (eb z over data) (eb z over data).length = SM.tot (ub z data) (ub z data).length + sck z over data := by
  have hu := ub_len z data
  have hc := cn_lt (el z 0)
  have he : cn (el z 0) % 2 = 0 := by unfold cn; split <;> rfl
  have g0 : (ub z data).getD (cn (el z 0)) 0 = 0 ∧ (ub z data).getD (cn (el z 0) + 1) 0 = 0 := by
    by_cases h6 : el z 0 = 6
    · rw [ub_tcp z data h h6, show cn (el z 0) = 16 by unfold cn; rw [if_pos h6]]
      exact ⟨rfl, rfl⟩
    · rw [ub_udp z data h h6, show cn (el z 0) = 6 by unfold cn; rw [if_neg h6]]
      exact ⟨rfl, rfl⟩
  unfold eb
  generalize sck z over data = C
  have hl1 : cn (el z 0) < (ub z data).length := by omega
  have hl2 : cn (el z 0) + 1 < (ub z data).length := by omega
  rw [List.length_set, List.length_set, SM.tot_set _ _ _ (by rw [List.length_set]; exact hl2), SM.tot_set _ _ _ hl1, if_pos hl1, if_pos hl2, if_pos he, if_neg (show ¬ (cn (el z 0) + 1) % 2 = 0 by omega)]
  rw [List.getD_eq_getElem?_getD (l := List.set _ _ _), List.getElem?_set_ne (by omega), ← List.getD_eq_getElem?_getD, g0.1, g0.2]
  omega
theorem fold_spec (n : Int) (_h : 0 ≤ n) : (n - SM.fold n) % 65535 = 0 ∧ 0 ≤ SM.fold n ∧ SM.fold n ≤ 65535 ∧ (SM.fold n = 0 → n = 0) ∧ (n = 0 → SM.fold n = 0) := by
  unfold SM.fold
  split <;> omega
theorem fold_full (n : Int) (_h : 0 < n) (h2 : n % 65535 = 0) : SM.fold n = 65535 := by
  unfold SM.fold
  rw [if_neg (by omega)]
  omega
/-- all together they add up to 65535. -/
theorem eb_sum (z : List Int) (over : Int) (data : List Int) (h : Okg z data.length) (hd : SM.Oct data) (ho : 0 ≤ over ∧ over ≤ 65535) : SM.fold (SM.tot (eb z over data) (eb z over data).length + over) = 65535 := by
  rw [eb_tot z over data h]
  have hb := (SM.tot_bd _ (ub_oct z data hd) (ub z data).length).1
  unfold sck ckg
  generalize SM.tot (ub z data) (ub z data).length = T at hb
  have h1 := fold_spec T hb
  generalize SM.fold T = F at h1
  have h2 := fold_spec (over + F) (by omega)
  generalize SM.fold (over + F) = S at h2
  apply fold_full
  · split <;> omega
  · split <;> omega
end Go.Proofs.Ytfjnioninjllkaa
