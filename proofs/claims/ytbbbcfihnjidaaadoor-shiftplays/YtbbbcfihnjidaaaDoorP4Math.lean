/- Packets of fours in numbers: the head's twenty bytes, its check, and what a turned bit does to it. -/
import Derived.Test.YtbbbcfihnjidaaaDoorSumMath
namespace Go.Proofs.YtbbbcfihnjidaaaDoor
namespace P4
open SM

/-- the head's bytes: source, goal, steps, kind, number, how many bytes there are in all, check. -/
def hd (s d t k i n c : Int) : List Int := [69, 0, n / 256, n % 256, i / 256, i % 256, 64, 0, t, k, c / 256, c % 256, s / 16777216, s / 65536 % 256, s / 256 % 256, s % 256, d / 16777216, d / 65536 % 256, d / 256 % 256, d % 256]
/-- the numbers that a head may hold. -/
def Okh (s d t k i n : Int) : Prop := (0 ≤ s ∧ s ≤ 4294967295) ∧ (0 ≤ d ∧ d ≤ 4294967295) ∧ (0 ≤ t ∧ t ≤ 255) ∧ (0 ≤ k ∧ k ≤ 255) ∧ (0 ≤ i ∧ i ≤ 65535) ∧ (0 ≤ n ∧ n ≤ 65535)
theorem hd_len (s d t k i n c : Int) : (hd s d t k i n c).length = 20 := rfl
theorem hd_oct (s d t k i n c : Int) (h : Okh s d t k i n) (hc : 0 ≤ c ∧ c ≤ 65535) : Oct (hd s d t k i n c) := by
  obtain ⟨hs, hd, ht, hk, hi, hn⟩ := h
  intro j
  rcases Nat.lt_or_ge j 20 with hj | hj
  · rcases (by omega : j = 0 ∨ j = 1 ∨ j = 2 ∨ j = 3 ∨ j = 4 ∨ j = 5 ∨ j = 6 ∨ j = 7 ∨ j = 8 ∨ j = 9 ∨ j = 10 ∨ j = 11 ∨ j = 12 ∨ j = 13 ∨ j = 14 ∨ j = 15 ∨ j = 16 ∨ j = 17 ∨ j = 18 ∨ j = 19) with rfl | rfl | rfl | rfl | rfl | rfl | rfl | rfl | rfl | rfl | rfl | rfl | rfl | rfl | rfl | rfl | rfl | rfl | rfl | rfl <;> simp only [P4.hd, List.getD_cons_zero, List.getD_cons_succ] <;> omega
  · rw [List.getD_eq_getElem?_getD, List.getElem?_eq_none (by rw [hd_len]; omega)]
    simp
/-- what the head's bytes add up to. -/
theorem hd_tot (s d t k i n c : Int) (h : Okh s d t k i n) : tot (hd s d t k i n c) 20 = 69 * 256 + n + i + 64 * 256 + t * 256 + k + c + s / 65536 + s % 65536 + d / 65536 + d % 65536 := by
  obtain ⟨hs, hd, ht, hk, hi, hn⟩ := h
  simp only [tot, P4.hd, List.getD_cons_zero, List.getD_cons_succ]
  simp only [Nat.reduceMod, if_true, Nat.one_ne_zero, if_false]
  omega
/-- the check of a head. -/
def ck (s d t k i n : Int) : Int := 65535 - fold (tot (hd s d t k i n 0) 20)
theorem ck_in (s d t k i n : Int) (h : Okh s d t k i n) : 0 ≤ ck s d t k i n ∧ ck s d t k i n ≤ 65535 := by
  have h0 := tot_bd (hd s d t k i n 0) (hd_oct s d t k i n 0 h (by omega)) 20
  have h1 := fold_bd _ h0.1
  unfold ck
  omega
theorem hd_sum (s d t k i n : Int) (h : Okh s d t k i n) : fold (tot (hd s d t k i n (ck s d t k i n)) 20) = 65535 := by
  have hc := ck_in s d t k i n h
  have h0 := hd_tot s d t k i n 0 h
  have h1 := hd_tot s d t k i n (ck s d t k i n) h
  have e : tot (hd s d t k i n (ck s d t k i n)) 20 = tot (hd s d t k i n 0) 20 + ck s d t k i n := by omega
  rw [e]
  exact fold_not _ (tot_bd _ (hd_oct s d t k i n 0 h (by omega)) 20).1
/-- where the check is right: just where all adds up. -/
theorem sum_ck (s d t k i n c : Int) (h : Okh s d t k i n) (hc : c = ck s d t k i n) : fold (tot (hd s d t k i n c) 20) = 65535 := by
  rw [hc]; exact hd_sum s d t k i n h

/-- two bytes as a number. -/
def wd (z : List Int) (j : Nat) : Int := 256 * z.getD j 0 + z.getD (j + 1) 0
def src (z : List Int) : Int := 65536 * wd z 12 + wd z 14
def dst (z : List Int) : Int := 65536 * wd z 16 + wd z 18
/-- bytes that have a packet's form. -/
def Syn (z : List Int) : Prop := 20 ≤ z.length ∧ z.length ≤ 340 ∧ wd z 0 = 69 * 256 ∧ wd z 2 = z.length ∧ wd z 6 = 64 * 256
theorem okh_of (z : List Int) (ho : Oct z) (h : Syn z) : Okh (src z) (dst z) (z.getD 8 0) (z.getD 9 0) (wd z 4) z.length := by
  have h4 := ho 4; have h5 := ho 5; have h8 := ho 8; have h9 := ho 9
  have h12 := ho 12; have h13 := ho 13; have h14 := ho 14; have h15 := ho 15
  have h16 := ho 16; have h17 := ho 17; have h18 := ho 18; have h19 := ho 19
  obtain ⟨l0, l1, _, _, _⟩ := h
  unfold Okh src dst wd
  simp only [Nat.reduceAdd]
  omega
theorem hd_of (z : List Int) (ho : Oct z) (h : Syn z) (j : Nat) (hj : j < 20) : z.getD j 0 = (hd (src z) (dst z) (z.getD 8 0) (z.getD 9 0) (wd z 4) z.length (wd z 10)).getD j 0 := by
  have h0 := ho 0; have h1 := ho 1; have h2 := ho 2; have h3 := ho 3; have h4 := ho 4; have h5 := ho 5; have h6 := ho 6; have h7 := ho 7
  have h10 := ho 10; have h11 := ho 11
  have h12 := ho 12; have h13 := ho 13; have h14 := ho 14; have h15 := ho 15
  have h16 := ho 16; have h17 := ho 17; have h18 := ho 18; have h19 := ho 19
  obtain ⟨l0, l1, e0, e2, e6⟩ := h
  unfold src dst
  unfold wd at *
  simp only [Nat.reduceAdd] at *
  rcases (by omega : j = 0 ∨ j = 1 ∨ j = 2 ∨ j = 3 ∨ j = 4 ∨ j = 5 ∨ j = 6 ∨ j = 7 ∨ j = 8 ∨ j = 9 ∨ j = 10 ∨ j = 11 ∨ j = 12 ∨ j = 13 ∨ j = 14 ∨ j = 15 ∨ j = 16 ∨ j = 17 ∨ j = 18 ∨ j = 19) with rfl | rfl | rfl | rfl | rfl | rfl | rfl | rfl | rfl | rfl | rfl | rfl | rfl | rfl | rfl | rfl | rfl | rfl | rfl | rfl <;> simp only [P4.hd, List.getD_cons_zero, List.getD_cons_succ] <;> omega
/-- bytes of that form, with a right check, add up. -/
theorem sum_of (z : List Int) (ho : Oct z) (h : Syn z) (hc : wd z 10 = ck (src z) (dst z) (z.getD 8 0) (z.getD 9 0) (wd z 4) z.length) : fold (tot z 20) = 65535 := by
  rw [tot_congr z _ 20 (hd_of z ho h)]
  exact sum_ck _ _ _ _ _ _ _ (okh_of z ho h) hc
/-- and are those of the packet that is read from them. -/
theorem list_of (z : List Int) (ho : Oct z) (h : Syn z) : z = hd (src z) (dst z) (z.getD 8 0) (z.getD 9 0) (wd z 4) z.length (wd z 10) ++ z.drop 20 := by
  have hl := h.1
  apply List.ext_getElem?
  intro j
  rcases Nat.lt_or_ge j 20 with hj | hj
  · rw [List.getElem?_append_left (by rw [hd_len]; exact hj)]
    have := hd_of z ho h j hj
    rw [List.getD_eq_getElem?_getD, List.getD_eq_getElem?_getD, List.getElem?_eq_getElem (by omega), List.getElem?_eq_getElem (by rw [hd_len]; exact hj)] at this
    rw [List.getElem?_eq_getElem (by omega), List.getElem?_eq_getElem (by rw [hd_len]; exact hj)]
    exact congrArg some this
  · rw [List.getElem?_append_right (by rw [hd_len]; exact hj), hd_len, List.getElem?_drop, show 20 + (j - 20) = j by omega]

/-- what is read from a packet's own bytes. -/
theorem read_hd (s d t k i n c : Int) (body : List Int) (h : Okh s d t k i n) (hn : n = 20 + body.length) (hb : body.length ≤ 320) :
    Syn (hd s d t k i n c ++ body) ∧ src (hd s d t k i n c ++ body) = s ∧ dst (hd s d t k i n c ++ body) = d ∧ (hd s d t k i n c ++ body).getD 8 0 = t ∧ (hd s d t k i n c ++ body).getD 9 0 = k ∧ wd (hd s d t k i n c ++ body) 4 = i ∧ wd (hd s d t k i n c ++ body) 10 = c ∧ (hd s d t k i n c ++ body).drop 20 = body := by
  obtain ⟨hs, hd', ht, hk, hi, hn'⟩ := h
  have e : ∀ j, j < 20 → (hd s d t k i n c ++ body).getD j 0 = (hd s d t k i n c).getD j 0 := fun j hj => by
    rw [List.getD_eq_getElem?_getD, List.getD_eq_getElem?_getD, List.getElem?_append_left (by rw [hd_len]; exact hj)]
  have hl : (hd s d t k i n c ++ body).length = 20 + body.length := by rw [List.length_append, hd_len]
  refine ⟨⟨by omega, by omega, ?_, ?_, ?_⟩, ?_, ?_, ?_, ?_, ?_, ?_, ?_⟩
  · unfold wd; rw [e 0 (by omega), e 1 (by omega)]; simp only [P4.hd, List.getD_cons_zero, List.getD_cons_succ]; omega
  · unfold wd; rw [e 2 (by omega), e 3 (by omega), hl]; simp only [P4.hd, List.getD_cons_zero, List.getD_cons_succ]; omega
  · unfold wd; rw [e 6 (by omega), e 7 (by omega)]; simp only [P4.hd, List.getD_cons_zero, List.getD_cons_succ]; omega
  · unfold src wd; rw [e 12 (by omega), e 13 (by omega), e 14 (by omega), e 15 (by omega)]; simp only [P4.hd, List.getD_cons_zero, List.getD_cons_succ]; omega
  · unfold dst wd; rw [e 16 (by omega), e 17 (by omega), e 18 (by omega), e 19 (by omega)]; simp only [P4.hd, List.getD_cons_zero, List.getD_cons_succ]; omega
  · rw [e 8 (by omega)]; rfl
  · rw [e 9 (by omega)]; rfl
  · unfold wd; rw [e 4 (by omega), e 5 (by omega)]; simp only [P4.hd, List.getD_cons_zero, List.getD_cons_succ]; omega
  · unfold wd; rw [e 10 (by omega), e 11 (by omega)]; simp only [P4.hd, List.getD_cons_zero, List.getD_cons_succ]; omega
  · rw [List.drop_append_of_le_length (by rw [hd_len]; omega)]; rfl

theorem fold_full (T : Int) (h0 : 0 ≤ T) (h : fold T = 65535) : 0 < T ∧ T % 65535 = 0 := by
  unfold fold at h
  split at h <;> omega
/-- with a byte of the head another one the sum is another one. -/
theorem turned (z : List Int) (ho : Oct z) (hl : 20 ≤ z.length) (hz : fold (tot z 20) = 65535) (j : Nat) (hj : j < 20) (v : Int) (hv : 0 ≤ v ∧ v ≤ 255) (hne : v ≠ z.getD j 0) : fold (tot (z.set j v) 20) ≠ 65535 := by
  intro h
  have h1 := fold_full _ (tot_bd z ho 20).1 hz
  have h2 := fold_full _ (tot_bd _ (oct_set z ho j v hv.1 hv.2) 20).1 h
  have h3 := tot_set z j v (by omega) 20
  rw [if_pos hj] at h3
  have hx := ho j
  generalize tot (z.set j v) 20 = T' at h2 h3
  generalize tot z 20 = T at h1 h3
  generalize z.getD j 0 = x at hx hne h3
  split at h3 <;> omega
end P4
end Go.Proofs.YtbbbcfihnjidaaaDoor
