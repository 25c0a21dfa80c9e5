/- A flow's bytes, and the flow of bytes. -/
import Derived.Test.YtdeofopandobhaaDoorYkE
import Derived.Test.YtdeofopandobhaaDoorYkS
namespace Go.Proofs.YtdeofopandobhaaDoor
open Go.RowKit

/-- what stands ahead. -/
def hd (k : Int) : List Int := [13, 10, 13, 10, 0, 13, 10, 81, 85, 73, 84, 10, 33, k, 0, 36]
def kd (f : List Int) : Int := if el f 0 = 17 then 34 else 33
def lst (f : List Int) : List Int := [el f 9 / 256, el f 9 % 256, el f 18 / 256, el f 18 % 256]
/-- a flow's bytes. -/
def hb (f : List Int) : List Int := hd (kd f) ++ by16 (cli f) 8 ++ by16 (dst f) 8 ++ lst f
theorem hb_len (f : List Int) : (hb f).length = 52 := rfl
/-- the flow of bytes. -/
def fo (zs : List Int) : List Int := (if zs.getD 13 0 = 34 then 17 else 6) :: (adr zs 16 ++ [P4.wd zs 48] ++ adr zs 32 ++ [P4.wd zs 50])
/-- what is read of bytes: a flow, how many they are, what is wrong. -/
def ydo (zs : List Int) : List Int × Int × Int := if 52 ≤ zs.length ∧ hb (fo zs) = zs.take 52 then (fo zs, 52, 0) else ([], 0, 5)
theorem okf_el {f : List Int} (h : okf f = true) (j : Nat) (hj : j < 19) : 0 ≤ el f j ∧ el f j ≤ 65535 := by
  unfold okf at h
  simp only [Bool.and_eq_true, Bool.or_eq_true, beq_iff_eq] at h
  obtain ⟨⟨⟨⟨h0, h1⟩, h2⟩, h3⟩, h4⟩ := h
  rw [wd_iff] at h3 h4
  rw [s6_iff] at h1 h2
  rcases (by omega : j = 0 ∨ (1 ≤ j ∧ j < 9) ∨ j = 9 ∨ (10 ≤ j ∧ j < 18) ∨ j = 18) with rfl | ⟨a, b⟩ | rfl | ⟨a, b⟩ | rfl
  · rcases h0 with e | e <;> rw [e] <;> omega
  · have := h1 (j - 1) (by omega)
    rw [cli_el f _ (by omega), show 1 + (j - 1) = j by omega] at this
    exact this
  · exact h3
  · have := h2 (j - 10) (by omega)
    rw [dst_el f _ (by omega), show 10 + (j - 10) = j by omega] at this
    exact this
  · exact h4
theorem okf_kind {f : List Int} (h : okf f = true) : el f 0 = 6 ∨ el f 0 = 17 := by
  unfold okf at h
  simp only [Bool.and_eq_true, Bool.or_eq_true, beq_iff_eq] at h
  exact h.1.1.1.1
theorem okf_six {f : List Int} (h : okf f = true) : Ok6 (cli f) ∧ Ok6 (dst f) := by
  unfold okf at h
  simp only [Bool.and_eq_true, Bool.or_eq_true, beq_iff_eq] at h
  exact ⟨(s6_iff _).1 h.1.1.1.2, (s6_iff _).1 h.1.1.2⟩
theorem by16_oct {z : List Int} (h : Ok6 z) : ∀ k, k ≤ 8 → SM.Oct (by16 z k)
  | 0, _ => SM.oct_nil
  | k + 1, hk => by
    rw [by16_succ]
    refine SM.oct_append _ _ (by16_oct h k (by omega)) fun j => ?_
    have := h k (by omega)
    obtain ⟨h0, h1⟩ := this
    rcases (by omega : j = 0 ∨ j = 1 ∨ 2 ≤ j) with rfl | rfl | hj
    · show 0 ≤ el z k / 256 ∧ el z k / 256 ≤ 255
      omega
    · show 0 ≤ el z k % 256 ∧ el z k % 256 ≤ 255
      omega
    · rw [List.getD_eq_getElem?_getD, List.getElem?_eq_none (by simpa using hj)]
      exact ⟨by simp, by simp⟩
theorem hd_oct {k : Int} (h0 : 0 ≤ k) (h1 : k ≤ 255) : SM.Oct (hd k) := by
  intro j
  by_cases hj : j < 16
  · rcases (by omega : j = 0 ∨ j = 1 ∨ j = 2 ∨ j = 3 ∨ j = 4 ∨ j = 5 ∨ j = 6 ∨ j = 7 ∨ j = 8 ∨ j = 9 ∨ j = 10 ∨ j = 11 ∨ j = 12 ∨ j = 13 ∨ j = 14 ∨ j = 15) with rfl | rfl | rfl | rfl | rfl | rfl | rfl | rfl | rfl | rfl | rfl | rfl | rfl | rfl | rfl | rfl
    all_goals first | exact ⟨h0, h1⟩ | (constructor <;> simp [hd])
  · rw [List.getD_eq_getElem?_getD, List.getElem?_eq_none (by show 16 ≤ j; omega)]
    exact ⟨by simp, by simp⟩
theorem lst_oct {f : List Int} (h : okf f = true) : SM.Oct (lst f) := by
  have h9 := okf_el h 9 (by omega)
  have h18 := okf_el h 18 (by omega)
  intro j
  by_cases hj : j < 4
  · rcases (by omega : j = 0 ∨ j = 1 ∨ j = 2 ∨ j = 3) with rfl | rfl | rfl | rfl
    · show 0 ≤ el f 9 / 256 ∧ el f 9 / 256 ≤ 255; omega
    · show 0 ≤ el f 9 % 256 ∧ el f 9 % 256 ≤ 255; omega
    · show 0 ≤ el f 18 / 256 ∧ el f 18 / 256 ≤ 255; omega
    · show 0 ≤ el f 18 % 256 ∧ el f 18 % 256 ≤ 255; omega
  · rw [List.getD_eq_getElem?_getD, List.getElem?_eq_none (by show 4 ≤ j; omega)]
    exact ⟨by simp, by simp⟩
theorem kd_in (f : List Int) : 0 ≤ kd f ∧ kd f ≤ 255 := by unfold kd; split <;> omega
theorem hb_oct {f : List Int} (h : okf f = true) : SM.Oct (hb f) :=
  SM.oct_append _ _ (SM.oct_append _ _ (SM.oct_append _ _ (hd_oct (kd_in f).1 (kd_in f).2) (by16_oct (okf_six h).1 8 (Nat.le_refl _))) (by16_oct (okf_six h).2 8 (Nat.le_refl _))) (lst_oct h)
/-- a flow that is read may be. -/
theorem fo_cli (zs : List Int) (j : Nat) (hj : j < 8) : el (cli (fo zs)) j = el (adr zs 16) j := by
  rcases (by omega : j = 0 ∨ j = 1 ∨ j = 2 ∨ j = 3 ∨ j = 4 ∨ j = 5 ∨ j = 6 ∨ j = 7) with rfl | rfl | rfl | rfl | rfl | rfl | rfl | rfl <;> rfl
theorem fo_dst (zs : List Int) (j : Nat) (hj : j < 8) : el (dst (fo zs)) j = el (adr zs 32) j := by
  rcases (by omega : j = 0 ∨ j = 1 ∨ j = 2 ∨ j = 3 ∨ j = 4 ∨ j = 5 ∨ j = 6 ∨ j = 7) with rfl | rfl | rfl | rfl | rfl | rfl | rfl | rfl <;> rfl
theorem adr_ok {zs : List Int} (h : SM.Oct zs) (o : Nat) : Ok6 (adr zs o) := fun j hj => by
  rw [el_adr zs o j hj]
  have h1 := h (o + 2 * j)
  have h2 := h (o + (2 * j + 1))
  unfold Word
  omega
theorem wd_ok {zs : List Int} (h : SM.Oct zs) (o : Nat) : wd (P4.wd zs o) = true := by
  rw [wd_iff]
  have h1 := h o
  have h2 := h (o + 1)
  unfold P4.wd Word
  omega
theorem fo_ok {zs : List Int} (h : SM.Oct zs) : okf (fo zs) = true := by
  have h1 : s6 (cli (fo zs)) = true := (s6_iff _).2 fun j hj => by rw [fo_cli zs j hj]; exact adr_ok h 16 j hj
  have h2 : s6 (dst (fo zs)) = true := (s6_iff _).2 fun j hj => by rw [fo_dst zs j hj]; exact adr_ok h 32 j hj
  have h3 : wd (el (fo zs) 9) = true := wd_ok h 48
  have h4 : wd (el (fo zs) 18) = true := wd_ok h 50
  have h0 : ((el (fo zs) 0 == 6) || (el (fo zs) 0 == 17)) = true := by
    show (((if zs.getD 13 0 = 34 then (17 : Int) else 6) == 6) || ((if zs.getD 13 0 = 34 then (17 : Int) else 6) == 17)) = true
    split <;> decide
  unfold okf
  rw [h0, h1, h2, h3, h4]
  rfl
/-- what is told is read. -/
theorem fo_hb {f : List Int} (h : okf f = true) (more : List Int) (j : Nat) (hj : j < 19) : el (fo (hb f ++ more)) j = el f j := by
  have hx := okf_el h j hj
  by_cases h0 : j = 0
  · subst h0
    show (if kd f = 34 then (17 : Int) else 6) = el f 0
    unfold kd
    rcases okf_kind h with e | e <;> rw [e] <;> decide
  · have key : el (fo (hb f ++ more)) j = el f j / 256 * 256 + el f j % 256 ∨ el (fo (hb f ++ more)) j = 256 * (el f j / 256) + el f j % 256 := by
      rcases (by omega : j = 1 ∨ j = 2 ∨ j = 3 ∨ j = 4 ∨ j = 5 ∨ j = 6 ∨ j = 7 ∨ j = 8 ∨ j = 9 ∨ j = 10 ∨ j = 11 ∨ j = 12 ∨ j = 13 ∨ j = 14 ∨ j = 15 ∨ j = 16 ∨ j = 17 ∨ j = 18) with rfl | rfl | rfl | rfl | rfl | rfl | rfl | rfl | rfl | rfl | rfl | rfl | rfl | rfl | rfl | rfl | rfl | rfl
      all_goals first | exact .inl rfl | exact .inr rfl
    rcases key with e | e <;> rw [e] <;> omega
theorem flC_congr {f g : List Int} (h : ∀ j, j < 19 → el f j = el g j) : flC f = flC g := by
  apply Array.ext_getElem?
  intro i
  by_cases hi : i < 19
  · rw [flC_at f i hi, flC_at g i hi, h i hi]
  · rw [Array.getElem?_eq_none (by show 19 ≤ i; omega), Array.getElem?_eq_none (by show 19 ≤ i; omega)]
theorem flC_el {f g : List Int} (h : flC f = flC g) (j : Nat) (hj : j < 19) : el f j = el g j := by
  have h1 := flC_at f j hj
  rw [h, flC_at g j hj] at h1
  injection h1 with h1
  injection h1 with _ h1
  exact h1.symm
theorem by16_congr {z z' : List Int} (h : ∀ j, j < 8 → el z j = el z' j) : ∀ k, k ≤ 8 → by16 z k = by16 z' k
  | 0, _ => rfl
  | k + 1, hk => by rw [by16_succ, by16_succ, by16_congr h k (by omega), h k (by omega)]
theorem hb_congr {f g : List Int} (h : ∀ j, j < 19 → el f j = el g j) : hb f = hb g := by
  unfold hb kd lst
  rw [h 0 (by omega), h 9 (by omega), h 18 (by omega), by16_congr (z := cli f) (z' := cli g) (fun j hj => by rw [cli_el f j hj, cli_el g j hj, h _ (by omega)]) 8 (Nat.le_refl _), by16_congr (z := dst f) (z' := dst g) (fun j hj => by rw [dst_el f j hj, dst_el g j hj, h _ (by omega)]) 8 (Nat.le_refl _)]
theorem ydo_hb {f : List Int} (h : okf f = true) (more : List Int) : ∃ g, ydo (hb f ++ more) = (g, 52, 0) ∧ flC g = flC f := by
  refine ⟨fo (hb f ++ more), ?_, flC_congr (fo_hb h more)⟩
  unfold ydo
  rw [if_pos]
  refine ⟨by rw [List.length_append, hb_len]; omega, ?_⟩
  rw [hb_congr (fo_hb h more), List.take_left' (hb_len f)]
theorem ydo_cut (f : List Int) {n : Nat} (hn : n < 52) : ydo ((hb f).take n) = ([], 0, 5) := by
  unfold ydo
  rw [if_neg]
  intro ⟨h, _⟩
  rw [List.length_take, hb_len] at h
  omega
theorem hb_inj {f g : List Int} (hf : okf f = true) (hg : okf g = true) : hb f = hb g ↔ eqf f g = true := by
  rw [eqf_iff]
  constructor
  · intro h
    have h1 := flC_congr (fo_hb hf [])
    rw [h, flC_congr (fo_hb hg [])] at h1
    exact h1.symm
  · intro h
    exact hb_congr (flC_el h)
/-- of what is told a piece is read. -/
theorem adr_part (zs : List Int) (o : Nat) : adr ((zs.drop o).take 16) 0 = adr zs o := by
  unfold adr
  apply List.map_congr_left
  intro j hj
  have hj := List.mem_range.1 hj
  rw [P4.getD_take (by omega), P4.getD_take (by omega), P4.getD_drop, P4.getD_drop, show o + (0 + 2 * j) = o + 2 * j by omega, show o + (0 + (2 * j + 1)) = o + (2 * j + 1) by omega]
end Go.Proofs.YtdeofopandobhaaDoor
