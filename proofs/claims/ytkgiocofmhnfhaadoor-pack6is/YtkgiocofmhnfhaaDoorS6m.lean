/- Packets of sixes in numbers: bytes read as a packet and written again. -/
import Derived.Test.YtkgiocofmhnfhaaDoorS6d
namespace Go.Proofs.YtkgiocofmhnfhaaDoor
open Go.RowKit

theorem ok6_adr (z : List Int) (ho : SM.Oct z) (o : Nat) : Ok6 (adr z o) := fun k hk => by
  rw [el_adr z o k hk]
  have h1 := ho (o + 2 * k)
  have h2 := ho (o + (2 * k + 1))
  exact ⟨by omega, by omega⟩
theorem by16_get (a : List Int) (i : Nat) (hi : i < 16) : (by16 a 8).getD i 0 = if i % 2 = 0 then el a (i / 2) / 256 else el a (i / 2) % 256 := by
  rcases (by omega : i = 0 ∨ i = 1 ∨ i = 2 ∨ i = 3 ∨ i = 4 ∨ i = 5 ∨ i = 6 ∨ i = 7 ∨ i = 8 ∨ i = 9 ∨ i = 10 ∨ i = 11 ∨ i = 12 ∨ i = 13 ∨ i = 14 ∨ i = 15) with rfl | rfl | rfl | rfl | rfl | rfl | rfl | rfl | rfl | rfl | rfl | rfl | rfl | rfl | rfl | rfl <;> rfl
theorem by16_adr (z : List Int) (ho : SM.Oct z) (o : Nat) (h : o + 16 ≤ z.length) : by16 (adr z o) 8 = (z.drop o).take 16 := by
  refine P4.ext_getD (by rw [by16_len, List.length_take, List.length_drop]; omega) fun i hi => ?_
  have hi16 : i < 16 := by rw [List.length_take] at hi; omega
  rw [P4.getD_take hi16, P4.getD_drop, by16_get _ i hi16, el_adr z o (i / 2) (by omega)]
  have h1 := ho (o + 2 * (i / 2))
  have h2 := ho (o + (2 * (i / 2) + 1))
  by_cases hp : i % 2 = 0
  · rw [if_pos hp]
    have e : o + 2 * (i / 2) = o + i := by omega
    rw [e] at h1 ⊢
    omega
  · rw [if_neg hp]
    have e : o + (2 * (i / 2) + 1) = o + i := by omega
    rw [e] at h2 ⊢
    omega
/-- what is read, written again. -/
def enc (z : List Int) : List Int := bys (adr z 8) (adr z 24) (z.getD 7 0) (z.getD 6 0) (z.drop 40)
theorem enc_len (z : List Int) (h : 40 ≤ z.length) : (enc z).length = z.length := by
  unfold enc
  rw [bys_len, List.length_drop]
  omega
/-- just such bytes. -/
def Good (z : List Int) : Prop := 40 ≤ z.length ∧ z.length ≤ 360 ∧ P4.wd z 0 = 24576 ∧ P4.wd z 2 = 0 ∧ P4.wd z 4 = (z.length : Int) - 40
theorem parts (z : List Int) : z = ((z.take 8 ++ (z.drop 8).take 16) ++ (z.drop 24).take 16) ++ z.drop 40 := by
  have e1 : z.take 8 ++ (z.drop 8).take 16 = z.take 24 := by rw [show 24 = 8 + 16 from rfl, List.take_add]
  have e2 : z.take 24 ++ (z.drop 24).take 16 = z.take 40 := by rw [show 40 = 24 + 16 from rfl, List.take_add]
  rw [e1, e2, List.take_append_drop]
theorem enc_parts (z : List Int) (ho : SM.Oct z) (h : 40 ≤ z.length) : enc z = ((h8 ((z.length : Int) - 40) (z.getD 6 0) (z.getD 7 0) ++ (z.drop 8).take 16) ++ (z.drop 24).take 16) ++ z.drop 40 := by
  unfold enc bys
  rw [by16_adr z ho 8 (by omega), by16_adr z ho 24 (by omega), show (((z.drop 40).length : Nat) : Int) = (z.length : Int) - 40 by rw [List.length_drop]; omega]
theorem same_iff (z : List Int) (ho : SM.Oct z) (h0 : 40 ≤ z.length) (h1 : z.length ≤ 360) : enc z = z ↔ Good z := by
  have g0 := ho 0; have g1 := ho 1; have g2 := ho 2; have g3 := ho 3; have g4 := ho 4; have g5 := ho 5
  constructor
  · intro e
    rw [enc_parts z ho h0] at e
    have e0 := congrArg (fun l => l.getD 0 0) e
    have e1 := congrArg (fun l => l.getD 1 0) e
    have e2 := congrArg (fun l => l.getD 2 0) e
    have e3 := congrArg (fun l => l.getD 3 0) e
    have e4 := congrArg (fun l => l.getD 4 0) e
    have e5 := congrArg (fun l => l.getD 5 0) e
    replace e0 : 96 = z.getD 0 0 := e0
    replace e1 : 0 = z.getD 1 0 := e1
    replace e2 : 0 = z.getD 2 0 := e2
    replace e3 : 0 = z.getD 3 0 := e3
    replace e4 : ((z.length : Int) - 40) / 256 = z.getD 4 0 := e4
    replace e5 : ((z.length : Int) - 40) % 256 = z.getD 5 0 := e5
    refine ⟨h0, h1, ?_, ?_, ?_⟩ <;> unfold P4.wd <;> simp only [Nat.reduceAdd] <;> omega
  · rintro ⟨-, -, w0, w2, w4⟩
    unfold P4.wd at w0 w2 w4
    simp only [Nat.reduceAdd] at w0 w2 w4
    rw [enc_parts z ho h0]
    have e8 : h8 ((z.length : Int) - 40) (z.getD 6 0) (z.getD 7 0) = z.take 8 := by
      refine P4.ext_getD (by rw [List.length_take]; show 8 = _; omega) fun j hj => ?_
      have hj8 : j < 8 := by rw [List.length_take] at hj; omega
      rw [P4.getD_take hj8]
      rcases (by omega : j = 0 ∨ j = 1 ∨ j = 2 ∨ j = 3 ∨ j = 4 ∨ j = 5 ∨ j = 6 ∨ j = 7) with rfl | rfl | rfl | rfl | rfl | rfl | rfl | rfl
      · show 96 = _; omega
      · show 0 = _; omega
      · show 0 = _; omega
      · show 0 = _; omega
      · show ((z.length : Int) - 40) / 256 = _; omega
      · show ((z.length : Int) - 40) % 256 = _; omega
      · rfl
      · rfl
    rw [e8]
    exact (parts z).symm
theorem good_enc (z : List Int) (ho : SM.Oct z) (h : Good z) : enc z = z := (same_iff z ho h.1 h.2.1).2 h
/-- a packet's bytes are just such. -/
theorem bys_oct (s d : List Int) (h k : Int) (body : List Int) (ho : Okp s d h k) (hl : body.length ≤ 320) (hb : SM.Oct body) : SM.Oct (bys s d h k body) :=
  SM.oct_append _ _ (SM.oct_append _ _ (SM.oct_append _ _ (h8_oct _ _ _ (by omega) ho.2.2.2 ho.2.2.1) (oct_by16 s ho.1 8 (by omega))) (oct_by16 d ho.2.1 8 (by omega))) hb
theorem bys_good (s d : List Int) (h k : Int) (body : List Int) (hl : body.length ≤ 320) : Good (bys s d h k body) := by
  have hlen := bys_len s d h k body
  refine ⟨by omega, by omega, ?_, ?_, ?_⟩
  · show (256 * 96 + 0 : Int) = _; omega
  · show (256 * 0 + 0 : Int) = _; omega
  · show (256 * ((body.length : Int) / 256) + (body.length : Int) % 256 : Int) = _
    rw [hlen]
    omega
theorem get_right (xs ys : List Int) (n i : Nat) (h : xs.length = n) : (xs ++ ys).getD (n + i) 0 = ys.getD i 0 := by
  subst h
  simp [List.getD_eq_getElem?_getD, List.getElem?_append_right]
theorem get_left (xs ys : List Int) (i : Nat) (h : i < xs.length) : (xs ++ ys).getD i 0 = xs.getD i 0 := by
  simp [List.getD_eq_getElem?_getD, List.getElem?_append_left h]
theorem bys_get (s d : List Int) (h k : Int) (body : List Int) (i : Nat) (hi : i < 16) : (bys s d h k body).getD (8 + i) 0 = (by16 s 8).getD i 0 ∧ (bys s d h k body).getD (24 + i) 0 = (by16 d 8).getD i 0 := by
  unfold bys
  have l1 := by16_len s 8
  have l2 := by16_len d 8
  have l8 : (h8 (body.length : Int) k h).length = 8 := rfl
  constructor
  · rw [List.append_assoc, List.append_assoc, get_right _ _ 8 i l8, get_left _ _ i (by omega)]
  · rw [List.append_assoc, get_right _ _ 24 i (by rw [List.length_append]; omega), get_left _ _ i (by omega)]
theorem adr_bys (s d : List Int) (h k : Int) (body : List Int) (ho : Okp s d h k) : (∀ j, j < 8 → el (adr (bys s d h k body) 8) j = el s j) ∧ (∀ j, j < 8 → el (adr (bys s d h k body) 24) j = el d j) := by
  constructor <;> intro j hj
  · rw [el_adr _ 8 j hj, (bys_get s d h k body (2 * j) (by omega)).1, (bys_get s d h k body (2 * j + 1) (by omega)).1, by16_get s _ (by omega), by16_get s _ (by omega), if_pos (by omega), if_neg (by omega), show 2 * j / 2 = j by omega, show (2 * j + 1) / 2 = j by omega]
    have := ho.1 j hj
    omega
  · rw [el_adr _ 24 j hj, (bys_get s d h k body (2 * j) (by omega)).2, (bys_get s d h k body (2 * j + 1) (by omega)).2, by16_get d _ (by omega), by16_get d _ (by omega), if_pos (by omega), if_neg (by omega), show 2 * j / 2 = j by omega, show (2 * j + 1) / 2 = j by omega]
    have := ho.2.1 j hj
    omega
theorem bys_drop (s d : List Int) (h k : Int) (body : List Int) : (bys s d h k body).drop 40 = body := by
  unfold bys
  have l1 := by16_len s 8
  have l2 := by16_len d 8
  have l8 : (h8 (body.length : Int) k h).length = 8 := rfl
  exact List.drop_left' (by rw [List.length_append, List.length_append]; omega)
theorem pkC_congr {s d s' d' : List Int} (h1 : ∀ j, j < 8 → el s j = el s' j) (h2 : ∀ j, j < 8 → el d j = el d' j) (h k : Int) (a : Option Addr) (len cap : Nat) : pkC s d h k a len cap = pkC s' d' h k a len cap := by
  unfold pkC
  rw [h1 0 (by omega), h1 1 (by omega), h1 2 (by omega), h1 3 (by omega), h1 4 (by omega), h1 5 (by omega), h1 6 (by omega), h1 7 (by omega), h2 0 (by omega), h2 1 (by omega), h2 2 (by omega), h2 3 (by omega), h2 4 (by omega), h2 5 (by omega), h2 6 (by omega), h2 7 (by omega)]
end Go.Proofs.YtkgiocofmhnfhaaDoor
