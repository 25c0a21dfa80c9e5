/- Packets of fours in numbers, second part: bytes read as a packet and written again; letters of bytes. -/
import Derived.Test.YtbbbcfihnjidaaaDoorP4Math
namespace Go.Proofs.YtbbbcfihnjidaaaDoor
namespace P4
open SM

theorem ext_getD {xs ys : List Int} (hl : xs.length = ys.length) (h : ∀ j, j < ys.length → xs.getD j 0 = ys.getD j 0) : xs = ys := by
  apply List.ext_getElem hl
  intro j h1 h2
  have := h j h2
  simpa [List.getD_eq_getElem?_getD, List.getElem?_eq_getElem h1, List.getElem?_eq_getElem h2] using this
theorem getD_take {xs : List Int} {n j : Nat} (h : j < n) : (xs.take n).getD j 0 = xs.getD j 0 := by
  simp [List.getD_eq_getElem?_getD, h]
theorem getD_drop {xs : List Int} {n j : Nat} : (xs.drop n).getD j 0 = xs.getD (n + j) 0 := by
  simp [List.getD_eq_getElem?_getD, List.getElem?_drop]
theorem oct_drop (xs : List Int) (h : Oct xs) (n : Nat) : Oct (xs.drop n) := fun j => by rw [getD_drop]; exact h _
theorem okh_len (z : List Int) (ho : Oct z) (l1 : z.length ≤ 340) : Okh (src z) (dst z) (z.getD 8 0) (z.getD 9 0) (wd z 4) z.length := by
  have h4 := ho 4; have h5 := ho 5; have h8 := ho 8; have h9 := ho 9
  have h12 := ho 12; have h13 := ho 13; have h14 := ho 14; have h15 := ho 15
  have h16 := ho 16; have h17 := ho 17; have h18 := ho 18; have h19 := ho 19
  unfold Okh src dst wd
  simp only [Nat.reduceAdd]
  omega
/-- the check that bytes should have. -/
def ckz (z : List Int) : Int := ck (src z) (dst z) (z.getD 8 0) (z.getD 9 0) (wd z 4) z.length
/-- what is written again of what was read from bytes. -/
def enc (z : List Int) : List Int := hd (src z) (dst z) (z.getD 8 0) (z.getD 9 0) (wd z 4) z.length (ckz z) ++ z.drop 20
theorem enc_len (z : List Int) (h : 20 ≤ z.length) : (enc z).length = z.length := by
  unfold enc
  rw [List.length_append, hd_len, List.length_drop]
  omega
theorem enc_lo (z : List Int) (j : Nat) (hj : j < 20) : (enc z).getD j 0 = (hd (src z) (dst z) (z.getD 8 0) (z.getD 9 0) (wd z 4) z.length (ckz z)).getD j 0 := by
  unfold enc
  generalize hH : hd (src z) (dst z) (z.getD 8 0) (z.getD 9 0) (wd z 4) z.length (ckz z) = H
  have hl : H.length = 20 := by rw [← hH]; rfl
  rw [List.getD_eq_getElem?_getD, List.getD_eq_getElem?_getD, List.getElem?_append_left (by omega)]
theorem enc_hi (z : List Int) (ho : Oct z) (j : Nat) (hj : 12 ≤ j) : (enc z).getD j 0 = z.getD j 0 := by
  rcases Nat.lt_or_ge j 20 with h | h
  · rw [enc_lo z j h]
    have h12 := ho 12; have h13 := ho 13; have h14 := ho 14; have h15 := ho 15
    have h16 := ho 16; have h17 := ho 17; have h18 := ho 18; have h19 := ho 19
    unfold src dst wd
    simp only [Nat.reduceAdd]
    rcases (by omega : j = 12 ∨ j = 13 ∨ j = 14 ∨ j = 15 ∨ j = 16 ∨ j = 17 ∨ j = 18 ∨ j = 19) with rfl | rfl | rfl | rfl | rfl | rfl | rfl | rfl <;> simp only [P4.hd, List.getD_cons_zero, List.getD_cons_succ] <;> omega
  · unfold enc
    generalize hH : hd (src z) (dst z) (z.getD 8 0) (z.getD 9 0) (wd z 4) z.length (ckz z) = H
    have hl : H.length = 20 := by rw [← hH]; rfl
    rw [List.getD_eq_getElem?_getD, List.getD_eq_getElem?_getD, List.getElem?_append_right (by omega), hl, List.getElem?_drop, show 20 + (j - 20) = j by omega]
theorem enc_oct (z : List Int) (ho : Oct z) (l1 : z.length ≤ 340) : Oct (enc z) := by
  have h := okh_len z ho l1
  exact oct_append _ _ (hd_oct _ _ _ _ _ _ _ h (ck_in _ _ _ _ _ _ h)) (oct_drop z ho 20)
/-- alike but for the check: just where the bytes have a packet's form. -/
theorem like_iff (z : List Int) (ho : Oct z) (l0 : 20 ≤ z.length) (l1 : z.length ≤ 340) : ((enc z).take 10 = z.take 10 ∧ (enc z).drop 12 = z.drop 12) ↔ Syn z := by
  constructor
  · rintro ⟨h, _⟩
    have g : ∀ j, j < 10 → (hd (src z) (dst z) (z.getD 8 0) (z.getD 9 0) (wd z 4) z.length (ckz z)).getD j 0 = z.getD j 0 := fun j hj => by
      rw [← enc_lo z j (by omega), ← getD_take (xs := enc z) hj, h, getD_take hj]
    have g0 := g 0 (by omega); have g1 := g 1 (by omega); have g2 := g 2 (by omega); have g3 := g 3 (by omega); have g6 := g 6 (by omega); have g7 := g 7 (by omega)
    simp only [P4.hd, List.getD_cons_zero, List.getD_cons_succ] at g0 g1 g2 g3 g6 g7
    refine ⟨l0, l1, ?_, ?_, ?_⟩ <;> unfold wd <;> simp only [Nat.reduceAdd] <;> omega
  · intro h
    have hz := hd_of z ho h
    constructor
    · apply ext_getD (by rw [List.length_take, List.length_take, enc_len z l0])
      intro j hj
      rw [List.length_take] at hj
      have hj' : j < 10 := by omega
      rw [getD_take hj', getD_take hj', hz j (by omega), enc_lo z j (by omega)]
      rcases (by omega : j = 0 ∨ j = 1 ∨ j = 2 ∨ j = 3 ∨ j = 4 ∨ j = 5 ∨ j = 6 ∨ j = 7 ∨ j = 8 ∨ j = 9) with rfl | rfl | rfl | rfl | rfl | rfl | rfl | rfl | rfl | rfl <;> rfl
    · apply ext_getD (by rw [List.length_drop, List.length_drop, enc_len z l0])
      intro j _
      rw [getD_drop, getD_drop, enc_hi z ho _ (by omega)]
/-- alike altogether: just where the check is right as well. -/
theorem same_iff (z : List Int) (ho : Oct z) (h : Syn z) : enc z = z ↔ wd z 10 = ckz z := by
  have hk := ck_in _ _ _ _ _ _ (okh_of z ho h)
  have hk' : 0 ≤ ckz z ∧ ckz z ≤ 65535 := hk
  constructor
  · intro e
    have g0 := enc_lo z 10 (by omega)
    have g1 := enc_lo z 11 (by omega)
    rw [e] at g0 g1
    simp only [P4.hd, List.getD_cons_zero, List.getD_cons_succ] at g0 g1
    unfold wd
    simp only [Nat.reduceAdd]
    omega
  · intro e
    have := list_of z ho h
    rw [e] at this
    exact this.symm
/-- bytes that are a packet's. -/
def Good (z : List Int) : Prop := Syn z ∧ wd z 10 = ckz z
theorem good_enc (z : List Int) (ho : Oct z) (h : Good z) : enc z = z := (same_iff z ho h.1).2 h.2
theorem good_sum (z : List Int) (ho : Oct z) (h : Good z) : fold (tot z 20) = 65535 := sum_of z ho h.1 h.2
/-- a packet's own bytes are such. -/
theorem good_hd (s d t k i n : Int) (body : List Int) (h : Okh s d t k i n) (hn : n = 20 + body.length) (hb : body.length ≤ 320) : Good (hd s d t k i n (ck s d t k i n) ++ body) := by
  obtain ⟨h1, h2, h3, h4, h5, h6, h7, _⟩ := read_hd s d t k i n (ck s d t k i n) body h hn hb
  refine ⟨h1, ?_⟩
  unfold ckz
  rw [h2, h3, h4, h5, h6, h7, List.length_append, hd_len]
  rw [show ((20 + body.length : Nat) : Int) = n by omega]

/-- the letters of bytes. -/
def str8 (zs : List Int) : ByteArray := ⟨(zs.map fun x => UInt8.ofNat x.toNat).toArray⟩
theorem u8_inj {a b : Int} (ha : 0 ≤ a ∧ a ≤ 255) (hb : 0 ≤ b ∧ b ≤ 255) (h : UInt8.ofNat a.toNat = UInt8.ofNat b.toNat) : a = b := by
  have := congrArg UInt8.toNat h
  simp only [UInt8.toNat_ofNat'] at this
  omega
theorem str8_inj {xs ys : List Int} (hx : Oct xs) (hy : Oct ys) (h : str8 xs = str8 ys) : xs = ys := by
  have h1 : (xs.map fun x => UInt8.ofNat x.toNat) = ys.map fun x => UInt8.ofNat x.toNat := by
    unfold str8 at h
    simpa using h
  have hl : xs.length = ys.length := by simpa using congrArg List.length h1
  apply ext_getD hl
  intro j hj
  have := congrArg (fun l => l[j]?) h1
  simp only [List.getElem?_map, List.getElem?_eq_getElem hj, List.getElem?_eq_getElem (show j < xs.length by omega), Option.map_some] at this
  have a := hx j
  have b := hy j
  simp only [List.getD_eq_getElem?_getD, List.getElem?_eq_getElem hj, List.getElem?_eq_getElem (show j < xs.length by omega), Option.getD_some] at a b ⊢
  exact u8_inj a b (Option.some.inj this)
end P4
end Go.Proofs.YtbbbcfihnjidaaaDoor
