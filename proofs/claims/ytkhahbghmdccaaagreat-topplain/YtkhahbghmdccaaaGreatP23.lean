/- What Into and Out reckon, in numbers: the four's bytes stand where the document says, and come out again. -/
import Derived.Test.YtkhahbghmdccaaaGreatP22
import Derived.Test.YtkhahbghmdccaaaGreatProg
namespace Go.Proofs.YtkhahbghmdccaaaGreat.Em
open Go.RowKit Go.Shelf
theorem or8 (a x : Nat) (ha : a < 16777216) (hx : x ≤ 255) : bits .or .i64 ((a * 256 : Nat) : Int) (x : Int) = ((a * 256 + x : Nat) : Int) := by
  have e1 : (BitVec.ofInt 64 ((a * 256 : Nat) : Int)).toNat = a * 256 := by rw [BitVec.toNat_ofInt]; omega
  have e2 : (BitVec.ofInt 64 ((x : Nat) : Int)).toNat = x := by rw [BitVec.toNat_ofInt]; omega
  have key : (BitVec.ofInt 64 ((a * 256 : Nat) : Int) ||| BitVec.ofInt 64 ((x : Nat) : Int)).toNat = a * 256 + x := by
    rw [BitVec.toNat_or, e1, e2]
    have := Nat.shiftLeft_add_eq_or_of_lt (show x < 2 ^ 8 by omega) a
    rw [Nat.shiftLeft_eq] at this
    exact this.symm
  show IntKind.i64.wrap (((BitVec.ofInt 64 ((a * 256 : Nat) : Int) ||| BitVec.ofInt 64 ((x : Nat) : Int)).toNat : Nat) : Int) = _
  rw [key, IntKind.wrap_i64]
  omega
/-- a byte laid beneath what ends in eight noughts. -/
theorem or_lo (a x : Int) (ha : 0 ≤ a) (ha2 : a < 16777216) (hx : 0 ≤ x) (hx2 : x < 256) : bits .or .i64 (a * 256) x = a * 256 + x := by
  obtain ⟨m, rfl⟩ := Int.eq_ofNat_of_zero_le ha
  obtain ⟨k, rfl⟩ := Int.eq_ofNat_of_zero_le hx
  have := or8 m k (by omega) (by omega)
  rw [show ((m * 256 : Nat) : Int) = (m : Int) * 256 by omega, show ((m * 256 + k : Nat) : Int) = (m : Int) * 256 + (k : Int) by omega] at this
  exact this
theorem or_zero (y : Int) (hy : 0 ≤ y) (hy2 : y < 65536) : bits .or .i64 0 y = y := by
  obtain ⟨k, rfl⟩ := Int.eq_ofNat_of_zero_le hy
  have e2 : (BitVec.ofInt 64 ((k : Nat) : Int)).toNat = k := by rw [BitVec.toNat_ofInt]; omega
  have key : (BitVec.ofInt 64 0 ||| BitVec.ofInt 64 ((k : Nat) : Int)).toNat = k := by
    rw [BitVec.toNat_or, e2]; simp
  show IntKind.i64.wrap (((BitVec.ofInt 64 0 ||| BitVec.ofInt 64 ((k : Nat) : Int)).toNat : Nat) : Int) = _
  rw [key, IntKind.wrap_i64]
  omega
/-- the bytes of a prefix with a four in it. -/
def nb (p : List Int) (q : Nat) (f : Int) (i : Nat) : Int := if i = pos q 0 then fb f 0 else if i = pos q 1 then fb f 1 else if i = pos q 2 then fb f 2 else if i = pos q 3 then fb f 3 else byt p i
def tw (p : List Int) (q : Nat) (f : Int) (j : Nat) : Int := nb p q f (2 * j) * 256 + nb p q f (2 * j + 1)
theorem fb_in (f : Int) (i : Nat) : 0 ≤ fb f i ∧ fb f i < 256 := ⟨Int.emod_nonneg _ (by decide), Int.emod_lt_of_pos _ (by decide)⟩
theorem el_byt (p : List Int) (j : Nat) : el p j = byt p (2 * j) * 256 + byt p (2 * j + 1) := by
  unfold byt
  rw [if_pos (by omega), if_neg (by omega), show 2 * j / 2 = j by omega, show (2 * j + 1) / 2 = j by omega]
  omega
theorem into4 (p : List Int) (f : Int) (hs : shp p 4 = false) : ∀ j, j < 8 → el (stz 4 f p four4) j = tw p 4 f j := by
  intro j hj
  have z4 := shp_no hs 4 (by omega) (by omega)
  have z5 := shp_no hs 5 (by omega) (by omega)
  have z6 := shp_no hs 6 (by omega) (by omega)
  have z7 := shp_no hs 7 (by omega) (by omega)
  have z8 := shp_no hs 8 (by omega) (by omega)
  have z9 := shp_no hs 9 (by omega) (by omega)
  have z10 := shp_no hs 10 (by omega) (by omega)
  have z11 := shp_no hs 11 (by omega) (by omega)
  have z12 := shp_no hs 12 (by omega) (by omega)
  have z13 := shp_no hs 13 (by omega) (by omega)
  have z14 := shp_no hs 14 (by omega) (by omega)
  have z15 := shp_no hs 15 (by omega) (by omega)
  have v3 : ((3 : Fin 4).val) = 3 := rfl
  have f0 := fb_in f 0
  have f1 := fb_in f 1
  have f2 := fb_in f 2
  have f3 := fb_in f 3
  have o0 := or_zero (fb f 0) (by omega) (by omega)
  have h0 := or_zero (fb f 0 * 256) (by omega) (by omega)
  have o1 := or_zero (fb f 1) (by omega) (by omega)
  have h1 := or_zero (fb f 1 * 256) (by omega) (by omega)
  have o2 := or_zero (fb f 2) (by omega) (by omega)
  have h2 := or_zero (fb f 2 * 256) (by omega) (by omega)
  have o3 := or_zero (fb f 3) (by omega) (by omega)
  have h3 := or_zero (fb f 3 * 256) (by omega) (by omega)
  have b0 := or_lo (fb f 0) (fb f 1) (by omega) (by omega) (by omega) (by omega)
  have b1 := or_lo (fb f 1) (fb f 2) (by omega) (by omega) (by omega) (by omega)
  have b2 := or_lo (fb f 2) (fb f 3) (by omega) (by omega) (by omega) (by omega)
  show el (stp 4 f (stp 4 f (stp 4 f (stp 4 f p 0) 1) 2) 3) j = _
  rw [el_stp _ _ _ _ _ hj, el_stp _ _ _ _ _ hj, el_stp _ _ _ _ _ hj, el_stp _ _ _ _ _ hj, el_byt p j]
  unfold tw nb
  clear hs
  rcases (by omega : j = 0 ∨ j = 1 ∨ j = 2 ∨ j = 3 ∨ j = 4 ∨ j = 5 ∨ j = 6 ∨ j = 7) with rfl | rfl | rfl | rfl | rfl | rfl | rfl | rfl <;> simp [pos, *]
theorem into5 (p : List Int) (f : Int) (h : Ok6 p) (hs : shp p 5 = false) : ∀ j, j < 8 → el (stz 5 f p four4) j = tw p 5 f j := by
  intro j hj
  have z5 := shp_no hs 5 (by omega) (by omega)
  have z6 := shp_no hs 6 (by omega) (by omega)
  have z7 := shp_no hs 7 (by omega) (by omega)
  have z8 := shp_no hs 8 (by omega) (by omega)
  have z9 := shp_no hs 9 (by omega) (by omega)
  have z10 := shp_no hs 10 (by omega) (by omega)
  have z11 := shp_no hs 11 (by omega) (by omega)
  have z12 := shp_no hs 12 (by omega) (by omega)
  have z13 := shp_no hs 13 (by omega) (by omega)
  have z14 := shp_no hs 14 (by omega) (by omega)
  have z15 := shp_no hs 15 (by omega) (by omega)
  have v3 : ((3 : Fin 4).val) = 3 := rfl
  have f0 := fb_in f 0
  have f1 := fb_in f 1
  have f2 := fb_in f 2
  have f3 := fb_in f 3
  have o0 := or_zero (fb f 0) (by omega) (by omega)
  have h0 := or_zero (fb f 0 * 256) (by omega) (by omega)
  have o1 := or_zero (fb f 1) (by omega) (by omega)
  have h1 := or_zero (fb f 1 * 256) (by omega) (by omega)
  have o2 := or_zero (fb f 2) (by omega) (by omega)
  have h2 := or_zero (fb f 2 * 256) (by omega) (by omega)
  have o3 := or_zero (fb f 3) (by omega) (by omega)
  have h3 := or_zero (fb f 3 * 256) (by omega) (by omega)
  have b0 := or_lo (fb f 0) (fb f 1) (by omega) (by omega) (by omega) (by omega)
  have b1 := or_lo (fb f 1) (fb f 2) (by omega) (by omega) (by omega) (by omega)
  have b2 := or_lo (fb f 2) (fb f 3) (by omega) (by omega) (by omega) (by omega)
  have l4 := byt_in p h 4 (by omega)
  have m4 := or_lo (byt p 4) (fb f 0) (by omega) (by omega) (by omega) (by omega)
  show el (stp 5 f (stp 5 f (stp 5 f (stp 5 f p 0) 1) 2) 3) j = _
  rw [el_stp _ _ _ _ _ hj, el_stp _ _ _ _ _ hj, el_stp _ _ _ _ _ hj, el_stp _ _ _ _ _ hj, el_byt p j]
  unfold tw nb
  clear hs
  rcases (by omega : j = 0 ∨ j = 1 ∨ j = 2 ∨ j = 3 ∨ j = 4 ∨ j = 5 ∨ j = 6 ∨ j = 7) with rfl | rfl | rfl | rfl | rfl | rfl | rfl | rfl <;> simp [pos, *]
theorem into6 (p : List Int) (f : Int) (hs : shp p 6 = false) : ∀ j, j < 8 → el (stz 6 f p four4) j = tw p 6 f j := by
  intro j hj
  have z6 := shp_no hs 6 (by omega) (by omega)
  have z7 := shp_no hs 7 (by omega) (by omega)
  have z8 := shp_no hs 8 (by omega) (by omega)
  have z9 := shp_no hs 9 (by omega) (by omega)
  have z10 := shp_no hs 10 (by omega) (by omega)
  have z11 := shp_no hs 11 (by omega) (by omega)
  have z12 := shp_no hs 12 (by omega) (by omega)
  have z13 := shp_no hs 13 (by omega) (by omega)
  have z14 := shp_no hs 14 (by omega) (by omega)
  have z15 := shp_no hs 15 (by omega) (by omega)
  have v3 : ((3 : Fin 4).val) = 3 := rfl
  have f0 := fb_in f 0
  have f1 := fb_in f 1
  have f2 := fb_in f 2
  have f3 := fb_in f 3
  have o0 := or_zero (fb f 0) (by omega) (by omega)
  have h0 := or_zero (fb f 0 * 256) (by omega) (by omega)
  have o1 := or_zero (fb f 1) (by omega) (by omega)
  have h1 := or_zero (fb f 1 * 256) (by omega) (by omega)
  have o2 := or_zero (fb f 2) (by omega) (by omega)
  have h2 := or_zero (fb f 2 * 256) (by omega) (by omega)
  have o3 := or_zero (fb f 3) (by omega) (by omega)
  have h3 := or_zero (fb f 3 * 256) (by omega) (by omega)
  have b0 := or_lo (fb f 0) (fb f 1) (by omega) (by omega) (by omega) (by omega)
  have b1 := or_lo (fb f 1) (fb f 2) (by omega) (by omega) (by omega) (by omega)
  have b2 := or_lo (fb f 2) (fb f 3) (by omega) (by omega) (by omega) (by omega)
  show el (stp 6 f (stp 6 f (stp 6 f (stp 6 f p 0) 1) 2) 3) j = _
  rw [el_stp _ _ _ _ _ hj, el_stp _ _ _ _ _ hj, el_stp _ _ _ _ _ hj, el_stp _ _ _ _ _ hj, el_byt p j]
  unfold tw nb
  clear hs
  rcases (by omega : j = 0 ∨ j = 1 ∨ j = 2 ∨ j = 3 ∨ j = 4 ∨ j = 5 ∨ j = 6 ∨ j = 7) with rfl | rfl | rfl | rfl | rfl | rfl | rfl | rfl <;> simp [pos, *]
theorem into7 (p : List Int) (f : Int) (h : Ok6 p) (hs : shp p 7 = false) : ∀ j, j < 8 → el (stz 7 f p four4) j = tw p 7 f j := by
  intro j hj
  have z7 := shp_no hs 7 (by omega) (by omega)
  have z8 := shp_no hs 8 (by omega) (by omega)
  have z9 := shp_no hs 9 (by omega) (by omega)
  have z10 := shp_no hs 10 (by omega) (by omega)
  have z11 := shp_no hs 11 (by omega) (by omega)
  have z12 := shp_no hs 12 (by omega) (by omega)
  have z13 := shp_no hs 13 (by omega) (by omega)
  have z14 := shp_no hs 14 (by omega) (by omega)
  have z15 := shp_no hs 15 (by omega) (by omega)
  have v3 : ((3 : Fin 4).val) = 3 := rfl
  have f0 := fb_in f 0
  have f1 := fb_in f 1
  have f2 := fb_in f 2
  have f3 := fb_in f 3
  have o0 := or_zero (fb f 0) (by omega) (by omega)
  have h0 := or_zero (fb f 0 * 256) (by omega) (by omega)
  have o1 := or_zero (fb f 1) (by omega) (by omega)
  have h1 := or_zero (fb f 1 * 256) (by omega) (by omega)
  have o2 := or_zero (fb f 2) (by omega) (by omega)
  have h2 := or_zero (fb f 2 * 256) (by omega) (by omega)
  have o3 := or_zero (fb f 3) (by omega) (by omega)
  have h3 := or_zero (fb f 3 * 256) (by omega) (by omega)
  have b0 := or_lo (fb f 0) (fb f 1) (by omega) (by omega) (by omega) (by omega)
  have b1 := or_lo (fb f 1) (fb f 2) (by omega) (by omega) (by omega) (by omega)
  have b2 := or_lo (fb f 2) (fb f 3) (by omega) (by omega) (by omega) (by omega)
  have l6 := byt_in p h 6 (by omega)
  have m6 := or_lo (byt p 6) (fb f 0) (by omega) (by omega) (by omega) (by omega)
  show el (stp 7 f (stp 7 f (stp 7 f (stp 7 f p 0) 1) 2) 3) j = _
  rw [el_stp _ _ _ _ _ hj, el_stp _ _ _ _ _ hj, el_stp _ _ _ _ _ hj, el_stp _ _ _ _ _ hj, el_byt p j]
  unfold tw nb
  clear hs
  rcases (by omega : j = 0 ∨ j = 1 ∨ j = 2 ∨ j = 3 ∨ j = 4 ∨ j = 5 ∨ j = 6 ∨ j = 7) with rfl | rfl | rfl | rfl | rfl | rfl | rfl | rfl <;> simp [pos, *]
theorem into8 (p : List Int) (f : Int) (hs : shp p 8 = false) : ∀ j, j < 8 → el (stz 8 f p four4) j = tw p 8 f j := by
  intro j hj
  have z8 := shp_no hs 8 (by omega) (by omega)
  have z9 := shp_no hs 9 (by omega) (by omega)
  have z10 := shp_no hs 10 (by omega) (by omega)
  have z11 := shp_no hs 11 (by omega) (by omega)
  have z12 := shp_no hs 12 (by omega) (by omega)
  have z13 := shp_no hs 13 (by omega) (by omega)
  have z14 := shp_no hs 14 (by omega) (by omega)
  have z15 := shp_no hs 15 (by omega) (by omega)
  have v3 : ((3 : Fin 4).val) = 3 := rfl
  have f0 := fb_in f 0
  have f1 := fb_in f 1
  have f2 := fb_in f 2
  have f3 := fb_in f 3
  have o0 := or_zero (fb f 0) (by omega) (by omega)
  have h0 := or_zero (fb f 0 * 256) (by omega) (by omega)
  have o1 := or_zero (fb f 1) (by omega) (by omega)
  have h1 := or_zero (fb f 1 * 256) (by omega) (by omega)
  have o2 := or_zero (fb f 2) (by omega) (by omega)
  have h2 := or_zero (fb f 2 * 256) (by omega) (by omega)
  have o3 := or_zero (fb f 3) (by omega) (by omega)
  have h3 := or_zero (fb f 3 * 256) (by omega) (by omega)
  have b0 := or_lo (fb f 0) (fb f 1) (by omega) (by omega) (by omega) (by omega)
  have b1 := or_lo (fb f 1) (fb f 2) (by omega) (by omega) (by omega) (by omega)
  have b2 := or_lo (fb f 2) (fb f 3) (by omega) (by omega) (by omega) (by omega)
  show el (stp 8 f (stp 8 f (stp 8 f (stp 8 f p 0) 1) 2) 3) j = _
  rw [el_stp _ _ _ _ _ hj, el_stp _ _ _ _ _ hj, el_stp _ _ _ _ _ hj, el_stp _ _ _ _ _ hj, el_byt p j]
  unfold tw nb
  clear hs
  rcases (by omega : j = 0 ∨ j = 1 ∨ j = 2 ∨ j = 3 ∨ j = 4 ∨ j = 5 ∨ j = 6 ∨ j = 7) with rfl | rfl | rfl | rfl | rfl | rfl | rfl | rfl <;> simp [pos, *]
theorem into12 (p : List Int) (f : Int) (hs : shp p 12 = false) : ∀ j, j < 8 → el (stz 12 f p four4) j = tw p 12 f j := by
  intro j hj
  have z8 := shp_no hs 8 (by omega) (by omega)
  have z12 := shp_no hs 12 (by omega) (by omega)
  have z13 := shp_no hs 13 (by omega) (by omega)
  have z14 := shp_no hs 14 (by omega) (by omega)
  have z15 := shp_no hs 15 (by omega) (by omega)
  have v3 : ((3 : Fin 4).val) = 3 := rfl
  have f0 := fb_in f 0
  have f1 := fb_in f 1
  have f2 := fb_in f 2
  have f3 := fb_in f 3
  have o0 := or_zero (fb f 0) (by omega) (by omega)
  have h0 := or_zero (fb f 0 * 256) (by omega) (by omega)
  have o1 := or_zero (fb f 1) (by omega) (by omega)
  have h1 := or_zero (fb f 1 * 256) (by omega) (by omega)
  have o2 := or_zero (fb f 2) (by omega) (by omega)
  have h2 := or_zero (fb f 2 * 256) (by omega) (by omega)
  have o3 := or_zero (fb f 3) (by omega) (by omega)
  have h3 := or_zero (fb f 3 * 256) (by omega) (by omega)
  have b0 := or_lo (fb f 0) (fb f 1) (by omega) (by omega) (by omega) (by omega)
  have b1 := or_lo (fb f 1) (fb f 2) (by omega) (by omega) (by omega) (by omega)
  have b2 := or_lo (fb f 2) (fb f 3) (by omega) (by omega) (by omega) (by omega)
  show el (stp 12 f (stp 12 f (stp 12 f (stp 12 f p 0) 1) 2) 3) j = _
  rw [el_stp _ _ _ _ _ hj, el_stp _ _ _ _ _ hj, el_stp _ _ _ _ _ hj, el_stp _ _ _ _ _ hj, el_byt p j]
  unfold tw nb
  clear hs
  rcases (by omega : j = 0 ∨ j = 1 ∨ j = 2 ∨ j = 3 ∨ j = 4 ∨ j = 5 ∨ j = 6 ∨ j = 7) with rfl | rfl | rfl | rfl | rfl | rfl | rfl | rfl <;> simp [pos, *]
theorem into_el (p : List Int) (q : Nat) (f : Int) (h : Ok6 p) (hn : LongP (8 * q)) (hs : shp p q = false) (j : Nat) (hj : j < 8) : el (stz q f p four4) j = tw p q f j := by
  have : q = 4 ∨ q = 5 ∨ q = 6 ∨ q = 7 ∨ q = 8 ∨ q = 12 := by unfold LongP at hn; omega
  rcases this with rfl | rfl | rfl | rfl | rfl | rfl
  · exact into4 p f hs j hj
  · exact into5 p f h hs j hj
  · exact into6 p f hs j hj
  · exact into7 p f h hs j hj
  · exact into8 p f hs j hj
  · exact into12 p f hs j hj
theorem nb_in (p : List Int) (q : Nat) (f : Int) (h : Ok6 p) (i : Nat) (hi : i < 16) : 0 ≤ nb p q f i ∧ nb p q f i < 256 := by
  unfold nb
  split
  · exact fb_in f 0
  · split
    · exact fb_in f 1
    · split
      · exact fb_in f 2
      · split
        · exact fb_in f 3
        · exact byt_in p h i hi
theorem pos_cases (q i : Nat) : (q ≤ 8 ∧ 8 ≤ q + i ∧ pos q i = q + i + 1) ∨ ((8 < q ∨ q + i < 8) ∧ pos q i = q + i) := by
  unfold pos
  split <;> omega
theorem nb_old (p : List Int) (q : Nat) (f : Int) (i : Nat) (h : i < q ∨ i = 8 ∨ pos q 3 < i) : nb p q f i = byt p i := by
  have h0 : i ≠ pos q 0 := by have := pos_cases q 0; have := pos_cases q 3; omega
  have h1 : i ≠ pos q 1 := by have := pos_cases q 1; have := pos_cases q 3; omega
  have h2 : i ≠ pos q 2 := by have := pos_cases q 2; have := pos_cases q 3; omega
  have h3 : i ≠ pos q 3 := by have := pos_cases q 3; have := pos_cases q 3; omega
  unfold nb
  rw [if_neg h0, if_neg h1, if_neg h2, if_neg h3]
theorem pos_ne (q i j : Nat) (h : i < j) : pos q i < pos q j := by have := pos_cases q i; have := pos_cases q j; omega
theorem nb_pos (p : List Int) (q : Nat) (f : Int) (k : Nat) (hk : k < 4) : nb p q f (pos q k) = fb f k := by
  have h01 := pos_ne q 0 1 (by omega)
  have h12 := pos_ne q 1 2 (by omega)
  have h23 := pos_ne q 2 3 (by omega)
  unfold nb
  rcases (by omega : k = 0 ∨ k = 1 ∨ k = 2 ∨ k = 3) with rfl | rfl | rfl | rfl
  · rw [if_pos rfl]
  · rw [if_neg (by omega), if_pos rfl]
  · rw [if_neg (by omega), if_neg (by omega), if_pos rfl]
  · rw [if_neg (by omega), if_neg (by omega), if_neg (by omega), if_pos rfl]
/-- the address that Into gives. -/
def tz (p : List Int) (q : Nat) (f : Int) : List Int := (List.range 8).map (tw p q f)
theorem el_tz (p : List Int) (q : Nat) (f : Int) (j : Nat) (hj : j < 8) : el (tz p q f) j = tw p q f j := by
  simp [el, tz, List.getD, hj]
theorem six_congr {z z' : List Int} (h : ∀ j, j < 8 → el z j = el z' j) : six z = six z' := by
  unfold six
  rw [h 0 (by omega), h 1 (by omega), h 2 (by omega), h 3 (by omega), h 4 (by omega), h 5 (by omega), h 6 (by omega), h 7 (by omega)]
theorem into_six (p : List Int) (q : Nat) (f : Int) (h : Ok6 p) (hn : LongP (8 * q)) (hs : shp p q = false) : six (stz q f p four4) = six (tz p q f) :=
  six_congr (fun j hj => by rw [into_el p q f h hn hs j hj, el_tz p q f j hj])
theorem tz_byt (p : List Int) (q : Nat) (f : Int) (h : Ok6 p) (i : Nat) (hi : i < 16) : byt (tz p q f) i = nb p q f i := by
  unfold byt
  rw [el_tz p q f (i / 2) (by omega)]
  have h1 := nb_in p q f h (2 * (i / 2)) (by omega)
  have h2 := nb_in p q f h (2 * (i / 2) + 1) (by omega)
  unfold tw
  by_cases e : i % 2 = 0
  · rw [if_pos e]
    rw [show i = 2 * (i / 2) by omega]
    rw [show 2 * (i / 2) / 2 = i / 2 by omega]
    omega
  · rw [if_neg e]
    rw [show nb p q f i = nb p q f (2 * (i / 2) + 1) by congr 1; omega]
    omega
/-- nothing stands where nothing may. -/
theorem tz_shp (p : List Int) (q : Nat) (f : Int) (h : Ok6 p) (hs : shp p q = false) : shp (tz p q f) (pos q 3 + 1) = false := by
  cases e : shp (tz p q f) (pos q 3 + 1)
  · rfl
  · unfold shp at e
    rw [List.any_eq_true] at e
    obtain ⟨i, hi, hb⟩ := e
    rw [List.mem_range] at hi
    simp only [Bool.and_eq_true, Bool.or_eq_true, beq_iff_eq, decide_eq_true_eq, bne_iff_ne, ne_eq] at hb
    rw [tz_byt p q f h i hi] at hb
    obtain ⟨hq, hne⟩ := hb
    rw [nb_old p q f i (by omega)] at hne
    exact absurd (shp_no hs i hi (by have := pos_cases q 3; omega)) hne
/-- what Out gathers. -/
def gat (z : List Int) (q : Nat) : Int := ((byt z (pos q 0) * 256 + byt z (pos q 1)) * 256 + byt z (pos q 2)) * 256 + byt z (pos q 3)
theorem acc_gat (z : List Int) (q : Nat) (h : Ok6 z) (hq : q ≤ 12) : acc z q four4 = gat z q := by
  have b0 := byt_in z h (pos q 0) (pos_lt hq (by omega))
  have b1 := byt_in z h (pos q 1) (pos_lt hq (by omega))
  have b2 := byt_in z h (pos q 2) (pos_lt hq (by omega))
  have b3 := byt_in z h (pos q 3) (pos_lt hq (by omega))
  show otp z q (otp z q (otp z q (otp z q 0 0) 1) 2) 3 = _
  unfold otp gat
  rw [show ((0 : Fin 4).val) = 0 from rfl, show ((1 : Fin 4).val) = 1 from rfl, show ((2 : Fin 4).val) = 2 from rfl, show ((3 : Fin 4).val) = 3 from rfl]
  generalize byt z (pos q 0) = x0 at b0 ⊢
  generalize byt z (pos q 1) = x1 at b1 ⊢
  generalize byt z (pos q 2) = x2 at b2 ⊢
  generalize byt z (pos q 3) = x3 at b3 ⊢
  have w0 : IntKind.i64.wrap (0 * 256) = 0 := by decide
  rw [w0, or_zero x0 (by omega) (by omega)]
  rw [show IntKind.i64.wrap (x0 * 256) = x0 * 256 by rw [IntKind.wrap_i64]; omega, or_lo x0 x1 (by omega) (by omega) (by omega) (by omega)]
  rw [show IntKind.i64.wrap ((x0 * 256 + x1) * 256) = (x0 * 256 + x1) * 256 by rw [IntKind.wrap_i64]; omega, or_lo (x0 * 256 + x1) x2 (by omega) (by omega) (by omega) (by omega)]
  rw [show IntKind.i64.wrap (((x0 * 256 + x1) * 256 + x2) * 256) = ((x0 * 256 + x1) * 256 + x2) * 256 by rw [IntKind.wrap_i64]; omega, or_lo ((x0 * 256 + x1) * 256 + x2) x3 (by omega) (by omega) (by omega) (by omega)]
theorem fb_all (f : Int) (h : IsF f) : ((fb f 0 * 256 + fb f 1) * 256 + fb f 2) * 256 + fb f 3 = f := by
  obtain ⟨h0, h1⟩ := h
  unfold fb
  rw [show (2 : Int) ^ (24 - 8 * 0) = 16777216 from rfl, show (2 : Int) ^ (24 - 8 * 1) = 65536 from rfl, show (2 : Int) ^ (24 - 8 * 2) = 256 from rfl, show (2 : Int) ^ (24 - 8 * 3) = 1 from rfl]
  omega
theorem tz_gat (p : List Int) (q : Nat) (f : Int) (h : Ok6 p) (hq : q ≤ 12) (hf : IsF f) : gat (tz p q f) q = f := by
  unfold gat
  rw [tz_byt p q f h _ (pos_lt hq (by omega)), tz_byt p q f h _ (pos_lt hq (by omega)), tz_byt p q f h _ (pos_lt hq (by omega)), tz_byt p q f h _ (pos_lt hq (by omega))]
  rw [nb_pos p q f 0 (by omega), nb_pos p q f 1 (by omega), nb_pos p q f 2 (by omega), nb_pos p q f 3 (by omega)]
  exact fb_all f hf
end Go.Proofs.YtkhahbghmdccaaaGreat.Em
