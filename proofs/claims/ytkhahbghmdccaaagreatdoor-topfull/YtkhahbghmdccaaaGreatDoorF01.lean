/- Plain facts on numbers and lists: what folding to 16 bits leaves, and totals of bytes in pairs. Packets of fours in numbers: the head's twenty bytes, its check, and what a turned bit does to it. Packets of fours in numbers, second part: bytes read as a packet and written again; letters of bytes. An address of eight numbers as a value of the program's, and Check by a contract; slices of bytes that the call itself has made; Bytes by contracts. -/
import Derived.Test.YtkhahbghmdccaaaGreatDoorProg
import Derived.Below
import Derived.OpenShut
import Derived.WalkKit
import Derived.LaidEql
import Derived.BigQuiet
import Derived.Laws.AppendOwnNone
import Derived.Laws.MakeOwn
import Derived.Deep.RegionLaw
namespace Go.Proofs.YtkhahbghmdccaaaGreatDoor
open Go.RowKit
namespace SM
def fold (n : Int) : Int := if n = 0 then 0 else (n - 1) % 65535 + 1
theorem fold_small (n : Int) (_h0 : 0 ≤ n) (_h : n ≤ 65535) : fold n = n := by
  unfold fold; split <;> omega
theorem fold_bd (n : Int) (_h0 : 0 ≤ n) : 0 ≤ fold n ∧ fold n ≤ 65535 := by
  unfold fold; split <;> omega
theorem fold_step (n : Int) (_h : 65535 < n) : fold (n / 65536 + n % 65536) = fold n := by
  unfold fold
  rw [if_neg (by omega), if_neg (by omega)]; omega
def tot (zs : List Int) : Nat → Int
  | 0 => 0
  | k + 1 => tot zs k + if k % 2 = 0 then zs.getD k 0 * 256 else zs.getD k 0
def Oct (zs : List Int) : Prop := ∀ k : Nat, 0 ≤ zs.getD k 0 ∧ zs.getD k 0 ≤ 255
theorem tot_bd (zs : List Int) (h : Oct zs) (k : Nat) : 0 ≤ tot zs k ∧ tot zs k ≤ 65280 * (k : Int) := by
  induction k with
  | zero => simp [tot]
  | succ k ih =>
    have hk := h k
    simp only [tot]
    split <;> omega
theorem tot_even (zs : List Int) (k : Nat) (h : k % 2 = 0) : tot zs (k + 1) = tot zs k + zs.getD k 0 * 256 := by
  simp only [tot]; rw [if_pos h]
theorem tot_odd (zs : List Int) (k : Nat) (h : k % 2 = 1) : tot zs (k + 1) = tot zs k + zs.getD k 0 := by
  simp only [tot]; rw [if_neg (by omega)]
theorem tot_set (zs : List Int) (i : Nat) (v : Int) (hi : i < zs.length) (k : Nat) : tot (zs.set i v) k = tot zs k + if i < k then (v - zs.getD i 0) * (if i % 2 = 0 then 256 else 1) else 0 := by
  induction k with
  | zero => simp [tot]
  | succ k ih =>
    simp only [tot]
    rw [ih]
    by_cases h : i = k
    · subst h
      have e : (zs.set i v).getD i 0 = v := by simp [hi]
      rw [e, if_neg (show ¬ i < i by omega), if_pos (show i < i + 1 by omega)]
      split <;> omega
    · have e : (zs.set i v).getD k 0 = zs.getD k 0 := by simp [h]
      rw [e]
      by_cases h2 : i < k
      · rw [if_pos h2, if_pos (show i < k + 1 by omega)]; omega
      · rw [if_neg h2, if_neg (show ¬ i < k + 1 by omega)]; omega
theorem oct_nil : Oct [] := fun k => by simp
theorem oct_set (zs : List Int) (h : Oct zs) (i : Nat) (v : Int) (h0 : 0 ≤ v) (h1 : v ≤ 255) : Oct (zs.set i v) := by
  intro k
  have hk := h k
  simp only [List.getD_eq_getElem?_getD, List.getElem?_set] at hk ⊢
  split
  · split <;> simp <;> omega
  · exact hk
theorem oct_append (xs ys : List Int) (hx : Oct xs) (hy : Oct ys) : Oct (xs ++ ys) := by
  intro k
  have h1 := hx k
  have h2 := hy (k - xs.length)
  simp only [List.getD_eq_getElem?_getD, List.getElem?_append] at h1 h2 ⊢
  split
  · exact h1
  · exact h2
theorem oct_take (xs : List Int) (hx : Oct xs) (n : Nat) : Oct (xs.take n) := by
  intro k
  have h1 := hx k
  simp only [List.getD_eq_getElem?_getD, List.getElem?_take] at h1 ⊢
  split
  · exact h1
  · simp
end SM
def Row8 (w : World) (a : Option Addr) (len cap : Nat) (zs : List Int) : Prop :=
  zs.length = len ∧ len ≤ maxLen ∧ SM.Oct zs ∧ (a = none → len = 0 ∧ cap = 0) ∧ (0 < len → ∃ b off, a = some ⟨b, off, none⟩ ∧ ∀ i, i < len → w.cell? ⟨b, off + i, none⟩ = some (.int .u8 (zs.getD i 0)))
theorem Row8.below {w w' : World} {a : Option Addr} {len cap : Nat} {zs : List Int} (h : Row8 w a len cap zs) (hb : Below w.heap.size w w') : Row8 w' a len cap zs := by
  obtain ⟨h1, h2, h3, h4, h5⟩ := h
  refine ⟨h1, h2, h3, h4, fun hp => ?_⟩
  obtain ⟨b, off, h6, h7⟩ := h5 hp
  refine ⟨b, off, h6, fun i hi => ?_⟩
  have hc := h7 i hi
  have hlt : b < w.heap.size := World.block_lt_of_cell? w _ hc
  rw [hb.cell (p := ⟨b, off + i, none⟩) hlt]; exact hc
theorem Row8.grown {w w' : World} {a : Option Addr} {len cap : Nat} {zs : List Int} {row : Option Nat} (h : Row8 w a len cap zs) (hb : w.grownBy w' row) (hne : ∀ b off, a = some ⟨b, off, none⟩ → some b ≠ row) : Row8 w' a len cap zs := by
  obtain ⟨h1, h2, h3, h4, h5⟩ := h
  refine ⟨h1, h2, h3, h4, fun hp => ?_⟩
  obtain ⟨b, off, h6, h7⟩ := h5 hp
  exact ⟨b, off, h6, fun i hi => hb.cell (h7 i hi) (hne b off h6)⟩
end Go.Proofs.YtkhahbghmdccaaaGreatDoor

namespace Go.Proofs.YtkhahbghmdccaaaGreatDoor
namespace P4
open SM
def hd (s d t k i n c : Int) : List Int := [69, 0, n / 256, n % 256, i / 256, i % 256, 64, 0, t, k, c / 256, c % 256, s / 16777216, s / 65536 % 256, s / 256 % 256, s % 256, d / 16777216, d / 65536 % 256, d / 256 % 256, d % 256]
def Okh (s d t k i n : Int) : Prop := (0 ≤ s ∧ s ≤ 4294967295) ∧ (0 ≤ d ∧ d ≤ 4294967295) ∧ (0 ≤ t ∧ t ≤ 255) ∧ (0 ≤ k ∧ k ≤ 255) ∧ (0 ≤ i ∧ i ≤ 65535) ∧ (0 ≤ n ∧ n ≤ 65535)
theorem hd_len (s d t k i n c : Int) : (hd s d t k i n c).length = 20 := rfl
theorem hd_oct (s d t k i n c : Int) (h : Okh s d t k i n) (hc : 0 ≤ c ∧ c ≤ 65535) : Oct (hd s d t k i n c) := by
  obtain ⟨hs, hd, ht, hk, hi, hn⟩ := h
  intro j
  rcases Nat.lt_or_ge j 20 with hj | hj
  · rcases (by omega : j = 0 ∨ j = 1 ∨ j = 2 ∨ j = 3 ∨ j = 4 ∨ j = 5 ∨ j = 6 ∨ j = 7 ∨ j = 8 ∨ j = 9 ∨ j = 10 ∨ j = 11 ∨ j = 12 ∨ j = 13 ∨ j = 14 ∨ j = 15 ∨ j = 16 ∨ j = 17 ∨ j = 18 ∨ j = 19) with rfl | rfl | rfl | rfl | rfl | rfl | rfl | rfl | rfl | rfl | rfl | rfl | rfl | rfl | rfl | rfl | rfl | rfl | rfl | rfl <;> simp only [P4.hd, List.getD_cons_zero, List.getD_cons_succ] <;> omega
  · rw [List.getD_eq_getElem?_getD, List.getElem?_eq_none (by rw [hd_len]; omega)]
    simp
def ck (s d t k i n : Int) : Int := 65535 - fold (tot (hd s d t k i n 0) 20)
theorem ck_in (s d t k i n : Int) (h : Okh s d t k i n) : 0 ≤ ck s d t k i n ∧ ck s d t k i n ≤ 65535 := by
  have h0 := tot_bd (hd s d t k i n 0) (hd_oct s d t k i n 0 h (by omega)) 20
  have h1 := fold_bd _ h0.1
  unfold ck
  omega
def wd (z : List Int) (j : Nat) : Int := 256 * z.getD j 0 + z.getD (j + 1) 0
def src (z : List Int) : Int := 65536 * wd z 12 + wd z 14
def dst (z : List Int) : Int := 65536 * wd z 16 + wd z 18
def Syn (z : List Int) : Prop := 20 ≤ z.length ∧ z.length ≤ 340 ∧ wd z 0 = 69 * 256 ∧ wd z 2 = z.length ∧ wd z 6 = 64 * 256
theorem okh_of (z : List Int) (ho : Oct z) (h : Syn z) : Okh (src z) (dst z) (z.getD 8 0) (z.getD 9 0) (wd z 4) z.length := by
  have h4 := ho 4; have h5 := ho 5; have h8 := ho 8; have h9 := ho 9
  have h12 := ho 12; have h13 := ho 13; have h14 := ho 14; have h15 := ho 15
  have h16 := ho 16; have h17 := ho 17; have h18 := ho 18; have h19 := ho 19
  obtain ⟨l0, l1, _, _, _⟩ := h
  unfold Okh src dst wd
  simp only [Nat.reduceAdd]
  omega
theorem hd_of (z : List Int) (ho : Oct z) (h : Syn z) (j : Nat) (hj : j < 20) : z.getD j 0 = (hd (src z) (dst z) (z.getD 8 0) (z.getD 9 0) (wd z 4) z.length (wd z 10)).getD j 0 := by
  have h0 := ho 0; have h1 := ho 1; have h2 := ho 2; have h3 := ho 3; have h4 := ho 4; have h5 := ho 5; have h6 := ho 6; have h7 := ho 7
  have h10 := ho 10; have h11 := ho 11
  have h12 := ho 12; have h13 := ho 13; have h14 := ho 14; have h15 := ho 15
  have h16 := ho 16; have h17 := ho 17; have h18 := ho 18; have h19 := ho 19
  obtain ⟨l0, l1, e0, e2, e6⟩ := h
  unfold src dst
  unfold wd at *
  simp only [Nat.reduceAdd] at *
  rcases (by omega : j = 0 ∨ j = 1 ∨ j = 2 ∨ j = 3 ∨ j = 4 ∨ j = 5 ∨ j = 6 ∨ j = 7 ∨ j = 8 ∨ j = 9 ∨ j = 10 ∨ j = 11 ∨ j = 12 ∨ j = 13 ∨ j = 14 ∨ j = 15 ∨ j = 16 ∨ j = 17 ∨ j = 18 ∨ j = 19) with rfl | rfl | rfl | rfl | rfl | rfl | rfl | rfl | rfl | rfl | rfl | rfl | rfl | rfl | rfl | rfl | rfl | rfl | rfl | rfl <;> simp only [P4.hd, List.getD_cons_zero, List.getD_cons_succ] <;> omega
theorem list_of (z : List Int) (ho : Oct z) (h : Syn z) : z = hd (src z) (dst z) (z.getD 8 0) (z.getD 9 0) (wd z 4) z.length (wd z 10) ++ z.drop 20 := by
  have hl := h.1
  apply List.ext_getElem?
  intro j
  rcases Nat.lt_or_ge j 20 with hj | hj
  · rw [List.getElem?_append_left (by rw [hd_len]; exact hj)]
    have := hd_of z ho h j hj
    rw [List.getD_eq_getElem?_getD, List.getD_eq_getElem?_getD, List.getElem?_eq_getElem (by omega), List.getElem?_eq_getElem (by rw [hd_len]; exact hj)] at this
    rw [List.getElem?_eq_getElem (by omega), List.getElem?_eq_getElem (by rw [hd_len]; exact hj)]
    exact congrArg some this
  · rw [List.getElem?_append_right (by rw [hd_len]; exact hj), hd_len, List.getElem?_drop, show 20 + (j - 20) = j by omega]
theorem read_hd (s d t k i n c : Int) (body : List Int) (h : Okh s d t k i n) (hn : n = 20 + body.length) (hb : body.length ≤ 320) :
    Syn (hd s d t k i n c ++ body) ∧ src (hd s d t k i n c ++ body) = s ∧ dst (hd s d t k i n c ++ body) = d ∧ (hd s d t k i n c ++ body).getD 8 0 = t ∧ (hd s d t k i n c ++ body).getD 9 0 = k ∧ wd (hd s d t k i n c ++ body) 4 = i ∧ wd (hd s d t k i n c ++ body) 10 = c ∧ (hd s d t k i n c ++ body).drop 20 = body := by
  obtain ⟨hs, hd', ht, hk, hi, hn'⟩ := h
  have e : ∀ j, j < 20 → (hd s d t k i n c ++ body).getD j 0 = (hd s d t k i n c).getD j 0 := fun j hj => by
    rw [List.getD_eq_getElem?_getD, List.getD_eq_getElem?_getD, List.getElem?_append_left (by rw [hd_len]; exact hj)]
  have hl : (hd s d t k i n c ++ body).length = 20 + body.length := by rw [List.length_append, hd_len]
  refine ⟨⟨by omega, by omega, ?_, ?_, ?_⟩, ?_, ?_, ?_, ?_, ?_, ?_, ?_⟩
  · unfold wd; rw [e 0 (by omega), e 1 (by omega)]; simp only [P4.hd, List.getD_cons_zero, List.getD_cons_succ]; omega
  · unfold wd; rw [e 2 (by omega), e 3 (by omega), hl]; simp only [P4.hd, List.getD_cons_zero, List.getD_cons_succ]; omega
  · unfold wd; rw [e 6 (by omega), e 7 (by omega)]; simp only [P4.hd, List.getD_cons_zero, List.getD_cons_succ]; omega
  · unfold src wd; rw [e 12 (by omega), e 13 (by omega), e 14 (by omega), e 15 (by omega)]; simp only [P4.hd, List.getD_cons_zero, List.getD_cons_succ]; omega
  · unfold dst wd; rw [e 16 (by omega), e 17 (by omega), e 18 (by omega), e 19 (by omega)]; simp only [P4.hd, List.getD_cons_zero, List.getD_cons_succ]; omega
  · rw [e 8 (by omega)]; rfl
  · rw [e 9 (by omega)]; rfl
  · unfold wd; rw [e 4 (by omega), e 5 (by omega)]; simp only [P4.hd, List.getD_cons_zero, List.getD_cons_succ]; omega
  · unfold wd; rw [e 10 (by omega), e 11 (by omega)]; simp only [P4.hd, List.getD_cons_zero, List.getD_cons_succ]; omega
  · rw [List.drop_append_of_le_length (by rw [hd_len]; omega)]; rfl
theorem fold_full (T : Int) (h0 : 0 ≤ T) (h : fold T = 65535) : 0 < T ∧ T % 65535 = 0 := by
  unfold fold at h
  split at h <;> omega
theorem turned (z : List Int) (ho : Oct z) (hl : 20 ≤ z.length) (hz : fold (tot z 20) = 65535) (j : Nat) (hj : j < 20) (v : Int) (hv : 0 ≤ v ∧ v ≤ 255) (hne : v ≠ z.getD j 0) : fold (tot (z.set j v) 20) ≠ 65535 := by
  intro h
  have h1 := fold_full _ (tot_bd z ho 20).1 hz
  have h2 := fold_full _ (tot_bd _ (oct_set z ho j v hv.1 hv.2) 20).1 h
  have h3 := tot_set z j v (by omega) 20
  rw [if_pos hj] at h3
  have hx := ho j
  generalize tot (z.set j v) 20 = T' at h2 h3
  generalize tot z 20 = T at h1 h3
  generalize z.getD j 0 = x at hx hne h3
  split at h3 <;> omega
end P4
end Go.Proofs.YtkhahbghmdccaaaGreatDoor

namespace Go.Proofs.YtkhahbghmdccaaaGreatDoor
namespace P4
open SM
theorem ext_getD {xs ys : List Int} (hl : xs.length = ys.length) (h : ∀ j, j < ys.length → xs.getD j 0 = ys.getD j 0) : xs = ys := by
  apply List.ext_getElem hl
  intro j h1 h2
  have := h j h2
  simpa [List.getD_eq_getElem?_getD, List.getElem?_eq_getElem h1, List.getElem?_eq_getElem h2] using this
theorem getD_take {xs : List Int} {n j : Nat} (h : j < n) : (xs.take n).getD j 0 = xs.getD j 0 := by
  simp [List.getD_eq_getElem?_getD, h]
theorem getD_drop {xs : List Int} {n j : Nat} : (xs.drop n).getD j 0 = xs.getD (n + j) 0 := by
  simp [List.getD_eq_getElem?_getD, List.getElem?_drop]
theorem oct_drop (xs : List Int) (h : Oct xs) (n : Nat) : Oct (xs.drop n) := fun j => by rw [getD_drop]; exact h _
theorem okh_len (z : List Int) (ho : Oct z) (l1 : z.length ≤ 340) : Okh (src z) (dst z) (z.getD 8 0) (z.getD 9 0) (wd z 4) z.length := by
  have h4 := ho 4; have h5 := ho 5; have h8 := ho 8; have h9 := ho 9
  have h12 := ho 12; have h13 := ho 13; have h14 := ho 14; have h15 := ho 15
  have h16 := ho 16; have h17 := ho 17; have h18 := ho 18; have h19 := ho 19
  unfold Okh src dst wd
  simp only [Nat.reduceAdd]
  omega
def ckz (z : List Int) : Int := ck (src z) (dst z) (z.getD 8 0) (z.getD 9 0) (wd z 4) z.length
def enc (z : List Int) : List Int := hd (src z) (dst z) (z.getD 8 0) (z.getD 9 0) (wd z 4) z.length (ckz z) ++ z.drop 20
theorem enc_len (z : List Int) (h : 20 ≤ z.length) : (enc z).length = z.length := by
  unfold enc
  rw [List.length_append, hd_len, List.length_drop]
  omega
theorem enc_lo (z : List Int) (j : Nat) (hj : j < 20) : (enc z).getD j 0 = (hd (src z) (dst z) (z.getD 8 0) (z.getD 9 0) (wd z 4) z.length (ckz z)).getD j 0 := by
  unfold enc
  generalize hH : hd (src z) (dst z) (z.getD 8 0) (z.getD 9 0) (wd z 4) z.length (ckz z) = H
  have hl : H.length = 20 := by rw [← hH]; rfl
  rw [List.getD_eq_getElem?_getD, List.getD_eq_getElem?_getD, List.getElem?_append_left (by omega)]
theorem enc_hi (z : List Int) (ho : Oct z) (j : Nat) (hj : 12 ≤ j) : (enc z).getD j 0 = z.getD j 0 := by
  rcases Nat.lt_or_ge j 20 with h | h
  · rw [enc_lo z j h]
    have h12 := ho 12; have h13 := ho 13; have h14 := ho 14; have h15 := ho 15
    have h16 := ho 16; have h17 := ho 17; have h18 := ho 18; have h19 := ho 19
    unfold src dst wd
    simp only [Nat.reduceAdd]
    rcases (by omega : j = 12 ∨ j = 13 ∨ j = 14 ∨ j = 15 ∨ j = 16 ∨ j = 17 ∨ j = 18 ∨ j = 19) with rfl | rfl | rfl | rfl | rfl | rfl | rfl | rfl <;> simp only [P4.hd, List.getD_cons_zero, List.getD_cons_succ] <;> omega
  · unfold enc
    generalize hH : hd (src z) (dst z) (z.getD 8 0) (z.getD 9 0) (wd z 4) z.length (ckz z) = H
    have hl : H.length = 20 := by rw [← hH]; rfl
    rw [List.getD_eq_getElem?_getD, List.getD_eq_getElem?_getD, List.getElem?_append_right (by omega), hl, List.getElem?_drop, show 20 + (j - 20) = j by omega]
theorem like_iff (z : List Int) (ho : Oct z) (l0 : 20 ≤ z.length) (l1 : z.length ≤ 340) : ((enc z).take 10 = z.take 10 ∧ (enc z).drop 12 = z.drop 12) ↔ Syn z := by
  constructor
  · rintro ⟨h, _⟩
    have g : ∀ j, j < 10 → (hd (src z) (dst z) (z.getD 8 0) (z.getD 9 0) (wd z 4) z.length (ckz z)).getD j 0 = z.getD j 0 := fun j hj => by
      rw [← enc_lo z j (by omega), ← getD_take (xs := enc z) hj, h, getD_take hj]
    have g0 := g 0 (by omega); have g1 := g 1 (by omega); have g2 := g 2 (by omega); have g3 := g 3 (by omega); have g6 := g 6 (by omega); have g7 := g 7 (by omega)
    simp only [P4.hd, List.getD_cons_zero, List.getD_cons_succ] at g0 g1 g2 g3 g6 g7
    refine ⟨l0, l1, ?_, ?_, ?_⟩ <;> unfold wd <;> simp only [Nat.reduceAdd] <;> omega
  · intro h
    have hz := hd_of z ho h
    constructor
    · apply ext_getD (by rw [List.length_take, List.length_take, enc_len z l0])
      intro j hj
      rw [List.length_take] at hj
      have hj' : j < 10 := by omega
      rw [getD_take hj', getD_take hj', hz j (by omega), enc_lo z j (by omega)]
      rcases (by omega : j = 0 ∨ j = 1 ∨ j = 2 ∨ j = 3 ∨ j = 4 ∨ j = 5 ∨ j = 6 ∨ j = 7 ∨ j = 8 ∨ j = 9) with rfl | rfl | rfl | rfl | rfl | rfl | rfl | rfl | rfl | rfl <;> rfl
    · apply ext_getD (by rw [List.length_drop, List.length_drop, enc_len z l0])
      intro j _
      rw [getD_drop, getD_drop, enc_hi z ho _ (by omega)]
theorem same_iff (z : List Int) (ho : Oct z) (h : Syn z) : enc z = z ↔ wd z 10 = ckz z := by
  have hk := ck_in _ _ _ _ _ _ (okh_of z ho h)
  have hk' : 0 ≤ ckz z ∧ ckz z ≤ 65535 := hk
  constructor
  · intro e
    have g0 := enc_lo z 10 (by omega)
    have g1 := enc_lo z 11 (by omega)
    rw [e] at g0 g1
    simp only [P4.hd, List.getD_cons_zero, List.getD_cons_succ] at g0 g1
    unfold wd
    simp only [Nat.reduceAdd]
    omega
  · intro e
    have := list_of z ho h
    rw [e] at this
    exact this.symm
def Good (z : List Int) : Prop := Syn z ∧ wd z 10 = ckz z
theorem good_enc (z : List Int) (ho : Oct z) (h : Good z) : enc z = z := (same_iff z ho h.1).2 h.2
theorem good_hd (s d t k i n : Int) (body : List Int) (h : Okh s d t k i n) (hn : n = 20 + body.length) (hb : body.length ≤ 320) : Good (hd s d t k i n (ck s d t k i n) ++ body) := by
  obtain ⟨h1, h2, h3, h4, h5, h6, h7, _⟩ := read_hd s d t k i n (ck s d t k i n) body h hn hb
  refine ⟨h1, ?_⟩
  unfold ckz
  rw [h2, h3, h4, h5, h6, h7, List.length_append, hd_len]
  rw [show ((20 + body.length : Nat) : Int) = n by omega]
def str8 (zs : List Int) : ByteArray := ⟨(zs.map fun x => UInt8.ofNat x.toNat).toArray⟩
theorem u8_inj {a b : Int} (ha : 0 ≤ a ∧ a ≤ 255) (hb : 0 ≤ b ∧ b ≤ 255) (h : UInt8.ofNat a.toNat = UInt8.ofNat b.toNat) : a = b := by
  have := congrArg UInt8.toNat h
  simp only [UInt8.toNat_ofNat'] at this
  omega
theorem str8_inj {xs ys : List Int} (hx : Oct xs) (hy : Oct ys) (h : str8 xs = str8 ys) : xs = ys := by
  have h1 : (xs.map fun x => UInt8.ofNat x.toNat) = ys.map fun x => UInt8.ofNat x.toNat := by
    unfold str8 at h
    simpa using h
  have hl : xs.length = ys.length := by simpa using congrArg List.length h1
  apply ext_getD hl
  intro j hj
  have := congrArg (fun l => l[j]?) h1
  simp only [List.getElem?_map, List.getElem?_eq_getElem hj, List.getElem?_eq_getElem (show j < xs.length by omega), Option.map_some] at this
  have a := hx j
  have b := hy j
  simp only [List.getD_eq_getElem?_getD, List.getElem?_eq_getElem hj, List.getElem?_eq_getElem (show j < xs.length by omega), Option.getD_some] at a b ⊢
  exact u8_inj a b (Option.some.inj this)
end P4
end Go.Proofs.YtkhahbghmdccaaaGreatDoor

namespace Go.Proofs.YtkhahbghmdccaaaGreatDoor
open Go.RowKit
theorem add_pl (b o j : Nat) : (⟨b, o, none⟩ : Addr).add j = ⟨b, o + j, none⟩ := by simp [Addr.add]
def el (z : List Int) (k : Nat) : Int := z.getD k 0
theorem hide {p : Prop} (h : p) : Hid p := h
theorem unhide {p : Prop} (h : Hid p) : p := h.out
theorem bt {a b c : World} (h1 : Below a.heap.size a b) (h2 : Below b.heap.size b c) : Below a.heap.size a c := h1.trans (h2.mono h1.size)
def six (z : List Int) : Value := .agg #[.int .i64 (el z 0), .int .i64 (el z 1), .int .i64 (el z 2), .int .i64 (el z 3), .int .i64 (el z 4), .int .i64 (el z 5), .int .i64 (el z 6), .int .i64 (el z 7)]
def sixC (z : List Int) : Array Value := #[.int .i64 (el z 0), .int .i64 (el z 1), .int .i64 (el z 2), .int .i64 (el z 3), .int .i64 (el z 4), .int .i64 (el z 5), .int .i64 (el z 6), .int .i64 (el z 7)]
theorem six_index (z : List Int) (k : Nat) (hk : k < 8) (w : World) : (Instr.index 23 (six z) (.int .i64 k)).run Tryz.prog w = .ok (.int .i64 (el z k)) w := by
  rcases (by omega : k = 0 ∨ k = 1 ∨ k = 2 ∨ k = 3 ∨ k = 4 ∨ k = 5 ∨ k = 6 ∨ k = 7) with rfl | rfl | rfl | rfl | rfl | rfl | rfl | rfl <;> kernel_rfl
def Word (n : Int) : Prop := 0 ≤ n ∧ n ≤ 65535
def Ok6 (z : List Int) : Prop := ∀ k, k < 8 → Word (el z k)
set_option maxHeartbeats 1000000 in
theorem check_any (z : List Int) (w : World) : Calls Tryz.prog 95 #[six z] w fun e w' => ((Ok6 z ∧ e = .returned .nilIface) ∨ (¬ Ok6 z ∧ e = .returned (.iface 28 (.int .i64 1)))) ∧ w' = w.alloc (.cells (sixC z) 23) := by
  unfold six
  go_enter Tryz.func95, Tryz.ntmps95
  go_wp2
  go_loop [6] (fun t => ∃ k : Nat, k ≤ 8 ∧ (∀ j, j < k → Word (el z j)) ∧ t = .int .i64 k) (fun t => 8 - (intOf t).toNat)
  case atStart => exact ⟨0, by omega, fun i hi => absurd hi (by omega), rfl⟩
  case round =>
    obtain ⟨k, hk, hin, rfl⟩ := hrel
    have HI := hide hin
    clear hin
    by_cases hlt : k < 8
    · have hi := fun w => six_index z k hlt w
      unfold six at hi
      generalize hzk : el z k = x at hi
      have HZ := hide hzk
      clear hzk
      by_cases hz0 : x < 0
      · go_wp2
        go_ret
        exact ⟨.inr ⟨fun h => absurd (h k hlt).1 (by rw [HZ.out]; omega), rfl⟩, rfl⟩
      · by_cases hz1 : 65535 < x
        · go_wp2
          go_ret
          exact ⟨.inr ⟨fun h => absurd (h k hlt).2 (by rw [HZ.out]; omega), rfl⟩, rfl⟩
        · go_wp2
          go_round
          case rel => exact ⟨k + 1, by omega, fun i hi => if h : i = k then by subst h; rw [HZ.out]; exact ⟨by omega, by omega⟩ else HI.out i (by omega), by go_num⟩
          case measure => simp [intOf]; omega
    · go_wp2
      go_ret
      obtain rfl : k = 8 := by omega
      exact ⟨.inl ⟨HI.out, rfl⟩, rfl⟩
theorem check_ok (z : List Int) (w : World) (h : Ok6 z) : Calls Tryz.prog 95 #[six z] w fun e w' => e = .returned .nilIface ∧ w' = w.alloc (.cells (sixC z) 23) :=
  (check_any z w).mono fun e w' hh => by
    rcases hh with ⟨⟨_, he⟩ | ⟨hn, _⟩, hw⟩
    · exact ⟨he, hw⟩
    · exact absurd h hn
theorem check_bad (z : List Int) (w : World) (h : ¬ Ok6 z) : Calls Tryz.prog 95 #[six z] w fun e w' => e = .returned (.iface 28 (.int .i64 1)) ∧ w' = w.alloc (.cells (sixC z) 23) :=
  (check_any z w).mono fun e w' hh => by
    rcases hh with ⟨⟨hn, _⟩ | ⟨_, he⟩, hw⟩
    · exact absurd hn h
    · exact ⟨he, hw⟩
def SixIn (B : Nat) (z : List Int) (w : World) : Prop := w.heap[B]? = some (.cells (sixC z) 23 (0, 0))
theorem SixIn.lt {B : Nat} {z : List Int} {w : World} (h : SixIn B z w) : B < w.heap.size := (Array.getElem?_eq_some_iff.1 h).1
theorem SixIn.kept {B : Nat} {z : List Int} {w w' : World} (h : SixIn B z w) (hb : Below w.heap.size w w') : SixIn B z w' := (hb.block B h.lt).trans h
theorem SixIn.facts {B : Nat} {z : List Int} {w : World} (h : SixIn B z w) (j : Nat) (hj : j < 8) : w.cell? ⟨B, j, none⟩ = some (.int .i64 (el z j)) ∧ w.frozen? ⟨B, j, none⟩ = false ∧ w.setCell ⟨B, j, none⟩ (.int .i64 (el z j)) = w := by
  unfold SixIn at h
  have hc : (sixC z)[j]? = some (.int .i64 (el z j)) := by
    rcases (by omega : j = 0 ∨ j = 1 ∨ j = 2 ∨ j = 3 ∨ j = 4 ∨ j = 5 ∨ j = 6 ∨ j = 7) with rfl | rfl | rfl | rfl | rfl | rfl | rfl | rfl <;> rfl
  refine ⟨by simp [World.cell?, h, hc], by simp [World.frozen?, h], ?_⟩
  rw [setCell_eq_setRow w B j (sixC z) 23 (0, 0) _ h]
  have : (sixC z).setIfInBounds j (.int .i64 (el z j)) = sixC z := by
    rcases (by omega : j = 0 ∨ j = 1 ∨ j = 2 ∨ j = 3 ∨ j = 4 ∨ j = 5 ∨ j = 6 ∨ j = 7) with rfl | rfl | rfl | rfl | rfl | rfl | rfl | rfl <;> rfl
  rw [this]
  exact setRow_self w B (sixC z) _ _ h
def noughts (w : World) : World := w.alloc (.cells #[.int .i64 0, .int .i64 0, .int .i64 0, .int .i64 0, .int .i64 0, .int .i64 0, .int .i64 0, .int .i64 0] 23)
theorem noughts_in (w : World) : SixIn w.heap.size [] (noughts w) := by
  unfold SixIn noughts
  show (w.heap.push _)[w.heap.size]? = _
  rw [Array.getElem?_push_size]
  rfl
def SixAll (B : Nat) (z : List Int) (w : World) : Prop :=
  (w.cell? ⟨B, 0, none⟩ = some (.int .i64 (el z 0)) ∧ w.frozen? ⟨B, 0, none⟩ = false ∧ w.setCell ⟨B, 0, none⟩ (.int .i64 (el z 0)) = w) ∧
  (w.cell? ⟨B, 1, none⟩ = some (.int .i64 (el z 1)) ∧ w.frozen? ⟨B, 1, none⟩ = false ∧ w.setCell ⟨B, 1, none⟩ (.int .i64 (el z 1)) = w) ∧
  (w.cell? ⟨B, 2, none⟩ = some (.int .i64 (el z 2)) ∧ w.frozen? ⟨B, 2, none⟩ = false ∧ w.setCell ⟨B, 2, none⟩ (.int .i64 (el z 2)) = w) ∧
  (w.cell? ⟨B, 3, none⟩ = some (.int .i64 (el z 3)) ∧ w.frozen? ⟨B, 3, none⟩ = false ∧ w.setCell ⟨B, 3, none⟩ (.int .i64 (el z 3)) = w) ∧
  (w.cell? ⟨B, 4, none⟩ = some (.int .i64 (el z 4)) ∧ w.frozen? ⟨B, 4, none⟩ = false ∧ w.setCell ⟨B, 4, none⟩ (.int .i64 (el z 4)) = w) ∧
  (w.cell? ⟨B, 5, none⟩ = some (.int .i64 (el z 5)) ∧ w.frozen? ⟨B, 5, none⟩ = false ∧ w.setCell ⟨B, 5, none⟩ (.int .i64 (el z 5)) = w) ∧
  (w.cell? ⟨B, 6, none⟩ = some (.int .i64 (el z 6)) ∧ w.frozen? ⟨B, 6, none⟩ = false ∧ w.setCell ⟨B, 6, none⟩ (.int .i64 (el z 6)) = w) ∧
  (w.cell? ⟨B, 7, none⟩ = some (.int .i64 (el z 7)) ∧ w.frozen? ⟨B, 7, none⟩ = false ∧ w.setCell ⟨B, 7, none⟩ (.int .i64 (el z 7)) = w)
theorem SixIn.all {B : Nat} {z : List Int} {w : World} (h : SixIn B z w) : SixAll B z w :=
  ⟨h.facts 0 (by omega), h.facts 1 (by omega), h.facts 2 (by omega), h.facts 3 (by omega), h.facts 4 (by omega), h.facts 5 (by omega), h.facts 6 (by omega), h.facts 7 (by omega)⟩
theorem six_new (z : List Int) (w : World) : SixIn w.heap.size z (w.alloc (.cells #[.int .i64 (el z 0), .int .i64 (el z 1), .int .i64 (el z 2), .int .i64 (el z 3), .int .i64 (el z 4), .int .i64 (el z 5), .int .i64 (el z 6), .int .i64 (el z 7)] 23)) := by
  unfold SixIn
  show (w.heap.push _)[w.heap.size]? = _
  rw [Array.getElem?_push_size]
  rfl
theorem SixIn.set {B : Nat} {z : List Int} {w : World} (h : SixIn B z w) (k : Nat) (hk : k < 8) (v : Int) (z' : List Int) (hz : ∀ j, j < 8 → el z' j = if j = k then v else el z j) : SixIn B z' (w.setCell ⟨B, k, none⟩ (.int .i64 v)) := by
  have e := setCell_eq_setRow w B k (sixC z) 23 (0, 0) (.int .i64 v) h
  have e2 := setRow_heap w B (sixC z) ((sixC z).setIfInBounds k (.int .i64 v)) 23 (0, 0) h
  unfold SixIn
  rw [e, e2]
  congr 2
  have h0 := hz 0 (by omega); have h1 := hz 1 (by omega); have h2 := hz 2 (by omega); have h3 := hz 3 (by omega); have h4 := hz 4 (by omega); have h5 := hz 5 (by omega); have h6 := hz 6 (by omega); have h7 := hz 7 (by omega)
  unfold sixC
  rcases (by omega : k = 0 ∨ k = 1 ∨ k = 2 ∨ k = 3 ∨ k = 4 ∨ k = 5 ∨ k = 6 ∨ k = 7) with rfl | rfl | rfl | rfl | rfl | rfl | rfl | rfl <;> simp [h0, h1, h2, h3, h4, h5, h6, h7]
theorem SixIn.other {B : Nat} {z : List Int} {w : World} (h : SixIn B z w) (p : Addr) (hp : B ≠ p.block) (v : Value) : SixIn B z (w.setCell p v) := (Below.heap_setCell w p v B hp).trans h
def OwnG (e : TypeId) (base : Nat) (w : World) (v : Value) (xs : List Value) : Prop := w.ownsRow base e 1 v xs.length xs
theorem OwnG.nil (e : TypeId) (base : Nat) (w : World) : OwnG e base w (.slice none 0 0) [] := World.ownsRow_nil _ _ _ _
theorem OwnG.parts {e : TypeId} {base : Nat} {w : World} {v : Value} {xs : List Value} (h : OwnG e base w v xs) : ∃ ao cap, v = .slice ao xs.length cap ∧ (xs ≠ [] → ∃ g, ao = some ⟨g, 0, none⟩ ∧ base ≤ g ∧ g < w.heap.size ∧ ∀ (j : Nat) x, xs[j]? = some x → w.cell? ⟨g, j, none⟩ = some x) := by
  have h' : w.ownsRow base e 1 v xs.length xs := h
  obtain ⟨h1, h2⟩ := h
  rcases h2 with ⟨rfl, hn⟩ | ⟨g, cap, cur, rfl, hb, hg, rest⟩
  · have : xs = [] := List.eq_nil_of_length_eq_zero hn
    subst this
    exact ⟨none, 0, rfl, fun h => absurd rfl h⟩
  · refine ⟨_, cap, rfl, fun _ => ⟨g, rfl, hb, (Array.getElem?_eq_some_iff.1 hg).1, fun j x hx => ?_⟩⟩
    have := h'.cellAt j (by have := (List.getElem?_eq_some_iff.1 hx).1; omega)
    rw [this, hx]
theorem OwnG.base {e : TypeId} {base : Nat} {w : World} {v : Value} {xs : List Value} (h : OwnG e base w v xs) : ∀ k, v.ownBlock = some k → base ≤ k := by
  intro k hk
  rcases h.2 with ⟨rfl, _⟩ | ⟨g, cap, cur, rfl, hb, _⟩
  · simp [Value.ownBlock] at hk
  · have : g = k := by simpa [Value.ownBlock] using hk
    omega
theorem OwnG.kept {e : TypeId} {base : Nat} {w w' : World} {v : Value} {xs : List Value} (h : OwnG e base w v xs) (hb : Below w.heap.size w w') : OwnG e base w' v xs := by
  refine ⟨h.1, ?_⟩
  rcases h.2 with h2 | ⟨g, cap, cur, rfl, hb', hg, rest⟩
  · exact .inl h2
  · exact .inr ⟨g, cap, cur, rfl, hb', by rw [hb.block g (Array.getElem?_eq_some_iff.1 hg).1]; exact hg, rest⟩
theorem OwnG.other {e : TypeId} {base : Nat} {w w' : World} {v : Value} {xs : List Value} (h : OwnG e base w v xs) {row : Option Nat} (hg : w.grownBy w' row) (hne : v.ownBlock = none ∨ v.ownBlock ≠ row) : OwnG e base w' v xs := World.ownsRow.kept h hg hne
theorem Tryz.infoByte : (Tryz.prog.info? 5).map (fun i => (i.zero, i.size, i.bytes)) = some (some (.int .u8 0), 1, 1) := by kernel_rfl
theorem app_byte {w : World} {ops : Array Oper} {rest : List Oper} {o : Oper} {a : Act} {Q : Exit → Act → World → Prop} (hgd : o.guard = none) (s x : Operand)
    (ho : o.op = .call { callee := .builtin .append, args := #[s, x], argTypes := #[37, 37] })
    (base : Nat) (v : Value) (xs : List Value) (hs : a.eval s = v) (hown : OwnG 5 base w v xs) (B m : Nat) (ys : List Value) (hx : a.eval x = .slice (some ⟨B, 0, none⟩) m m) (hm : ys.length = m)
    (hc : ∀ (j : Nat) u, ys[j]? = some u → w.cell? ⟨B, j, none⟩ = some u) (h1 : ∀ u ∈ ys, u.oneCell' = true) (hlen : xs.length + m ≤ 4000000) (hbase : base ≤ w.heap.size)
    (h : ∀ v' w', OwnG 5 base w' v' (xs ++ ys) → w.grownBy w' v.ownBlock → wpList Tryz.prog ops Q rest (a.put o.dst v') w') : wpList Tryz.prog ops Q (o :: rest) a w := by
  obtain ⟨i0, hi, hz0, hz1, hz2⟩ := info_parts Tryz.infoByte
  refine wpList_append_own _ hgd s x 37 ho base 5 i0 (.int .u8 0) 1 1 Tryz.underlying37 hi hz0 hz1 hz2 rfl (by decide) v xs.length xs hs hown ⟨B, 0, none⟩ m m ys hx (by omega) ?_ h1 (by unfold maxLen; omega) (by omega) hbase ?_
  · intro j u hu
    rw [add_pl, Nat.zero_add]
    exact hc j u hu
  · intro v' w' h2 h3 _
    refine h v' w' ?_ h3
    unfold OwnG
    rw [List.length_append, hm]
    exact h2
def by16 (z : List Int) (k : Nat) : List Int := (List.range k).flatMap fun j => [el z j / 256, el z j % 256]
theorem by16_succ (z : List Int) (k : Nat) : by16 z (k + 1) = by16 z k ++ [el z k / 256, el z k % 256] := by
  simp [by16, List.range_succ]
theorem by16_len (z : List Int) (k : Nat) : (by16 z k).length = 2 * k := by
  induction k with
  | zero => rfl
  | succ k ih => rw [by16_succ]; simp [ih]; omega
def u8s (l : List Int) : List Value := l.map (Value.int .u8)
theorem bytes_bad (z : List Int) (w : World) (h : ¬ Ok6 z) : Calls Tryz.prog 138 #[six z] w fun e w' => e = .returned (.tuple #[.slice none 0 0, .iface 28 (.int .i64 1)]) ∧ Below w.heap.size w w' := by
  have hC := fun w => check_bad z w h
  unfold six sixC at hC
  unfold six
  go_enter Tryz.func138, Tryz.ntmps138
  go_wp2_with (go_at_call 95; refine (hC _).mono ?_; rintro e w1 ⟨rfl, rfl⟩)
  go_ret2
  exact ⟨rfl, ((Below.refl _ _).alloc (Nat.le_refl _) _).alloc (by simp) _⟩
set_option maxHeartbeats 4000000 in
set_option maxRecDepth 100000 in
theorem bytes_ok (z : List Int) (w : World) (hz : Ok6 z) : Calls Tryz.prog 138 #[six z] w fun e w' => ∃ v, e = .returned (.tuple #[v, .nilIface]) ∧ OwnG 5 w.heap.size w' v (u8s (by16 z 8)) ∧ Below w.heap.size w w' := by
  have hC := fun w => check_ok z w hz
  unfold six sixC at hC
  unfold six
  have hB0 : Below w.heap.size w ((w.alloc (.cells #[.int .i64 (el z 0), .int .i64 (el z 1), .int .i64 (el z 2), .int .i64 (el z 3), .int .i64 (el z 4), .int .i64 (el z 5), .int .i64 (el z 6), .int .i64 (el z 7)] 23)).alloc (.cells #[.int .i64 (el z 0), .int .i64 (el z 1), .int .i64 (el z 2), .int .i64 (el z 3), .int .i64 (el z 4), .int .i64 (el z 5), .int .i64 (el z 6), .int .i64 (el z 7)] 23)) := ((Below.refl _ _).alloc (Nat.le_refl _) _).alloc (by simp) _
  have hS0 := (six_new z w).kept ((Below.refl _ _).alloc (Nat.le_refl _) (.cells #[.int .i64 (el z 0), .int .i64 (el z 1), .int .i64 (el z 2), .int .i64 (el z 3), .int .i64 (el z 4), .int .i64 (el z 5), .int .i64 (el z 6), .int .i64 (el z 7)] 23))
  obtain ⟨W, hW⟩ : ∃ W, W = (w.alloc (.cells #[.int .i64 (el z 0), .int .i64 (el z 1), .int .i64 (el z 2), .int .i64 (el z 3), .int .i64 (el z 4), .int .i64 (el z 5), .int .i64 (el z 6), .int .i64 (el z 7)] 23)).alloc (.cells #[.int .i64 (el z 0), .int .i64 (el z 1), .int .i64 (el z 2), .int .i64 (el z 3), .int .i64 (el z 4), .int .i64 (el z 5), .int .i64 (el z 6), .int .i64 (el z 7)] 23) := ⟨_, rfl⟩
  rw [← hW] at hB0 hS0
  obtain ⟨i0, hi, hz0, hz1, hz2⟩ := info_parts Tryz.infoByte
  obtain ⟨W1, hmk, hown, hgr⟩ := run_make_own (P := Tryz.prog) W w.heap.size 37 5 i0 _ 1 Tryz.underlying37 hi hz0 hz1 .i64 .i64 16 (by rw [hz2]; omega) (by simp [maxLen]) hB0.size
  have hB1 := hB0.grown hgr hB0.size (fun k h => by cases h)
  have hS1 : SixIn w.heap.size z W1 := (hgr.block _ hS0.lt (by simp)).trans hS0
  have hmk' : (Instr.makeSlice 37 (.int .i64 0) (.int .i64 16)).run Tryz.prog W = .ok (.slice (some ⟨W.heap.size, 0, none⟩) 0 16) W1 := hmk
  have HW := hide hW
  have cz := fun j hj => (hS1.facts j hj).1
  clear hW hmk
  go_enter Tryz.func138, Tryz.ntmps138
  go_wp2_with (go_at_call 95; refine (hC _).mono ?_; rintro e w1 ⟨rfl, rfl⟩; rw [← HW.out])
  go_loopw [5, 15] (fun v i wr => ∃ k : Nat, k ≤ 8 ∧ i = .int .i64 k ∧ Hid (OwnG 5 w.heap.size wr v (u8s (by16 z k))) ∧ Hid (Below w.heap.size w wr)) (fun _ i _ => 8 - (intOf i).toNat)
  case atStart => exact ⟨0, by omega, rfl, hown, hB1⟩
  case round =>
    obtain ⟨k, hk, rfl, HO, HB⟩ := hrel
    clear cz
    by_cases hlt : k < 8
    · have hix := six_index z k hlt
      unfold six at hix
      have hx := hz k hlt
      have HS := hide (by16_succ z k)
      have hlen := by16_len z k
      have HLN := hide (show (u8s (by16 z k)).length = 2 * k by unfold u8s; rw [List.length_map, hlen])
      clear hlen
      generalize el z k = x at hix hx HS
      obtain ⟨hx0, hx1⟩ := hx
      have hb1 : Below wr.heap.size wr (wr.alloc (.cells #[.int .u8 (x / 256), .int .u8 (x % 256)] 5)) := (Below.refl _ _).alloc (Nat.le_refl _) _
      have HO2 := hide (HO.out.kept hb1)
      have HB2 := hide (bt HB.out hb1)
      go_wp2_with (at_builtin; refine app_byte rfl (.tmp 18) (.tmp 24) rfl w.heap.size _ (u8s (by16 z k)) rfl HO2.out wr.heap.size 2 [.int .u8 (x / 256), .int .u8 (x % 256)] rfl rfl (fun j u hu => by match j with | 0 => simp at hu; subst hu; simp | 1 => simp at hu; subst hu; simp | j + 2 => simp at hu) (fun u hu => by simp at hu; rcases hu with rfl | rfl <;> rfl) (by rw [HLN.out]; omega) HB2.out.size ?_; intro v' w' HO3 hg3)
      have HB3 := hide (HB2.out.grown hg3 HB2.out.size (HO2.out.base))
      go_roundw
      case rel =>
        refine ⟨k + 1, by omega, by go_num, ?_, HB3⟩
        rw [HS.out]
        unfold u8s
        rw [List.map_append]
        exact HO3
      case measure => simp [intOf]; omega
    · obtain rfl : k = 8 := by omega
      go_wp2
      go_ret2
      exact ⟨_, rfl, HO.out, HB.out⟩
end Go.Proofs.YtkhahbghmdccaaaGreatDoor
