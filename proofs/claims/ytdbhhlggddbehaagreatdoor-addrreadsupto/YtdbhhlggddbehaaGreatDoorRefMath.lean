/- Plain facts on how the document's own answer writes and reads the text of a six. -/
import Derived.Test.YtdbhhlggddbehaaGreatDoorAddrText
namespace Go.Proofs.YtdbhhlggddbehaaGreatDoor
namespace AM

/-- how many noughts stand from place i on. -/
def rlen (l : List Bool) : Nat → Nat → Nat
  | 0, _ => 0
  | f + 1, i => if l.getD i false then 1 + rlen l f (i + 1) else 0
def rl (l : List Bool) (i : Nat) : Nat := rlen l (8 - i) i
/-- behind k places: where the longest run began (-1: none), and how long it is. -/
def rst (l : List Bool) : Nat → Int × Nat
  | 0 => (-1, 1)
  | k + 1 => if (rst l k).2 < rl l k then ((k : Int), rl l k) else rst l k
theorem rlen_yes (l : List Bool) (f i : Nat) (h : l.getD i false = true) : rlen l (f + 1) i = 1 + rlen l f (i + 1) := by rw [rlen, h]; rfl
theorem rlen_no (l : List Bool) (f i : Nat) (h : l.getD i false = false) : rlen l f i = 0 := by
  cases f with
  | zero => rfl
  | succ f => rw [rlen, h]; rfl
def rgood (l : List Bool) : Bool := decide (rst l 8 = if (zrun l 8).2.2 < 2 then ((-1 : Int), 1) else (((zrun l 8).2.1 : Int), (zrun l 8).2.2))
theorem rgood_all : ∀ b0 b1 b2 b3 b4 b5 b6 b7 : Bool, rgood [b0, b1, b2, b3, b4, b5, b6, b7] = true := by decide +kernel
theorem rst_fl (z : List Int) : rst (fl z) 8 = if zlong z < 2 then ((-1 : Int), 1) else ((zfrom z : Int), zlong z) :=
  of_decide_eq_true (rgood_all _ _ _ _ _ _ _ _)
theorem rlen_le (l : List Bool) : ∀ f i, rlen l f i ≤ f
  | 0, _ => Nat.le_refl _
  | f + 1, i => by
    unfold rlen
    split
    · have := rlen_le l f (i + 1); omega
    · omega
theorem rst_le (l : List Bool) (k : Nat) : (rst l k).2 ≤ 8 ∧ -1 ≤ (rst l k).1 ∧ (rst l k).1 ≤ (k : Int) := by
  induction k with
  | zero => simp [rst]
  | succ k ih =>
    have := rlen_le l (8 - k) k
    unfold rst
    split
    · exact ⟨by show rl l k ≤ 8; unfold rl; omega, by show (-1 : Int) ≤ (k : Int); omega, by show (k : Int) ≤ ((k + 1 : Nat) : Int); omega⟩
    · exact ⟨ih.1, ih.2.1, by have := ih.2.2; omega⟩

/-- the text while it is written, i places on. -/
def txp (z : List Int) (i : Nat) : List UInt8 :=
  if zlong z < 2 ∨ i ≤ zfrom z then jn 58 (hw z 0 i) else jn 58 (hw z 0 (zfrom z)) ++ 58 :: 58 :: jn 58 (hw z (zfrom z + zlong z) (i - (zfrom z + zlong z)))
theorem txp_8 (z : List Int) : txp z 8 = tx z := by
  have := (zgood_fl z).1
  unfold txp tx
  by_cases h : zlong z < 2
  · rw [if_pos (.inl h), if_pos h]
  · rw [if_neg (by omega), if_neg h]
theorem txp_len {z : List Int} (hz : okz z) {i : Nat} (hi : i ≤ 8) : (txp z i).length ≤ 100 := by
  have hg := (zgood_fl z).1
  unfold txp
  split
  · have := jn_hw_len hz (i := 0) (n := i) (by omega); omega
  · have h1 := jn_hw_len hz (i := 0) (n := zfrom z) (by omega)
    have h2 := jn_hw_len hz (i := zfrom z + zlong z) (n := i - (zfrom z + zlong z)) (by omega)
    simp only [List.length_append, List.length_cons]
    omega
/-- does a mark come ahead of the next number? -/
def sep (s : List UInt8) : Bool := decide (0 < s.length) && !(s.getD (s.length - 1) 0 == 58)
theorem nd_last : ∀ x : List UInt8, nd x → x ≠ [] → x.getD (x.length - 1) 0 ≠ 58
  | [], _, h => absurd rfl h
  | [b], h, _ => h
  | b :: b' :: r, h, _ => by
    have ih := nd_last (b' :: r) h.2 (by simp)
    simp at ih ⊢
    exact ih
theorem sep_nil : sep [] = false := rfl
theorem sep_nd {x : List UInt8} (h : nd x) (hne : x ≠ []) : sep x = true := by
  unfold sep
  have := nd_last x h hne
  have hp : 0 < x.length := List.length_pos_iff.2 hne
  simp only [Bool.and_eq_true, decide_eq_true_eq, Bool.not_eq_true', beq_eq_false_iff_ne]
  exact ⟨hp, this⟩
theorem getD_app_last (a b : List UInt8) (h : b ≠ []) : (a ++ b).getD ((a ++ b).length - 1) 0 = b.getD (b.length - 1) 0 := by
  have hp : 0 < b.length := List.length_pos_iff.2 h
  simp only [List.getD_eq_getElem?_getD, List.length_append]
  rw [List.getElem?_append_right (by omega)]
  congr 2; omega
theorem sep_app (a b : List UInt8) (h : b ≠ []) : sep (a ++ b) = sep b := by
  have hp : 0 < b.length := List.length_pos_iff.2 h
  unfold sep
  rw [getD_app_last a b h]
  congr 1
  simp only [List.length_append, decide_eq_decide]
  omega
theorem sep_hw (z : List Int) (i n : Nat) (hn : 0 < n) : sep (jn 58 (hw z i n)) = true := by
  have hne : hw z i n ≠ [] := by intro e; have := congrArg List.length e; rw [hw_len] at this; simp at this; omega
  exact sep_nd (nd_jn _ hw_ne).1 (jn_ne 58 _ hne (fun x hx => (hw_ne x hx).1))
theorem jn_hw_succ (z : List Int) (i n : Nat) : jn 58 (hw z i (n + 1)) = (if sep (jn 58 (hw z i n)) then jn 58 (hw z i n) ++ [58] else jn 58 (hw z i n)) ++ hexL (el z (i + n)).toNat := by
  rw [hw_succ]
  by_cases h : 0 < n
  · have hne : hw z i n ≠ [] := by intro e; have := congrArg List.length e; rw [hw_len] at this; simp at this; omega
    rw [sep_hw z i n h, jn_snoc 58 _ _ hne]
    simp
  · obtain rfl : n = 0 := by omega
    rfl
/-- one number more. -/
theorem txp_succ (z : List Int) (i : Nat) (h : zlong z < 2 ∨ i < zfrom z ∨ zfrom z + zlong z ≤ i) : txp z (i + 1) = (if sep (txp z i) then txp z i ++ [58] else txp z i) ++ hexL (el z i).toNat := by
  unfold txp
  by_cases h1 : zlong z < 2 ∨ i + 1 ≤ zfrom z
  · have h2 : zlong z < 2 ∨ i ≤ zfrom z := by omega
    simp only [if_pos h1, if_pos h2]
    have := jn_hw_succ z 0 i
    rw [Nat.zero_add] at this
    exact this
  · have h2 : zfrom z + zlong z ≤ i := by omega
    rw [if_neg h1]
    obtain ⟨n, rfl⟩ : ∃ n, i = zfrom z + zlong z + n := ⟨i - (zfrom z + zlong z), by omega⟩
    have e1 : zfrom z + zlong z + n + 1 - (zfrom z + zlong z) = n + 1 := by omega
    have e2 : zfrom z + zlong z + n - (zfrom z + zlong z) = n := by omega
    rw [if_neg (show ¬ (zlong z < 2 ∨ zfrom z + zlong z + n ≤ zfrom z) by omega), e1, e2, jn_hw_succ]
    by_cases hn : 0 < n
    · have hne : jn 58 (hw z (zfrom z + zlong z) n) ≠ [] := jn_ne 58 _ (by intro e; have := congrArg List.length e; rw [hw_len] at this; simp at this; omega) (fun x hx => (hw_ne x hx).1)
      have es : sep (jn 58 (hw z 0 (zfrom z)) ++ 58 :: 58 :: jn 58 (hw z (zfrom z + zlong z) n)) = true := by
        have := sep_app (jn 58 (hw z 0 (zfrom z)) ++ [58, 58]) (jn 58 (hw z (zfrom z + zlong z) n)) hne
        rw [List.append_assoc] at this
        rw [show (jn 58 (hw z 0 (zfrom z)) ++ 58 :: 58 :: jn 58 (hw z (zfrom z + zlong z) n)) = jn 58 (hw z 0 (zfrom z)) ++ ([58, 58] ++ jn 58 (hw z (zfrom z + zlong z) n)) from rfl, this]
        exact sep_hw _ _ _ hn
      rw [es, sep_hw _ _ _ hn]
      simp
    · obtain rfl : n = 0 := by omega
      have es : sep (jn 58 (hw z 0 (zfrom z)) ++ 58 :: 58 :: jn 58 (hw z (zfrom z + zlong z) 0)) = false := by
        have := sep_app (jn 58 (hw z 0 (zfrom z))) [58, 58] (by simp)
        rw [show jn 58 (hw z (zfrom z + zlong z) 0) = [] from rfl, this]
        rfl
      rw [es, show jn 58 (hw z (zfrom z + zlong z) 0) = [] from rfl]
      simp [sep_nil]
/-- the run. -/
theorem txp_run (z : List Int) (h : ¬ zlong z < 2) : txp z (zfrom z + zlong z) = txp z (zfrom z) ++ [58, 58] := by
  unfold txp
  rw [if_neg (by omega), if_pos (by omega), Nat.sub_self]
  rfl
end AM
end Go.Proofs.YtdbhhlggddbehaaGreatDoor
