/- The document's own reading of a six, group by group, and what it makes of an address's text. -/
import Derived.Test.YtdbhhlggddbehaaGreatDoorRefBytes
namespace Go.Proofs.YtdbhhlggddbehaaGreatDoor
open Go.RowKit Go.Shelf
namespace AM

/-- groups one by one. -/
def grp : Nat → Bool → List Nat → List Nat → List UInt8 → Option (List Nat × List Nat)
  | 0, _, _, _, _ => none
  | _ + 1, _, h, t, [] => some (h, t)
  | f + 1, g, h, t, c :: r =>
    if (c :: r).length - (hrun 5 0 (c :: r)).2.length < 1 ∨ 4 < (c :: r).length - (hrun 5 0 (c :: r)).2.length then none else
    match (hrun 5 0 (c :: r)).2 with
    | [] => some (if g then h else h ++ [(hrun 5 0 (c :: r)).1], if g then t ++ [(hrun 5 0 (c :: r)).1] else t)
    | [_] => none
    | x :: y :: q => if x ≠ 58 then none else if y = 58 then (if g then none else grp f true (h ++ [(hrun 5 0 (c :: r)).1]) t q) else grp f g (if g then h else h ++ [(hrun 5 0 (c :: r)).1]) (if g then t ++ [(hrun 5 0 (c :: r)).1] else t) (y :: q)
/-- a whole text. -/
def g0 (L : List UInt8) : Option (List Nat × List Nat) := if 1 < L.length ∧ L.getD 0 0 = 58 ∧ L.getD 1 0 = 58 then grp (L.length + 9) true [] [] (L.drop 2) else grp (L.length + 9) false [] [] L

theorem drop_two (L : List UInt8) (i : Nat) (h : i + 1 < L.length) : L.drop i = L.getD i 0 :: L.getD (i + 1) 0 :: L.drop (i + 2) := by
  rw [List.drop_eq_getElem_cons (by omega), List.drop_eq_getElem_cons h]
  simp [List.getElem?_eq_getElem h, List.getElem?_eq_getElem (show i < L.length by omega)]
theorem drop_one (L : List UInt8) (i : Nat) (h : i + 1 = L.length) : L.drop i = [L.getD i 0] := by
  rw [List.drop_eq_getElem_cons (by omega), List.drop_eq_nil_of_le (by omega)]
  simp [List.getElem?_eq_getElem (show i < L.length by omega)]
theorem grp_open {L : List UInt8} {a k n f : Nat} {g : Bool} {h t : List Nat} (ha : a < L.length) (hk : a + k ≤ L.length) (hr : hrun 5 0 (L.drop a) = (n, L.drop (a + k))) : grp (f + 1) g h t (L.drop a) =
    if k < 1 ∨ 4 < k then none else
    match L.drop (a + k) with
    | [] => some (if g then h else h ++ [n], if g then t ++ [n] else t)
    | [_] => none
    | x :: y :: q => if x ≠ 58 then none else if y = 58 then (if g then none else grp f true (h ++ [n]) t q) else grp f g (if g then h else h ++ [n]) (if g then t ++ [n] else t) (y :: q) := by
  have e : (L.drop a).length - (L.drop (a + k)).length = k := by simp; omega
  have hc : L.drop a = L.getD a 0 :: L.drop (a + 1) := by
    rw [List.drop_eq_getElem_cons ha]
    simp [List.getElem?_eq_getElem ha]
  rw [hc, grp, ← hc]
  simp only [hr, e]
theorem grp_k {L : List UInt8} {a k n f : Nat} {g : Bool} {h t : List Nat} (ha : a < L.length) (hk : a + k ≤ L.length) (hr : hrun 5 0 (L.drop a) = (n, L.drop (a + k))) (h1 : k < 1 ∨ 4 < k) : grp (f + 1) g h t (L.drop a) = none := by
  rw [grp_open ha hk hr, if_pos h1]
theorem grp_end {L : List UInt8} {a k n f : Nat} {g : Bool} {h t : List Nat} (ha : a < L.length) (hk : a + k ≤ L.length) (hr : hrun 5 0 (L.drop a) = (n, L.drop (a + k))) (h1 : ¬ (k < 1 ∨ 4 < k)) (h2 : a + k = L.length) : grp (f + 1) g h t (L.drop a) = some (if g then h else h ++ [n], if g then t ++ [n] else t) := by
  rw [grp_open ha hk hr, if_neg h1, List.drop_eq_nil_of_le (by omega)]
theorem grp_one {L : List UInt8} {a k n f : Nat} {g : Bool} {h t : List Nat} (ha : a < L.length) (hk : a + k ≤ L.length) (hr : hrun 5 0 (L.drop a) = (n, L.drop (a + k))) (h1 : ¬ (k < 1 ∨ 4 < k)) (h2 : a + k + 1 = L.length) : grp (f + 1) g h t (L.drop a) = none := by
  rw [grp_open ha hk hr, if_neg h1, drop_one L (a + k) h2]
theorem grp_x {L : List UInt8} {a k n f : Nat} {g : Bool} {h t : List Nat} (ha : a < L.length) (hk : a + k ≤ L.length) (hr : hrun 5 0 (L.drop a) = (n, L.drop (a + k))) (h1 : ¬ (k < 1 ∨ 4 < k)) (h2 : a + k < L.length) (h3 : L.getD (a + k) 0 ≠ 58) : grp (f + 1) g h t (L.drop a) = none := by
  by_cases h4 : a + k + 1 = L.length
  · exact grp_one ha hk hr h1 h4
  · rw [grp_open ha hk hr, if_neg h1, drop_two L (a + k) (by omega)]
    simp [-List.getD_eq_getElem?_getD, h3]
theorem grp_dd {L : List UInt8} {a k n f : Nat} {g : Bool} {h t : List Nat} (ha : a < L.length) (hk : a + k ≤ L.length) (hr : hrun 5 0 (L.drop a) = (n, L.drop (a + k))) (h1 : ¬ (k < 1 ∨ 4 < k)) (h2 : a + k + 1 < L.length) (h3 : L.getD (a + k) 0 = 58) (h4 : L.getD (a + k + 1) 0 = 58) : grp (f + 1) g h t (L.drop a) = if g then none else grp f true (h ++ [n]) t (L.drop (a + k + 2)) := by
  rw [grp_open ha hk hr, if_neg h1, drop_two L (a + k) (by omega)]
  simp [-List.getD_eq_getElem?_getD, h3, h4]
theorem grp_on {L : List UInt8} {a k n f : Nat} {g : Bool} {h t : List Nat} (ha : a < L.length) (hk : a + k ≤ L.length) (hr : hrun 5 0 (L.drop a) = (n, L.drop (a + k))) (h1 : ¬ (k < 1 ∨ 4 < k)) (h2 : a + k + 1 < L.length) (h3 : L.getD (a + k) 0 = 58) (h4 : L.getD (a + k + 1) 0 ≠ 58) : grp (f + 1) g h t (L.drop a) = grp f g (if g then h else h ++ [n]) (if g then t ++ [n] else t) (L.drop (a + k + 1)) := by
  rw [grp_open ha hk hr, if_neg h1, drop_two L (a + k) (by omega)]
  simp only [h3, if_neg h4]
  rw [List.drop_eq_getElem_cons h2]
  simp [List.getElem?_eq_getElem h2]

/-! an address's text -/
theorem hv58 : hv 58 = none := by decide
theorem run_word (n : Nat) (hn : n ≤ 65535) (r : List UInt8) (hr : r = [] ∨ ∃ q, r = 58 :: q) : hrun 5 0 (hexL n ++ r) = (n, r) := by
  have := hexL_len4 hn
  rw [hrun_hexL n 5 r (by omega)]
  apply hrun_stop
  intro c hc
  rcases hr with rfl | ⟨q, rfl⟩
  · simp at hc
  · simp at hc; subst hc; exact hv58
theorem grp_word (n : Nat) (hn : n ≤ 65535) (r : List UInt8) (hr : r = [] ∨ ∃ q, r = 58 :: q) (f : Nat) (g : Bool) (h t : List Nat) : grp (f + 1) g h t (hexL n ++ r) =
    match (generalizing := false) r with
    | [] => some (if g then h else h ++ [n], if g then t ++ [n] else t)
    | [_] => none
    | x :: y :: q => if x ≠ 58 then none else if y = 58 then (if g then none else grp f true (h ++ [n]) t q) else grp f g (if g then h else h ++ [n]) (if g then t ++ [n] else t) (y :: q) := by
  have hl := hexL_len4 hn
  have hne := List.length_pos_iff.2 (hexL_ne n)
  have e := grp_open (L := hexL n ++ r) (a := 0) (k := (hexL n).length) (n := n) (f := f) (g := g) (h := h) (t := t) (by simp; omega) (by simp) (by simpa using run_word n hn r hr)
  rw [if_neg (by omega)] at e
  simpa using e
theorem jn_head (ws : List Nat) (hne : ws ≠ []) : ∃ c q, jn 58 (ws.map hexL) = c :: q ∧ c ≠ 58 := by
  have h := nd_jn (ws.map hexL) (fun x hx => by
    obtain ⟨n, _, rfl⟩ := List.mem_map.1 hx
    exact ⟨hexL_ne n, hexL_no58 n⟩)
  have h2 := jn_ne 58 (ws.map hexL) (by simpa using hne) (fun x hx => by
    obtain ⟨n, _, rfl⟩ := List.mem_map.1 hx
    exact hexL_ne n)
  cases hj : jn 58 (ws.map hexL) with
  | nil => exact absurd hj h2
  | cons c q => exact ⟨c, q, rfl, fun e => h.2 (by rw [hj, e]; rfl)⟩
theorem grp_words (g : Bool) : ∀ (ws : List Nat) (f : Nat) (h t : List Nat), (∀ x ∈ ws, x ≤ 65535) → ws.length < f → grp f g h t (jn 58 (ws.map hexL)) = some (if g then h else h ++ ws, if g then t ++ ws else t)
  | [], 0, h, t, _, hf => by simp at hf
  | [], f + 1, h, t, _, _ => by cases g <;> simp [jn, grp]
  | _ :: _, 0, h, t, _, hf => by simp at hf
  | [n], f + 1, h, t, hw, _ => by
    have := grp_word n (hw n (by simp)) [] (.inl rfl) f g h t
    simpa [jn] using this
  | n :: m :: ws, f + 1, h, t, hw, hf => by
    have ih := grp_words g (m :: ws) f (if g then h else h ++ [n]) (if g then t ++ [n] else t) (fun x hx => hw x (by simp [hx])) (by simpa using hf)
    obtain ⟨c, q, hj, hc⟩ := jn_head (m :: ws) (by simp)
    have e : jn 58 ((n :: m :: ws).map hexL) = hexL n ++ 58 :: jn 58 ((m :: ws).map hexL) := rfl
    rw [e, grp_word n (hw n (by simp)) _ (.inr ⟨_, rfl⟩), hj]
    rw [hj] at ih
    simp only [hc, ih]
    cases g <;> simp
theorem grp_gap : ∀ (ws : List Nat) (f : Nat) (h t : List Nat) (r : List UInt8), ws ≠ [] → (∀ x ∈ ws, x ≤ 65535) → grp (f + ws.length) false h t (jn 58 (ws.map hexL) ++ 58 :: 58 :: r) = grp f true (h ++ ws) t r
  | [], _, _, _, _, hne, _ => absurd rfl hne
  | [n], f, h, t, r, _, hw => by
    have := grp_word n (hw n (by simp)) (58 :: 58 :: r) (.inr ⟨_, rfl⟩) f false h t
    simpa [jn] using this
  | n :: m :: ws, f, h, t, r, _, hw => by
    have ih := grp_gap (m :: ws) f (h ++ [n]) t r (by simp) (fun x hx => hw x (by simp [hx]))
    obtain ⟨c, q, hj, hc⟩ := jn_head (m :: ws) (by simp)
    have e : jn 58 ((n :: m :: ws).map hexL) = hexL n ++ 58 :: jn 58 ((m :: ws).map hexL) := rfl
    have e2 : f + (n :: m :: ws).length = (f + (m :: ws).length) + 1 := by simp; omega
    rw [e, e2, List.append_assoc, List.cons_append, grp_word n (hw n (by simp)) _ (.inr ⟨_, rfl⟩)]
    rw [hj] at ih ⊢
    rw [List.cons_append] at ih ⊢
    simp only [hc, if_false, ne_eq, not_true_eq_false]
    simp only [Bool.false_eq_true, if_false, ih]
    simp
def ns (z : List Int) (i n : Nat) : List Nat := (List.range n).map fun j => (el z (i + j)).toNat
theorem hw_ns (z : List Int) (i n : Nat) : hw z i n = (ns z i n).map hexL := by simp [hw, ns]
theorem ns_le {z : List Int} (h : okz z) {i n : Nat} (hin : i + n ≤ 8) : ∀ x ∈ ns z i n, x ≤ 65535 := by
  intro x hx
  obtain ⟨j, hj, rfl⟩ := List.mem_map.1 hx
  have := h (i + j) (by have := List.mem_range.1 hj; omega)
  omega
theorem ns_len (z : List Int) (i n : Nat) : (ns z i n).length = n := by simp [ns]
theorem g0_not {L : List UInt8} (h : ¬ (L.getD 0 0 = 58)) : g0 L = grp (L.length + 9) false [] [] L := by
  unfold g0
  rw [if_neg (fun hh => h hh.2.1)]
theorem g0_tx {z : List Int} (hz : okz z) (hl : z.length = 8) : ∃ h t, g0 (tx z) = some (h, t) ∧ h.length + t.length ≤ 8 ∧ (h ++ List.replicate (8 - (h.length + t.length)) 0 ++ t).map Int.ofNat = z := by
  obtain ⟨hg, h0⟩ := zgood_fl z
  by_cases hc : zlong z < 2
  · have e : tx z = jn 58 ((ns z 0 8).map hexL) := by unfold tx; rw [if_pos hc, hw_ns]
    refine ⟨ns z 0 8, [], ?_, by simp [ns_len], ?_⟩
    · obtain ⟨c, q, hj, hc⟩ := jn_head (ns z 0 8) (by simp [ns])
      have := grp_words false (ns z 0 8) ((tx z).length + 9) [] [] (ns_le hz (by omega)) (by rw [ns_len]; omega)
      rw [g0_not (by rw [e, hj]; simpa using hc), e]
      rw [e] at this
      simpa using this
    · have := map_range_el z hz hl 8 0 (by omega) (fun i h1 h2 => by omega)
      simpa [ns] using this
  · have e : tx z = jn 58 ((ns z 0 (zfrom z)).map hexL) ++ 58 :: 58 :: jn 58 ((ns z (zfrom z + zlong z) (8 - (zfrom z + zlong z))).map hexL) := by unfold tx; rw [if_neg hc, hw_ns, hw_ns]
    have hlen : (ns z 0 (zfrom z)).length + (ns z (zfrom z + zlong z) (8 - (zfrom z + zlong z))).length = 8 - zlong z := by rw [ns_len, ns_len]; omega
    refine ⟨ns z 0 (zfrom z), ns z (zfrom z + zlong z) (8 - (zfrom z + zlong z)), ?_, by omega, ?_⟩
    · have hw := fun f (hf : 8 < f) h => grp_words true (ns z (zfrom z + zlong z) (8 - (zfrom z + zlong z))) f h [] (ns_le hz (by omega)) (by rw [ns_len]; omega)
      by_cases hf : zfrom z = 0
      · rw [hf] at e hw ⊢
        have e' : tx z = 58 :: 58 :: jn 58 ((ns z (0 + zlong z) (8 - (0 + zlong z))).map hexL) := by rw [e]; simp [ns, jn]
        unfold g0
        rw [if_pos (by rw [e']; simp)]
        have := hw ((tx z).length + 9) (by omega) []
        rw [e'] at this ⊢
        simpa [ns] using this
      · have hne : ns z 0 (zfrom z) ≠ [] := fun h => hf (by have := congrArg List.length h; rw [ns_len] at this; simpa using this)
        obtain ⟨c, q, hj, hc⟩ := jn_head (ns z 0 (zfrom z)) hne
        rw [g0_not (by rw [e, hj]; simpa using hc)]
        obtain ⟨f, hf⟩ : ∃ f, (tx z).length + 9 = f + (ns z 0 (zfrom z)).length ∧ 8 < f := ⟨(tx z).length + 9 - zfrom z, by rw [ns_len]; omega, by
          have : (tx z).length ≥ zfrom z := by
            rw [e]
            have : ∀ ws : List Nat, ws.length ≤ (jn 58 (ws.map hexL)).length := by
              intro ws
              induction ws with
              | nil => simp
              | cons n ws ih =>
                have := List.length_pos_iff.2 (hexL_ne n)
                cases ws with
                | nil => simp [jn]; omega
                | cons m ws =>
                  have e : jn 58 ((n :: m :: ws).map hexL) = hexL n ++ 58 :: jn 58 ((m :: ws).map hexL) := rfl
                  rw [e, List.length_append]
                  simp only [List.length_cons] at ih ⊢
                  omega
            have := this (ns z 0 (zfrom z))
            rw [ns_len] at this
            simp only [List.length_append]
            omega
          omega⟩
        rw [hf.1, e, grp_gap _ f [] [] _ hne (ns_le hz (by omega)), hw f hf.2]
        simp
    · have := map_range_el z hz hl (zfrom z) (zlong z) hg h0
      rw [hlen, show 8 - (8 - zlong z) = zlong z by omega]
      exact this
end AM
end Go.Proofs.YtdbhhlggddbehaaGreatDoor
