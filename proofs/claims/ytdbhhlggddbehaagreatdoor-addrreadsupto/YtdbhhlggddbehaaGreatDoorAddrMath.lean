/- Plain facts on the texts of addresses: digits, words with a mark between, and the one text of each address. -/
import Derived.Lib.SplitLaws
import Derived.Lib.Join
import Derived.Lib.ItoaNum
import Derived.Lib.ParseIntB
namespace Go.Proofs.YtdbhhlggddbehaaGreatDoor
namespace AM

/-- the sign of a hex digit. -/
def hexd (d : Nat) : UInt8 := UInt8.ofNat (if d < 10 then 48 + d else 87 + d)
/-- a number in hex, without a needless 0. -/
def hexL (n : Nat) : List UInt8 := if _h : n < 16 then [hexd n] else have : n / 16 < n := (by omega); hexL (n / 16) ++ [hexd (n % 16)]
theorem hexL_lt {n : Nat} (h : n < 16) : hexL n = [hexd n] := by rw [hexL, dif_pos h]
theorem hexL_ge {n : Nat} (h : ¬ n < 16) : hexL n = hexL (n / 16) ++ [hexd (n % 16)] := by rw [hexL, dif_neg h]

/-- what a small hex digit says. -/
def hv (c : UInt8) : Option Nat := if 48 ≤ c.toNat ∧ c.toNat ≤ 57 then some (c.toNat - 48) else if 97 ≤ c.toNat ∧ c.toNat ≤ 102 then some (c.toNat - 87) else none
/-- what a hex digit says, small or great. -/
def hvl (c : UInt8) : Option Nat := if 48 ≤ c.toNat ∧ c.toNat ≤ 57 then some (c.toNat - 48) else if 97 ≤ c.toNat ∧ c.toNat ≤ 102 then some (c.toNat - 87) else if 65 ≤ c.toNat ∧ c.toNat ≤ 70 then some (c.toNat - 55) else none

theorem hexd_toNat (d : Nat) (h : d < 16) : (hexd d).toNat = if d < 10 then 48 + d else 87 + d := by
  unfold hexd
  rw [UInt8.toNat_ofNat']
  split <;> omega
theorem hv_hexd (d : Nat) (h : d < 16) : hv (hexd d) = some d := by
  unfold hv; rw [hexd_toNat d h]
  by_cases hd : d < 10
  · rw [if_pos hd, if_pos (by omega)]; congr 1; omega
  · rw [if_neg hd, if_neg (by omega), if_pos (by omega)]; congr 1; omega
theorem hvl_hexd (d : Nat) (h : d < 16) : hvl (hexd d) = some d := by
  unfold hvl; rw [hexd_toNat d h]
  by_cases hd : d < 10
  · rw [if_pos hd, if_pos (by omega)]; congr 1; omega
  · rw [if_neg hd, if_neg (by omega), if_pos (by omega)]; congr 1; omega
theorem hv_lt {c : UInt8} {d : Nat} (h : hv c = some d) : d < 16 := by
  unfold hv at h
  split at h
  · cases h; omega
  · split at h
    · cases h; omega
    · cases h
theorem hvl_lt {c : UInt8} {d : Nat} (h : hvl c = some d) : d < 16 := by
  unfold hvl at h
  split at h
  · cases h; omega
  · split at h
    · cases h; omega
    · split at h
      · cases h; omega
      · cases h

theorem hexL_ne (n : Nat) : hexL n ≠ [] := by
  by_cases h : n < 16
  · rw [hexL_lt h]; simp
  · rw [hexL_ge h]; simp
theorem hexL_len (k : Nat) : ∀ n : Nat, n < 16 ^ (k + 1) → (hexL n).length ≤ k + 1 := by
  induction k with
  | zero => intro n h; rw [hexL_lt (by omega)]; simp
  | succ k ih =>
    intro n h
    by_cases hn : n < 16
    · rw [hexL_lt hn]; simp
    · rw [hexL_ge hn]
      have := ih (n / 16) (by rw [Nat.pow_succ] at h; omega)
      simp; omega
theorem hexL_len4 {n : Nat} (h : n ≤ 65535) : (hexL n).length ≤ 4 := hexL_len 3 n (by omega)
/-- every sign of it is a digit. -/
theorem hexL_all (n : Nat) : ∀ c ∈ hexL n, ∃ d, d < 16 ∧ c = hexd d := by
  induction n using Nat.strongRecOn with
  | ind n ih =>
    by_cases hn : n < 16
    · rw [hexL_lt hn]; intro c hc; exact ⟨n, hn, by simpa using hc⟩
    · rw [hexL_ge hn]
      intro c hc
      rcases List.mem_append.1 hc with h | h
      · exact ih (n / 16) (by omega) c h
      · exact ⟨n % 16, by omega, by simpa using h⟩
theorem hexd_ne58 {d : Nat} (h : d < 16) : hexd d ≠ 58 := by
  intro e
  have := congrArg UInt8.toNat e
  rw [hexd_toNat d h] at this
  change _ = 58 at this
  split at this <;> omega
theorem hexL_no58 (n : Nat) : ∀ c ∈ hexL n, c ≠ 58 := by
  intro c hc
  obtain ⟨d, hd, rfl⟩ := hexL_all n c hc
  exact hexd_ne58 hd

/-- digits as a number of 16 bits, as strconv reads it. -/
def hx16 : Nat → List UInt8 → Option Nat
  | acc, [] => some acc
  | acc, c :: r => match hvl c with
    | none => none
    | some d => if 65535 < acc * 16 + d then none else hx16 (acc * 16 + d) r
def hxw (l : List UInt8) : Option Nat := if l = [] then none else hx16 0 l
theorem hx16_hexL (n : Nat) : n ≤ 65535 → ∀ r, hx16 0 (hexL n ++ r) = hx16 n r := by
  induction n using Nat.strongRecOn with
  | ind n ih =>
    intro h r
    by_cases hn : n < 16
    · rw [hexL_lt hn]
      simp [hx16, hvl_hexd n hn]; omega
    · rw [hexL_ge hn, List.append_assoc, ih (n / 16) (by omega) (by omega)]
      have e : n / 16 * 16 + n % 16 = n := by omega
      simp [hx16, hvl_hexd (n % 16) (by omega), e]; omega
theorem hxw_hexL {n : Nat} (h : n ≤ 65535) : hxw (hexL n) = some n := by
  unfold hxw
  rw [if_neg (hexL_ne n)]
  have := hx16_hexL n h []
  rw [List.append_nil] at this
  rw [this]; rfl
theorem hx16_le : ∀ (l : List UInt8) (acc n : Nat), acc ≤ 65535 → hx16 acc l = some n → n ≤ 65535
  | [], acc, n, ha, h => by simp [hx16] at h; omega
  | c :: r, acc, n, ha, h => by
    unfold hx16 at h
    split at h
    · cases h
    · rename_i d _
      split at h
      · cases h
      · exact hx16_le r _ n (by omega) h
theorem hxw_le {l : List UInt8} {n : Nat} (h : hxw l = some n) : n ≤ 65535 := by
  unfold hxw at h
  split at h
  · cases h
  · exact hx16_le l 0 n (by omega) h

/-- up to j digits: their number, and what is left. -/
def hrun : Nat → Nat → List UInt8 → Nat × List UInt8
  | 0, acc, l => (acc, l)
  | _ + 1, acc, [] => (acc, [])
  | j + 1, acc, c :: r => match hv c with
    | some d => hrun j (acc * 16 + d) r
    | none => (acc, c :: r)
theorem hrun_hexL (n : Nat) : ∀ (j : Nat) (r : List UInt8), (hexL n).length ≤ j → hrun j 0 (hexL n ++ r) = hrun (j - (hexL n).length) n r := by
  induction n using Nat.strongRecOn with
  | ind n ih =>
    intro j r h
    by_cases hn : n < 16
    · rw [hexL_lt hn] at h ⊢
      obtain ⟨j, rfl⟩ : ∃ i, j = i + 1 := ⟨j - 1, by simp at h; omega⟩
      simp [hrun, hv_hexd n hn]
    · have e : n / 16 * 16 + n % 16 = n := by omega
      rw [hexL_ge hn] at h ⊢
      simp at h
      rw [List.append_assoc, ih (n / 16) (by omega) j _ (by omega)]
      obtain ⟨i, hi⟩ : ∃ i, j - (hexL (n / 16)).length = i + 1 := ⟨j - (hexL (n / 16)).length - 1, by omega⟩
      rw [hi]
      have hi' : j - ((hexL (n / 16)).length + 1) = i := by omega
      simp [hrun, hv_hexd (n % 16) (by omega), e, hi']
theorem hrun_stop (j acc : Nat) (r : List UInt8) (h : ∀ c, r.head? = some c → hv c = none) : hrun j acc r = (acc, r) := by
  cases j with
  | zero => rfl
  | succ j =>
    cases r with
    | nil => rfl
    | cons c r => simp [hrun, h c rfl]

/-! words with a mark between -/
def jn (c : UInt8) : List (List UInt8) → List UInt8
  | [] => []
  | [x] => x
  | x :: y :: r => x ++ c :: jn c (y :: r)
theorem jn_join (c : UInt8) : ∀ ws : List (List UInt8), Lib.join ws [c] = jn c ws
  | [] => rfl
  | [x] => by rw [Lib.join_one]; rfl
  | x :: y :: r => by
    have h := jn_join c (y :: r)
    rw [Lib.join_cons] at h ⊢
    rw [jn, ← h]
    simp [Lib.joinTail]
theorem jn_cons (c : UInt8) (x : List UInt8) (ws : List (List UInt8)) (h : ws ≠ []) : jn c (x :: ws) = x ++ c :: jn c ws := by
  cases ws with
  | nil => exact absurd rfl h
  | cons y r => rfl
theorem jn_snoc (c : UInt8) (x : List UInt8) : ∀ ws : List (List UInt8), ws ≠ [] → jn c (ws ++ [x]) = jn c ws ++ c :: x
  | [], h => absurd rfl h
  | [y], _ => rfl
  | y :: z :: r, _ => by
    have ih := jn_snoc c x (z :: r) (by simp)
    show jn c (y :: (z :: r ++ [x])) = _
    rw [jn_cons c y _ (by simp), ih, jn_cons c y (z :: r) (by simp)]
    simp
theorem jn_ne (c : UInt8) : ∀ ws : List (List UInt8), ws ≠ [] → (∀ x ∈ ws, x ≠ []) → jn c ws ≠ []
  | [], h, _ => absurd rfl h
  | [x], _, h => h x (by simp)
  | x :: y :: r, _, _ => by simp [jn]
theorem jn_len (c : UInt8) (m : Nat) : ∀ ws : List (List UInt8), (∀ x ∈ ws, x.length ≤ m) → (jn c ws).length ≤ (m + 1) * ws.length - 1
  | [], _ => by simp [jn]
  | [x], h => by have := h x (by simp); simp [jn]; omega
  | x :: y :: r, h => by
    have := h x (by simp)
    have ih := jn_len c m (y :: r) (fun z hz => h z (by simp [hz]))
    rw [jn_cons c x (y :: r) (by simp)]
    have h2 : (m + 1) * (y :: r).length ≥ m + 1 := Nat.le_mul_of_pos_right _ (by simp)
    have h3 : (m + 1) * (x :: y :: r).length = (m + 1) * (y :: r).length + (m + 1) := by rw [List.length_cons (a := x), Nat.mul_succ]
    rw [List.length_append, List.length_cons (a := c)]
    omega

/-- a text cut at a mark. -/
def spl (c : UInt8) : List UInt8 → List (List UInt8)
  | [] => [[]]
  | b :: r => if b = c then [] :: spl c r else match spl c r with
    | [] => [[b]]
    | x :: ws => (b :: x) :: ws
theorem spl_ne (c : UInt8) (s : List UInt8) : spl c s ≠ [] := by
  cases s with
  | nil => simp [spl]
  | cons b r =>
    unfold spl
    split
    · simp
    · split <;> simp
theorem jn_spl (c : UInt8) : ∀ s, jn c (spl c s) = s
  | [] => rfl
  | b :: r => by
    have ih := jn_spl c r
    unfold spl
    split
    · rename_i h; subst h
      rw [jn_cons b [] _ (spl_ne b r), ih]; rfl
    · cases hs : spl c r with
      | nil => exact absurd hs (spl_ne c r)
      | cons x ws =>
        rw [hs] at ih
        cases ws with
        | nil => simp [jn] at ih ⊢; exact ih
        | cons y ws => simp [jn] at ih ⊢; exact ih
theorem spl_word (c : UInt8) : ∀ x : List UInt8, (∀ b ∈ x, b ≠ c) → spl c x = [x]
  | [], _ => rfl
  | b :: r, h => by
    unfold spl
    rw [if_neg (h b (by simp)), spl_word c r (fun z hz => h z (by simp [hz]))]
theorem spl_app (c : UInt8) (s : List UInt8) : ∀ x : List UInt8, (∀ b ∈ x, b ≠ c) → spl c (x ++ c :: s) = x :: spl c s
  | [], _ => by simp [spl]
  | b :: r, h => by
    rw [List.cons_append, spl, if_neg (h b (by simp)), spl_app c s r (fun z hz => h z (by simp [hz]))]
theorem spl_jn (c : UInt8) : ∀ ws : List (List UInt8), ws ≠ [] → (∀ x ∈ ws, ∀ b ∈ x, b ≠ c) → spl c (jn c ws) = ws
  | [], h, _ => absurd rfl h
  | [x], _, h => spl_word c x (h x (by simp))
  | x :: y :: r, _, h => by
    rw [jn_cons c x (y :: r) (by simp), spl_app c _ x (h x (by simp)), spl_jn c (y :: r) (by simp) (fun z hz => h z (by simp [hz]))]

theorem index_no (c : UInt8) : ∀ x : List UInt8, (∀ b ∈ x, b ≠ c) → Lib.index x [c] = -1
  | [], _ => rfl
  | b :: r, h => by
    have hp : ([c] : List UInt8).isPrefixOf (b :: r) = false := by simp [List.isPrefixOf, Ne.symm (h b (by simp))]
    rw [Lib.index, hp, index_no c r (fun z hz => h z (by simp [hz]))]; rfl
theorem index_hit (c : UInt8) (s : List UInt8) : ∀ x : List UInt8, (∀ b ∈ x, b ≠ c) → Lib.index (x ++ c :: s) [c] = x.length
  | [], _ => by simp [Lib.index, List.isPrefixOf]
  | b :: r, h => by
    have hp : ([c] : List UInt8).isPrefixOf (b :: (r ++ c :: s)) = false := by simp [List.isPrefixOf, Ne.symm (h b (by simp))]
    rw [List.cons_append, Lib.index, hp, index_hit c s r (fun z hz => h z (by simp [hz]))]
    have : (((r.length : Nat) : Int) == -1) = false := by rw [beq_eq_false_iff_ne]; omega
    simp [this]
theorem spl_parts (c : UInt8) (s : List UInt8) : (∀ b ∈ s, b ≠ c) ∨ ∃ x r, s = x ++ c :: r ∧ ∀ b ∈ x, b ≠ c := by
  induction s with
  | nil => exact .inl (by simp)
  | cons b r ih =>
    by_cases h : b = c
    · subst h; exact .inr ⟨[], r, rfl, by simp⟩
    · rcases ih with h1 | ⟨x, y, rfl, h1⟩
      · refine .inl fun z hz => ?_
        rcases List.mem_cons.1 hz with rfl | hz
        · exact h
        · exact h1 z hz
      · refine .inr ⟨b :: x, y, rfl, fun z hz => ?_⟩
        rcases List.mem_cons.1 hz with rfl | hz
        · exact h
        · exact h1 z hz
/-- the library's split at one byte is that. -/
theorem split_spl (c : UInt8) : ∀ (k : Nat) (s : List UInt8), s.count c = k → Lib.splitK [c] 0 k s = spl c s
  | 0, s, h => by
    rcases spl_parts c s with h1 | ⟨x, r, rfl, _⟩
    · rw [spl_word c s h1]; rfl
    · simp at h
  | k + 1, s, h => by
    rcases spl_parts c s with h1 | ⟨x, r, rfl, h1⟩
    · rw [List.count_eq_zero_of_not_mem (fun hm => h1 c hm rfl)] at h; cases h
    · have hx : x.count c = 0 := List.count_eq_zero_of_not_mem (fun hm => h1 c hm rfl)
      have hr : r.count c = k := by simp [hx] at h; omega
      rw [spl_app c r x h1, Lib.splitK, index_hit c r x h1]
      have : (((x.length : Nat) : Int) == -1) = false := by rw [beq_eq_false_iff_ne]; omega
      have e : List.drop (x.length + 1) (x ++ c :: r) = r := by rw [← List.drop_drop]; simp
      simp [this, e, split_spl c k r hr]
theorem split_is (c : UInt8) (s : ByteArray) : (Lib.splitB ⟨#[c]⟩ 0 (Lib.countB s ⟨#[c]⟩) s).map (·.data.toList) = spl c s.data.toList := by
  rw [Lib.splitB_data]
  exact split_spl c _ _ (Lib.count_one c _).symm

theorem spl_len (c : UInt8) : ∀ s : List UInt8, ∀ x ∈ spl c s, x.length ≤ s.length
  | [], x, h => by simp [spl] at h; subst h; simp
  | b :: r, x, h => by
    have ih := spl_len c r
    unfold spl at h
    split at h
    · rcases List.mem_cons.1 h with rfl | h
      · simp
      · have := ih x h; simp; omega
    · split at h
      · simp at h; subst h; simp
      · rename_i y ws hs
        rcases List.mem_cons.1 h with rfl | h
        · have := ih y (by rw [hs]; simp); simp; omega
        · have := ih x (by rw [hs]; simp [h]); simp; omega
theorem mapM_all {α β : Type} (f : α → Option β) : ∀ (ws : List α) (l : List β), ws.length = l.length → (∀ j (h1 : j < ws.length) (h2 : j < l.length), f ws[j] = some l[j]) → ws.mapM f = some l
  | [], [], _, _ => rfl
  | [], _ :: _, h, _ => by simp at h
  | _ :: _, [], h, _ => by simp at h
  | w :: ws, x :: l, h, hh => by
    have h0 := hh 0 (by simp) (by simp)
    have ih := mapM_all f ws l (by simpa using h) (fun j h1 h2 => by have := hh (j + 1) (by simp; omega) (by simp; omega); simpa using this)
    simp only [List.getElem_cons_zero] at h0
    rw [List.mapM_cons, h0, ih]; rfl
theorem mapM_none {α β : Type} (f : α → Option β) : ∀ (ws : List α) (j : Nat) (h : j < ws.length), f ws[j] = none → ws.mapM f = none
  | [], j, h, _ => by simp at h
  | w :: ws, 0, _, hn => by
    simp only [List.getElem_cons_zero] at hn
    rw [List.mapM_cons, hn]; rfl
  | w :: ws, j + 1, h, hn => by
    have ih := mapM_none f ws j (by simpa using h) (by simpa using hn)
    rw [List.mapM_cons, ih]
    cases f w <;> rfl

/-! the mark twice -/
def nd : List UInt8 → Prop
  | [] => True
  | [b] => b ≠ 58
  | b :: b' :: r => ¬ (b = 58 ∧ b' = 58) ∧ nd (b' :: r)
theorem index_dd (y : List UInt8) : ∀ x : List UInt8, nd x → Lib.index (x ++ 58 :: 58 :: y) [58, 58] = x.length
  | [], _ => by simp [Lib.index, List.isPrefixOf]
  | [b], h => by
    have hb : (58 : UInt8) ≠ b := fun e => h e.symm
    simp [Lib.index, List.isPrefixOf, hb]
  | b :: b' :: r, h => by
    have ih := index_dd y (b' :: r) h.2
    have hp : ([58, 58] : List UInt8).isPrefixOf (b :: b' :: (r ++ 58 :: 58 :: y)) = false := by
      have h1 := h.1
      rw [Bool.eq_false_iff]
      intro hh
      simp [List.isPrefixOf] at hh
      exact h1 ⟨hh.1.symm, hh.2.symm⟩
    rw [List.cons_append] at ih
    rw [List.cons_append, List.cons_append, Lib.index, hp, ih]
    simp; intro; omega
theorem index_nd : ∀ x : List UInt8, nd x → Lib.index x [58, 58] = -1
  | [], _ => rfl
  | [b], h => by
    have hb : (58 : UInt8) ≠ b := fun e => h e.symm
    simp [Lib.index, List.isPrefixOf]
  | b :: b' :: r, h => by
    have ih := index_nd (b' :: r) h.2
    have hp : ([58, 58] : List UInt8).isPrefixOf (b :: b' :: r) = false := by
      have h1 := h.1
      rw [Bool.eq_false_iff]
      intro hh
      simp [List.isPrefixOf] at hh
      exact h1 ⟨hh.1.symm, hh.2.symm⟩
    rw [Lib.index, hp, ih]; rfl
theorem cut_nd {x : List UInt8} (h : nd x) : Lib.cut x [58, 58] = (x, [], false) := by
  unfold Lib.cut; rw [index_nd x h]; rfl
theorem cut_dd {x : List UInt8} (y : List UInt8) (h : nd x) : Lib.cut (x ++ 58 :: 58 :: y) [58, 58] = (x, y, true) := by
  unfold Lib.cut; rw [index_dd y x h, if_pos (by omega)]
  have e : List.drop (x.length + 2) (x ++ 58 :: 58 :: y) = y := by rw [← List.drop_drop]; simp
  simp [e]
theorem nd_word : ∀ x : List UInt8, (∀ b ∈ x, b ≠ 58) → nd x
  | [], _ => trivial
  | [b], h => h b (by simp)
  | b :: b' :: r, h => ⟨fun hh => h b (by simp) hh.1, nd_word (b' :: r) (fun z hz => h z (by simp [hz]))⟩
theorem nd_app (r : List UInt8) (hr : nd r) (hh : r.head? ≠ some 58) (hne : r ≠ []) : ∀ x : List UInt8, x ≠ [] → (∀ b ∈ x, b ≠ 58) → nd (x ++ 58 :: r)
  | [], h, _ => absurd rfl h
  | [b], _, h => by
    cases r with
    | nil => exact absurd rfl hne
    | cons c r =>
      refine ⟨fun hb => h b (by simp) hb.1, ⟨fun hb => hh (by rw [hb.2]; rfl), hr⟩⟩
  | b :: b' :: x, _, h => ⟨fun hb => h b (by simp) hb.1, nd_app r hr hh hne (b' :: x) (by simp) (fun z hz => h z (by simp [hz]))⟩
theorem nd_jn : ∀ ws : List (List UInt8), (∀ x ∈ ws, x ≠ [] ∧ ∀ b ∈ x, b ≠ 58) → nd (jn 58 ws) ∧ (jn 58 ws).head? ≠ some 58
  | [], _ => ⟨trivial, by simp [jn]⟩
  | [x], h => by
    obtain ⟨h1, h2⟩ := h x (by simp)
    refine ⟨nd_word x h2, fun hh => ?_⟩
    exact h2 58 (List.mem_of_mem_head? hh) rfl
  | x :: y :: r, h => by
    obtain ⟨h1, h2⟩ := h x (by simp)
    have ih := nd_jn (y :: r) (fun z hz => h z (by simp [hz]))
    rw [jn_cons 58 x (y :: r) (by simp)]
    refine ⟨nd_app _ ih.1 ih.2 (jn_ne 58 (y :: r) (by simp) (fun z hz => (h z (by simp [hz])).1)) x h1 h2, fun hh => ?_⟩
    cases x with
    | nil => exact h1 rfl
    | cons b x => exact h2 b (by simp) (by simpa using hh)
end AM
end Go.Proofs.YtdbhhlggddbehaaGreatDoor
