/- The one text of each address, and what the readings make of it. -/
import Derived.Test.YtdbhhlggddbehaaGreatDoorAddrMath
namespace Go.Proofs.YtdbhhlggddbehaaGreatDoor

/-- the number at a place. -/
def el (z : List Int) (k : Nat) : Int := z.getD k 0
namespace AM

/-! runs of noughts -/
def zst (st : Nat × Nat × Nat) (i : Nat) (b : Bool) : Nat × Nat × Nat :=
  if b then (if st.2.2 < st.1 + 1 then (st.1 + 1, i - st.1, st.1 + 1) else (st.1 + 1, st.2.1, st.2.2)) else (0, st.2.1, st.2.2)
/-- behind k places: the run that stands there, where the longest one began, its length. -/
def zrun (l : List Bool) : Nat → Nat × Nat × Nat
  | 0 => (0, 0, 0)
  | k + 1 => zst (zrun l k) k (l.getD k false)
def fl (z : List Int) : List Bool := [el z 0 == 0, el z 1 == 0, el z 2 == 0, el z 3 == 0, el z 4 == 0, el z 5 == 0, el z 6 == 0, el z 7 == 0]
theorem fl_at (z : List Int) (k : Nat) (h : k < 8) : (fl z).getD k false = (el z k == 0) := by
  rcases (by omega : k = 0 ∨ k = 1 ∨ k = 2 ∨ k = 3 ∨ k = 4 ∨ k = 5 ∨ k = 6 ∨ k = 7) with rfl | rfl | rfl | rfl | rfl | rfl | rfl | rfl <;> rfl
theorem zrun_le (l : List Bool) (k : Nat) : (zrun l k).1 ≤ k ∧ (zrun l k).2.2 ≤ k ∧ (zrun l k).2.1 ≤ k := by
  induction k with
  | zero => simp [zrun]
  | succ k ih =>
    unfold zrun zst
    split
    · split
      · simp; omega
      · simp; omega
    · simp; omega
def zfrom (z : List Int) : Nat := (zrun (fl z) 8).2.1
def zlong (z : List Int) : Nat := (zrun (fl z) 8).2.2
def zgood (l : List Bool) : Bool := decide ((zrun l 8).2.1 + (zrun l 8).2.2 ≤ 8) && (List.range 8).all fun i => !(decide ((zrun l 8).2.1 ≤ i) && decide (i < (zrun l 8).2.1 + (zrun l 8).2.2)) || l.getD i false
theorem zgood_all : ∀ b0 b1 b2 b3 b4 b5 b6 b7 : Bool, zgood [b0, b1, b2, b3, b4, b5, b6, b7] = true := by decide +kernel
theorem zgood_fl (z : List Int) : zfrom z + zlong z ≤ 8 ∧ ∀ i, zfrom z ≤ i → i < zfrom z + zlong z → el z i = 0 := by
  have h : zgood (fl z) = true := zgood_all _ _ _ _ _ _ _ _
  unfold zgood at h
  rw [Bool.and_eq_true] at h
  have h1 : zfrom z + zlong z ≤ 8 := of_decide_eq_true h.1
  refine ⟨h1, fun i hi hj => ?_⟩
  have h2 := List.all_eq_true.1 h.2 i (List.mem_range.2 (by omega))
  rw [fl_at z i (by omega)] at h2
  simp only [zfrom, zlong] at hi hj
  simpa [hi, hj] using h2

/-! the text of a six -/
/-- the numbers from place i on, n of them, in hex. -/
def hw (z : List Int) (i n : Nat) : List (List UInt8) := (List.range n).map fun j => hexL (el z (i + j)).toNat
theorem hw_len (z : List Int) (i n : Nat) : (hw z i n).length = n := by simp [hw]
theorem hw_succ (z : List Int) (i n : Nat) : hw z i (n + 1) = hw z i n ++ [hexL (el z (i + n)).toNat] := by
  simp [hw, List.range_succ]
theorem hw_mem {z : List Int} {i n : Nat} {x : List UInt8} (h : x ∈ hw z i n) : ∃ j, j < n ∧ x = hexL (el z (i + j)).toNat := by
  simp [hw] at h
  obtain ⟨j, h1, h2⟩ := h
  exact ⟨j, h1, h2.symm⟩
theorem hw_ne {z : List Int} {i n : Nat} : ∀ x ∈ hw z i n, x ≠ [] ∧ ∀ b ∈ x, b ≠ 58 := by
  intro x hx
  obtain ⟨j, _, rfl⟩ := hw_mem hx
  exact ⟨hexL_ne _, hexL_no58 _⟩
/-- the text of a six. -/
def tx (z : List Int) : List UInt8 :=
  if zlong z < 2 then jn 58 (hw z 0 8) else jn 58 (hw z 0 (zfrom z)) ++ 58 :: 58 :: jn 58 (hw z (zfrom z + zlong z) (8 - (zfrom z + zlong z)))

def okz (z : List Int) : Prop := ∀ k, k < 8 → 0 ≤ el z k ∧ el z k ≤ 65535
theorem hw_len4 {z : List Int} (h : okz z) {i n : Nat} (hin : i + n ≤ 8) : ∀ x ∈ hw z i n, x.length ≤ 4 := by
  intro x hx
  obtain ⟨j, hj, rfl⟩ := hw_mem hx
  have := h (i + j) (by omega)
  exact hexL_len4 (by omega)
theorem jn_hw_len {z : List Int} (h : okz z) {i n : Nat} (hin : i + n ≤ 8) : (jn 58 (hw z i n)).length ≤ 5 * n - 1 := by
  have := jn_len 58 4 (hw z i n) (hw_len4 h hin)
  rw [hw_len] at this; exact this
theorem tx_len {z : List Int} (h : okz z) : (tx z).length ≤ 39 := by
  unfold tx
  split
  · exact jn_hw_len h (by omega)
  · have hg := (zgood_fl z).1
    have h1 := jn_hw_len h (i := 0) (n := zfrom z) (by omega)
    have h2 := jn_hw_len h (i := zfrom z + zlong z) (n := 8 - (zfrom z + zlong z)) (by omega)
    simp only [List.length_append, List.length_cons]
    omega

/-! what the program reads -/
def nums (c : UInt8) (f : List UInt8 → Option Nat) (t : List UInt8) : Option (List Nat) := if t = [] then some [] else (spl c t).mapM f
theorem mapM_map {α β γ : Type} (f : β → Option γ) (g : α → β) (h : α → γ) : ∀ l : List α, (∀ x ∈ l, f (g x) = some (h x)) → (l.map g).mapM f = some (l.map h)
  | [], _ => rfl
  | x :: r, hh => by
    have ih := mapM_map f g h r (fun y hy => hh y (by simp [hy]))
    simp only [List.map_cons, List.mapM_cons, hh x (by simp), ih]
    rfl
theorem spl_count (c : UInt8) : ∀ s : List UInt8, (spl c s).length ≤ s.length + 1
  | [] => by simp [spl]
  | b :: r => by
    have ih := spl_count c r
    unfold spl
    split
    · simp; omega
    · split
      · simp
      · rename_i y ws hs
        rw [hs] at ih
        simp at ih ⊢; omega
theorem mapM_len {α β : Type} (f : α → Option β) : ∀ (ws : List α) (l : List β), ws.mapM f = some l → l.length = ws.length
  | [], l, h => by simp at h; subst h; rfl
  | w :: ws, l, h => by
    rw [List.mapM_cons] at h
    cases hf : f w with
    | none => rw [hf] at h; simp at h
    | some x =>
      rw [hf] at h
      cases hr : ws.mapM f with
      | none => rw [hr] at h; simp at h
      | some r =>
        rw [hr] at h
        simp at h
        subst h
        simp [mapM_len f ws r hr]
theorem nums_len {c : UInt8} {f : List UInt8 → Option Nat} {t : List UInt8} {l : List Nat} (h : nums c f t = some l) : l.length ≤ t.length + 1 := by
  unfold nums at h
  split at h
  · cases h; simp
  · have := mapM_len f _ l h
    have := spl_count c t
    omega
theorem nums_hw {z : List Int} (h : okz z) {i n : Nat} (hin : i + n ≤ 8) : nums 58 hxw (jn 58 (hw z i n)) = some ((List.range n).map fun j => (el z (i + j)).toNat) := by
  unfold nums
  cases n with
  | zero => rfl
  | succ n =>
    have hne : hw z i (n + 1) ≠ [] := by intro e; have := congrArg List.length e; rw [hw_len] at this; simp at this
    rw [if_neg (jn_ne 58 _ hne (fun x hx => (hw_ne x hx).1)), spl_jn 58 _ hne (fun x hx => (hw_ne x hx).2)]
    unfold hw
    refine mapM_map hxw _ _ _ fun j hj => ?_
    have := h (i + j) (by have := List.mem_range.1 hj; omega)
    exact hxw_hexL (by omega)
/-- what a text may be the address of, as the program finds it. -/
def readF (s : List UInt8) : Option (List Int) :=
  if 39 < s.length then none else
  match nums 58 hxw (Lib.cut s [58, 58]).1, nums 58 hxw (Lib.cut s [58, 58]).2.1 with
  | some fr, some bk =>
    if 8 < fr.length + bk.length ∨ ((Lib.cut s [58, 58]).2.2 = false ∧ fr.length + bk.length < 8) then none
    else some ((fr ++ List.replicate (8 - (fr.length + bk.length)) 0 ++ bk).map Int.ofNat)
  | _, _ => none

theorem map_range_el (z : List Int) (hz : okz z) (hl : z.length = 8) (f c : Nat) (hfc : f + c ≤ 8) (h0 : ∀ i, f ≤ i → i < f + c → el z i = 0) :
    (((List.range f).map fun j => (el z (0 + j)).toNat) ++ List.replicate c 0 ++ ((List.range (8 - (f + c))).map fun j => (el z (f + c + j)).toNat)).map Int.ofNat = z := by
  apply List.ext_getElem
  · simp; omega
  · intro i h1 h2
    have hi : el z i = z[i] := by simp [el, h2]
    have hk := hz i (by omega)
    simp only [List.getElem_map, List.getElem_append, List.length_map, List.length_range, List.length_append, List.length_replicate, List.getElem_replicate, List.getElem_range, Nat.zero_add]
    split
    · split
      · simp; omega
      · have := h0 i (by omega) (by omega)
        simp; omega
    · have e : f + c + (i - (f + c)) = i := by omega
      rw [e]; simp; omega

theorem read_tx {z : List Int} (hz : okz z) (hl : z.length = 8) : readF (tx z) = some z := by
  obtain ⟨hg, h0⟩ := zgood_fl z
  unfold readF
  rw [if_neg (by have := tx_len hz; omega)]
  unfold tx
  by_cases hc : zlong z < 2
  · rw [if_pos hc, cut_nd (nd_jn _ hw_ne).1]
    simp only [nums_hw hz (i := 0) (n := 8) (by omega)]
    have e : nums 58 hxw [] = some [] := rfl
    simp only [e]
    have := map_range_el z hz hl 8 0 (by omega) (fun i h1 h2 => by omega)
    rw [if_neg (by simp)]
    congr 1
  · rw [if_neg hc, cut_dd _ (nd_jn _ hw_ne).1]
    simp only [nums_hw hz (i := 0) (n := zfrom z) (by omega), nums_hw hz (i := zfrom z + zlong z) (n := 8 - (zfrom z + zlong z)) (by omega)]
    rw [if_neg (by simp; omega)]
    congr 1
    have := map_range_el z hz hl (zfrom z) (zlong z) hg h0
    have e : 8 - (zfrom z + (8 - (zfrom z + zlong z))) = zlong z := by omega
    simp only [List.length_map, List.length_range, e]
    exact this

theorem nums_le {c : UInt8} : ∀ {t : List UInt8} {l : List Nat}, nums c hxw t = some l → ∀ x ∈ l, x ≤ 65535 := by
  intro t l h
  unfold nums at h
  split at h
  · cases h; simp
  · generalize spl c t = ws at h
    induction ws generalizing l with
    | nil => simp at h; subst h; simp
    | cons w ws ih =>
      rw [List.mapM_cons] at h
      cases hw : hxw w with
      | none => rw [hw] at h; simp at h
      | some n =>
        rw [hw] at h
        cases hr : ws.mapM hxw with
        | none => rw [hr] at h; simp at h
        | some r =>
          rw [hr] at h
          simp at h
          subst h
          intro x hx
          rcases List.mem_cons.1 hx with rfl | hx
          · exact hxw_le hw
          · exact ih hr x hx
theorem read_ok {s : List UInt8} {z : List Int} (h : readF s = some z) : okz z ∧ z.length = 8 := by
  unfold readF at h
  split at h
  · cases h
  · split at h
    · rename_i fr bk h1 h2
      split at h
      · cases h
      · rename_i hn
        cases h
        have l1 := nums_le h1
        have l2 := nums_le h2
        refine ⟨fun k hk => ?_, by simp; omega⟩
        have hk' : k < (List.map Int.ofNat (fr ++ List.replicate (8 - (fr.length + bk.length)) 0 ++ bk)).length := by simp; omega
        have hm : el (List.map Int.ofNat (fr ++ List.replicate (8 - (fr.length + bk.length)) 0 ++ bk)) k ∈ List.map Int.ofNat (fr ++ List.replicate (8 - (fr.length + bk.length)) 0 ++ bk) := by
          have e : el (List.map Int.ofNat (fr ++ List.replicate (8 - (fr.length + bk.length)) 0 ++ bk)) k = (List.map Int.ofNat (fr ++ List.replicate (8 - (fr.length + bk.length)) 0 ++ bk))[k] := by simp only [el, List.getD_eq_getElem?_getD, List.getElem?_eq_getElem hk', Option.getD_some]
          rw [e]; exact List.getElem_mem hk'
        generalize el (List.map Int.ofNat (fr ++ List.replicate (8 - (fr.length + bk.length)) 0 ++ bk)) k = x at hm
        obtain ⟨n, hn2, rfl⟩ := List.mem_map.1 hm
        rcases List.mem_append.1 hn2 with hn2 | hn2
        · rcases List.mem_append.1 hn2 with hn2 | hn2
          · have := l1 n hn2; simp; omega
          · have := List.eq_of_mem_replicate hn2; simp; omega
        · have := l2 n hn2; simp; omega
    · cases h
/-- the address of a text, if it has one. -/
def parseF (s : List UInt8) : Option (List Int) := match readF s with
  | some z => if tx z = s then some z else none
  | none => none
theorem parse_tx {z : List Int} (hz : okz z) (hl : z.length = 8) : parseF (tx z) = some z := by
  unfold parseF; rw [read_tx hz hl]; simp
theorem parse_is {s : List UInt8} {z : List Int} (h : parseF s = some z) : okz z ∧ z.length = 8 ∧ tx z = s := by
  unfold parseF at h
  split at h
  · rename_i z' hr
    split at h
    · rename_i ht
      cases h
      exact ⟨(read_ok hr).1, (read_ok hr).2, ht⟩
    · cases h
  · cases h
end AM
end Go.Proofs.YtdbhhlggddbehaaGreatDoor
