/- The one text of each four, and what the readings make of it. -/
import Derived.Test.YtdbhhlggddbehaaGreatDoorAddrText
import Derived.Lib.ParseUintOr
namespace Go.Proofs.YtdbhhlggddbehaaGreatDoor
namespace AM

theorem dec_lt {n : Nat} (h : n < 10) : Lib.decDigits n = [UInt8.ofNat (48 + n)] := by rw [Lib.decDigits, dif_pos h]
theorem dec_ge {n : Nat} (h : ¬ n < 10) : Lib.decDigits n = Lib.decDigits (n / 10) ++ [UInt8.ofNat (48 + n % 10)] := by rw [Lib.decDigits, dif_neg h]
theorem dec_ne (n : Nat) : Lib.decDigits n ≠ [] := by
  by_cases h : n < 10
  · rw [dec_lt h]; simp
  · rw [dec_ge h]; simp
theorem dec_all (n : Nat) : ∀ c ∈ Lib.decDigits n, ∃ d, d < 10 ∧ c = UInt8.ofNat (48 + d) := by
  induction n using Nat.strongRecOn with
  | ind n ih =>
    by_cases hn : n < 10
    · rw [dec_lt hn]; intro c hc; exact ⟨n, hn, by simpa using hc⟩
    · rw [dec_ge hn]
      intro c hc
      rcases List.mem_append.1 hc with h | h
      · exact ih (n / 10) (by omega) c h
      · exact ⟨n % 10, by omega, by simpa using h⟩
theorem decd_toNat {d : Nat} (h : d < 10) : (UInt8.ofNat (48 + d)).toNat = 48 + d := by rw [UInt8.toNat_ofNat']; omega
theorem dec_no46 (n : Nat) : ∀ c ∈ Lib.decDigits n, c ≠ 46 := by
  intro c hc e
  obtain ⟨d, hd, rfl⟩ := dec_all n c hc
  have := congrArg UInt8.toNat e
  rw [decd_toNat hd] at this
  change _ = 46 at this
  omega
theorem dec_len (k : Nat) : ∀ n : Nat, n < 10 ^ (k + 1) → (Lib.decDigits n).length ≤ k + 1 := by
  induction k with
  | zero => intro n h; rw [dec_lt (by omega)]; simp
  | succ k ih =>
    intro n h
    by_cases hn : n < 10
    · rw [dec_lt hn]; simp
    · rw [dec_ge hn]
      have := ih (n / 10) (by rw [Nat.pow_succ] at h; omega)
      simp; omega
theorem dec_len3 {n : Nat} (h : n ≤ 255) : (Lib.decDigits n).length ≤ 3 := dec_len 2 n (by omega)

def dec8 (w : List UInt8) : Option Nat := match Lib.parseUintB 8 w with
  | .ok u => some u
  | _ => none
theorem dec8_le {w : List UInt8} {u : Nat} (h : dec8 w = some u) : u ≤ 255 := by
  unfold dec8 at h
  split at h
  · rename_i v hv
    cases h
    exact Lib.parseUintB_le hv
  · cases h
theorem pum_dec (n : Nat) : n ≤ 255 → ∀ r, Lib.parseUintM 255 0 (Lib.decDigits n ++ r) = Lib.parseUintM 255 n r := by
  induction n using Nat.strongRecOn with
  | ind n ih =>
    intro h r
    by_cases hn : n < 10
    · rw [dec_lt hn]
      have := decd_toNat hn
      rw [List.singleton_append, Lib.parseUintM, this, if_pos (by omega), if_neg (by omega), if_neg (by omega)]
      congr 1; omega
    · rw [dec_ge hn, List.append_assoc, ih (n / 10) (by omega) (by omega)]
      have := decd_toNat (show n % 10 < 10 by omega)
      rw [List.singleton_append, Lib.parseUintM, this, if_pos (by omega), if_neg (by omega), if_neg (by omega)]
      congr 1; omega
theorem dec8_dec {n : Nat} (h : n ≤ 255) : dec8 (Lib.decDigits n) = some n := by
  unfold dec8 Lib.parseUintB
  rw [if_neg (dec_ne n)]
  have := pum_dec n h []
  rw [List.append_nil] at this
  show (match Lib.parseUintM 255 0 (Lib.decDigits n) with | .ok u => some u | _ => none) = some n
  rw [this]; rfl

/-- the four bytes of a four. -/
def by4 (n : Nat) : List Nat := [n / 16777216, n / 65536 % 256, n / 256 % 256, n % 256]
def t4 (n : Nat) : List UInt8 := jn 46 ((by4 n).map Lib.decDigits)
def of4 : List Nat → Nat
  | [a, b, c, d] => ((a * 256 + b) * 256 + c) * 256 + d
  | _ => 0
theorem by4_le {n : Nat} (h : n < 4294967296) : ∀ x ∈ by4 n, x ≤ 255 := by
  intro x hx
  simp [by4] at hx
  omega
theorem of4_by4 (n : Nat) : of4 (by4 n) = n := by simp only [of4, by4]; omega
theorem by4_of4 {l : List Nat} (hl : l.length = 4) (h : ∀ x ∈ l, x ≤ 255) : by4 (of4 l) = l ∧ of4 l < 4294967296 := by
  match l, hl with
  | [a, b, c, d], _ =>
    have ha := h a (by simp); have hb := h b (by simp); have hc := h c (by simp); have hd := h d (by simp)
    simp only [of4, by4]
    refine ⟨?_, by omega⟩
    congr 1
    · omega
    · congr 1
      · omega
      · congr 1
        · omega
        · congr 1; omega
theorem words4 (n : Nat) : ∀ x ∈ (by4 n).map Lib.decDigits, x ≠ [] ∧ ∀ b ∈ x, b ≠ 46 := by
  intro x hx
  obtain ⟨m, _, rfl⟩ := List.mem_map.1 hx
  exact ⟨dec_ne m, dec_no46 m⟩
theorem t4_len {n : Nat} (h : n < 4294967296) : (t4 n).length ≤ 15 := by
  have := jn_len 46 3 ((by4 n).map Lib.decDigits) (fun x hx => by
    obtain ⟨m, hm, rfl⟩ := List.mem_map.1 hx
    exact dec_len3 (by4_le h m hm))
  exact this
theorem spl_t4 (n : Nat) : spl 46 (t4 n) = (by4 n).map Lib.decDigits := spl_jn 46 _ (by simp [by4]) (fun x hx => (words4 n x hx).2)
theorem nums_t4 {n : Nat} (h : n < 4294967296) : nums 46 dec8 (t4 n) = some (by4 n) := by
  unfold nums
  have hne : t4 n ≠ [] := jn_ne 46 _ (by simp [by4]) (fun x hx => (words4 n x hx).1)
  rw [if_neg hne, spl_t4]
  have := mapM_map dec8 Lib.decDigits id (by4 n) (fun x hx => dec8_dec (by4_le h x hx))
  simpa using this
/-- the four of a text, as the program finds it. -/
def read4 (s : List UInt8) : Option (List Nat) := if 15 < s.length then none else match nums 46 dec8 s with
  | some l => if l.length = 4 then some l else none
  | none => none
def parse4F (s : List UInt8) : Option Nat := match read4 s with
  | some l => if t4 (of4 l) = s then some (of4 l) else none
  | none => none
theorem nums8_le {t : List UInt8} {l : List Nat} (h : nums 46 dec8 t = some l) : ∀ x ∈ l, x ≤ 255 := by
  unfold nums at h
  split at h
  · cases h; simp
  · generalize spl 46 t = ws at h
    induction ws generalizing l with
    | nil => simp at h; subst h; simp
    | cons w ws ih =>
      rw [List.mapM_cons] at h
      cases hw : dec8 w with
      | none => rw [hw] at h; simp at h
      | some n =>
        rw [hw] at h
        cases hr : ws.mapM dec8 with
        | none => rw [hr] at h; simp at h
        | some r =>
          rw [hr] at h
          simp at h
          subst h
          intro x hx
          rcases List.mem_cons.1 hx with rfl | hx
          · exact dec8_le hw
          · exact ih hr x hx
theorem read4_ok {s : List UInt8} {l : List Nat} (h : read4 s = some l) : l.length = 4 ∧ (∀ x ∈ l, x ≤ 255) ∧ nums 46 dec8 s = some l ∧ s.length ≤ 15 := by
  unfold read4 at h
  split at h
  · cases h
  · split at h
    · rename_i hn
      split at h
      · cases h
        exact ⟨by assumption, nums8_le hn, hn, by omega⟩
      · cases h
    · cases h
theorem parse4_t4 {n : Nat} (h : n < 4294967296) : parse4F (t4 n) = some n := by
  unfold parse4F read4
  rw [if_neg (by have := t4_len h; omega), nums_t4 h]
  have : (by4 n).length = 4 := rfl
  simp only [this, if_true, of4_by4]
theorem parse4_is {s : List UInt8} {n : Nat} (h : parse4F s = some n) : n < 4294967296 ∧ t4 n = s := by
  unfold parse4F at h
  split at h
  · rename_i l hr
    split at h
    · rename_i ht
      cases h
      obtain ⟨h1, h2, _⟩ := read4_ok hr
      exact ⟨(by4_of4 h1 h2).2, ht⟩
    · cases h
  · cases h
end AM
end Go.Proofs.YtdbhhlggddbehaaGreatDoor
