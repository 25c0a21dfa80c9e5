/- Plain facts on numbers and lists: what folding to 16 bits leaves, and totals of bytes in pairs. -/
import Derived.Below
import Derived.OpenShut
namespace Go.Proofs.YtbbbcfihnjidaaaDoor
open Go.RowKit
namespace SM

def fold (n : Int) : Int := if n = 0 then 0 else (n - 1) % 65535 + 1

theorem fold_small (n : Int) (_h0 : 0 ≤ n) (_h : n ≤ 65535) : fold n = n := by
  unfold fold; split <;> omega

theorem fold_bd (n : Int) (_h0 : 0 ≤ n) : 0 ≤ fold n ∧ fold n ≤ 65535 := by
  unfold fold; split <;> omega

theorem fold_step (n : Int) (_h : 65535 < n) : fold (n / 65536 + n % 65536) = fold n := by
  unfold fold
  rw [if_neg (by omega), if_neg (by omega)]; omega

theorem fold_add (a b : Int) (_ha : 0 ≤ a) (_hb : 0 ≤ b) : fold (fold a + fold b) = fold (a + b) := by
  unfold fold
  split <;> split <;> split <;> split <;> omega

theorem fold_not (a : Int) (_ha : 0 ≤ a) : fold (a + (65535 - fold a)) = 65535 := by
  unfold fold
  split <;> split <;> omega

def tot (zs : List Int) : Nat → Int
  | 0 => 0
  | k + 1 => tot zs k + if k % 2 = 0 then zs.getD k 0 * 256 else zs.getD k 0

def Oct (zs : List Int) : Prop := ∀ k : Nat, 0 ≤ zs.getD k 0 ∧ zs.getD k 0 ≤ 255

theorem tot_bd (zs : List Int) (h : Oct zs) (k : Nat) : 0 ≤ tot zs k ∧ tot zs k ≤ 65280 * (k : Int) := by
  induction k with
  | zero => simp [tot]
  | succ k ih =>
    have hk := h k
    simp only [tot]
    split <;> omega

theorem tot_even (zs : List Int) (k : Nat) (h : k % 2 = 0) : tot zs (k + 1) = tot zs k + zs.getD k 0 * 256 := by
  simp only [tot]; rw [if_pos h]
theorem tot_odd (zs : List Int) (k : Nat) (h : k % 2 = 1) : tot zs (k + 1) = tot zs k + zs.getD k 0 := by
  simp only [tot]; rw [if_neg (by omega)]

/-- two lists that agree below k have one total. -/
theorem tot_congr (zs ys : List Int) (k : Nat) (h : ∀ i, i < k → zs.getD i 0 = ys.getD i 0) : tot zs k = tot ys k := by
  induction k with
  | zero => rfl
  | succ k ih =>
    simp only [tot]
    rw [ih (fun i hi => h i (by omega)), h k (by omega)]

/-- of two lists behind one another, the first of an even length. -/
theorem tot_append (xs ys : List Int) (he : xs.length % 2 = 0) (k : Nat) : tot (xs ++ ys) (xs.length + k) = tot xs xs.length + tot ys k := by
  induction k with
  | zero =>
    simp only [Nat.add_zero, tot, Int.add_zero]
    exact tot_congr _ _ _ (fun i hi => by simp [List.getD_eq_getElem?_getD, List.getElem?_append_left hi])
  | succ k ih =>
    rw [show xs.length + (k + 1) = (xs.length + k) + 1 from by omega]
    simp only [tot]
    rw [ih]
    have e : (xs ++ ys).getD (xs.length + k) 0 = ys.getD k 0 := by
      simp [List.getD_eq_getElem?_getD, List.getElem?_append_right]
    rw [e, show (xs.length + k) % 2 = k % 2 from by omega]
    omega
theorem tot_set (zs : List Int) (i : Nat) (v : Int) (hi : i < zs.length) (k : Nat) : tot (zs.set i v) k = tot zs k + if i < k then (v - zs.getD i 0) * (if i % 2 = 0 then 256 else 1) else 0 := by
  induction k with
  | zero => simp [tot]
  | succ k ih =>
    simp only [tot]
    rw [ih]
    by_cases h : i = k
    · subst h
      have e : (zs.set i v).getD i 0 = v := by simp [hi]
      rw [e, if_neg (show ¬ i < i by omega), if_pos (show i < i + 1 by omega)]
      split <;> omega
    · have e : (zs.set i v).getD k 0 = zs.getD k 0 := by simp [h]
      rw [e]
      by_cases h2 : i < k
      · rw [if_pos h2, if_pos (show i < k + 1 by omega)]; omega
      · rw [if_neg h2, if_neg (show ¬ i < k + 1 by omega)]; omega
theorem oct_nil : Oct [] := fun k => by simp
theorem oct_set (zs : List Int) (h : Oct zs) (i : Nat) (v : Int) (h0 : 0 ≤ v) (h1 : v ≤ 255) : Oct (zs.set i v) := by
  intro k
  have hk := h k
  simp only [List.getD_eq_getElem?_getD, List.getElem?_set] at hk ⊢
  split
  · split <;> simp <;> omega
  · exact hk
theorem oct_append (xs ys : List Int) (hx : Oct xs) (hy : Oct ys) : Oct (xs ++ ys) := by
  intro k
  have h1 := hx k
  have h2 := hy (k - xs.length)
  simp only [List.getD_eq_getElem?_getD, List.getElem?_append] at h1 h2 ⊢
  split
  · exact h1
  · exact h2
theorem oct_take (xs : List Int) (hx : Oct xs) (n : Nat) : Oct (xs.take n) := by
  intro k
  have h1 := hx k
  simp only [List.getD_eq_getElem?_getD, List.getElem?_take] at h1 ⊢
  split
  · exact h1
  · simp
/-- the two bytes at an even place are a part of the whole. -/
theorem tot_part (zs : List Int) (h : Oct zs) (i : Nat) (he : i % 2 = 0) (n : Nat) (hn : i + 1 < n) : zs.getD i 0 * 256 + zs.getD (i + 1) 0 ≤ tot zs n := by
  induction n with
  | zero => omega
  | succ n ih =>
    have hb := tot_bd zs h n
    have hn' := h n
    simp only [tot]
    by_cases e : i + 1 < n
    · have := ih e
      split <;> omega
    · obtain rfl : n = i + 1 := by omega
      have h0 := tot_even zs i he
      have hb' := tot_bd zs h i
      rw [if_neg (by omega)]
      omega
/-- a check that is swapped: the old total T with the part o in it, that is n instead. -/
theorem swap_is (T o n : Int) (_h0 : 0 ≤ o) (_h1 : o ≤ T) (_h2 : 0 ≤ n) (_ho : o ≤ 65535) (_hn : n ≤ 65535) : fold (T - o + n) = 0 ∨ fold (fold (65535 - (65535 - fold T) + (65535 - o)) + n) = fold (T - o + n) := by
  by_cases hz : T - o + n = 0
  · left; rw [hz]; rfl
  · right
    unfold fold
    split <;> split <;> split <;> (try split) <;> omega
end SM

/-- what a walk is told of a slice of integers: it is nil, or it leads to a row of cells that hold the numbers zs, spare ones too. -/
def IsRow (k : IntKind) (w : World) (a : Option Addr) (len cap : Nat) (zs : List Int) : Prop :=
  (a = none ∧ len = 0 ∧ cap = 0 ∧ zs = []) ∨
  ∃ x, a = some x ∧ len ≤ cap ∧ cap ≤ maxLen ∧ zs.length = cap ∧ (∀ i, i < zs.length → w.cell? (x.add i) = some (.int k (zs.getD i 0))) ∧ ∀ n ∈ zs, (Lit.int k n).wf = true
theorem IsRow.len_le {k : IntKind} {w : World} {a : Option Addr} {len cap : Nat} {zs : List Int} (h : IsRow k w a len cap zs) : len ≤ cap ∧ zs.length = cap := by
  rcases h with ⟨_, rfl, rfl, rfl⟩ | ⟨_, _, h1, _, h2, _, _⟩
  · simp
  · exact ⟨h1, h2⟩
theorem IsRow.oct {w : World} {a : Option Addr} {len cap : Nat} {zs : List Int} (h : IsRow .u8 w a len cap zs) : SM.Oct zs := by
  rcases h with ⟨_, _, _, rfl⟩ | ⟨_, _, _, _, _, _, h⟩
  · intro k; simp
  · intro k
    have := Go.range_u8 h k
    rw [List.getD_eq_getElem?_getD]
    exact this
theorem IsRow.opened {k : IntKind} {w : World} {a : Option Addr} {len cap : Nat} {zs : List Int} (h : IsRow k w a len cap zs) (hp : 0 < len) :
    ∃ b off, a = some ⟨b, off, none⟩ ∧ len ≤ cap ∧ cap ≤ maxLen ∧ zs.length = cap ∧ ∀ i, i < cap → w.cell? ⟨b, off + i, none⟩ = some (.int k (zs.getD i 0)) := by
  rcases h with ⟨_, rfl, _, _⟩ | ⟨x, rfl, h1, h2, h3, hc, _⟩
  · exact absurd hp (by omega)
  · obtain ⟨b, off, spot⟩ := x
    have hc0 := hc 0 (by omega)
    have hspot : spot = none := by simpa [Addr.add] using World.cell?_spot hc0
    subst hspot
    exact ⟨b, off, rfl, h1, h2, h3, fun i hi => by by_cases h0 : i = 0 <;> simpa [Addr.add, h0] using hc i (by omega)⟩
/-- a row that came in is there still where nothing old has turned. -/
theorem IsRow.below {k : IntKind} {w w' : World} {a : Option Addr} {len cap : Nat} {zs : List Int} (h : IsRow k w a len cap zs) (hb : Below w.heap.size w w') : IsRow k w' a len cap zs := by
  rcases h with h | ⟨x, h0, h1, h2, h3, hc, h4⟩
  · exact .inl h
  · refine .inr ⟨x, h0, h1, h2, h3, fun i hi => ?_, h4⟩
    have hci := hc i hi
    have hlt : (x.add i).block < w.heap.size := by
      rcases Nat.lt_or_ge (x.add i).block w.heap.size with h | h
      · exact h
      · simp [World.cell?, Array.getElem?_eq_none h] at hci
    rw [hb.cell hlt]; exact hci

/-- a slice of bytes that reads as the bytes zs: nothing is said of spare places. -/
def Row8 (w : World) (a : Option Addr) (len cap : Nat) (zs : List Int) : Prop :=
  zs.length = len ∧ len ≤ maxLen ∧ SM.Oct zs ∧ (a = none → len = 0 ∧ cap = 0) ∧ (0 < len → ∃ b off, a = some ⟨b, off, none⟩ ∧ ∀ i, i < len → w.cell? ⟨b, off + i, none⟩ = some (.int .u8 (zs.getD i 0)))
theorem IsRow.row8 {w : World} {a : Option Addr} {len cap : Nat} {zs : List Int} (h : IsRow .u8 w a len cap zs) : Row8 w a len cap (zs.take len) := by
  have hl := h.len_le
  have ho := h.oct
  refine ⟨by simp; omega, ?_, SM.oct_take _ ho _, ?_, fun hp => ?_⟩
  · rcases h with ⟨_, rfl, _, _⟩ | ⟨_, _, h1, h2, _⟩
    · exact Nat.zero_le _
    · omega
  · rintro rfl
    rcases h with ⟨_, h1, h2, _⟩ | ⟨_, h1, _⟩
    · exact ⟨h1, h2⟩
    · cases h1
  · obtain ⟨b, off, h0, h1, h2, h3, h4⟩ := h.opened hp
    refine ⟨b, off, h0, fun i hi => ?_⟩
    rw [h4 i (by omega)]
    simp [hi]
theorem Row8.below {w w' : World} {a : Option Addr} {len cap : Nat} {zs : List Int} (h : Row8 w a len cap zs) (hb : Below w.heap.size w w') : Row8 w' a len cap zs := by
  obtain ⟨h1, h2, h3, h4, h5⟩ := h
  refine ⟨h1, h2, h3, h4, fun hp => ?_⟩
  obtain ⟨b, off, h6, h7⟩ := h5 hp
  refine ⟨b, off, h6, fun i hi => ?_⟩
  have hc := h7 i hi
  have hlt : b < w.heap.size := World.block_lt_of_cell? w _ hc
  rw [hb.cell (p := ⟨b, off + i, none⟩) hlt]; exact hc
theorem Row8.grown {w w' : World} {a : Option Addr} {len cap : Nat} {zs : List Int} {row : Option Nat} (h : Row8 w a len cap zs) (hb : w.grownBy w' row) (hne : ∀ b off, a = some ⟨b, off, none⟩ → some b ≠ row) : Row8 w' a len cap zs := by
  obtain ⟨h1, h2, h3, h4, h5⟩ := h
  refine ⟨h1, h2, h3, h4, fun hp => ?_⟩
  obtain ⟨b, off, h6, h7⟩ := h5 hp
  exact ⟨b, off, h6, fun i hi => hb.cell (h7 i hi) (hne b off h6)⟩
end Go.Proofs.YtbbbcfihnjidaaaDoor
