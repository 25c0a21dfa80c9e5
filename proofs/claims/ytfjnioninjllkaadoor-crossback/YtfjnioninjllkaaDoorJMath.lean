/- Plain facts on numbers and lists: what folding to 16 bits leaves, and totals of bytes in pairs. Packets of fours in numbers: the head's twenty bytes, its check, and what a turned bit does to it. Packets of fours in numbers, second part: bytes read as a packet and written again; letters of bytes. -/
import Derived.Below
import Derived.OpenShut
namespace Go.Proofs.YtfjnioninjllkaaDoor
open Go.RowKit
namespace SM

def fold (n : Int) : Int := if n = 0 then 0 else (n - 1) % 65535 + 1

theorem fold_small (n : Int) (_h0 : 0 ≤ n) (_h : n ≤ 65535) : fold n = n := by
  unfold fold; split <;> omega

theorem fold_bd (n : Int) (_h0 : 0 ≤ n) : 0 ≤ fold n ∧ fold n ≤ 65535 := by
  unfold fold; split <;> omega

theorem fold_step (n : Int) (_h : 65535 < n) : fold (n / 65536 + n % 65536) = fold n := by
  unfold fold
  rw [if_neg (by omega), if_neg (by omega)]; omega

theorem fold_add (a b : Int) (_ha : 0 ≤ a) (_hb : 0 ≤ b) : fold (fold a + fold b) = fold (a + b) := by
  unfold fold
  split <;> split <;> split <;> split <;> omega

theorem fold_not (a : Int) (_ha : 0 ≤ a) : fold (a + (65535 - fold a)) = 65535 := by
  unfold fold
  split <;> split <;> omega

def tot (zs : List Int) : Nat → Int
  | 0 => 0
  | k + 1 => tot zs k + if k % 2 = 0 then zs.getD k 0 * 256 else zs.getD k 0

def Oct (zs : List Int) : Prop := ∀ k : Nat, 0 ≤ zs.getD k 0 ∧ zs.getD k 0 ≤ 255

theorem tot_bd (zs : List Int) (h : Oct zs) (k : Nat) : 0 ≤ tot zs k ∧ tot zs k ≤ 65280 * (k : Int) := by
  induction k with
  | zero => simp [tot]
  | succ k ih =>
    have hk := h k
    simp only [tot]
    split <;> omega

theorem tot_even (zs : List Int) (k : Nat) (h : k % 2 = 0) : tot zs (k + 1) = tot zs k + zs.getD k 0 * 256 := by
  simp only [tot]; rw [if_pos h]
theorem tot_odd (zs : List Int) (k : Nat) (h : k % 2 = 1) : tot zs (k + 1) = tot zs k + zs.getD k 0 := by
  simp only [tot]; rw [if_neg (by omega)]

/-- two lists that agree below k have one total. -/
theorem tot_congr (zs ys : List Int) (k : Nat) (h : ∀ i, i < k → zs.getD i 0 = ys.getD i 0) : tot zs k = tot ys k := by
  induction k with
  | zero => rfl
  | succ k ih =>
    simp only [tot]
    rw [ih (fun i hi => h i (by omega)), h k (by omega)]

/-- of two lists behind one another, the first of an even length. -/
theorem tot_append (xs ys : List Int) (he : xs.length % 2 = 0) (k : Nat) : tot (xs ++ ys) (xs.length + k) = tot xs xs.length + tot ys k := by
  induction k with
  | zero =>
    simp only [Nat.add_zero, tot, Int.add_zero]
    exact tot_congr _ _ _ (fun i hi => by simp [List.getD_eq_getElem?_getD, List.getElem?_append_left hi])
  | succ k ih =>
    rw [show xs.length + (k + 1) = (xs.length + k) + 1 from by omega]
    simp only [tot]
    rw [ih]
    have e : (xs ++ ys).getD (xs.length + k) 0 = ys.getD k 0 := by
      simp [List.getD_eq_getElem?_getD, List.getElem?_append_right]
    rw [e, show (xs.length + k) % 2 = k % 2 from by omega]
    omega
theorem tot_set (zs : List Int) (i : Nat) (v : Int) (hi : i < zs.length) (k : Nat) : tot (zs.set i v) k = tot zs k + if i < k then (v - zs.getD i 0) * (if i % 2 = 0 then 256 else 1) else 0 := by
  induction k with
  | zero => simp [tot]
  | succ k ih =>
    simp only [tot]
    rw [ih]
    by_cases h : i = k
    · subst h
      have e : (zs.set i v).getD i 0 = v := by simp [hi]
      rw [e, if_neg (show ¬ i < i by omega), if_pos (show i < i + 1 by omega)]
      split <;> omega
    · have e : (zs.set i v).getD k 0 = zs.getD k 0 := by simp [h]
      rw [e]
      by_cases h2 : i < k
      · rw [if_pos h2, if_pos (show i < k + 1 by omega)]; omega
      · rw [if_neg h2, if_neg (show ¬ i < k + 1 by omega)]; omega
theorem oct_nil : Oct [] := fun k => by simp
theorem oct_set (zs : List Int) (h : Oct zs) (i : Nat) (v : Int) (h0 : 0 ≤ v) (h1 : v ≤ 255) : Oct (zs.set i v) := by
  intro k
  have hk := h k
  simp only [List.getD_eq_getElem?_getD, List.getElem?_set] at hk ⊢
  split
  · split <;> simp <;> omega
  · exact hk
theorem oct_append (xs ys : List Int) (hx : Oct xs) (hy : Oct ys) : Oct (xs ++ ys) := by
  intro k
  have h1 := hx k
  have h2 := hy (k - xs.length)
  simp only [List.getD_eq_getElem?_getD, List.getElem?_append] at h1 h2 ⊢
  split
  · exact h1
  · exact h2
theorem oct_take (xs : List Int) (hx : Oct xs) (n : Nat) : Oct (xs.take n) := by
  intro k
  have h1 := hx k
  simp only [List.getD_eq_getElem?_getD, List.getElem?_take] at h1 ⊢
  split
  · exact h1
  · simp
/-- the two bytes at an even place are a part of the whole. -/
theorem tot_part (zs : List Int) (h : Oct zs) (i : Nat) (he : i % 2 = 0) (n : Nat) (hn : i + 1 < n) : zs.getD i 0 * 256 + zs.getD (i + 1) 0 ≤ tot zs n := by
  induction n with
  | zero => omega
  | succ n ih =>
    have hb := tot_bd zs h n
    have hn' := h n
    simp only [tot]
    by_cases e : i + 1 < n
    · have := ih e
      split <;> omega
    · obtain rfl : n = i + 1 := by omega
      have h0 := tot_even zs i he
      have hb' := tot_bd zs h i
      rw [if_neg (by omega)]
      omega
/-- a check that is swapped: the old total T with the part o in it, that is n instead. -/
theorem swap_is (T o n : Int) (_h0 : 0 ≤ o) (_h1 : o ≤ T) (_h2 : 0 ≤ n) (_ho : o ≤ 65535) (_hn : n ≤ 65535) : fold (T - o + n) = 0 ∨ fold (fold (65535 - (65535 - fold T) + (65535 - o)) + n) = fold (T - o + n) := by
  by_cases hz : T - o + n = 0
  · left; rw [hz]; rfl
  · right
    unfold fold
    split <;> split <;> split <;> (try split) <;> omega
end SM

/-- what a walk is told of a slice of integers: it is nil, or it leads to a row of cells that hold the numbers zs, spare ones too. -/
def IsRow (k : IntKind) (w : World) (a : Option Addr) (len cap : Nat) (zs : List Int) : Prop :=
  (a = none ∧ len = 0 ∧ cap = 0 ∧ zs = []) ∨
  ∃ x, a = some x ∧ len ≤ cap ∧ cap ≤ maxLen ∧ zs.length = cap ∧ (∀ i, i < zs.length → w.cell? (x.add i) = some (.int k (zs.getD i 0))) ∧ ∀ n ∈ zs, (Lit.int k n).wf = true
theorem IsRow.len_le {k : IntKind} {w : World} {a : Option Addr} {len cap : Nat} {zs : List Int} (h : IsRow k w a len cap zs) : len ≤ cap ∧ zs.length = cap := by
  rcases h with ⟨_, rfl, rfl, rfl⟩ | ⟨_, _, h1, _, h2, _, _⟩
  · simp
  · exact ⟨h1, h2⟩
theorem IsRow.oct {w : World} {a : Option Addr} {len cap : Nat} {zs : List Int} (h : IsRow .u8 w a len cap zs) : SM.Oct zs := by
  rcases h with ⟨_, _, _, rfl⟩ | ⟨_, _, _, _, _, _, h⟩
  · intro k; simp
  · intro k
    have := Go.range_u8 h k
    rw [List.getD_eq_getElem?_getD]
    exact this
theorem IsRow.opened {k : IntKind} {w : World} {a : Option Addr} {len cap : Nat} {zs : List Int} (h : IsRow k w a len cap zs) (hp : 0 < len) :
    ∃ b off, a = some ⟨b, off, none⟩ ∧ len ≤ cap ∧ cap ≤ maxLen ∧ zs.length = cap ∧ ∀ i, i < cap → w.cell? ⟨b, off + i, none⟩ = some (.int k (zs.getD i 0)) := by
  rcases h with ⟨_, rfl, _, _⟩ | ⟨x, rfl, h1, h2, h3, hc, _⟩
  · exact absurd hp (by omega)
  · obtain ⟨b, off, spot⟩ := x
    have hc0 := hc 0 (by omega)
    have hspot : spot = none := by simpa [Addr.add] using World.cell?_spot hc0
    subst hspot
    exact ⟨b, off, rfl, h1, h2, h3, fun i hi => by by_cases h0 : i = 0 <;> simpa [Addr.add, h0] using hc i (by omega)⟩
/-- a row that came in is there still where nothing old has turned. -/
theorem IsRow.below {k : IntKind} {w w' : World} {a : Option Addr} {len cap : Nat} {zs : List Int} (h : IsRow k w a len cap zs) (hb : Below w.heap.size w w') : IsRow k w' a len cap zs := by
  rcases h with h | ⟨x, h0, h1, h2, h3, hc, h4⟩
  · exact .inl h
  · refine .inr ⟨x, h0, h1, h2, h3, fun i hi => ?_, h4⟩
    have hci := hc i hi
    have hlt : (x.add i).block < w.heap.size := by
      rcases Nat.lt_or_ge (x.add i).block w.heap.size with h | h
      · exact h
      · simp [World.cell?, Array.getElem?_eq_none h] at hci
    rw [hb.cell hlt]; exact hci

/-- a slice of bytes that reads as the bytes zs: nothing is said of spare places. -/
def Row8 (w : World) (a : Option Addr) (len cap : Nat) (zs : List Int) : Prop :=
  zs.length = len ∧ len ≤ maxLen ∧ SM.Oct zs ∧ (a = none → len = 0 ∧ cap = 0) ∧ (0 < len → ∃ b off, a = some ⟨b, off, none⟩ ∧ ∀ i, i < len → w.cell? ⟨b, off + i, none⟩ = some (.int .u8 (zs.getD i 0)))
theorem IsRow.row8 {w : World} {a : Option Addr} {len cap : Nat} {zs : List Int} (h : IsRow .u8 w a len cap zs) : Row8 w a len cap (zs.take len) := by
  have hl := h.len_le
  have ho := h.oct
  refine ⟨by simp; omega, ?_, SM.oct_take _ ho _, ?_, fun hp => ?_⟩
  · rcases h with ⟨_, rfl, _, _⟩ | ⟨_, _, h1, h2, _⟩
    · exact Nat.zero_le _
    · omega
  · rintro rfl
    rcases h with ⟨_, h1, h2, _⟩ | ⟨_, h1, _⟩
    · exact ⟨h1, h2⟩
    · cases h1
  · obtain ⟨b, off, h0, h1, h2, h3, h4⟩ := h.opened hp
    refine ⟨b, off, h0, fun i hi => ?_⟩
    rw [h4 i (by omega)]
    simp [hi]
theorem Row8.below {w w' : World} {a : Option Addr} {len cap : Nat} {zs : List Int} (h : Row8 w a len cap zs) (hb : Below w.heap.size w w') : Row8 w' a len cap zs := by
  obtain ⟨h1, h2, h3, h4, h5⟩ := h
  refine ⟨h1, h2, h3, h4, fun hp => ?_⟩
  obtain ⟨b, off, h6, h7⟩ := h5 hp
  refine ⟨b, off, h6, fun i hi => ?_⟩
  have hc := h7 i hi
  have hlt : b < w.heap.size := World.block_lt_of_cell? w _ hc
  rw [hb.cell (p := ⟨b, off + i, none⟩) hlt]; exact hc
theorem Row8.grown {w w' : World} {a : Option Addr} {len cap : Nat} {zs : List Int} {row : Option Nat} (h : Row8 w a len cap zs) (hb : w.grownBy w' row) (hne : ∀ b off, a = some ⟨b, off, none⟩ → some b ≠ row) : Row8 w' a len cap zs := by
  obtain ⟨h1, h2, h3, h4, h5⟩ := h
  refine ⟨h1, h2, h3, h4, fun hp => ?_⟩
  obtain ⟨b, off, h6, h7⟩ := h5 hp
  exact ⟨b, off, h6, fun i hi => hb.cell (h7 i hi) (hne b off h6)⟩
end Go.Proofs.YtfjnioninjllkaaDoor

namespace Go.Proofs.YtfjnioninjllkaaDoor
namespace P4
open SM

/-- the head's bytes: source, goal, steps, kind, number, how many bytes there are in all, check. -/
def hd (s d t k i n c : Int) : List Int := [69, 0, n / 256, n % 256, i / 256, i % 256, 64, 0, t, k, c / 256, c % 256, s / 16777216, s / 65536 % 256, s / 256 % 256, s % 256, d / 16777216, d / 65536 % 256, d / 256 % 256, d % 256]
/-- the numbers that a head may hold. -/
def Okh (s d t k i n : Int) : Prop := (0 ≤ s ∧ s ≤ 4294967295) ∧ (0 ≤ d ∧ d ≤ 4294967295) ∧ (0 ≤ t ∧ t ≤ 255) ∧ (0 ≤ k ∧ k ≤ 255) ∧ (0 ≤ i ∧ i ≤ 65535) ∧ (0 ≤ n ∧ n ≤ 65535)
theorem hd_len (s d t k i n c : Int) : (hd s d t k i n c).length = 20 := rfl
theorem hd_oct (s d t k i n c : Int) (h : Okh s d t k i n) (hc : 0 ≤ c ∧ c ≤ 65535) : Oct (hd s d t k i n c) := by
  obtain ⟨hs, hd, ht, hk, hi, hn⟩ := h
  intro j
  rcases Nat.lt_or_ge j 20 with hj | hj
  · rcases (by omega : j = 0 ∨ j = 1 ∨ j = 2 ∨ j = 3 ∨ j = 4 ∨ j = 5 ∨ j = 6 ∨ j = 7 ∨ j = 8 ∨ j = 9 ∨ j = 10 ∨ j = 11 ∨ j = 12 ∨ j = 13 ∨ j = 14 ∨ j = 15 ∨ j = 16 ∨ j = 17 ∨ j = 18 ∨ j = 19) with rfl | rfl | rfl | rfl | rfl | rfl | rfl | rfl | rfl | rfl | rfl | rfl | rfl | rfl | rfl | rfl | rfl | rfl | rfl | rfl <;> simp only [P4.hd, List.getD_cons_zero, List.getD_cons_succ] <;> omega
  · rw [List.getD_eq_getElem?_getD, List.getElem?_eq_none (by rw [hd_len]; omega)]
    simp
/-- what the head's bytes add up to. -/
theorem hd_tot (s d t k i n c : Int) (h : Okh s d t k i n) : tot (hd s d t k i n c) 20 = 69 * 256 + n + i + 64 * 256 + t * 256 + k + c + s / 65536 + s % 65536 + d / 65536 + d % 65536 := by
  obtain ⟨hs, hd, ht, hk, hi, hn⟩ := h
  simp only [tot, P4.hd, List.getD_cons_zero, List.getD_cons_succ]
  simp only [Nat.reduceMod, if_true, Nat.one_ne_zero, if_false]
  omega
/-- the check of a head. -/
def ck (s d t k i n : Int) : Int := 65535 - fold (tot (hd s d t k i n 0) 20)
theorem ck_in (s d t k i n : Int) (h : Okh s d t k i n) : 0 ≤ ck s d t k i n ∧ ck s d t k i n ≤ 65535 := by
  have h0 := tot_bd (hd s d t k i n 0) (hd_oct s d t k i n 0 h (by omega)) 20
  have h1 := fold_bd _ h0.1
  unfold ck
  omega
theorem hd_sum (s d t k i n : Int) (h : Okh s d t k i n) : fold (tot (hd s d t k i n (ck s d t k i n)) 20) = 65535 := by
  have hc := ck_in s d t k i n h
  have h0 := hd_tot s d t k i n 0 h
  have h1 := hd_tot s d t k i n (ck s d t k i n) h
  have e : tot (hd s d t k i n (ck s d t k i n)) 20 = tot (hd s d t k i n 0) 20 + ck s d t k i n := by omega
  rw [e]
  exact fold_not _ (tot_bd _ (hd_oct s d t k i n 0 h (by omega)) 20).1
/-- where the check is right: just where all adds up. -/
theorem sum_ck (s d t k i n c : Int) (h : Okh s d t k i n) (hc : c = ck s d t k i n) : fold (tot (hd s d t k i n c) 20) = 65535 := by
  rw [hc]; exact hd_sum s d t k i n h

/-- two bytes as a number. -/
def wd (z : List Int) (j : Nat) : Int := 256 * z.getD j 0 + z.getD (j + 1) 0
def src (z : List Int) : Int := 65536 * wd z 12 + wd z 14
def dst (z : List Int) : Int := 65536 * wd z 16 + wd z 18
/-- bytes that have a packet's form. -/
def Syn (z : List Int) : Prop := 20 ≤ z.length ∧ z.length ≤ 340 ∧ wd z 0 = 69 * 256 ∧ wd z 2 = z.length ∧ wd z 6 = 64 * 256
theorem okh_of (z : List Int) (ho : Oct z) (h : Syn z) : Okh (src z) (dst z) (z.getD 8 0) (z.getD 9 0) (wd z 4) z.length := by
  have h4 := ho 4; have h5 := ho 5; have h8 := ho 8; have h9 := ho 9
  have h12 := ho 12; have h13 := ho 13; have h14 := ho 14; have h15 := ho 15
  have h16 := ho 16; have h17 := ho 17; have h18 := ho 18; have h19 := ho 19
  obtain ⟨l0, l1, _, _, _⟩ := h
  unfold Okh src dst wd
  simp only [Nat.reduceAdd]
  omega
theorem hd_of (z : List Int) (ho : Oct z) (h : Syn z) (j : Nat) (hj : j < 20) : z.getD j 0 = (hd (src z) (dst z) (z.getD 8 0) (z.getD 9 0) (wd z 4) z.length (wd z 10)).getD j 0 := by
  have h0 := ho 0; have h1 := ho 1; have h2 := ho 2; have h3 := ho 3; have h4 := ho 4; have h5 := ho 5; have h6 := ho 6; have h7 := ho 7
  have h10 := ho 10; have h11 := ho 11
  have h12 := ho 12; have h13 := ho 13; have h14 := ho 14; have h15 := ho 15
  have h16 := ho 16; have h17 := ho 17; have h18 := ho 18; have h19 := ho 19
  obtain ⟨l0, l1, e0, e2, e6⟩ := h
  unfold src dst
  unfold wd at *
  simp only [Nat.reduceAdd] at *
  rcases (by omega : j = 0 ∨ j = 1 ∨ j = 2 ∨ j = 3 ∨ j = 4 ∨ j = 5 ∨ j = 6 ∨ j = 7 ∨ j = 8 ∨ j = 9 ∨ j = 10 ∨ j = 11 ∨ j = 12 ∨ j = 13 ∨ j = 14 ∨ j = 15 ∨ j = 16 ∨ j = 17 ∨ j = 18 ∨ j = 19) with rfl | rfl | rfl | rfl | rfl | rfl | rfl | rfl | rfl | rfl | rfl | rfl | rfl | rfl | rfl | rfl | rfl | rfl | rfl | rfl <;> simp only [P4.hd, List.getD_cons_zero, List.getD_cons_succ] <;> omega
/-- bytes of that form, with a right check, add up. -/
theorem sum_of (z : List Int) (ho : Oct z) (h : Syn z) (hc : wd z 10 = ck (src z) (dst z) (z.getD 8 0) (z.getD 9 0) (wd z 4) z.length) : fold (tot z 20) = 65535 := by
  rw [tot_congr z _ 20 (hd_of z ho h)]
  exact sum_ck _ _ _ _ _ _ _ (okh_of z ho h) hc
/-- and are those of the packet that is read from them. -/
theorem list_of (z : List Int) (ho : Oct z) (h : Syn z) : z = hd (src z) (dst z) (z.getD 8 0) (z.getD 9 0) (wd z 4) z.length (wd z 10) ++ z.drop 20 := by
  have hl := h.1
  apply List.ext_getElem?
  intro j
  rcases Nat.lt_or_ge j 20 with hj | hj
  · rw [List.getElem?_append_left (by rw [hd_len]; exact hj)]
    have := hd_of z ho h j hj
    rw [List.getD_eq_getElem?_getD, List.getD_eq_getElem?_getD, List.getElem?_eq_getElem (by omega), List.getElem?_eq_getElem (by rw [hd_len]; exact hj)] at this
    rw [List.getElem?_eq_getElem (by omega), List.getElem?_eq_getElem (by rw [hd_len]; exact hj)]
    exact congrArg some this
  · rw [List.getElem?_append_right (by rw [hd_len]; exact hj), hd_len, List.getElem?_drop, show 20 + (j - 20) = j by omega]

/-- what is read from a packet's own bytes. -/
theorem read_hd (s d t k i n c : Int) (body : List Int) (h : Okh s d t k i n) (hn : n = 20 + body.length) (hb : body.length ≤ 320) :
    Syn (hd s d t k i n c ++ body) ∧ src (hd s d t k i n c ++ body) = s ∧ dst (hd s d t k i n c ++ body) = d ∧ (hd s d t k i n c ++ body).getD 8 0 = t ∧ (hd s d t k i n c ++ body).getD 9 0 = k ∧ wd (hd s d t k i n c ++ body) 4 = i ∧ wd (hd s d t k i n c ++ body) 10 = c ∧ (hd s d t k i n c ++ body).drop 20 = body := by
  obtain ⟨hs, hd', ht, hk, hi, hn'⟩ := h
  have e : ∀ j, j < 20 → (hd s d t k i n c ++ body).getD j 0 = (hd s d t k i n c).getD j 0 := fun j hj => by
    rw [List.getD_eq_getElem?_getD, List.getD_eq_getElem?_getD, List.getElem?_append_left (by rw [hd_len]; exact hj)]
  have hl : (hd s d t k i n c ++ body).length = 20 + body.length := by rw [List.length_append, hd_len]
  refine ⟨⟨by omega, by omega, ?_, ?_, ?_⟩, ?_, ?_, ?_, ?_, ?_, ?_, ?_⟩
  · unfold wd; rw [e 0 (by omega), e 1 (by omega)]; simp only [P4.hd, List.getD_cons_zero, List.getD_cons_succ]; omega
  · unfold wd; rw [e 2 (by omega), e 3 (by omega), hl]; simp only [P4.hd, List.getD_cons_zero, List.getD_cons_succ]; omega
  · unfold wd; rw [e 6 (by omega), e 7 (by omega)]; simp only [P4.hd, List.getD_cons_zero, List.getD_cons_succ]; omega
  · unfold src wd; rw [e 12 (by omega), e 13 (by omega), e 14 (by omega), e 15 (by omega)]; simp only [P4.hd, List.getD_cons_zero, List.getD_cons_succ]; omega
  · unfold dst wd; rw [e 16 (by omega), e 17 (by omega), e 18 (by omega), e 19 (by omega)]; simp only [P4.hd, List.getD_cons_zero, List.getD_cons_succ]; omega
  · rw [e 8 (by omega)]; rfl
  · rw [e 9 (by omega)]; rfl
  · unfold wd; rw [e 4 (by omega), e 5 (by omega)]; simp only [P4.hd, List.getD_cons_zero, List.getD_cons_succ]; omega
  · unfold wd; rw [e 10 (by omega), e 11 (by omega)]; simp only [P4.hd, List.getD_cons_zero, List.getD_cons_succ]; omega
  · rw [List.drop_append_of_le_length (by rw [hd_len]; omega)]; rfl

theorem fold_full (T : Int) (h0 : 0 ≤ T) (h : fold T = 65535) : 0 < T ∧ T % 65535 = 0 := by
  unfold fold at h
  split at h <;> omega
/-- with a byte of the head another one the sum is another one. -/
theorem turned (z : List Int) (ho : Oct z) (hl : 20 ≤ z.length) (hz : fold (tot z 20) = 65535) (j : Nat) (hj : j < 20) (v : Int) (hv : 0 ≤ v ∧ v ≤ 255) (hne : v ≠ z.getD j 0) : fold (tot (z.set j v) 20) ≠ 65535 := by
  intro h
  have h1 := fold_full _ (tot_bd z ho 20).1 hz
  have h2 := fold_full _ (tot_bd _ (oct_set z ho j v hv.1 hv.2) 20).1 h
  have h3 := tot_set z j v (by omega) 20
  rw [if_pos hj] at h3
  have hx := ho j
  generalize tot (z.set j v) 20 = T' at h2 h3
  generalize tot z 20 = T at h1 h3
  generalize z.getD j 0 = x at hx hne h3
  split at h3 <;> omega
end P4
end Go.Proofs.YtfjnioninjllkaaDoor

namespace Go.Proofs.YtfjnioninjllkaaDoor
namespace P4
open SM

theorem ext_getD {xs ys : List Int} (hl : xs.length = ys.length) (h : ∀ j, j < ys.length → xs.getD j 0 = ys.getD j 0) : xs = ys := by
  apply List.ext_getElem hl
  intro j h1 h2
  have := h j h2
  simpa [List.getD_eq_getElem?_getD, List.getElem?_eq_getElem h1, List.getElem?_eq_getElem h2] using this
theorem getD_take {xs : List Int} {n j : Nat} (h : j < n) : (xs.take n).getD j 0 = xs.getD j 0 := by
  simp [List.getD_eq_getElem?_getD, h]
theorem getD_drop {xs : List Int} {n j : Nat} : (xs.drop n).getD j 0 = xs.getD (n + j) 0 := by
  simp [List.getD_eq_getElem?_getD, List.getElem?_drop]
theorem oct_drop (xs : List Int) (h : Oct xs) (n : Nat) : Oct (xs.drop n) := fun j => by rw [getD_drop]; exact h _
theorem okh_len (z : List Int) (ho : Oct z) (l1 : z.length ≤ 340) : Okh (src z) (dst z) (z.getD 8 0) (z.getD 9 0) (wd z 4) z.length := by
  have h4 := ho 4; have h5 := ho 5; have h8 := ho 8; have h9 := ho 9
  have h12 := ho 12; have h13 := ho 13; have h14 := ho 14; have h15 := ho 15
  have h16 := ho 16; have h17 := ho 17; have h18 := ho 18; have h19 := ho 19
  unfold Okh src dst wd
  simp only [Nat.reduceAdd]
  omega
/-- the check that bytes should have. -/
def ckz (z : List Int) : Int := ck (src z) (dst z) (z.getD 8 0) (z.getD 9 0) (wd z 4) z.length
/-- what is written again of what was read from bytes. -/
def enc (z : List Int) : List Int := hd (src z) (dst z) (z.getD 8 0) (z.getD 9 0) (wd z 4) z.length (ckz z) ++ z.drop 20
theorem enc_len (z : List Int) (h : 20 ≤ z.length) : (enc z).length = z.length := by
  unfold enc
  rw [List.length_append, hd_len, List.length_drop]
  omega
theorem enc_lo (z : List Int) (j : Nat) (hj : j < 20) : (enc z).getD j 0 = (hd (src z) (dst z) (z.getD 8 0) (z.getD 9 0) (wd z 4) z.length (ckz z)).getD j 0 := by
  unfold enc
  generalize hH : hd (src z) (dst z) (z.getD 8 0) (z.getD 9 0) (wd z 4) z.length (ckz z) = H
  have hl : H.length = 20 := by rw [← hH]; rfl
  rw [List.getD_eq_getElem?_getD, List.getD_eq_getElem?_getD, List.getElem?_append_left (by omega)]
theorem enc_hi (z : List Int) (ho : Oct z) (j : Nat) (hj : 12 ≤ j) : (enc z).getD j 0 = z.getD j 0 := by
  rcases Nat.lt_or_ge j 20 with h | h
  · rw [enc_lo z j h]
    have h12 := ho 12; have h13 := ho 13; have h14 := ho 14; have h15 := ho 15
    have h16 := ho 16; have h17 := ho 17; have h18 := ho 18; have h19 := ho 19
    unfold src dst wd
    simp only [Nat.reduceAdd]
    rcases (by omega : j = 12 ∨ j = 13 ∨ j = 14 ∨ j = 15 ∨ j = 16 ∨ j = 17 ∨ j = 18 ∨ j = 19) with rfl | rfl | rfl | rfl | rfl | rfl | rfl | rfl <;> simp only [P4.hd, List.getD_cons_zero, List.getD_cons_succ] <;> omega
  · unfold enc
    generalize hH : hd (src z) (dst z) (z.getD 8 0) (z.getD 9 0) (wd z 4) z.length (ckz z) = H
    have hl : H.length = 20 := by rw [← hH]; rfl
    rw [List.getD_eq_getElem?_getD, List.getD_eq_getElem?_getD, List.getElem?_append_right (by omega), hl, List.getElem?_drop, show 20 + (j - 20) = j by omega]
theorem enc_oct (z : List Int) (ho : Oct z) (l1 : z.length ≤ 340) : Oct (enc z) := by
  have h := okh_len z ho l1
  exact oct_append _ _ (hd_oct _ _ _ _ _ _ _ h (ck_in _ _ _ _ _ _ h)) (oct_drop z ho 20)
/-- alike but for the check: just where the bytes have a packet's form. -/
theorem like_iff (z : List Int) (ho : Oct z) (l0 : 20 ≤ z.length) (l1 : z.length ≤ 340) : ((enc z).take 10 = z.take 10 ∧ (enc z).drop 12 = z.drop 12) ↔ Syn z := by
  constructor
  · rintro ⟨h, _⟩
    have g : ∀ j, j < 10 → (hd (src z) (dst z) (z.getD 8 0) (z.getD 9 0) (wd z 4) z.length (ckz z)).getD j 0 = z.getD j 0 := fun j hj => by
      rw [← enc_lo z j (by omega), ← getD_take (xs := enc z) hj, h, getD_take hj]
    have g0 := g 0 (by omega); have g1 := g 1 (by omega); have g2 := g 2 (by omega); have g3 := g 3 (by omega); have g6 := g 6 (by omega); have g7 := g 7 (by omega)
    simp only [P4.hd, List.getD_cons_zero, List.getD_cons_succ] at g0 g1 g2 g3 g6 g7
    refine ⟨l0, l1, ?_, ?_, ?_⟩ <;> unfold wd <;> simp only [Nat.reduceAdd] <;> omega
  · intro h
    have hz := hd_of z ho h
    constructor
    · apply ext_getD (by rw [List.length_take, List.length_take, enc_len z l0])
      intro j hj
      rw [List.length_take] at hj
      have hj' : j < 10 := by omega
      rw [getD_take hj', getD_take hj', hz j (by omega), enc_lo z j (by omega)]
      rcases (by omega : j = 0 ∨ j = 1 ∨ j = 2 ∨ j = 3 ∨ j = 4 ∨ j = 5 ∨ j = 6 ∨ j = 7 ∨ j = 8 ∨ j = 9) with rfl | rfl | rfl | rfl | rfl | rfl | rfl | rfl | rfl | rfl <;> rfl
    · apply ext_getD (by rw [List.length_drop, List.length_drop, enc_len z l0])
      intro j _
      rw [getD_drop, getD_drop, enc_hi z ho _ (by omega)]
/-- alike altogether: just where the check is right as well. -/
theorem same_iff (z : List Int) (ho : Oct z) (h : Syn z) : enc z = z ↔ wd z 10 = ckz z := by
  have hk := ck_in _ _ _ _ _ _ (okh_of z ho h)
  have hk' : 0 ≤ ckz z ∧ ckz z ≤ 65535 := hk
  constructor
  · intro e
    have g0 := enc_lo z 10 (by omega)
    have g1 := enc_lo z 11 (by omega)
    rw [e] at g0 g1
    simp only [P4.hd, List.getD_cons_zero, List.getD_cons_succ] at g0 g1
    unfold wd
    simp only [Nat.reduceAdd]
    omega
  · intro e
    have := list_of z ho h
    rw [e] at this
    exact this.symm
/-- bytes that are a packet's. -/
def Good (z : List Int) : Prop := Syn z ∧ wd z 10 = ckz z
theorem good_enc (z : List Int) (ho : Oct z) (h : Good z) : enc z = z := (same_iff z ho h.1).2 h.2
theorem good_sum (z : List Int) (ho : Oct z) (h : Good z) : fold (tot z 20) = 65535 := sum_of z ho h.1 h.2
/-- a packet's own bytes are such. -/
theorem good_hd (s d t k i n : Int) (body : List Int) (h : Okh s d t k i n) (hn : n = 20 + body.length) (hb : body.length ≤ 320) : Good (hd s d t k i n (ck s d t k i n) ++ body) := by
  obtain ⟨h1, h2, h3, h4, h5, h6, h7, _⟩ := read_hd s d t k i n (ck s d t k i n) body h hn hb
  refine ⟨h1, ?_⟩
  unfold ckz
  rw [h2, h3, h4, h5, h6, h7, List.length_append, hd_len]
  rw [show ((20 + body.length : Nat) : Int) = n by omega]

/-- the letters of bytes. -/
def str8 (zs : List Int) : ByteArray := ⟨(zs.map fun x => UInt8.ofNat x.toNat).toArray⟩
theorem u8_inj {a b : Int} (ha : 0 ≤ a ∧ a ≤ 255) (hb : 0 ≤ b ∧ b ≤ 255) (h : UInt8.ofNat a.toNat = UInt8.ofNat b.toNat) : a = b := by
  have := congrArg UInt8.toNat h
  simp only [UInt8.toNat_ofNat'] at this
  omega
theorem str8_inj {xs ys : List Int} (hx : Oct xs) (hy : Oct ys) (h : str8 xs = str8 ys) : xs = ys := by
  have h1 : (xs.map fun x => UInt8.ofNat x.toNat) = ys.map fun x => UInt8.ofNat x.toNat := by
    unfold str8 at h
    simpa using h
  have hl : xs.length = ys.length := by simpa using congrArg List.length h1
  apply ext_getD hl
  intro j hj
  have := congrArg (fun l => l[j]?) h1
  simp only [List.getElem?_map, List.getElem?_eq_getElem hj, List.getElem?_eq_getElem (show j < xs.length by omega), Option.map_some] at this
  have a := hx j
  have b := hy j
  simp only [List.getD_eq_getElem?_getD, List.getElem?_eq_getElem hj, List.getElem?_eq_getElem (show j < xs.length by omega), Option.getD_some] at a b ⊢
  exact u8_inj a b (Option.some.inj this)
end P4
end Go.Proofs.YtfjnioninjllkaaDoor
