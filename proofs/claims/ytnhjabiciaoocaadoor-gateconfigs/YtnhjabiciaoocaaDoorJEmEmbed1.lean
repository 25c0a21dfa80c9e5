/- Package embed's small ones by contracts: known, empty, Check; Check4 of package addr; where a four's bytes stand. Out by contracts. -/
import Derived.Test.YtnhjabiciaoocaaDoorEmSixBytes
import Derived.Test.YtnhjabiciaoocaaDoorProg
namespace Go.Proofs.YtnhjabiciaoocaaDoor.Em
open Go.RowKit Go.Shelf
/-- so many bits may a prefix have. -/
def LongP (n : Int) : Prop := n = 32 ∨ n = 40 ∨ n = 48 ∨ n = 56 ∨ n = 64 ∨ n = 96
theorem known_yes (n : Int) (w : World) (h : LongP n) : Calls Tryd.prog 30 #[.int .i64 n] w fun e w' => e = .returned (.bool true) ∧ w' = w := by
  rcases h with rfl | rfl | rfl | rfl | rfl | rfl
  all_goals
    go_enter Tryd.func30, Tryd.ntmps30
    go_wp2
    go_ret
    exact ⟨rfl, rfl⟩
theorem known_no (n : Int) (w : World) (h : ¬ LongP n) : Calls Tryd.prog 30 #[.int .i64 n] w fun e w' => e = .returned (.bool false) ∧ w' = w := by
  have h1 : (n == 32) = false := by simpa using fun e => h (.inl e)
  have h2 : (n == 40) = false := by simpa using fun e => h (.inr (.inl e))
  have h3 : (n == 48) = false := by simpa using fun e => h (.inr (.inr (.inl e)))
  have h4 : (n == 56) = false := by simpa using fun e => h (.inr (.inr (.inr (.inl e))))
  have h5 : (n == 64) = false := by simpa using fun e => h (.inr (.inr (.inr (.inr (.inl e)))))
  have h6 : (n == 96) = false := by simpa using fun e => h (.inr (.inr (.inr (.inr (.inr e)))))
  clear h
  go_enter Tryd.func30, Tryd.ntmps30
  go_wp2
  go_ret
  exact ⟨rfl, rfl⟩
set_option maxHeartbeats 400000 in
theorem empty_any (g o m c : Nat) (f : Nat → Int) (w : World) (hm : m ≤ 16) (hc : ∀ j, j < m → w.cell? ⟨g, o + j, none⟩ = some (.int .u8 (f j))) :
    Calls Tryd.prog 31 #[.slice (some ⟨g, o, none⟩) m c] w fun e w' => (((∀ j, j < m → f j = 0) ∧ e = .returned (.bool true)) ∨ ((∃ j, j < m ∧ f j ≠ 0) ∧ e = .returned (.bool false))) ∧ w' = w := by
  go_enter Tryd.func31, Tryd.ntmps31
  go_wp2
  go_loop [7] (fun t => ∃ k : Nat, k ≤ m ∧ Hid (∀ j, j < k → f j = 0) ∧ t = .int .i64 k) (fun t => m - (intOf t).toNat)
  case atStart => exact ⟨0, by omega, hide (fun i hi => absurd hi (by omega)), rfl⟩
  case round =>
    obtain ⟨k, hk, HI, rfl⟩ := hrel
    by_cases hlt : k < m
    · have hck := hc k hlt
      clear hc
      generalize hzk : f k = z at hck
      have HZ : Hid (f k = z) := hzk
      clear hzk
      by_cases hz : z = 0
      · subst hz
        go_wp2
        go_round
        case rel => exact ⟨k + 1, by omega, hide (fun i hi => if h : i = k then by subst h; exact HZ.out else HI.out i (by omega)), by go_num⟩
        case measure => simp [intOf]; omega
      · have hz2 : (z == 0) = false := by simpa using hz
        have HN := hide hz
        clear hz
        go_wp2
        go_ret
        exact ⟨.inr ⟨⟨k, hlt, by rw [HZ.out]; exact HN.out⟩, rfl⟩, rfl⟩
    · go_wp2
      go_ret
      obtain rfl : k = m := by omega
      exact ⟨.inl ⟨HI.out, rfl⟩, rfl⟩
/-- a byte of an address. -/
def byt (z : List Int) (i : Nat) : Int := if i % 2 = 0 then el z (i / 2) / 256 else el z (i / 2) % 256
theorem by16_at (z : List Int) (i : Nat) (hi : i < 16) : (by16 z 8)[i]? = some (byt z i) := by
  rcases (by omega : i = 0 ∨ i = 1 ∨ i = 2 ∨ i = 3 ∨ i = 4 ∨ i = 5 ∨ i = 6 ∨ i = 7 ∨ i = 8 ∨ i = 9 ∨ i = 10 ∨ i = 11 ∨ i = 12 ∨ i = 13 ∨ i = 14 ∨ i = 15) with rfl | rfl | rfl | rfl | rfl | rfl | rfl | rfl | rfl | rfl | rfl | rfl | rfl | rfl | rfl | rfl <;> rfl
/-- sixteen bytes in a block. -/
def Bys (z : List Int) (g : Nat) (w : World) : Prop := ∀ i, i < 16 → w.cell? ⟨g, i, none⟩ = some (.int .u8 (byt z i))
theorem own_bys {base : Nat} {z : List Int} {w : World} {v : Value} (h : OwnG 5 base w v (u8s (by16 z 8))) : ∃ g cap, v = .slice (some ⟨g, 0, none⟩) 16 cap ∧ 16 ≤ cap ∧ base ≤ g ∧ g < w.heap.size ∧ Bys z g w := by
  have h' : w.ownsRow base 5 1 v (u8s (by16 z 8)).length (u8s (by16 z 8)) := h
  have h16 : (u8s (by16 z 8)).length = 16 := rfl
  obtain ⟨h1, h2⟩ := h
  rcases h2 with ⟨rfl, hn⟩ | ⟨g, cap, cur, rfl, hb, hg, hcap, rest⟩
  · rw [h16] at hn; omega
  · rw [h16] at hcap
    refine ⟨g, cap, by rw [h16], hcap, hb, (Array.getElem?_eq_some_iff.1 hg).1, fun i hi => ?_⟩
    have := h'.cellAt i (by omega)
    rw [this]
    unfold u8s
    rw [List.getElem?_map, by16_at z i hi]
    rfl
/-- does a prefix of so many bytes hold something that it may not? -/
def shp (z : List Int) (q : Nat) : Bool := (List.range 16).any fun i => (i == 8 || decide (q ≤ i)) && byt z i != 0
theorem shp_no {z : List Int} {q : Nat} (h : shp z q = false) (i : Nat) (hi : i < 16) (hq : i = 8 ∨ q ≤ i) : byt z i = 0 := by
  unfold shp at h
  rw [List.any_eq_false] at h
  have := h i (List.mem_range.2 hi)
  simp only [Bool.and_eq_true, Bool.or_eq_true, beq_iff_eq, decide_eq_true_eq, bne_iff_ne, ne_eq, not_and, Decidable.not_not] at this
  exact this hq
theorem shp_yes {z : List Int} {q : Nat} (i : Nat) (hi : i < 16) (hq : i = 8 ∨ q ≤ i) (hb : byt z i ≠ 0) : shp z q = true := by
  unfold shp
  rw [List.any_eq_true]
  exact ⟨i, List.mem_range.2 hi, by simpa using ⟨hq, hb⟩⟩
/-- what Check finds at fault with a prefix: 0: nothing. -/
def PF (p : List Int) (n : Int) (k : Int) : Prop :=
  (¬ Ok6 p ∧ k = 1) ∨ (Ok6 p ∧ ¬ LongP n ∧ k = 1) ∨ (Ok6 p ∧ LongP n ∧ shp p (n / 8).toNat = true ∧ k = 2) ∨ (Ok6 p ∧ LongP n ∧ shp p (n / 8).toNat = false ∧ k = 0)
theorem pf_ex (p : List Int) (n : Int) : ∃ k, PF p n k := by
  by_cases h1 : Ok6 p
  · by_cases h2 : LongP n
    · cases h3 : shp p (n / 8).toNat
      · exact ⟨0, .inr (.inr (.inr ⟨h1, h2, h3, rfl⟩))⟩
      · exact ⟨2, .inr (.inr (.inl ⟨h1, h2, h3, rfl⟩))⟩
    · exact ⟨1, .inr (.inl ⟨h1, h2, rfl⟩)⟩
  · exact ⟨1, .inl ⟨h1, rfl⟩⟩
/-- an error of that number, or none. -/
def errv (k : Int) : Value := if k = 0 then .nilIface else .iface 27 (.int .i64 k)
theorem echeck_bad1 (p : List Int) (n : Int) (w : World) (h : ¬ Ok6 p) : Calls Tryd.prog 19 #[six p, .int .i64 n] w fun e w' => e = .returned (.iface 27 (.int .i64 1)) ∧ Below w.heap.size w w' := by
  have hC := fun w => bytes_bad p w h
  unfold six at hC ⊢
  go_enter Tryd.func19, Tryd.ntmps19
  go_wp2_with (go_at_call 29; refine (hC _).mono ?_; rintro e w1 ⟨rfl, hb1⟩)
  go_ret
  exact ⟨rfl, bt ((Below.refl _ _).alloc (Nat.le_refl _) _) hb1⟩
theorem echeck_bad2 (p : List Int) (n : Int) (w : World) (h : Ok6 p) (hn : ¬ LongP n) : Calls Tryd.prog 19 #[six p, .int .i64 n] w fun e w' => e = .returned (.iface 27 (.int .i64 1)) ∧ Below w.heap.size w w' := by
  have hC := fun w => bytes_ok p w h
  unfold six at hC ⊢
  go_enter Tryd.func19, Tryd.ntmps19
  go_wp2_with (first
    | (go_at_call 29; refine (hC _).mono ?_; rintro e w1 ⟨v, rfl, -, hb1⟩)
    | (go_at_call 30; refine (known_no _ _ hn).mono ?_; rintro e w2 ⟨rfl, rfl⟩))
  go_ret
  exact ⟨rfl, bt ((Below.refl _ _).alloc (Nat.le_refl _) _) hb1⟩
theorem empty_yes (g o m c : Nat) (f : Nat → Int) (w : World) (hm : m ≤ 16) (hc : ∀ j, j < m → w.cell? ⟨g, o + j, none⟩ = some (.int .u8 (f j))) (h : ∀ j, j < m → f j = 0) :
    Calls Tryd.prog 31 #[.slice (some ⟨g, o, none⟩) m c] w fun e w' => e = .returned (.bool true) ∧ w' = w :=
  (empty_any g o m c f w hm hc).mono fun e w' ⟨hh, hw⟩ => by
    rcases hh with ⟨_, he⟩ | ⟨⟨j, hj, hn⟩, _⟩
    · exact ⟨he, hw⟩
    · exact absurd (h j hj) hn
theorem empty_no (g o m c : Nat) (f : Nat → Int) (w : World) (hm : m ≤ 16) (hc : ∀ j, j < m → w.cell? ⟨g, o + j, none⟩ = some (.int .u8 (f j))) (h : ¬ ∀ j, j < m → f j = 0) :
    Calls Tryd.prog 31 #[.slice (some ⟨g, o, none⟩) m c] w fun e w' => e = .returned (.bool false) ∧ w' = w :=
  (empty_any g o m c f w hm hc).mono fun e w' ⟨hh, hw⟩ => by
    rcases hh with ⟨hn, _⟩ | ⟨_, he⟩
    · exact absurd hn h
    · exact ⟨he, hw⟩
set_option maxHeartbeats 4000000 in
theorem echeck_shape (p : List Int) (q : Nat) (w : World) (h : Ok6 p) (hn : LongP (8 * q)) : Calls Tryd.prog 19 #[six p, .int .i64 (8 * q)] w fun e w' => e = .returned (if shp p q then .iface 27 (.int .i64 2) else .nilIface) ∧ Below w.heap.size w w' := by
  have hC := fun w => bytes_ok p w h
  have hq : q ≤ 12 := by unfold LongP at hn; omega
  have hd : (8 * (q : Int)).tdiv 8 = q := by rw [Int.tdiv_eq_ediv_of_nonneg (by omega)]; omega
  have HN := hide hn
  clear hn
  unfold six at hC ⊢
  by_cases h8 : byt p 8 = 0
  · by_cases hall : ∀ j, j < 16 - q → byt p (q + j) = 0
    · have hs : shp p q = false := by
        cases e : shp p q
        · rfl
        · unfold shp at e
          rw [List.any_eq_true] at e
          obtain ⟨i, hi, hb⟩ := e
          rw [List.mem_range] at hi
          simp only [Bool.and_eq_true, Bool.or_eq_true, beq_iff_eq, decide_eq_true_eq, bne_iff_ne, ne_eq] at hb
          rcases hb with ⟨rfl | hqi, hb⟩
          · exact absurd h8 hb
          · have := hall (i - q) (by omega)
            rw [show q + (i - q) = i by omega] at this
            exact absurd this hb
      rw [hs]
      have HA := hide hall
      clear hall
      go_enter Tryd.func19, Tryd.ntmps19
      go_wp2_with (first
        | (go_at_call 29; refine (hC _).mono ?_; rintro e w1 ⟨v, rfl, ho, hb1⟩; obtain ⟨g, cap, rfl, hcap, hg0, hg, hB⟩ := own_bys ho; have c8 := hB 8 (by omega); rw [h8] at c8)
        | (go_at_call 30; refine (known_yes _ _ HN.out).mono ?_; rintro e w2 ⟨rfl, rfl⟩)
        | (go_at_call 31; refine (empty_yes g q (16 - q) _ (fun j => byt p (q + j)) _ (by omega) (fun j hj => hB (q + j) (by omega)) HA.out).mono ?_; rintro e w2 ⟨rfl, rfl⟩))
      go_ret
      exact ⟨rfl, bt ((Below.refl _ _).alloc (Nat.le_refl _) _) hb1⟩
    · have hs : shp p q = true := by
        cases e : shp p q
        · exact absurd (fun j hj => shp_no e (q + j) (by omega) (.inr (by omega))) hall
        · rfl
      rw [hs]
      have HA := hide hall
      clear hall
      go_enter Tryd.func19, Tryd.ntmps19
      go_wp2_with (first
        | (go_at_call 29; refine (hC _).mono ?_; rintro e w1 ⟨v, rfl, ho, hb1⟩; obtain ⟨g, cap, rfl, hcap, hg0, hg, hB⟩ := own_bys ho; have c8 := hB 8 (by omega); rw [h8] at c8)
        | (go_at_call 30; refine (known_yes _ _ HN.out).mono ?_; rintro e w2 ⟨rfl, rfl⟩)
        | (go_at_call 31; refine (empty_no g q (16 - q) _ (fun j => byt p (q + j)) _ (by omega) (fun j hj => hB (q + j) (by omega)) HA.out).mono ?_; rintro e w2 ⟨rfl, rfl⟩))
      go_ret
      exact ⟨rfl, bt ((Below.refl _ _).alloc (Nat.le_refl _) _) hb1⟩
  · have hs : shp p q = true := shp_yes 8 (by omega) (.inl rfl) h8
    rw [hs]
    have hb8 : (byt p 8 == 0) = false := by simpa using h8
    generalize hx : byt p 8 = x at h8 hb8
    have HX := hide hx
    clear hx
    go_enter Tryd.func19, Tryd.ntmps19
    go_wp2_with (first
      | (go_at_call 29; refine (hC _).mono ?_; rintro e w1 ⟨v, rfl, ho, hb1⟩; obtain ⟨g, cap, rfl, hcap, hg0, hg, hB⟩ := own_bys ho; have c8 := hB 8 (by omega); rw [HX.out] at c8)
      | (go_at_call 30; refine (known_yes _ _ HN.out).mono ?_; rintro e w2 ⟨rfl, rfl⟩))
    go_ret
    exact ⟨rfl, bt ((Below.refl _ _).alloc (Nat.le_refl _) _) hb1⟩
theorem long_q {n : Int} (h : LongP n) : ∃ q : Nat, n = 8 * q ∧ (n / 8).toNat = q ∧ 4 ≤ q ∧ q ≤ 12 := ⟨(n / 8).toNat, by unfold LongP at h; omega, rfl, by unfold LongP at h; omega, by unfold LongP at h; omega⟩
theorem echeck_any (p : List Int) (n k : Int) (w : World) (h : PF p n k) : Calls Tryd.prog 19 #[six p, .int .i64 n] w fun e w' => e = .returned (errv k) ∧ Below w.heap.size w w' := by
  rcases h with ⟨h1, rfl⟩ | ⟨h1, h2, rfl⟩ | ⟨h1, h2, h3, rfl⟩ | ⟨h1, h2, h3, rfl⟩
  · exact echeck_bad1 p n w h1
  · exact echeck_bad2 p n w h1 h2
  · obtain ⟨q, rfl, e, _, _⟩ := long_q h2
    rw [e] at h3
    have := echeck_shape p q w h1 h2
    rw [h3] at this
    exact this
  · obtain ⟨q, rfl, e, _, _⟩ := long_q h2
    rw [e] at h3
    have := echeck_shape p q w h1 h2
    rw [h3] at this
    exact this
end Go.Proofs.YtnhjabiciaoocaaDoor.Em

namespace Go.Proofs.YtnhjabiciaoocaaDoor.Em
open Go.RowKit Go.Shelf
attribute [local go_sem] Oper.semAt_some
theorem shape_no (z : List Int) (q : Nat) (h8 : byt z 8 = 0) (hall : ∀ j, j < 16 - q → byt z (q + j) = 0) : shp z q = false := by
  cases e : shp z q
  · rfl
  · unfold shp at e
    rw [List.any_eq_true] at e
    obtain ⟨i, hi, hb⟩ := e
    rw [List.mem_range] at hi
    simp only [Bool.and_eq_true, Bool.or_eq_true, beq_iff_eq, decide_eq_true_eq, bne_iff_ne, ne_eq] at hb
    rcases hb with ⟨rfl | hqi, hb⟩
    · exact absurd h8 hb
    · have := hall (i - q) (by omega)
      rw [show q + (i - q) = i by omega] at this
      exact absurd this hb
end Go.Proofs.YtnhjabiciaoocaaDoor.Em
