/- Package embed's small ones by contracts: known, empty, Check; Check4 of package addr; where a four's bytes stand. The range over places, by the iterator's own contract: the four places behind so many bytes, the ninth byte left out. Into by contracts. -/
import Derived.Test.YtkhahbghmdccaaaGreatDoorF19
import Derived.Test.YtkhahbghmdccaaaGreatDoorProg
namespace Go.Proofs.YtkhahbghmdccaaaGreatDoor.Em
open Go.RowKit Go.Shelf
def LongP (n : Int) : Prop := n = 32 ∨ n = 40 ∨ n = 48 ∨ n = 56 ∨ n = 64 ∨ n = 96
theorem known_yes (n : Int) (w : World) (h : LongP n) : Calls Tryz.prog 149 #[.int .i64 n] w fun e w' => e = .returned (.bool true) ∧ w' = w := by
  rcases h with rfl | rfl | rfl | rfl | rfl | rfl
  all_goals
    go_enter Tryz.func149, Tryz.ntmps149
    go_wp2
    go_ret
    exact ⟨rfl, rfl⟩
theorem known_no (n : Int) (w : World) (h : ¬ LongP n) : Calls Tryz.prog 149 #[.int .i64 n] w fun e w' => e = .returned (.bool false) ∧ w' = w := by
  have h1 : (n == 32) = false := by simpa using fun e => h (.inl e)
  have h2 : (n == 40) = false := by simpa using fun e => h (.inr (.inl e))
  have h3 : (n == 48) = false := by simpa using fun e => h (.inr (.inr (.inl e)))
  have h4 : (n == 56) = false := by simpa using fun e => h (.inr (.inr (.inr (.inl e))))
  have h5 : (n == 64) = false := by simpa using fun e => h (.inr (.inr (.inr (.inr (.inl e)))))
  have h6 : (n == 96) = false := by simpa using fun e => h (.inr (.inr (.inr (.inr (.inr e)))))
  clear h
  go_enter Tryz.func149, Tryz.ntmps149
  go_wp2
  go_ret
  exact ⟨rfl, rfl⟩
set_option maxHeartbeats 400000 in
theorem empty_any (g o m c : Nat) (f : Nat → Int) (w : World) (hm : m ≤ 16) (hc : ∀ j, j < m → w.cell? ⟨g, o + j, none⟩ = some (.int .u8 (f j))) :
    Calls Tryz.prog 150 #[.slice (some ⟨g, o, none⟩) m c] w fun e w' => (((∀ j, j < m → f j = 0) ∧ e = .returned (.bool true)) ∨ ((∃ j, j < m ∧ f j ≠ 0) ∧ e = .returned (.bool false))) ∧ w' = w := by
  go_enter Tryz.func150, Tryz.ntmps150
  go_wp2
  go_loop [7] (fun t => ∃ k : Nat, k ≤ m ∧ Hid (∀ j, j < k → f j = 0) ∧ t = .int .i64 k) (fun t => m - (intOf t).toNat)
  case atStart => exact ⟨0, by omega, hide (fun i hi => absurd hi (by omega)), rfl⟩
  case round =>
    obtain ⟨k, hk, HI, rfl⟩ := hrel
    by_cases hlt : k < m
    · have hck := hc k hlt
      clear hc
      generalize hzk : f k = z at hck
      have HZ : Hid (f k = z) := hzk
      clear hzk
      by_cases hz : z = 0
      · subst hz
        go_wp2
        go_round
        case rel => exact ⟨k + 1, by omega, hide (fun i hi => if h : i = k then by subst h; exact HZ.out else HI.out i (by omega)), by go_num⟩
        case measure => simp [intOf]; omega
      · have hz2 : (z == 0) = false := by simpa using hz
        have HN := hide hz
        clear hz
        go_wp2
        go_ret
        exact ⟨.inr ⟨⟨k, hlt, by rw [HZ.out]; exact HN.out⟩, rfl⟩, rfl⟩
    · go_wp2
      go_ret
      obtain rfl : k = m := by omega
      exact ⟨.inl ⟨HI.out, rfl⟩, rfl⟩
def byt (z : List Int) (i : Nat) : Int := if i % 2 = 0 then el z (i / 2) / 256 else el z (i / 2) % 256
theorem by16_at (z : List Int) (i : Nat) (hi : i < 16) : (by16 z 8)[i]? = some (byt z i) := by
  rcases (by omega : i = 0 ∨ i = 1 ∨ i = 2 ∨ i = 3 ∨ i = 4 ∨ i = 5 ∨ i = 6 ∨ i = 7 ∨ i = 8 ∨ i = 9 ∨ i = 10 ∨ i = 11 ∨ i = 12 ∨ i = 13 ∨ i = 14 ∨ i = 15) with rfl | rfl | rfl | rfl | rfl | rfl | rfl | rfl | rfl | rfl | rfl | rfl | rfl | rfl | rfl | rfl <;> rfl
theorem byt_in (z : List Int) (hz : Ok6 z) (i : Nat) (hi : i < 16) : 0 ≤ byt z i ∧ byt z i < 256 := by
  have h := hz (i / 2) (by omega)
  unfold Word at h
  unfold byt
  split <;> omega
def Bys (z : List Int) (g : Nat) (w : World) : Prop := ∀ i, i < 16 → w.cell? ⟨g, i, none⟩ = some (.int .u8 (byt z i))
theorem own_bys {base : Nat} {z : List Int} {w : World} {v : Value} (h : OwnG 5 base w v (u8s (by16 z 8))) : ∃ g cap, v = .slice (some ⟨g, 0, none⟩) 16 cap ∧ 16 ≤ cap ∧ base ≤ g ∧ g < w.heap.size ∧ Bys z g w := by
  have h' : w.ownsRow base 5 1 v (u8s (by16 z 8)).length (u8s (by16 z 8)) := h
  have h16 : (u8s (by16 z 8)).length = 16 := rfl
  obtain ⟨h1, h2⟩ := h
  rcases h2 with ⟨rfl, hn⟩ | ⟨g, cap, cur, rfl, hb, hg, hcap, rest⟩
  · rw [h16] at hn; omega
  · rw [h16] at hcap
    refine ⟨g, cap, by rw [h16], hcap, hb, (Array.getElem?_eq_some_iff.1 hg).1, fun i hi => ?_⟩
    have := h'.cellAt i (by omega)
    rw [this]
    unfold u8s
    rw [List.getElem?_map, by16_at z i hi]
    rfl
def shp (z : List Int) (q : Nat) : Bool := (List.range 16).any fun i => (i == 8 || decide (q ≤ i)) && byt z i != 0
theorem shp_no {z : List Int} {q : Nat} (h : shp z q = false) (i : Nat) (hi : i < 16) (hq : i = 8 ∨ q ≤ i) : byt z i = 0 := by
  unfold shp at h
  rw [List.any_eq_false] at h
  have := h i (List.mem_range.2 hi)
  simp only [Bool.and_eq_true, Bool.or_eq_true, beq_iff_eq, decide_eq_true_eq, bne_iff_ne, ne_eq, not_and, Decidable.not_not] at this
  exact this hq
theorem shp_yes {z : List Int} {q : Nat} (i : Nat) (hi : i < 16) (hq : i = 8 ∨ q ≤ i) (hb : byt z i ≠ 0) : shp z q = true := by
  unfold shp
  rw [List.any_eq_true]
  exact ⟨i, List.mem_range.2 hi, by simpa using ⟨hq, hb⟩⟩
def PF (p : List Int) (n : Int) (k : Int) : Prop :=
  (¬ Ok6 p ∧ k = 1) ∨ (Ok6 p ∧ ¬ LongP n ∧ k = 1) ∨ (Ok6 p ∧ LongP n ∧ shp p (n / 8).toNat = true ∧ k = 2) ∨ (Ok6 p ∧ LongP n ∧ shp p (n / 8).toNat = false ∧ k = 0)
def errv (k : Int) : Value := if k = 0 then .nilIface else .iface 28 (.int .i64 k)
theorem echeck_bad1 (p : List Int) (n : Int) (w : World) (h : ¬ Ok6 p) : Calls Tryz.prog 96 #[six p, .int .i64 n] w fun e w' => e = .returned (.iface 28 (.int .i64 1)) ∧ Below w.heap.size w w' := by
  have hC := fun w => bytes_bad p w h
  unfold six at hC ⊢
  go_enter Tryz.func96, Tryz.ntmps96
  go_wp2_with (go_at_call 138; refine (hC _).mono ?_; rintro e w1 ⟨rfl, hb1⟩)
  go_ret
  exact ⟨rfl, bt ((Below.refl _ _).alloc (Nat.le_refl _) _) hb1⟩
theorem echeck_bad2 (p : List Int) (n : Int) (w : World) (h : Ok6 p) (hn : ¬ LongP n) : Calls Tryz.prog 96 #[six p, .int .i64 n] w fun e w' => e = .returned (.iface 28 (.int .i64 1)) ∧ Below w.heap.size w w' := by
  have hC := fun w => bytes_ok p w h
  unfold six at hC ⊢
  go_enter Tryz.func96, Tryz.ntmps96
  go_wp2_with (first
    | (go_at_call 138; refine (hC _).mono ?_; rintro e w1 ⟨v, rfl, -, hb1⟩)
    | (go_at_call 149; refine (known_no _ _ hn).mono ?_; rintro e w2 ⟨rfl, rfl⟩))
  go_ret
  exact ⟨rfl, bt ((Below.refl _ _).alloc (Nat.le_refl _) _) hb1⟩
theorem empty_yes (g o m c : Nat) (f : Nat → Int) (w : World) (hm : m ≤ 16) (hc : ∀ j, j < m → w.cell? ⟨g, o + j, none⟩ = some (.int .u8 (f j))) (h : ∀ j, j < m → f j = 0) :
    Calls Tryz.prog 150 #[.slice (some ⟨g, o, none⟩) m c] w fun e w' => e = .returned (.bool true) ∧ w' = w :=
  (empty_any g o m c f w hm hc).mono fun e w' ⟨hh, hw⟩ => by
    rcases hh with ⟨_, he⟩ | ⟨⟨j, hj, hn⟩, _⟩
    · exact ⟨he, hw⟩
    · exact absurd (h j hj) hn
theorem empty_no (g o m c : Nat) (f : Nat → Int) (w : World) (hm : m ≤ 16) (hc : ∀ j, j < m → w.cell? ⟨g, o + j, none⟩ = some (.int .u8 (f j))) (h : ¬ ∀ j, j < m → f j = 0) :
    Calls Tryz.prog 150 #[.slice (some ⟨g, o, none⟩) m c] w fun e w' => e = .returned (.bool false) ∧ w' = w :=
  (empty_any g o m c f w hm hc).mono fun e w' ⟨hh, hw⟩ => by
    rcases hh with ⟨hn, _⟩ | ⟨_, he⟩
    · exact absurd hn h
    · exact ⟨he, hw⟩
set_option maxHeartbeats 4000000 in
theorem echeck_shape (p : List Int) (q : Nat) (w : World) (h : Ok6 p) (hn : LongP (8 * q)) : Calls Tryz.prog 96 #[six p, .int .i64 (8 * q)] w fun e w' => e = .returned (if shp p q then .iface 28 (.int .i64 2) else .nilIface) ∧ Below w.heap.size w w' := by
  have hC := fun w => bytes_ok p w h
  have hq : q ≤ 12 := by unfold LongP at hn; omega
  have hd : (8 * (q : Int)).tdiv 8 = q := by rw [Int.tdiv_eq_ediv_of_nonneg (by omega)]; omega
  have HN := hide hn
  clear hn
  unfold six at hC ⊢
  by_cases h8 : byt p 8 = 0
  · by_cases hall : ∀ j, j < 16 - q → byt p (q + j) = 0
    · have hs : shp p q = false := by
        cases e : shp p q
        · rfl
        · unfold shp at e
          rw [List.any_eq_true] at e
          obtain ⟨i, hi, hb⟩ := e
          rw [List.mem_range] at hi
          simp only [Bool.and_eq_true, Bool.or_eq_true, beq_iff_eq, decide_eq_true_eq, bne_iff_ne, ne_eq] at hb
          rcases hb with ⟨rfl | hqi, hb⟩
          · exact absurd h8 hb
          · have := hall (i - q) (by omega)
            rw [show q + (i - q) = i by omega] at this
            exact absurd this hb
      rw [hs]
      have HA := hide hall
      clear hall
      go_enter Tryz.func96, Tryz.ntmps96
      go_wp2_with (first
        | (go_at_call 138; refine (hC _).mono ?_; rintro e w1 ⟨v, rfl, ho, hb1⟩; obtain ⟨g, cap, rfl, hcap, hg0, hg, hB⟩ := own_bys ho; have c8 := hB 8 (by omega); rw [h8] at c8)
        | (go_at_call 149; refine (known_yes _ _ HN.out).mono ?_; rintro e w2 ⟨rfl, rfl⟩)
        | (go_at_call 150; refine (empty_yes g q (16 - q) _ (fun j => byt p (q + j)) _ (by omega) (fun j hj => hB (q + j) (by omega)) HA.out).mono ?_; rintro e w2 ⟨rfl, rfl⟩))
      go_ret
      exact ⟨rfl, bt ((Below.refl _ _).alloc (Nat.le_refl _) _) hb1⟩
    · have hs : shp p q = true := by
        cases e : shp p q
        · exact absurd (fun j hj => shp_no e (q + j) (by omega) (.inr (by omega))) hall
        · rfl
      rw [hs]
      have HA := hide hall
      clear hall
      go_enter Tryz.func96, Tryz.ntmps96
      go_wp2_with (first
        | (go_at_call 138; refine (hC _).mono ?_; rintro e w1 ⟨v, rfl, ho, hb1⟩; obtain ⟨g, cap, rfl, hcap, hg0, hg, hB⟩ := own_bys ho; have c8 := hB 8 (by omega); rw [h8] at c8)
        | (go_at_call 149; refine (known_yes _ _ HN.out).mono ?_; rintro e w2 ⟨rfl, rfl⟩)
        | (go_at_call 150; refine (empty_no g q (16 - q) _ (fun j => byt p (q + j)) _ (by omega) (fun j hj => hB (q + j) (by omega)) HA.out).mono ?_; rintro e w2 ⟨rfl, rfl⟩))
      go_ret
      exact ⟨rfl, bt ((Below.refl _ _).alloc (Nat.le_refl _) _) hb1⟩
  · have hs : shp p q = true := shp_yes 8 (by omega) (.inl rfl) h8
    rw [hs]
    have hb8 : (byt p 8 == 0) = false := by simpa using h8
    generalize hx : byt p 8 = x at h8 hb8
    have HX := hide hx
    clear hx
    go_enter Tryz.func96, Tryz.ntmps96
    go_wp2_with (first
      | (go_at_call 138; refine (hC _).mono ?_; rintro e w1 ⟨v, rfl, ho, hb1⟩; obtain ⟨g, cap, rfl, hcap, hg0, hg, hB⟩ := own_bys ho; have c8 := hB 8 (by omega); rw [HX.out] at c8)
      | (go_at_call 149; refine (known_yes _ _ HN.out).mono ?_; rintro e w2 ⟨rfl, rfl⟩))
    go_ret
    exact ⟨rfl, bt ((Below.refl _ _).alloc (Nat.le_refl _) _) hb1⟩
theorem long_q {n : Int} (h : LongP n) : ∃ q : Nat, n = 8 * q ∧ (n / 8).toNat = q ∧ 4 ≤ q ∧ q ≤ 12 := ⟨(n / 8).toNat, by unfold LongP at h; omega, rfl, by unfold LongP at h; omega, by unfold LongP at h; omega⟩
theorem echeck_any (p : List Int) (n k : Int) (w : World) (h : PF p n k) : Calls Tryz.prog 96 #[six p, .int .i64 n] w fun e w' => e = .returned (errv k) ∧ Below w.heap.size w w' := by
  rcases h with ⟨h1, rfl⟩ | ⟨h1, h2, rfl⟩ | ⟨h1, h2, h3, rfl⟩ | ⟨h1, h2, h3, rfl⟩
  · exact echeck_bad1 p n w h1
  · exact echeck_bad2 p n w h1 h2
  · obtain ⟨q, rfl, e, _, _⟩ := long_q h2
    rw [e] at h3
    have := echeck_shape p q w h1 h2
    rw [h3] at this
    exact this
  · obtain ⟨q, rfl, e, _, _⟩ := long_q h2
    rw [e] at h3
    have := echeck_shape p q w h1 h2
    rw [h3] at this
    exact this
theorem places_any (n : Int) (w : World) : Calls Tryz.prog 170 #[.int .i64 n] w fun e w' => e = .returned (.func (.func 202) #[] #[.pointer (some ⟨w.heap.size, 0, none⟩)]) ∧ w' = w.alloc (.cells #[.int .i64 n] 3) := by
  go_enter Tryz.func170, Tryz.ntmps170
  go_wp2
  go_ret
  exact ⟨rfl, rfl⟩
end Go.Proofs.YtkhahbghmdccaaaGreatDoor.Em

namespace Go.Proofs.YtkhahbghmdccaaaGreatDoor.Em
open Go.RowKit Go.Shelf
attribute [local go_sem] Oper.semAt_some
theorem opIn_out {F : Fence} {l n : Nat} {P : Program} {o : Oper} {a : Act} {w : World} {K : Act → World → Prop} {Q : Exit → Act → World → Prop} (hd : ∀ c, o.op ≠ .defer c) (h : o.wpIn F n P a w K Q) : o.wpIn (F.inRound l) n P a w K Q := by
  unfold Oper.wpIn at h ⊢
  rw [Oper.semAt_eq _ _ _ hd] at h ⊢
  refine ⟨h.1, ?_⟩
  have h2 := h.2
  generalize (execOp a.eval o).run P w = r at h2 ⊢
  cases r with
  | ok x w' => cases x <;> exact h2
  | halt x w' => cases x <;> exact h2
theorem anyIn_out {F : Fence} {l n : Nat} {P : Program} {md : Region.Mode} {ops : Array Oper} {Q : Exit → Act → World → Prop} (hops : ∀ (i : Nat) o, ops[i]? = some o → ∀ c, o.op ≠ .defer c) :
    ∀ (fuel : Nat) (listed : Array Bool) (a : Act) (w : World), wpAnyIn F n P md ops Q fuel listed a w → wpAnyIn (F.inRound l) n P md ops Q fuel listed a w := by
  intro fuel
  induction fuel with
  | zero => intro listed a w h; exact h
  | succ fuel ih =>
    intro listed a w h
    refine ⟨h.1, fun i hi => ?_⟩
    have h2 := wpOpIn_mono (fun a w => ih (listed.setIfInBounds i true) a w) (h.2 i hi)
    unfold wpOpIn at h2 ⊢
    split
    · rename_i e; simpa [e] using h2
    · rename_i o ho
      simp only [ho] at h2
      split
      · rename_i hw; simp only [hw, if_true] at h2; exact opIn_out (hops i o ho) h2
      · rename_i hw; simp only [hw] at h2; exact h2
def noDefer (ops : Array Oper) : Bool := ops.toList.all fun o => match o.op with | .defer _ => false | _ => true
theorem noDefer_spec {ops : Array Oper} (h : noDefer ops = true) : ∀ (i : Nat) o, ops[i]? = some o → ∀ c, o.op ≠ .defer c := by
  intro i o ho c e
  unfold noDefer at h
  rw [List.all_eq_true] at h
  have := h o (Array.mem_toList_iff.2 (Array.mem_of_getElem? ho))
  rw [e] at this
  cases this
def pos (q i : Nat) : Nat := if q ≤ 8 ∧ 8 ≤ q + i then q + i + 1 else q + i
def top (q k : Nat) : Nat := if q ≤ 8 ∧ 8 < q + k then q + k + 1 else q + k
theorem top_eight {q k : Nat} (h : top q k = 8) : pos q k = 9 ∧ top q (k + 1) = 10 := by
  unfold top at h ⊢
  unfold pos
  split at h
  · omega
  · constructor
    · rw [if_pos (by omega)]; omega
    · rw [if_pos (by omega)]; omega
theorem top_other {q k : Nat} (h : top q k ≠ 8) : pos q k = top q k ∧ top q (k + 1) = top q k + 1 := by
  unfold top at h ⊢
  unfold pos
  by_cases h1 : q ≤ 8 ∧ 8 < q + k
  · rw [if_pos h1] at h
    rw [if_pos (by omega), if_pos h1, if_pos (by omega)]
    omega
  · rw [if_neg h1] at h
    rw [if_neg h1, if_neg (by omega), if_neg (by omega)]
    omega
theorem top_le (q k : Nat) : top q k ≤ q + k + 1 := by unfold top; split <;> omega
def encP (q : Nat) (x : Fin 4) : Array Value := #[.int .i64 (x.val : Int), .int .i64 (pos q x.val : Int)]
def four4 : List (Fin 4) := [0, 1, 2, 3]
def first4 (k : Nat) : List (Fin 4) := four4.take k
theorem first4_succ (k : Nat) (h : k < 4) : first4 (k + 1) = first4 k ++ [⟨k, h⟩] := by
  rcases (by omega : k = 0 ∨ k = 1 ∨ k = 2 ∨ k = 3) with rfl | rfl | rfl | rfl <;> rfl
theorem first4_len (k : Nat) (h : k ≤ 4) : (first4 k).length = k := by
  rcases (by omega : k = 0 ∨ k = 1 ∨ k = 2 ∨ k = 3 ∨ k = 4) with rfl | rfl | rfl | rfl | rfl <;> rfl
set_option maxHeartbeats 1000000 in
theorem places_in (n : Nat) (l Bn n₀ : Nat) (q : Nat) (hq : q ≤ 12) (J Jx : List (Fin 4) → World → Prop) (hn : 1 ≤ n)
    (hY : ∀ pre x W, J pre W → pre.length < 4 → YieldAt Fence.wide (n - 1) Tryz.prog l (encP q x) W fun e W' =>
      (e = .returned (.bool true) ∧ J (pre ++ [x]) W' ∧ Below n₀ W W') ∨ (e = .returned (.bool false) ∧ Jx (pre ++ [x]) W'))
    (W : World) (hBn : W.cell? ⟨Bn, 0, none⟩ = some (.int .i64 (8 * q))) (h0 : J [] W) :
    CallsIn Fence.wide n Tryz.prog 202 #[.func (.yield l) #[] #[], .pointer (some ⟨Bn, 0, none⟩)] W fun e W' => (∃ v, e = .returned v) ∧
      ((∃ ys, ys = four4 ∧ J ys W') ∨ (∃ pre, True ∧ Jx pre W')) := by
  have hd : (8 * (q : Int)).tdiv 8 = q := by rw [Int.tdiv_eq_ediv_of_nonneg (by omega)]; omega
  refine callsIn_of_wp Tryz.func202 rfl trivial ?_ rfl
  simp only [Tryz.ntmps202, List.size_toArray, List.length_cons, List.length_nil, Nat.reduceAdd, Nat.reduceSub, Array.replicate_succ, Array.replicate_zero, List.push_toArray, List.append_toArray, List.nil_append, List.cons_append]
  gi_wp2
  gi_loopw [3, 7] (fun p i wr => ∃ (k P : Nat), k ≤ 4 ∧ P ≤ 17 ∧ Hid (P = top q k) ∧ p = .int .i64 P ∧ i = .int .i64 k ∧ Hid (J (first4 k) wr)) (fun _ i _ => 4 - (intOf i).toNat)
  case atStart => exact ⟨0, q, by omega, by omega, hide (by unfold top; rw [if_neg (by omega)]; rfl), rfl, rfl, h0⟩
  case round =>
    obtain ⟨k, P, hk, hP, HP, rfl, rfl, HJ⟩ := hrel
    clear hd hBn
    by_cases hlt : k < 4
    · obtain ⟨fn, tmps, assign, body, hy, hR⟩ := hY (first4 k) ⟨k, hlt⟩ wr HJ.out (by rw [first4_len k hk]; exact hlt)
      dsimp only [encP] at hy
      rw [← first4_succ k hlt] at hR
      by_cases h8 : P = 8
      · have h9 := top_eight (HP.out.symm.trans h8)
        have HT := hide h9.2
        rw [h9.1, show ((9 : Nat) : Int) = 9 from rfl] at hy
        subst h8
        clear h9
        gi_wp2
        refine hR.mono ?_
        rintro e W3 (⟨rfl, hJ3, hk3⟩ | ⟨rfl, hJx3⟩)
        · have HJ3 := hide hJ3
          gi_wp2
          go_roundw
          case rel => exact ⟨k + 1, 10, by omega, by omega, hide HT.out.symm, by go_num, by go_num, HJ3⟩
          case measure => simp [intOf]; omega
        · have HJ3 := hide hJx3
          gi_wp2
          refine bodyPost_ret (results_none rfl _ _ _) rfl ?_
          exact ⟨⟨_, rfl⟩, .inr ⟨_, trivial, HJ3.out⟩⟩
      · have h9 := top_other (fun h => h8 (HP.out.trans h))
        rw [← HP.out] at h9
        have HT := hide h9.2
        rw [h9.1] at hy
        clear h9
        have h8b : ((P : Int) == 8) = false := by rw [beq_eq_false_iff_ne]; omega
        gi_wp2
        refine hR.mono ?_
        rintro e W3 (⟨rfl, hJ3, hk3⟩ | ⟨rfl, hJx3⟩)
        · have HJ3 := hide hJ3
          gi_wp2
          go_roundw
          case rel => exact ⟨k + 1, P + 1, by omega, by have := top_le q (k + 1); rw [HT.out] at this; omega, hide HT.out.symm, by go_num, by go_num, HJ3⟩
          case measure => simp [intOf]; omega
        · have HJ3 := hide hJx3
          gi_wp2
          refine bodyPost_ret (results_none rfl _ _ _) rfl ?_
          exact ⟨⟨_, rfl⟩, .inr ⟨_, trivial, HJ3.out⟩⟩
    · obtain rfl : k = 4 := by omega
      gi_wp2
      go_end0
      exact ⟨⟨_, rfl⟩, .inl ⟨_, rfl, HJ.out⟩⟩
theorem places_stops (n : Nat) (hn : 1 ≤ n) (Bn n₀ q : Nat) (hq : q ≤ 12) (w : World) (hBn : Bn < w.heap.size) (hc : w.cell? ⟨Bn, 0, none⟩ = some (.int .i64 (8 * q))) :
    SeqStopsK Fence.wide n Tryz.prog 202 #[.pointer (some ⟨Bn, 0, none⟩)] (encP q) (Below n₀) (fun ys => ys = four4) (fun _ => True) 4 w := fun l J Jx W hW _ _ hY h0 =>
  places_in n l Bn n₀ q hq J Jx hn hY W ((hW.cell (p := ⟨Bn, 0, none⟩) hBn).trans hc) h0
end Go.Proofs.YtkhahbghmdccaaaGreatDoor.Em

namespace Go.Proofs.YtkhahbghmdccaaaGreatDoor.Em
open Go.RowKit Go.Shelf
attribute [local go_sem] Oper.semAt_some
theorem pos_lt {q i : Nat} (hq : q ≤ 12) (hi : i < 4) : pos q i < 16 := by unfold pos; split <;> omega
end Go.Proofs.YtkhahbghmdccaaaGreatDoor.Em
