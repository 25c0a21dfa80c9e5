/- TopFull: of numbers alone. -/
import Derived.Test.YtkhahbghmdccaaaGreatDoorF46
import Derived.Below
import Derived.OpenShut
import Derived.Test.YtkhahbghmdccaaaGreatDoorProg
import Derived.WalkKit
import Derived.LaidEql
import Derived.BigQuiet
import Derived.Laws.AppendOwnNone
import Derived.Laws.MakeOwn
import Derived.Deep.RegionLaw
import Derived.Lib.Bytes
import Derived.Deep.MidRow
import Derived.Laws.ResultCell
import Derived.Deep.CutBlock
import Derived.Deep.QuietTactic
import Derived.OwnWalk
import Derived.Deep.RegionHeld3
import Derived.Deep.DrawnRows
import Derived.Laws.StructEq
import Derived.Maps.AppendAt
import Derived.Maps.RangeWalk
import Derived.Stop.Asserts
import Derived.RowKitTokens
import Derived.Test.YtkhahbghmdccaaaGreatDoorShelf
import Derived.Shelf.Abstract
import Derived.Lib.SliceRun
import Derived.Lib.AppendZerosOnto
import Derived.Lib.AppendZeros
import Derived.Laws.CopyOwn
import Derived.RangeFuncNested
import Derived.RangeFuncBound
import Derived.RangeFuncCalls
import Derived.RangeFuncLeaves
import Derived.RangeFuncFrom
import Derived.Shelf.RegionOpen
import Derived.OwnWalkIn
import Derived.TacticsInMore
import Derived.LoopNIn
import Derived.LoopIn
import Derived.Deep.RegionWith
import Derived.ArgAppend
import Derived.Lib.SlBytesConst
import Derived.Lib.AppendStr
import Derived.Deep.Slices
import Derived.ChangeArms
import Derived.WideShapes
namespace Go.Proofs.YtkhahbghmdccaaaGreatDoor
open Go.RowKit
set_option linter.unusedVariables false
/-- the config, with so many blocks. -/
def cB (b : Int) : List Int := [1, 0, 0, 0, 0, 0, 0, 0, 80, 2, 0, 0, 0, 0, 0, 0, 0, 32, 9, 0, b]
/-- a client's flow. -/
def fF (i k : Int) : List Int := fl5 17 [3, i] k (vip c0) 80
/-- which ports are taken when so many clients, and so many ports of the next one, have come. -/
def TKF (D P i k q : Nat) : Prop := q % D < (if q / D < i then P else if q / D = i then k else 0)
theorem tk_cases {D P i k q : Nat} : TKF D P i k q ↔ (q / D < i ∧ q % D < P) ∨ (q / D = i ∧ q % D < k) := by
  unfold TKF
  by_cases h1 : q / D < i
  · rw [if_pos h1]
    omega
  · rw [if_neg h1]
    by_cases h2 : q / D = i
    · rw [if_pos h2]
      omega
    · rw [if_neg h2]
      omega
theorem tk_next {nd P i k q : Nat} (hn : nd = 1 ∨ nd = 2 ∨ nd = 3) (hP : P ≤ 8 * nd) (hk : k < P) : TKF (8 * nd) P i (k + 1) q ↔ TKF (8 * nd) P i k q ∨ q = 8 * nd * i + k := by
  rw [tk_cases, tk_cases]
  rcases hn with rfl | rfl | rfl <;> omega
theorem tk_end {D P i q : Nat} : TKF D P i P q ↔ TKF D P (i + 1) 0 q := by
  rw [tk_cases, tk_cases]
  omega
theorem tk_start {D P q : Nat} : ¬ TKF D P 0 0 q := by
  rw [tk_cases]
  rintro (⟨h, _⟩ | ⟨_, h⟩)
  · exact absurd h (Nat.not_lt_zero _)
  · exact absurd h (Nat.not_lt_zero _)
/-- the first port of a block that is taken. -/
theorem fo_form {nd P i k m b : Nat} (hn : nd = 1 ∨ nd = 2 ∨ nd = 3) (hP0 : 8 * nd < P + 8) (hP : P ≤ 8 * nd) (hk : k ≤ P) {ts : Nat → Bool} (ht : ∀ q, q < 8 * m → (ts q = true ↔ TKF (8 * nd) P i k q)) (hb : b < m) :
    (TKF (8 * nd) P i k (8 * b) → pofo ts b = some (8 * b)) ∧ (¬ TKF (8 * nd) P i k (8 * b) → pofo ts b = none) := by
  have hr : List.range' (8 * b) 8 = 8 * b :: List.range' (8 * b + 1) 7 := rfl
  refine ⟨fun h => ?_, fun h => ?_⟩
  · unfold pofo
    rw [hr, List.find?_cons_of_pos ((ht _ (by omega)).2 h)]
  · unfold pofo
    rw [List.find?_eq_none]
    intro q hq
    rw [List.mem_range'_1] at hq
    intro hq2
    have := (ht q (by omega)).1 hq2
    rw [tk_cases] at this h
    apply h
    rcases hn with rfl | rfl | rfl <;> omega
/-- who is given a port, and which. -/
theorem tk_at {nd P i k m : Nat} (hn : nd = 1 ∨ nd = 2 ∨ nd = 3) (hP0 : 8 * nd < P + 8) (hP : P ≤ 8 * nd) (hk : k < P) {ws : Nat → List Int} {ts : Nat → Bool} (ht : ∀ q, q < 8 * m → (ts q = true ↔ TKF (8 * nd) P i k q)) {z : List Int} (hw : ∀ q, q < 8 * m → ts q = true → (eqz (ws q) z = true ↔ q / (8 * nd) = i)) :
    tk ws ts z (8 * m) = if 8 * nd * i + k < 8 * m then some (8 * nd * i + k) else none := by
  have hf0 : ∀ q, q < 8 * m → (f0 ws ts z q = true ↔ (¬ TKF (8 * nd) P i k q ∧ TKF (8 * nd) P i k (8 * (q / 8)) ∧ 8 * (q / 8) / (8 * nd) = i)) := fun q hq => by
    have hb : q / 8 < m := by omega
    obtain ⟨hy, hno⟩ := fo_form hn hP0 hP (Nat.le_of_lt hk) ht hb
    unfold f0 om
    rw [Bool.and_eq_true]
    have e1 : (!ts q) = true ↔ ¬ TKF (8 * nd) P i k q := by
      rw [← ht q hq]
      cases ts q <;> simp
    rw [e1]
    by_cases h : TKF (8 * nd) P i k (8 * (q / 8))
    · rw [hy h]
      show _ ∧ eqz (ws (8 * (q / 8))) z = true ↔ _
      rw [hw _ (by omega) ((ht _ (by omega)).2 h)]
      exact ⟨fun q => ⟨q.1, h, q.2⟩, fun q => ⟨q.1, q.2.2⟩⟩
    · rw [hno h]
      show _ ∧ false = true ↔ _
      exact ⟨(fun q => by cases q.2), fun q => absurd q.2.1 h⟩
  have hf1 : ∀ q, q < 8 * m → (f1 ts q = true ↔ (¬ TKF (8 * nd) P i k q ∧ ¬ TKF (8 * nd) P i k (8 * (q / 8)))) := fun q hq => by
    have hb : q / 8 < m := by omega
    obtain ⟨hy, hno⟩ := fo_form hn hP0 hP (Nat.le_of_lt hk) ht hb
    unfold f1
    rw [Bool.and_eq_true]
    have e1 : (!ts q) = true ↔ ¬ TKF (8 * nd) P i k q := by
      rw [← ht q hq]
      cases ts q <;> simp
    rw [e1]
    by_cases h : TKF (8 * nd) P i k (8 * (q / 8))
    · rw [hy h]
      exact ⟨(fun q => by cases q.2), fun q => absurd h q.2⟩
    · rw [hno h]
      exact ⟨fun q => ⟨q.1, h⟩, fun q => ⟨q.1, rfl⟩⟩
  have ff : ∀ {f : Nat → Bool} {q : Nat}, ¬ f q = true → f q = false := fun h => by simpa using h
  by_cases hlt : 8 * nd * i + k < 8 * m
  · rw [if_pos hlt]
    unfold tk
    by_cases h8 : k % 8 = 0
    · have e0 : (List.range (8 * m)).find? (f0 ws ts z) = none := find_none fun q hq => ff (by
        rw [hf0 q hq, tk_cases, tk_cases]
        rcases hn with rfl | rfl | rfl <;> omega)
      have e1 : (List.range (8 * m)).find? (f1 ts) = some (8 * nd * i + k) := find_some hlt ((hf1 _ hlt).2 (by
        rw [tk_cases, tk_cases]
        rcases hn with rfl | rfl | rfl <;> omega)) fun q hq => ff (by
        rw [hf1 q (by omega), tk_cases, tk_cases]
        rcases hn with rfl | rfl | rfl <;> omega)
      rw [e0, e1]
      rfl
    · have e0 : (List.range (8 * m)).find? (f0 ws ts z) = some (8 * nd * i + k) := find_some hlt ((hf0 _ hlt).2 (by
        rw [tk_cases, tk_cases]
        rcases hn with rfl | rfl | rfl <;> omega)) fun q hq => ff (by
        rw [hf0 q (by omega), tk_cases, tk_cases]
        rcases hn with rfl | rfl | rfl <;> omega)
      rw [e0]
      rfl
  · rw [if_neg hlt]
    unfold tk
    have e0 : (List.range (8 * m)).find? (f0 ws ts z) = none := find_none fun q hq => ff (by
      rw [hf0 q hq, tk_cases, tk_cases]
      rcases hn with rfl | rfl | rfl <;> omega)
    have e1 : (List.range (8 * m)).find? (f1 ts) = none := find_none fun q hq => ff (by
      rw [hf1 q hq, tk_cases, tk_cases]
      rcases hn with rfl | rfl | rfl <;> omega)
    rw [e0, e1]
    rfl
/-- the gate when so many clients, and so many ports of the next one, have come. -/
def FI (b : Int) (m nd P : Nat) (T : Int) (cl i k : Nat) (gv : Nat) (g : GS) : Prop :=
  IG g ∧ (g.c = cB b ∧ g.inj = true ∧ g.bk = bk0 ∧ g.m = m ∧ g.now = T) ∧ (∀ q, q < 8 * m → (g.ts q = true ↔ TKF (8 * nd) P i k q)) ∧ (∀ q, q < 8 * m → g.ts q = true → sixC (g.ws q) = sixC [3, ((q / (8 * nd) : Nat) : Int)]) ∧
  (∀ x ∈ g.bs, (∃ j p : Nat, (j < i ∨ (j = i ∧ p < k)) ∧ flC x = flC (fF j p)) ∧ el x 22 = T) ∧ g.bs.length = gv ∧ (nd * cl ≤ m → gv = i * P + k)
theorem fF_inj {i k j p : Nat} (h : flC (fF j p) = flC (fF i k)) : j = i ∧ p = k := by
  have e := (eqf_iff _ _).2 h
  unfold eqf at e
  simp only [Bool.and_eq_true, beq_iff_eq] at e
  have e9 : ((p : Nat) : Int) = k := e.1.1.2
  have e1 : ((j : Nat) : Int) = i := ((eqz_iff _ _).1 e.1.1.1.2) 1 (by omega)
  omega
theorem fF_ok {i k : Nat} (hi : i < 20) (hk : k < 20) : okf (fF i k) = true := by
  have hz : Okg [17, (k : Int), 80, 0, 0, 0, 0] 0 := ⟨⟨(by show (0 : Int) ≤ k; omega), (by show (k : Int) ≤ 65535; omega)⟩, ⟨(by decide : (0 : Int) ≤ 80), (by decide : (80 : Int) ≤ 65535)⟩, Nat.zero_le _, .inr ⟨rfl, rfl, rfl, rfl, rfl⟩⟩
  refine fl5_ok (z := [17, (k : Int), 80, 0, 0, 0, 0]) (s := [3, (i : Int)]) (d := vip c0) hz (fun j hj => ?_) (fun j hj => ?_)
  · rcases (by omega : j = 0 ∨ j = 1 ∨ j = 2 ∨ j = 3 ∨ j = 4 ∨ j = 5 ∨ j = 6 ∨ j = 7) with rfl | rfl | rfl | rfl | rfl | rfl | rfl | rfl
    · exact ⟨(by show (0 : Int) ≤ 3; decide), (by show (3 : Int) ≤ 65535; decide)⟩
    · exact ⟨(by show (0 : Int) ≤ i; omega), (by show (i : Int) ≤ 65535; omega)⟩
    all_goals exact ⟨(by show (0 : Int) ≤ 0; decide), (by show (0 : Int) ≤ 65535; decide)⟩
  · rcases (by omega : j = 0 ∨ j = 1 ∨ j = 2 ∨ j = 3 ∨ j = 4 ∨ j = 5 ∨ j = 6 ∨ j = 7) with rfl | rfl | rfl | rfl | rfl | rfl | rfl | rfl <;> exact ⟨by decide, by decide⟩
theorem pko_b {f : List Int} (h : okf f = true) : pko 0 f bk0 = ([1, 5, 8080, 1, 1, 0], 0) := by
  have hs : sok 0 f 0 = true := by
    unfold sok
    rw [h]
    decide
  unfold pko
  rw [if_pos (show (bf bk0).2 = 0 by decide), if_pos hs]
  rfl
theorem six_eqz {a b : List Int} (h : sixC a = sixC b) (z : List Int) : eqz a z = eqz b z := by
  have h0 : ∀ j, j < 8 → el a j = el b j := fun j hj => by
    have e := congrArg (fun x => x[j]?) h
    unfold sixC at e
    rcases (by omega : j = 0 ∨ j = 1 ∨ j = 2 ∨ j = 3 ∨ j = 4 ∨ j = 5 ∨ j = 6 ∨ j = 7) with rfl | rfl | rfl | rfl | rfl | rfl | rfl | rfl <;> simpa using e
  unfold eqz
  rw [h0 0 (by omega), h0 1 (by omega), h0 2 (by omega), h0 3 (by omega), h0 4 (by omega), h0 5 (by omega), h0 6 (by omega), h0 7 (by omega)]
/-- a client's packet at that gate. -/
theorem FI.step {b : Int} {m nd P : Nat} {T : Int} {cl i k gv : Nat} {g : GS} (h : FI b m nd P T cl i k gv g) (hn : nd = 1 ∨ nd = 2 ∨ nd = 3) (hP0 : 8 * nd < P + 8) (hP : P ≤ 8 * nd) (hP20 : P ≤ 20) (hk : k < P) (hi : i < cl) (hc : cl ≤ 20) (hm : m ≤ 16) :
    ((g6 g (p6o [3, (i : Int)] (vip c0) 9 [17, (k : Int), 80, 0, 0, 0, 0] [])).1 = 0 ∧ FI b m nd P T cl i (k + 1) (gv + 1) (g6 g (p6o [3, (i : Int)] (vip c0) 9 [17, (k : Int), 80, 0, 0, 0, 0] [])).2.2) ∨
    ((g6 g (p6o [3, (i : Int)] (vip c0) 9 [17, (k : Int), 80, 0, 0, 0, 0] [])).1 = 3 ∧ FI b m nd P T cl i (k + 1) gv (g6 g (p6o [3, (i : Int)] (vip c0) 9 [17, (k : Int), 80, 0, 0, 0, 0] [])).2.2) := by
  have hok : okf (fF i k) = true := fF_ok (by omega) (by omega)
  have hz : Okg [17, (k : Int), 80, 0, 0, 0, 0] ([] : List Int).length := ⟨⟨(by show (0 : Int) ≤ k; omega), (by show (k : Int) ≤ 65535; omega)⟩, ⟨(by decide : (0 : Int) ≤ 80), (by decide : (80 : Int) ≤ 65535)⟩, Nat.zero_le _, .inr ⟨rfl, rfl, rfl, rfl, rfl⟩⟩
  have hs : Ok6 [3, (i : Int)] := fun j hj => by
    rcases (by omega : j = 0 ∨ j = 1 ∨ j = 2 ∨ j = 3 ∨ j = 4 ∨ j = 5 ∨ j = 6 ∨ j = 7) with rfl | rfl | rfl | rfl | rfl | rfl | rfl | rfl
    · exact ⟨(by show (0 : Int) ≤ 3; decide), (by show (3 : Int) ≤ 65535; decide)⟩
    · exact ⟨(by show (0 : Int) ≤ i; omega), (by show (i : Int) ≤ 65535; omega)⟩
    all_goals exact ⟨(by show (0 : Int) ≤ 0; decide), (by show (0 : Int) ≤ 65535; decide)⟩
  have hv : Ok6 (vip c0) := fun j hj => by rcases (by omega : j = 0 ∨ j = 1 ∨ j = 2 ∨ j = 3 ∨ j = 4 ∨ j = 5 ∨ j = 6 ∨ j = 7) with rfl | rfl | rfl | rfl | rfl | rfl | rfl | rfl <;> exact ⟨by decide, by decide⟩
  have hig := (g6_ig h.1 (p6o_oct (s := [3, (i : Int)]) (d := vip c0) (t := 9) (z := [17, (k : Int), 80, 0, 0, 0, 0]) (D := []) hs hv (by decide) hz SM.oct_nil)).1
  have hg := g6_p6o g hs hv (by decide : up 255 9 = true) hz
  rw [if_neg (by decide)] at hg
  replace hg : g6 g (p6o [3, (i : Int)] (vip c0) 9 [17, (k : Int), 80, 0, 0, 0, 0] []) = g6s g (fF i k) 9 [17, (k : Int), 80, 0, 0, 0, 0] [] := hg
  obtain ⟨_, ⟨e1, e2, e3, e4, e5⟩, hts, hws, hbs, hlen, hgv⟩ := h
  have hnone : fnd g.bs (fF i k) = none := by
    unfold fnd
    rw [List.find?_eq_none]
    intro j hj
    rw [List.mem_range] at hj
    intro hq
    obtain ⟨⟨j', p, hlt, hfl⟩, _⟩ := hbs _ (mem_getD hj)
    have := fF_inj (hfl.symm.trans ((eqf_iff _ _).1 hq))
    omega
  have hw : whr g (fF i k) (true, 0) = (5, 8080, 0) := by
    unfold whr
    rw [if_pos rfl, e1, e3]
    show (el (pko 0 (fF i k) bk0).1 1, el (pko 0 (fF i k) bk0).1 2, (pko 0 (fF i k) bk0).2) = _
    rw [pko_b hok]
    rfl
  have hl : ldo (cB b) (fF i k) = (0, true, 0) := if_pos ⟨rfl, rfl⟩
  have htl : ∀ x, el x 0 = 17 → tell (cB b) true x = false := fun x e => by
    unfold tell
    rw [e]
    rfl
  have htk := tk_at hn hP0 hP hk (i := i) (m := m) (ws := g.ws) (ts := g.ts) hts (z := cli (fF i k)) (fun q hq ht => by
    rw [six_eqz (hws q hq ht), eqz_iff]
    refine ⟨fun h => ?_, fun h j hj => ?_⟩
    · have := h 1 (by omega)
      have h' : ((q / (8 * nd) : Nat) : Int) = (i : Int) := this
      omega
    · rcases (by omega : j = 0 ∨ j = 1 ∨ j = 2 ∨ j = 3 ∨ j = 4 ∨ j = 5 ∨ j = 6 ∨ j = 7) with rfl | rfl | rfl | rfl | rfl | rfl | rfl | rfl
      · rfl
      · show ((q / (8 * nd) : Nat) : Int) = (i : Int)
        omega
      all_goals rfl)
  have hb0 := bdo_none (flags := 0) (wr := (5, 8080, 0)) hnone
  rw [if_neg (fun q => absurd q.1 (by show ¬ (17 : Int) = 6; decide)), if_neg (by simp), e4, htk] at hb0
  have hform : g6s g (fF i k) 9 [17, (k : Int), 80, 0, 0, 0, 0] [] = if (bdo g (fF i k) 0 (5, 8080, 0)).1 ≠ 0 then ((bdo g (fF i k) 0 (5, 8080, 0)).1, [], (bdo g (fF i k) 0 (5, 8080, 0)).2.2) else g6b (bdo g (fF i k) 0 (5, 8080, 0)).2.2 (bdo g (fF i k) 0 (5, 8080, 0)).2.1 9 [17, (k : Int), 80, 0, 0, 0, 0] [] := by
    unfold g6s
    rw [e1, e2, hl]
    dsimp only
    rw [if_neg (by simp), htl (fF i k) rfl, if_neg (by simp), hw]
    rfl
  by_cases hlt : 8 * nd * i + k < 8 * m
  · left
    rw [if_pos hlt] at hb0
    dsimp only at hb0
    generalize hX : mkb (fF i k) (1024 + ((8 * nd * i + k : Nat) : Int)) 5 8080 g.now = X at hb0
    have hXf : flC X = flC (fF i k) := by rw [← hX]; rfl
    have hX0 : el X 0 = 17 := by rw [← hX]; rfl
    have hX22 : el X 22 = T := by rw [← hX, ← e5]; rfl
    have hq : ∀ (G : GS) (x : List Int), G.c = cB b → G.inj = true → el x 0 = 17 → guo G x [17, (k : Int), 80, 0, 0, 0, 0] [] = (0, [17, (k : Int), 80, 0, 0, 0, 0], [], G) := fun G x q1 q2 q3 => by
      unfold guo
      rw [q1, q2, htl x q3, if_neg (by simp)]
    have hst : (g6 g (p6o [3, (i : Int)] (vip c0) 9 [17, (k : Int), 80, 0, 0, 0, 0] [])).1 = 0 ∧ (g6 g (p6o [3, (i : Int)] (vip c0) 9 [17, (k : Int), 80, 0, 0, 0, 0] [])).2.2 = g.tab (upd g.ws (8 * nd * i + k) (cli (fF i k))) (upd g.ts (8 * nd * i + k) true) (ins X g.bs) := by
      rw [hg, hform, hb0]
      dsimp only
      rw [if_neg (by simp)]
      unfold g6b
      rw [hq _ X (by exact e1) (by exact e2) hX0]
      dsimp only
      rw [if_neg (by simp)]
      exact ⟨rfl, rfl⟩
    refine ⟨hst.1, ?_⟩
    rw [hst.2] at hig ⊢
    refine ⟨hig, ⟨e1, e2, e3, e4, e5⟩, fun q hq' => ?_, fun q hq' ht => ?_, fun x hx => ?_, ?_, fun hfit => ?_⟩
    · show upd g.ts (8 * nd * i + k) true q = true ↔ _
      rw [tk_next hn hP hk]
      unfold upd
      by_cases e : q = 8 * nd * i + k
      · rw [if_pos e]
        exact ⟨fun _ => .inr e, fun _ => rfl⟩
      · rw [if_neg e, hts q hq']
        exact ⟨.inl, fun h => h.elim id (fun h => absurd h e)⟩
    · show sixC (upd g.ws (8 * nd * i + k) (cli (fF i k)) q) = _
      unfold upd
      by_cases e : q = 8 * nd * i + k
      · rw [if_pos e]
        have : q / (8 * nd) = i := by rcases hn with rfl | rfl | rfl <;> omega
        rw [this]
        rfl
      · rw [if_neg e]
        have ht' : upd g.ts (8 * nd * i + k) true q = true := ht
        unfold upd at ht'
        rw [if_neg e] at ht'
        exact hws q hq' ht'
    · rcases ins_mem (show x ∈ ins X g.bs from hx) with rfl | hx
      · exact ⟨⟨i, k, .inr ⟨rfl, by omega⟩, hXf⟩, hX22⟩
      · obtain ⟨⟨j, p, q1, q2⟩, q3⟩ := hbs x hx
        exact ⟨⟨j, p, by omega, q2⟩, q3⟩
    · show (ins X g.bs).length = gv + 1
      rw [(ins_perm X g.bs).length_eq, List.length_cons, hlen]
    · have := hgv hfit
      omega
  · right
    rw [if_neg hlt] at hb0
    dsimp only at hb0
    have hst : g6 g (p6o [3, (i : Int)] (vip c0) 9 [17, (k : Int), 80, 0, 0, 0, 0] []) = (3, [], g) := by
      rw [hg, hform, hb0]
      dsimp only
      rw [if_pos (by decide)]
    rw [hst] at hig ⊢
    refine ⟨rfl, hig, ⟨e1, e2, e3, e4, e5⟩, fun q hq' => ?_, hws, fun x hx => ?_, hlen, fun hfit => ?_⟩
    · rw [tk_next hn hP hk, hts q hq']
      exact ⟨.inl, fun h => h.elim id (fun h => by omega)⟩
    · obtain ⟨⟨j, p, q1, q2⟩, q3⟩ := hbs x hx
      exact ⟨⟨j, p, by omega, q2⟩, q3⟩
    · exfalso
      apply hlt
      rcases hn with rfl | rfl | rfl <;> omega
theorem FI.next {b : Int} {m nd P : Nat} {T : Int} {cl i gv : Nat} {g : GS} (h : FI b m nd P T cl i P gv g) : FI b m nd P T cl (i + 1) 0 gv g := by
  obtain ⟨h1, h2, hts, hws, hbs, hlen, hgv⟩ := h
  refine ⟨h1, h2, fun q hq => ?_, hws, fun x hx => ?_, hlen, fun hf => ?_⟩
  · rw [hts q hq, tk_end]
  · obtain ⟨⟨j, p, q1, q2⟩, q3⟩ := hbs x hx
    exact ⟨⟨j, p, by omega, q2⟩, q3⟩
  · rw [hgv hf, Nat.succ_mul]
    rfl
/-- all are free again. -/
theorem FI.tick {b : Int} {m nd P : Nat} {T : Int} {cl i k gv : Nat} {g : GS} (h : FI b m nd P T cl i k gv g) (hT : 0 ≤ T ∧ T ≤ 30) : (gtk g 30).1 = 0 ∧ (gtk g 30).2.bs = [] ∧ FI b m nd P (T + 30) cl 0 0 0 (gtk g 30).2 := by
  have hig := gtk_ig h.1 30
  obtain ⟨_, ⟨e1, e2, e3, e4, e5⟩, hts, hws, hbs, hlen, hgv⟩ := h
  have hc : 0 ≤ (30 : Int) ∧ (30 : Int) ≤ 1000 ∧ g.now + 30 ≤ 1099511627776 := ⟨by decide, by decide, by rw [e5]; omega⟩
  have hform : gtk g 30 = (0, ((g.tab g.ws (es (g.now + 30) g.bs g.ts g.bs.length).2.2 (es (g.now + 30) g.bs g.ts g.bs.length).2.1).tic (g.now + 30)).str (sgo (es (g.now + 30) g.bs g.ts g.bs.length).1 g.ss)) := if_pos hc
  obtain ⟨_, q2, _⟩ := es_form (g.now + 30) g.bs g.ts g.bs.length (Nat.le_refl _)
  rw [List.take_length] at q2
  have hnil : (gtk g 30).2.bs = [] := by
    rw [hform]
    show (es (g.now + 30) g.bs g.ts g.bs.length).2.1 = []
    rw [q2, List.filter_eq_nil_iff]
    intro x hx
    obtain ⟨⟨j, p, _, hfl⟩, h22⟩ := hbs x hx
    have h0 : el x 0 = 17 := by
      have e := (eqf_iff _ _).2 hfl
      unfold eqf at e
      simp only [Bool.and_eq_true, beq_iff_eq] at e
      exact e.1.1.1.1
    have : xp (g.now + 30) x = true := by
      unfold xp
      rw [h0, h22, e5, show (T + 30 - T) = 30 by omega]
      rfl
    rw [this]
    decide
  have hfree : ∀ q, q < 8 * m → ¬ (gtk g 30).2.ts q = true := fun q hq ht => by
    have hm' : (gtk g 30).2.m = m := by rw [hform]; exact e4
    obtain ⟨x, hx, _⟩ := hig.1.2.2.1.2.2.2 q (by rw [hm']; exact hq) ht
    rw [hnil] at hx
    exact absurd hx (by simp)
  refine ⟨by rw [hform], hnil, hig, ⟨by rw [hform]; exact e1, by rw [hform]; exact e2, by rw [hform]; exact e3, by rw [hform]; exact e4, by rw [hform]; show g.now + 30 = _; rw [e5]⟩, fun q hq => ?_, fun q hq ht => absurd ht (hfree q hq), fun x hx => ?_, by rw [hnil]; rfl, fun _ => by omega⟩
  · exact ⟨fun h => absurd h (hfree q hq), fun h => absurd h tk_start⟩
  · rw [hnil] at hx
    exact absurd hx (by simp)
theorem FI.zero (b : Int) (m nd P cl : Nat) (hig : IG (gz0 (cB b) true bk0 m)) : FI b m nd P 0 cl 0 0 0 (gz0 (cB b) true bk0 m) :=
  ⟨hig, ⟨rfl, rfl, rfl, rfl, rfl⟩, fun q _ => ⟨(fun h => by cases h), fun h => absurd h tk_start⟩, (fun q _ h => by cases h), (fun x hx => absurd hx (by simp [gz0, GS.bs])), rfl, fun _ => by omega⟩
theorem FI.most {b : Int} {m nd P : Nat} {T : Int} {cl i k gv : Nat} {g : GS} (h : FI b m nd P T cl i k gv g) : gv ≤ 8 * m := by
  have := h.1.1.2.2.1.len
  rw [h.2.2.2.2.2.1, h.2.1.2.2.2.1] at this
  exact this
end Go.Proofs.YtkhahbghmdccaaaGreatDoor
