/- The document's own BacksFault. -/
import Derived.Test.YtnhjabiciaoocaaDoorJPkF
import Derived.Test.YtnhjabiciaoocaaDoorPkD
import Derived.Below
import Derived.OpenShut
import Derived.Test.YtnhjabiciaoocaaDoorProg
import Derived.WalkKit
import Derived.LaidEql
import Derived.BigQuiet
import Derived.Laws.AppendOwnNone
import Derived.Laws.MakeOwn
import Derived.Deep.RegionLaw
import Derived.Lib.Bytes
import Derived.Deep.MidRow
import Derived.Laws.ResultCell
import Derived.Deep.CutBlock
import Derived.Deep.QuietTactic
import Derived.OwnWalk
import Derived.Deep.RegionHeld3
import Derived.Deep.DrawnRows
import Derived.Maps.AppendAt
import Derived.Laws.StructEq
namespace Go.Proofs.YtnhjabiciaoocaaDoor
open Go.RowKit
theorem sid_iff (bs : List (List Int)) (i : Nat) : sid bs i = false ↔ ∀ k, k < i → (el (bs.getD k []) 0 == el (bs.getD i []) 0) = false := by
  unfold sid
  rw [List.any_eq_false]
  constructor
  · intro h k hk
    simpa using h k (List.mem_range.2 hk)
  · intro h k hk
    simpa using h k (List.mem_range.1 hk)
theorem sid_yes {bs : List (List Int)} {i k : Nat} (hk : k < i) (h : (el (bs.getD k []) 0 == el (bs.getD i []) 0) = true) : sid bs i = true := by
  unfold sid
  rw [List.any_eq_true]
  exact ⟨k, List.mem_range.2 hk, h⟩
set_option maxRecDepth 100000 in
set_option maxHeartbeats 4000000 in
theorem rbf_any (a : Option Addr) (cap : Nat) (bs : List (List Int)) (w : World) (h : Bks a bs w) (hl : bs.length ≤ maxLen) :
    Calls Tryd.prog 14 #[.slice a bs.length cap] w fun e w' => e = .returned (.tuple #[.int .i64 (bf bs).1, .int .i64 (bf bs).2]) ∧ Below w.heap.size w w' := by
  have HH := hide h
  have hl' : (bs.length : Int) ≤ 9223372036854775807 := by unfold maxLen at hl; omega
  clear h hl
  by_cases h8 : 8 < bs.length
  · have HB := hide (show bf bs = (0, 3) by unfold bf; rw [if_pos h8])
    have j8 : (8 : Int) < (bs.length : Int) := by omega
    go_enter Tryd.func14, Tryd.ntmps14
    go_wp2
    go_ret2
    exact ⟨by rw [HB.out]; rfl, Below.refl _ _⟩
  · have HS := hide (fun i hi h1 h2 => bf_some (bs := bs) (i := i) h8 hi h1 h2)
    have HN := hide (fun h => bf_none (bs := bs) h8 h)
    have j8 : ¬ (8 : Int) < (bs.length : Int) := by omega
    have j9 : (bs.length : Int) ≤ 8 := by omega
    have n9 : bs.length ≤ 8 := by omega
    clear h8
    generalize bf bs = R at HS HN ⊢
    go_enter Tryd.func14, Tryd.ntmps14
    go_wp2
    go_loopw [4] (fun t wr => ∃ k : Nat, k ≤ bs.length ∧ t = .int .i64 k ∧ Hid (∀ j, j < k → (flt bs j != 0) = false) ∧ Hid (Below w.heap.size w wr)) (fun t _ => bs.length - (intOf t).toNat)
    case atStart => exact ⟨0, by omega, rfl, fun j h => absurd h (by omega), Below.refl _ _⟩
    case round =>
      obtain ⟨k, hk, rfl, HI, HW⟩ := hrel
      by_cases hlt : k < bs.length
      · obtain ⟨g, off, rfl, hgl, hrow⟩ := HH.out (by omega)
        have HR := hide (show ∀ W, Below w.heap.size w W → ∀ k, k < bs.length → W.rangeAt g (off + k * 6) (bkC (bs.getD k [])).toList from fun W hW k hk j u hu => by rw [hW.cell (p := ⟨g, off + k * 6 + j, none⟩) hgl]; exact hrow k hk j u hu)
        have j1 : (k : Int) < (bs.length : Int) := by omega
        have hr := HR.out wr HW.out k hlt
        have c0 := rng_id hr
        have c1 := rng_int hr 1 (by omega)
        have c2 := rng_int hr 2 (by omega)
        have c3 := rng_int hr 3 (by omega)
        have H0 := hide (fun W => word_any (el (bs.getD k []) 0) W)
        have H2 := hide (fun W => word_any (el (bs.getD k []) 2) W)
        have H1 := hide (fun W => four_any (el (bs.getD k []) 1) W)
        have HO := hide (show okb (bs.getD k []) = (wd (el (bs.getD k []) 0) && wd (el (bs.getD k []) 2) && fr (el (bs.getD k []) 1) && (decide (0 ≤ el (bs.getD k []) 3) && decide (el (bs.getD k []) 3 ≤ 10))) from rfl)
        have HT := hide (show flt bs k = if okb (bs.getD k []) = true then (if sid bs k = true then 8 else 0) else 1 from rfl)
        have HF := hide (HS.out k hlt)
        clear hrow hr
        generalize wd (el (bs.getD k []) 0) = p0 at H0 HO
        generalize wd (el (bs.getD k []) 2) = p2 at H2 HO
        generalize fr (el (bs.getD k []) 1) = p1 at H1 HO
        obtain ⟨x0, hx0⟩ : ∃ x, el (bs.getD k []) 0 = x := ⟨_, rfl⟩
        rw [hx0] at c0 H0
        have HX0 := hide hx0
        clear hx0
        generalize el (bs.getD k []) 2 = x2 at c2 H2
        generalize el (bs.getD k []) 1 = x1 at c1 H1
        generalize el (bs.getD k []) 3 = x3 at c3 HO
        generalize okb (bs.getD k []) = ok at HO HT
        go_upto_region 9 with (first
          | (go_at_call 11; (with_reducible refine (H0.out _).mono ?_); rintro e w1 ⟨rfl, hw⟩; rw [hw]; clear hw w1)
          | (go_at_call 11; refine (H2.out _).mono ?_; rintro e w1 ⟨rfl, hw⟩; rw [hw]; clear hw w1)
          | (go_at_call 13; refine (H1.out _).mono ?_; rintro e w1 ⟨rfl, hw⟩; rw [hw]; clear hw w1))
        clear c0 c1 c2 H0 H1 H2
        have hc : (ok = false ∧ (p0 = false ∨ (p0 = true ∧ p2 = false) ∨ (p0 = true ∧ p2 = true ∧ p1 = false) ∨ (p0 = true ∧ p2 = true ∧ p1 = true ∧ x3 < 0) ∨ (p0 = true ∧ p2 = true ∧ p1 = true ∧ ¬ x3 < 0 ∧ 10 < x3))) ∨ (ok = true ∧ p0 = true ∧ p2 = true ∧ p1 = true ∧ ¬ x3 < 0 ∧ ¬ 10 < x3) := by
          rw [HO.out]
          by_cases g1 : x3 < 0
          · rw [show decide (0 ≤ x3) = false from decide_eq_false (by omega)]
            cases p0 <;> cases p1 <;> cases p2 <;> simp [g1]
          · rw [show decide (0 ≤ x3) = true from decide_eq_true (by omega)]
            by_cases g2 : 10 < x3
            · rw [show decide (x3 ≤ 10) = false from decide_eq_false (by omega)]
              cases p0 <;> cases p1 <;> cases p2 <;> simp [g1, g2]
            · rw [show decide (x3 ≤ 10) = true from decide_eq_true (by omega)]
              cases p0 <;> cases p1 <;> cases p2 <;> simp [g1, g2]
        clear HO
        rcases hc with ⟨rfl, hc⟩ | ⟨rfl, rfl, rfl, rfl, g1, g2⟩
        · have HE := hide (show R = ((k : Int), 1) by rw [HF.out (by rw [HT.out]; rfl) HI.out, HT.out]; rfl)
          clear HF HT HI HS HN
          rcases hc with rfl | ⟨rfl, rfl⟩ | ⟨rfl, rfl, rfl⟩ | ⟨rfl, rfl, rfl, g1⟩ | ⟨rfl, rfl, rfl, g1, g2⟩
          all_goals
            go_wp2
            go_ret2
            exact ⟨by rw [HE.out]; rfl, HW.out⟩
        · go_wp2
          go_loopw [8] (fun t wx => ∃ q : Nat, q ≤ k ∧ t = .int .i64 q ∧ Hid (∀ j, j < q → (el (bs.getD j []) 0 == el (bs.getD k []) 0) = false) ∧ Hid (Below w.heap.size w wx)) (fun t _ => k - (intOf t).toNat)
          case atStart => exact ⟨0, by omega, rfl, fun j h => absurd h (by omega), HW⟩
          case round =>
            clear HW c3
            obtain ⟨q, hq, rfl, HQ, HW⟩ := hrel
            by_cases hql : q < k
            · have j2 : (q : Int) < (k : Int) := by omega
              have j3 : (q : Int) < (bs.length : Int) := by omega
              have HWd := hide (show Below w.heap.size w wr.drew from HW.out.drew)
              have HC := hide (And.intro (rng_id (HR.out _ HWd.out q (by omega))) (rng_id (HR.out _ HWd.out k hlt)))
              rw [HX0.out] at HC HQ
              obtain ⟨y, hy⟩ : ∃ y, el (bs.getD q []) 0 = y := ⟨_, rfl⟩
              rw [hy] at HC
              obtain ⟨c1, c2⟩ := HC.out
              have HY := hide hy
              clear hy
              go_upto_region 14 with fail
              go_region_held3 (fun W' => W'.cell? ⟨g, off + q * 6, none⟩ = some (.int .i64 y) ∧ W'.cell? ⟨g, off + k * 6, none⟩ = some (.int .i64 x0))
                (first
                  | exact HC.out
                  | go_keep)
                (fail)
              clear c1 c2 HC
              generalize wr.drew = wz at HWd ⊢
              cases he : y == x0
              · have HE := hide he
                go_wp2
                go_roundw
                case rel => exact ⟨q + 1, by omega, by go_num, fun j hj => if e : j = q then by rw [e, HY.out, HX0.out]; exact HE.out else by rw [HX0.out]; exact HQ.out j (by omega), HWd⟩
                case measure => simp [intOf]; omega
              · have HE := hide (show R = ((k : Int), 8) by
                  have hs := sid_yes (bs := bs) hql (by rw [HY.out, HX0.out]; exact he)
                  rw [HF.out (by rw [HT.out, hs]; rfl) HI.out, HT.out, hs]; rfl)
                go_wp2
                go_ret2
                exact ⟨by rw [HE.out]; rfl, HWd.out⟩
            · obtain rfl : k = q := by omega
              have HE := hide (show (flt bs k != 0) = false by rw [HT.out, (sid_iff bs k).2 HQ.out]; rfl)
              go_wp2
              go_roundw
              case rel => exact ⟨k + 1, by omega, by go_num, fun j hj => if e : j = k then by rw [e]; exact HE.out else HI.out j (by omega), HW⟩
              case measure => simp [intOf]; omega
      · obtain rfl : bs.length = k := by omega
        go_wp2
        go_ret2
        exact ⟨by rw [HN.out HI.out]; rfl, HW.out⟩
end Go.Proofs.YtnhjabiciaoocaaDoor
