/- The document's own BacksFault. A server's score for a flow; the document's own ScoreOf. -/
import Derived.Test.YtkhahbghmdccaaaGreatK22
import Derived.Below
import Derived.OpenShut
import Derived.Test.YtkhahbghmdccaaaGreatProg
import Derived.WalkKit
import Derived.LaidEql
import Derived.BigQuiet
import Derived.Laws.AppendOwnNone
import Derived.Laws.MakeOwn
import Derived.Deep.RegionLaw
import Derived.Lib.Bytes
import Derived.Deep.MidRow
import Derived.Laws.ResultCell
import Derived.Deep.CutBlock
import Derived.Deep.QuietTactic
import Derived.OwnWalk
import Derived.Deep.RegionHeld3
import Derived.Deep.DrawnRows
import Derived.Maps.AppendAt
import Derived.Laws.StructEq
namespace Go.Proofs.YtkhahbghmdccaaaGreat
open Go.RowKit
theorem sid_iff (bs : List (List Int)) (i : Nat) : sid bs i = false ↔ ∀ k, k < i → (el (bs.getD k []) 0 == el (bs.getD i []) 0) = false := by
  unfold sid
  rw [List.any_eq_false]
  constructor
  · intro h k hk
    simpa using h k (List.mem_range.2 hk)
  · intro h k hk
    simpa using h k (List.mem_range.1 hk)
theorem sid_yes {bs : List (List Int)} {i k : Nat} (hk : k < i) (h : (el (bs.getD k []) 0 == el (bs.getD i []) 0) = true) : sid bs i = true := by
  unfold sid
  rw [List.any_eq_true]
  exact ⟨k, List.mem_range.2 hk, h⟩
set_option maxRecDepth 100000 in
set_option maxHeartbeats 4000000 in
theorem rbf_any (a : Option Addr) (cap : Nat) (bs : List (List Int)) (w : World) (h : Bks a bs w) (hl : bs.length ≤ maxLen) :
    Calls Tryz.prog 130 #[.slice a bs.length cap] w fun e w' => e = .returned (.tuple #[.int .i64 (bf bs).1, .int .i64 (bf bs).2]) ∧ Below w.heap.size w w' := by
  have HH := hide h
  have hl' : (bs.length : Int) ≤ 9223372036854775807 := by unfold maxLen at hl; omega
  clear h hl
  by_cases h8 : 8 < bs.length
  · have HB := hide (show bf bs = (0, 3) by unfold bf; rw [if_pos h8])
    have j8 : (8 : Int) < (bs.length : Int) := by omega
    go_enter Tryz.func130, Tryz.ntmps130
    go_wp2
    go_ret2
    exact ⟨by rw [HB.out]; rfl, Below.refl _ _⟩
  · have HS := hide (fun i hi h1 h2 => bf_some (bs := bs) (i := i) h8 hi h1 h2)
    have HN := hide (fun h => bf_none (bs := bs) h8 h)
    have j8 : ¬ (8 : Int) < (bs.length : Int) := by omega
    have j9 : (bs.length : Int) ≤ 8 := by omega
    have n9 : bs.length ≤ 8 := by omega
    clear h8
    generalize bf bs = R at HS HN ⊢
    go_enter Tryz.func130, Tryz.ntmps130
    go_wp2
    go_loopw [4] (fun t wr => ∃ k : Nat, k ≤ bs.length ∧ t = .int .i64 k ∧ Hid (∀ j, j < k → (flt bs j != 0) = false) ∧ Hid (Below w.heap.size w wr)) (fun t _ => bs.length - (intOf t).toNat)
    case atStart => exact ⟨0, by omega, rfl, fun j h => absurd h (by omega), Below.refl _ _⟩
    case round =>
      obtain ⟨k, hk, rfl, HI, HW⟩ := hrel
      by_cases hlt : k < bs.length
      · obtain ⟨g, off, rfl, hgl, hrow⟩ := HH.out (by omega)
        have HR := hide (show ∀ W, Below w.heap.size w W → ∀ k, k < bs.length → W.rangeAt g (off + k * 6) (bkC (bs.getD k [])).toList from fun W hW k hk j u hu => by rw [hW.cell (p := ⟨g, off + k * 6 + j, none⟩) hgl]; exact hrow k hk j u hu)
        have j1 : (k : Int) < (bs.length : Int) := by omega
        have hr := HR.out wr HW.out k hlt
        have c0 := rng_id hr
        have c1 := rng_int hr 1 (by omega)
        have c2 := rng_int hr 2 (by omega)
        have c3 := rng_int hr 3 (by omega)
        have H0 := hide (fun W => word_any (el (bs.getD k []) 0) W)
        have H2 := hide (fun W => word_any (el (bs.getD k []) 2) W)
        have H1 := hide (fun W => four_any (el (bs.getD k []) 1) W)
        have HO := hide (show okb (bs.getD k []) = (wd (el (bs.getD k []) 0) && wd (el (bs.getD k []) 2) && fr (el (bs.getD k []) 1) && (decide (0 ≤ el (bs.getD k []) 3) && decide (el (bs.getD k []) 3 ≤ 10))) from rfl)
        have HT := hide (show flt bs k = if okb (bs.getD k []) = true then (if sid bs k = true then 8 else 0) else 1 from rfl)
        have HF := hide (HS.out k hlt)
        clear hrow hr
        generalize wd (el (bs.getD k []) 0) = p0 at H0 HO
        generalize wd (el (bs.getD k []) 2) = p2 at H2 HO
        generalize fr (el (bs.getD k []) 1) = p1 at H1 HO
        obtain ⟨x0, hx0⟩ : ∃ x, el (bs.getD k []) 0 = x := ⟨_, rfl⟩
        rw [hx0] at c0 H0
        have HX0 := hide hx0
        clear hx0
        generalize el (bs.getD k []) 2 = x2 at c2 H2
        generalize el (bs.getD k []) 1 = x1 at c1 H1
        generalize el (bs.getD k []) 3 = x3 at c3 HO
        generalize okb (bs.getD k []) = ok at HO HT
        go_upto_region 9 with (first
          | (go_at_call 103; (with_reducible refine (H0.out _).mono ?_); rintro e w1 ⟨rfl, hw⟩; rw [hw]; clear hw w1)
          | (go_at_call 103; refine (H2.out _).mono ?_; rintro e w1 ⟨rfl, hw⟩; rw [hw]; clear hw w1)
          | (go_at_call 117; refine (H1.out _).mono ?_; rintro e w1 ⟨rfl, hw⟩; rw [hw]; clear hw w1))
        clear c0 c1 c2 H0 H1 H2
        have hc : (ok = false ∧ (p0 = false ∨ (p0 = true ∧ p2 = false) ∨ (p0 = true ∧ p2 = true ∧ p1 = false) ∨ (p0 = true ∧ p2 = true ∧ p1 = true ∧ x3 < 0) ∨ (p0 = true ∧ p2 = true ∧ p1 = true ∧ ¬ x3 < 0 ∧ 10 < x3))) ∨ (ok = true ∧ p0 = true ∧ p2 = true ∧ p1 = true ∧ ¬ x3 < 0 ∧ ¬ 10 < x3) := by
          rw [HO.out]
          by_cases g1 : x3 < 0
          · rw [show decide (0 ≤ x3) = false from decide_eq_false (by omega)]
            cases p0 <;> cases p1 <;> cases p2 <;> simp [g1]
          · rw [show decide (0 ≤ x3) = true from decide_eq_true (by omega)]
            by_cases g2 : 10 < x3
            · rw [show decide (x3 ≤ 10) = false from decide_eq_false (by omega)]
              cases p0 <;> cases p1 <;> cases p2 <;> simp [g1, g2]
            · rw [show decide (x3 ≤ 10) = true from decide_eq_true (by omega)]
              cases p0 <;> cases p1 <;> cases p2 <;> simp [g1, g2]
        clear HO
        rcases hc with ⟨rfl, hc⟩ | ⟨rfl, rfl, rfl, rfl, g1, g2⟩
        · have HE := hide (show R = ((k : Int), 1) by rw [HF.out (by rw [HT.out]; rfl) HI.out, HT.out]; rfl)
          clear HF HT HI HS HN
          rcases hc with rfl | ⟨rfl, rfl⟩ | ⟨rfl, rfl, rfl⟩ | ⟨rfl, rfl, rfl, g1⟩ | ⟨rfl, rfl, rfl, g1, g2⟩
          all_goals
            go_wp2
            go_ret2
            exact ⟨by rw [HE.out]; rfl, HW.out⟩
        · go_wp2
          go_loopw [8] (fun t wx => ∃ q : Nat, q ≤ k ∧ t = .int .i64 q ∧ Hid (∀ j, j < q → (el (bs.getD j []) 0 == el (bs.getD k []) 0) = false) ∧ Hid (Below w.heap.size w wx)) (fun t _ => k - (intOf t).toNat)
          case atStart => exact ⟨0, by omega, rfl, fun j h => absurd h (by omega), HW⟩
          case round =>
            clear HW c3
            obtain ⟨q, hq, rfl, HQ, HW⟩ := hrel
            by_cases hql : q < k
            · have j2 : (q : Int) < (k : Int) := by omega
              have j3 : (q : Int) < (bs.length : Int) := by omega
              have HWd := hide (show Below w.heap.size w wr.drew from HW.out.drew)
              have HC := hide (And.intro (rng_id (HR.out _ HWd.out q (by omega))) (rng_id (HR.out _ HWd.out k hlt)))
              rw [HX0.out] at HC HQ
              obtain ⟨y, hy⟩ : ∃ y, el (bs.getD q []) 0 = y := ⟨_, rfl⟩
              rw [hy] at HC
              obtain ⟨c1, c2⟩ := HC.out
              have HY := hide hy
              clear hy
              go_upto_region 14 with fail
              go_region_held3 (fun W' => W'.cell? ⟨g, off + q * 6, none⟩ = some (.int .i64 y) ∧ W'.cell? ⟨g, off + k * 6, none⟩ = some (.int .i64 x0))
                (first
                  | exact HC.out
                  | go_keep)
                (fail)
              clear c1 c2 HC
              generalize wr.drew = wz at HWd ⊢
              cases he : y == x0
              · have HE := hide he
                go_wp2
                go_roundw
                case rel => exact ⟨q + 1, by omega, by go_num, fun j hj => if e : j = q then by rw [e, HY.out, HX0.out]; exact HE.out else by rw [HX0.out]; exact HQ.out j (by omega), HWd⟩
                case measure => simp [intOf]; omega
              · have HE := hide (show R = ((k : Int), 8) by
                  have hs := sid_yes (bs := bs) hql (by rw [HY.out, HX0.out]; exact he)
                  rw [HF.out (by rw [HT.out, hs]; rfl) HI.out, HT.out, hs]; rfl)
                go_wp2
                go_ret2
                exact ⟨by rw [HE.out]; rfl, HWd.out⟩
            · obtain rfl : k = q := by omega
              have HE := hide (show (flt bs k != 0) = false by rw [HT.out, (sid_iff bs k).2 HQ.out]; rfl)
              go_wp2
              go_roundw
              case rel => exact ⟨k + 1, by omega, by go_num, fun j hj => if e : j = k then by rw [e]; exact HE.out else HI.out j (by omega), HW⟩
              case measure => simp [intOf]; omega
      · obtain rfl : bs.length = k := by omega
        go_wp2
        go_ret2
        exact ⟨by rw [HN.out HI.out]; rfl, HW.out⟩
end Go.Proofs.YtkhahbghmdccaaaGreat

namespace Go.Proofs.YtkhahbghmdccaaaGreat
open Go.RowKit
attribute [local go_sem ↓] fload_shut
set_option maxRecDepth 100000 in
set_option maxHeartbeats 2000000 in
theorem rscore_bad (seed : Int) (f : List Int) (id : Int) (w : World) (h : sok seed f id = false) :
    Calls Tryz.prog 131 #[.int .i64 seed, .agg (flC f), .int .i64 id] w fun e w' => e = .returned (.tuple #[.int .i64 0, .int .i64 1]) ∧ Below w.heap.size w w' := by
  have HB := hide (al_below w (.cells (flC f) 61))
  have HP := hide (fl_new f w)
  have HW := hide (fun W => word_any id W)
  have HF := hide (fun W => rff_any f W)
  have hc := sok_cases h
  clear h
  generalize wd id = p at HW hc
  generalize okf f = ok at HF hc
  go_enter Tryz.func131, Tryz.ntmps131
  go_upto_region 1 with fail
  generalize w.alloc _ = W at HB HP ⊢
  go_upto_region 2 with (go_at_call 103; refine (HW.out _).mono ?_; rintro e w1 ⟨rfl, hw⟩; rw [hw]; clear hw w1)
  clear HW
  rcases hc with h1 | ⟨h1, h2⟩ | ⟨h1, h2, rfl⟩ | ⟨h1, h2, rfl, rfl⟩
  · go_wp2
    go_ret2
    exact ⟨rfl, HB.out⟩
  · go_wp2
    go_ret2
    exact ⟨rfl, HB.out⟩
  · go_wp2
    go_ret2
    exact ⟨rfl, HB.out⟩
  · rw [show fe false = 1 from rfl] at HF
    have g1 := HP.out.fl
    go_wp2_with (go_at_call 172; refine (HF.out _).mono ?_; rintro e w2 ⟨rfl, hb2⟩; replace HB := hide (bt HB.out hb2); clear hb2)
    go_ret2
    exact ⟨rfl, HB.out⟩
/-- what is kept: the flow in its block, the numbers gathered. -/
def KS (w : World) (f : List Int) (v : Value) (l : List Int) (W : World) : Prop := FlIn w.heap.size f W ∧ OwnG 3 (w.heap.size + 1) W v (ints l) ∧ Below w.heap.size w W ∧ w.heap.size + 1 ≤ W.heap.size
theorem KS.kept {w : World} {f : List Int} {v : Value} {l : List Int} {W W' : World} (h : KS w f v l W) (hb : Below W.heap.size W W') : KS w f v l W' := by
  obtain ⟨k1, k2, k3, k4⟩ := h
  exact ⟨k1.kept hb, own_same k2 (fun g e => hb.block g (own_lt k2 g e).1), bt k3 hb, Nat.le_trans k4 hb.size⟩
theorem KS.grown {w : World} {f : List Int} {v v' : Value} {l l' : List Int} {W W' : World} (h : KS w f v l W) (hg : W.grownBy W' v.ownBlock) (ho : OwnG 3 (w.heap.size + 1) W' v' (ints l')) : KS w f v' l' W' := by
  obtain ⟨k1, k2, k3, k4⟩ := h
  have hv : ∀ g, some g = v.ownBlock → w.heap.size + 1 ≤ g := fun g e => (own_lt k2 g e.symm).2
  exact ⟨(hg.block _ k1.lt (fun e => by have := hv _ e; omega)).trans k1, ho, k3.grown hg k3.size (fun k e => by have := hv k e.symm; omega), Nat.le_trans k4 hg.size⟩
/-- one number more, for a walk. -/
theorem ap_n {w : World} {f : List Int} {W : World} {ops : Array Oper} {rest : List Oper} {o : Oper} {a : Act} {Q : Exit → Act → World → Prop} (hgd : o.guard = none) (s x : Operand)
    (ho : o.op = .call { callee := .builtin .append, args := #[s, x], argTypes := #[86, 86] }) (v : Value) (l ys : List Int) (m : Nat) (hs : a.eval s = v) (hk : KS w f v l W) (hx : a.eval x = .slice (some ⟨W.heap.size, 0, none⟩) m m) (hm : ys.length = m) (hlen : l.length + m ≤ 1000)
    (h : ∀ v' w', KS w f v' (l ++ ys) w' → wpList Tryz.prog ops Q rest (a.put o.dst v') w') : wpList Tryz.prog ops Q (o :: rest) a (W.alloc (.cells (ints ys).toArray 3)) := by
  have hk' := hk.kept (al_below W (.cells (ints ys).toArray 3))
  refine app_int hgd s x ho (w.heap.size + 1) v (ints l) hs hk'.2.1 W.heap.size m (ints ys) hx (by rw [ints_len]; exact hm) ?_ ?_ (by rw [ints_len]; omega) hk'.2.2.2 ?_
  · intro j u hu
    rw [cell_of_row _ _ j _ _ _ (heap_alloc_new W (.cells (ints ys).toArray 3))]
    simpa using hu
  · intro u hu
    unfold ints at hu
    obtain ⟨z, _, rfl⟩ := List.mem_map.1 hu
    rfl
  · intro v' w' h1 h2
    exact h v' w' (hk'.grown h2 (by rw [ints_app]; exact h1))
set_option maxRecDepth 100000 in
set_option maxHeartbeats 4000000 in
theorem rscore_ok (seed : Int) (f : List Int) (id : Int) (w : World) (h : sok seed f id = true) :
    Calls Tryz.prog 131 #[.int .i64 seed, .agg (flC f), .int .i64 id] w fun e w' => e = .returned (.tuple #[.int .i64 (sc seed f id), .int .i64 0]) ∧ Below w.heap.size w w' := by
  obtain ⟨h1, h2, h3, h4⟩ := sok_iff.1 h
  have HNs := hide (nums_in h)
  have HSd := hide (show 0 ≤ seed ∧ seed < 2147483648 from ⟨h1, by omega⟩)
  have g1 : ¬ seed < 0 := by omega
  have g2 : ¬ 2147483647 < seed := by omega
  have HW := hide (fun W => word_any id W)
  rw [h3] at HW
  have HF := hide (fun W => rff_any f W)
  rw [h4, show fe true = 0 from rfl] at HF
  have HK := hide (show KS w f (.slice none 0 0) [] (w.alloc (.cells (flC f) 61)) from ⟨fl_new f w, own_nil _ _, al_below _ _, by rw [World.size_alloc]; exact Nat.le_refl _⟩)
  clear h h1 h2 h3 h4
  go_enter Tryz.func131, Tryz.ntmps131
  go_upto_region 1 with fail
  generalize w.alloc _ = W at HK ⊢
  have gf := HK.out.1.fl
  go_upto_region 8 with (first
    | (go_at_call 103; refine (HW.out _).mono ?_; rintro e w1 ⟨rfl, hw⟩; rw [hw]; clear hw w1)
    | (go_at_call 172; refine (HF.out _).mono ?_; rintro e w2 ⟨rfl, hb2⟩; replace HK := hide (HK.out.kept hb2); clear hb2 gf))
  clear HW HF g1 g2
  have c0 := HK.out.1.cell 0 (by omega)
  go_upto_region 9 with (at_builtin; refine ap_n rfl (.tmp 32) (.tmp 35) rfl (.slice none 0 0) [] [el f 0] 1 rfl HK.out rfl rfl (by simp) ?_; intro v3 w3 k3; replace HK := hide k3; clear k3)
  clear c0
  go_wp2
  go_loopw [10, 11] (fun v t wr => ∃ k : Nat, k ≤ 8 ∧ t = .int .i64 k ∧ Hid (KS w f v (nl f (1 + k)) wr)) (fun _ t _ => 8 - (intOf t).toNat)
  case atStart => exact ⟨0, by omega, rfl, HK⟩
  case round =>
    clear HK
    obtain ⟨k, hk, rfl, HK⟩ := hrel
    by_cases hlt : k < 8
    · have j1 : (k : Int) < 8 := by omega
      have c1 := HK.out.1.cell (1 + k) (by omega)
      have HNl := hide (show nl f (1 + k) ++ [el f (1 + k)] = nl f (1 + (k + 1)) by rw [← nl_succ]; rfl)
      have HLn := hide (show (nl f (1 + k)).length + 1 ≤ 1000 by rw [nl_len]; omega)
      generalize el f (1 + k) = x at c1 HNl
      generalize nl f (1 + k) = l at HK HNl HLn
      go_wp2_with (at_builtin; refine ap_n rfl (.tmp 41) (.tmp 46) rfl _ l [x] 1 rfl HK.out rfl rfl HLn.out ?_; intro v3 w3 k3; replace HK := hide k3; clear k3)
      go_roundw
      case rel => exact ⟨k + 1, by omega, by go_num, by rw [← HNl.out]; exact HK⟩
      case measure => simp [intOf]; omega
    · obtain rfl : k = 8 := by omega
      have c9 := HK.out.1.cell 9 (by omega)
      have HNl := hide (show nl f 9 ++ [el f 9] = nl f 10 by rw [← nl_succ])
      have HLn := hide (show (nl f 9).length + 1 ≤ 1000 by rw [nl_len]; omega)
      rw [show 1 + 8 = 9 from rfl] at HK
      generalize el f 9 = x at c9 HNl
      generalize nl f 9 = l at HK HNl HLn
      go_wp2_with (at_builtin; refine ap_n rfl (.tmp 48) (.tmp 51) rfl _ l [x] 1 rfl HK.out rfl rfl HLn.out ?_; intro v4 w4 k4; replace HK := hide k4; clear k4)
      rw [HNl.out] at HK
      clear c9 HNl HLn
      go_loopw [10, 12] (fun v t wr => ∃ k : Nat, k ≤ 8 ∧ t = .int .i64 k ∧ Hid (KS w f v (nl f (10 + k)) wr)) (fun _ t _ => 8 - (intOf t).toNat)
      case atStart => exact ⟨0, by omega, rfl, HK⟩
      case round =>
        clear HK
        obtain ⟨k, hk, rfl, HK⟩ := hrel
        by_cases hlt : k < 8
        · have j1 : (k : Int) < 8 := by omega
          have c1 := HK.out.1.cell (10 + k) (by omega)
          have HNl := hide (show nl f (10 + k) ++ [el f (10 + k)] = nl f (10 + (k + 1)) by rw [← nl_succ]; rfl)
          have HLn := hide (show (nl f (10 + k)).length + 1 ≤ 1000 by rw [nl_len]; omega)
          generalize el f (10 + k) = x at c1 HNl
          generalize nl f (10 + k) = l at HK HNl HLn
          go_wp2_with (at_builtin; refine ap_n rfl (.tmp 57) (.tmp 62) rfl _ l [x] 1 rfl HK.out rfl rfl HLn.out ?_; intro v3 w3 k3; replace HK := hide k3; clear k3)
          go_roundw
          case rel => exact ⟨k + 1, by omega, by go_num, by rw [← HNl.out]; exact HK⟩
          case measure => simp [intOf]; omega
        · obtain rfl : k = 8 := by omega
          have c18 := HK.out.1.cell 18 (by omega)
          have HNl := hide (show nl f 18 ++ [el f 18, id] = nums f id by unfold nums; rw [nl_succ, List.append_assoc]; rfl)
          have HLn := hide (show (nl f 18).length + 2 ≤ 1000 by rw [nl_len]; omega)
          rw [show 10 + 8 = 18 from rfl] at HK
          generalize el f 18 = x at c18 HNl
          generalize nl f 18 = l at HK HNl HLn
          go_wp2_with (at_builtin; refine ap_n rfl (.tmp 64) (.tmp 68) rfl _ l [x, id] 2 rfl HK.out rfl rfl HLn.out ?_; intro v5 w5 k5; replace HK := hide k5; clear k5)
          rw [HNl.out] at HK
          clear c18 HNl HLn
          obtain ⟨g, gc, rfl, hcell⟩ := own_cell HK.out.2.1 (by rw [nums_len]; omega)
          rw [nums_len] at hcell ⊢
          have HC := hide hcell
          have HB := hide HK.out.2.2.1
          clear hcell
          go_loopw [13, 14] (fun u t wr => ∃ k : Nat, k ≤ 20 ∧ t = .int .i64 k ∧ u = .int .i64 (mxs seed ((nums f id).take k)) ∧ w5 = wr) (fun _ t _ => 20 - (intOf t).toNat)
          case atStart => exact ⟨0, by omega, rfl, rfl, rfl⟩
          case round =>
            obtain ⟨k, hk, rfl, rfl, rfl⟩ := hrel
            by_cases hlt : k < 20
            · have j1 : (k : Int) < 20 := by omega
              have c1 := HC.out k hlt
              have HT := hide (show mxs seed ((nums f id).take (k + 1)) = mx (mxs seed ((nums f id).take k)) ((nums f id).getD k 0) by
                rw [List.take_add_one, List.getElem?_eq_getElem (by rw [nums_len]; exact hlt), List.getD_eq_getElem?_getD, List.getElem?_eq_getElem (by rw [nums_len]; exact hlt)]
                exact mxs_snoc _ _ _)
              have hin := mxs_in HSd.out ((nums f id).take k) (fun x hx => (HNs.out x (List.mem_of_mem_take hx)).1)
              have hn := HNs.out ((nums f id).getD k 0) (by rw [List.getD_eq_getElem?_getD, List.getElem?_eq_getElem (by rw [nums_len]; exact hlt)]; exact List.getElem_mem _)
              generalize mxs seed ((nums f id).take k) = x at HT hin
              generalize (nums f id).getD k 0 = n at c1 HT hn
              have q1 : IntKind.i64.wrap (x * 69069) = x * 69069 := by rw [IntKind.wrap_i64]; omega
              have q2 : IntKind.i64.wrap (x * 69069 + n) = x * 69069 + n := by rw [IntKind.wrap_i64]; omega
              have q3 : IntKind.i64.wrap (x * 69069 + n + 1) = x * 69069 + n + 1 := by rw [IntKind.wrap_i64]; omega
              have HM := hide (show mx x n = (x * 69069 + n + 1).tmod 2147483648 from rfl)
              clear hin hn
              go_wp2
              go_roundw
              case rel => exact ⟨k + 1, by omega, by go_num, by rw [HT.out]; rfl, by first | trivial | rfl⟩
              case measure => simp [intOf]; omega
            · obtain rfl : k = 20 := by omega
              have HT := hide (show sc seed f id = (mxs seed ((nums f id).take 20)).tdiv 256 by unfold sc; rw [List.take_of_length_le (by rw [nums_len]; omega)])
              have hin := mxs_in HSd.out ((nums f id).take 20) (fun x hx => (HNs.out x (List.mem_of_mem_take hx)).1)
              generalize mxs seed ((nums f id).take 20) = x at HT hin
              have q1 : IntKind.i64.wrap (x.tdiv 256) = x.tdiv 256 := by rw [IntKind.wrap_i64, Int.tdiv_eq_ediv_of_nonneg hin.1]; omega
              clear hin
              go_wp2
              go_ret2
              exact ⟨by rw [HT.out]; rfl, HB.out⟩
theorem rscore_any (seed : Int) (f : List Int) (id : Int) (w : World) :
    Calls Tryz.prog 131 #[.int .i64 seed, .agg (flC f), .int .i64 id] w fun e w' => e = .returned (.tuple #[.int .i64 (sv seed f id), .int .i64 (fe (sok seed f id))]) ∧ Below w.heap.size w w' := by
  unfold sv
  cases h : sok seed f id
  · exact rscore_bad seed f id w h
  · exact rscore_ok seed f id w h
end Go.Proofs.YtkhahbghmdccaaaGreat
