/- TopFull, walked. -/
import Derived.Test.YtkhahbghmdccaaaGreatDoorF46
import Derived.Test.YtkhahbghmdccaaaGreatDoorFuA
import Derived.Below
import Derived.OpenShut
import Derived.Test.YtkhahbghmdccaaaGreatDoorProg
import Derived.WalkKit
import Derived.LaidEql
import Derived.BigQuiet
import Derived.Laws.AppendOwnNone
import Derived.Laws.MakeOwn
import Derived.Deep.RegionLaw
import Derived.Lib.Bytes
import Derived.Deep.MidRow
import Derived.Laws.ResultCell
import Derived.Deep.CutBlock
import Derived.Deep.QuietTactic
import Derived.OwnWalk
import Derived.Deep.RegionHeld3
import Derived.Deep.DrawnRows
import Derived.Laws.StructEq
import Derived.Maps.AppendAt
import Derived.Maps.RangeWalk
import Derived.Stop.Asserts
import Derived.RowKitTokens
import Derived.Test.YtkhahbghmdccaaaGreatDoorShelf
import Derived.Shelf.Abstract
import Derived.Lib.SliceRun
import Derived.Lib.AppendZerosOnto
import Derived.Lib.AppendZeros
import Derived.Laws.CopyOwn
import Derived.RangeFuncNested
import Derived.RangeFuncBound
import Derived.RangeFuncCalls
import Derived.RangeFuncLeaves
import Derived.RangeFuncFrom
import Derived.Shelf.RegionOpen
import Derived.OwnWalkIn
import Derived.TacticsInMore
import Derived.LoopNIn
import Derived.LoopIn
import Derived.Deep.RegionWith
import Derived.ArgAppend
import Derived.Lib.SlBytesConst
import Derived.Lib.AppendStr
import Derived.Deep.Slices
import Derived.ChangeArms
import Derived.WideShapes
import Derived.Deep.Fields
import Derived.ChangeSlices
namespace Go.Proofs.YtkhahbghmdccaaaGreatDoor
open Go.RowKit
set_option linter.unusedVariables false
theorem CfIn.set20 {B : Nat} {a : Option Addr} {n cap : Nat} {w : World} (p : CfIn B c0 true a n cap w) (b : Int) : CfIn B (cB b) true a n cap (w.setCell ⟨B, 20, none⟩ (.int .i64 b)) ∧ Only B w (w.setCell ⟨B, 20, none⟩ (.int .i64 b)) := by
  rw [setCell_eq_setRow w B 20 _ _ (0, 0) _ p]
  exact ⟨setRow_heap w B _ _ _ (0, 0) p, only_setRow _ _ _⟩
theorem CfIn.frzb {B : Nat} {c : List Int} {inj : Bool} {a : Option Addr} {n cap : Nat} {w : World} (p : CfIn B c inj a n cap w) (j : Nat) : w.frozen? ⟨B, j, none⟩ = false := by
  unfold CfIn at p
  simp [World.frozen?, p]
theorem cko_b {b : Int} (h : 1 ≤ b ∧ b ≤ 16) : cko (cB b) bk0 0 = 0 := by
  rcases (by omega : b = 1 ∨ b = 2 ∨ b = 3 ∨ b = 4 ∨ b = 5 ∨ b = 6 ∨ b = 7 ∨ b = 8 ∨ b = 9 ∨ b = 10 ∨ b = 11 ∨ b = 12 ∨ b = 13 ∨ b = 14 ∨ b = 15 ∨ b = 16) with rfl | rfl | rfl | rfl | rfl | rfl | rfl | rfl | rfl | rfl | rfl | rfl | rfl | rfl | rfl | rfl <;> decide +kernel
/-- the gate, in memory. -/
def FW (wB : World) (G : Nat) (b : Int) (m nd P : Nat) (T : Int) (cl i k gv : Nat) (W : World) : Prop := ∃ g O, FI b m nd P T cl i k gv g ∧ GH wB G g O W
theorem FW.kept {wB : World} {G : Nat} {b : Int} {m nd P : Nat} {T : Int} {cl i k gv : Nat} {W W' : World} (h : FW wB G b m nd P T cl i k gv W) (hb : Below W.heap.size W W') : FW wB G b m nd P T cl i k gv W' := by
  obtain ⟨g, O, h1, h2⟩ := h
  exact ⟨g, O, h1, h2.kept hb⟩
theorem FW.below {wB : World} {G : Nat} {b : Int} {m nd P : Nat} {T : Int} {cl i k gv : Nat} {W : World} (h : FW wB G b m nd P T cl i k gv W) : Below wB.heap.size wB W := by
  obtain ⟨g, O, h1, h2⟩ := h
  exact h2.below
theorem FW.next {wB : World} {G : Nat} {b : Int} {m nd P : Nat} {T : Int} {cl i gv : Nat} {W : World} (h : FW wB G b m nd P T cl i P gv W) : FW wB G b m nd P T cl (i + 1) 0 gv W := by
  obtain ⟨g, O, h1, h2⟩ := h
  exact ⟨g, O, h1.next, h2⟩
theorem in6_fw {wB : World} {G : Nat} {b : Int} {m nd P : Nat} {T : Int} {cl i k gv : Nat} {W : World} (h : FW wB G b m nd P T cl i k gv W) (hn : nd = 1 ∨ nd = 2 ∨ nd = 3) (hP0 : 8 * nd < P + 8) (hP : P ≤ 8 * nd) (hP20 : P ≤ 20) (hk : k < P) (hi : i < cl) (hc : cl ≤ 20) (hm : m ≤ 16) {a : Option Addr} {l c : Nat} (r : Row8 W a l c (p6o [3, (i : Int)] (vip c0) 9 [17, (k : Int), 80, 0, 0, 0, 0] [])) (e1 : l ≤ c) (e2 : c ≤ maxLen) :
    Calls Tryz.prog 21 #[.pointer (some ⟨G, 0, none⟩), .slice a l c] W fun e w' => ∃ a2 l2 c2 j, e = .returned (.tuple #[.slice a2 l2 c2, ev j]) ∧ ((j = 0 ∧ FW wB G b m nd P T cl i (k + 1) (gv + 1) w') ∨ (j = 3 ∧ FW wB G b m nd P T cl i (k + 1) gv w')) := by
  obtain ⟨g, O, h1, h2⟩ := h
  refine (in6_gh h1.1 _ wB G O W a l c h2 r e1 e2).mono ?_
  rintro e w' ⟨⟨a2, l2, c2, q1, _⟩, O', q2, _⟩
  rcases h1.step hn hP0 hP hP20 hk hi hc hm with ⟨s1, s2⟩ | ⟨s1, s2⟩
  · exact ⟨a2, l2, c2, _, q1, .inl ⟨s1, _, O', s2, q2⟩⟩
  · exact ⟨a2, l2, c2, _, q1, .inr ⟨s1, _, O', s2, q2⟩⟩
theorem tick_fw {wB : World} {G : Nat} {b : Int} {m nd P : Nat} {T : Int} {cl i k gv : Nat} {W : World} (h : FW wB G b m nd P T cl i k gv W) (hT : 0 ≤ T ∧ T ≤ 30) :
    Calls Tryz.prog 33 #[.pointer (some ⟨G, 0, none⟩), .int .i64 30] W fun e w' => e = .returned .nilIface ∧ FW wB G b m nd P (T + 30) cl 0 0 0 w' := by
  obtain ⟨g, O, h1, h2⟩ := h
  obtain ⟨t1, t2, t3⟩ := h1.tick hT
  have := tick_gh h1.1 30 wB G O W h2
  rw [t1, ev_nil] at this
  refine this.mono ?_
  rintro e w' ⟨q1, O', q2, _⟩
  exact ⟨q1, _, O', t3, q2⟩
theorem binds_fw {wB : World} {G : Nat} {b : Int} {m nd P : Nat} {T : Int} {cl i k gv : Nat} {W : World} (h : FW wB G b m nd P T cl i k gv W) :
    Calls Tryz.prog 18 #[.pointer (some ⟨G, 0, none⟩)] W fun e w' => ∃ a c, e = .returned (.slice a gv c) ∧ Below W.heap.size W w' := by
  obtain ⟨g, O, h1, h2⟩ := h
  refine (binds_new h1.1 h2).mono ?_
  rintro e w' ⟨v, q1, ⟨a, c, q2, _⟩, q3⟩
  rw [h1.2.2.2.2.2.1] at q2
  exact ⟨a, c, by rw [q1, q2], q3⟩
theorem FW.most {wB : World} {G : Nat} {b : Int} {m nd P : Nat} {T : Int} {cl i k gv : Nat} {W : World} (h : FW wB G b m nd P T cl i k gv W) : gv ≤ 8 * m ∧ (nd * cl ≤ m → gv = i * P + k) := by
  obtain ⟨g, O, h1, h2⟩ := h
  exact ⟨h1.most, h1.2.2.2.2.2.2⟩
attribute [local go_sem ↓] hload_shut cload_shut
set_option maxRecDepth 100000 in
set_option maxHeartbeats 16000000 in
theorem tfu_walk (b cl0 P0 : Int) (w : World) (hg : Laid0 w) :
    Calls Tryz.prog 6 #[.int .i64 b, .int .i64 cl0, .int .i64 P0] w fun e w' => e = .returned (.bool true) ∧ Below w.heap.size w w' := by
  have HF := hide one_any
  have HPl := hide (fun W => tplain_any W)
  have HZc := hide (fun W => cf_zero W)
  unfold zero23c at HZc
  have HLd := hide hg
  clear hg
  go_enter Tryz.func6, Tryz.ntmps6
  go_upto_region 2 with (go_at_call 30; refine (HF.out _).mono ?_; rintro e w1 ⟨rfl, hb1⟩; have HB := hide hb1; clear hb1)
  go_upto_region 3 with (first
    | (go_at_call 31; refine (HPl.out _).mono ?_; rintro e w2 ⟨B, rfl, b2, hb2⟩; replace HB := hide (bt HB.out hb2); have HBk := hide b2; clear b2 hb2)
    | (refine at_storec rfl (.tmp 8) (.tmp 21) rfl rfl (HZc.out w2) c0 true (some ⟨B, 0, none⟩) 1 1 rfl ?_; intro w3 p3 on3; have HLc := hide (show w.heap.size ≤ w2.heap.size from HB.out.size); have HC := hide p3; have HB2 := hide (new_below _ on3); clear p3 on3))
  clear HF HPl HZc
  obtain ⟨x1, x2⟩ := HC.out.set20 b
  have f1 := HC.out.frzb 20
  have c1 := HC.out.c20
  have HC4 := hide x1
  have HB4 := hide (x2.below (bt HB.out HB2.out) HLc.out)
  have HBk4 := hide (HBk.out.below (x2.below HB2.out (Nat.le_refl _)))
  clear x1 x2 HBk HB2 HB HLc
  go_upto_region 4 with fail
  clear f1 c1 HC
  generalize w3.setCell _ _ = wB at HC4 HB4 HBk4 ⊢
  generalize w2.heap.size = C at HC4 ⊢
  have q1 := HC4.out.cl
  by_cases hb : 1 ≤ b ∧ b ≤ 16
  case neg =>
    have hcs : b < 1 ∨ (¬ b < 1 ∧ 16 < b) := by omega
    rcases gnew_dich (cB b) true (some ⟨B, 0, none⟩) 1 bk0 wB HBk4.out (by decide) (by decide) (fun h => by cases h) with ⟨j, hj, hN⟩ | ⟨m, hm1, hm2, hm3, -⟩
    · have HN := hide (show Calls Tryz.prog 8 #[.agg (cfC (cB b) true (some ⟨B, 0, none⟩) 1 1)] wB fun e w' => e = .returned (.tuple #[.pointer none, .iface 28 (.int .i64 j)]) ∧ Below wB.heap.size wB w' from hN wB (Below.refl _ _))
      clear hN hj
      go_upto_region 5 with (go_at_call 8; refine HN.out.mono ?_; rintro e w5 ⟨rfl, hb5⟩; have HB5 := hide (bt HB4.out hb5); clear hb5 q1)
      clear HN
      rcases hcs with h1 | ⟨h1, h2⟩
      all_goals
        go_wp2
        go_ret
        exact ⟨rfl, HB5.out⟩
    · exfalso
      have : b = (m : Int) := hm3
      omega
  obtain ⟨m, rfl⟩ := Int.eq_ofNat_of_zero_le (show 0 ≤ b by omega)
  have hm16 : m ≤ 16 := by omega
  have hck := cko_b hb
  have hpf : Em.PF (pfx (cB (m : Int))) (el (cB (m : Int)) 17) 0 := pf_c0
  have hig : IG (gz0 (cB (m : Int)) true bk0 m) := gz0_ig hm16 hpf hck
  have HN := hide (show Calls Tryz.prog 8 #[.agg (cfC (cB (m : Int)) true (some ⟨B, 0, none⟩) 1 1)] wB fun e w' => NG wB (cB (m : Int)) true bk0 m e w' from gnew_gc (cB (m : Int)) true (some ⟨B, 0, none⟩) 1 bk0 m wB HBk4.out (by decide) (by decide) (fun h => by cases h) hpf hck rfl (by omega) (by omega))
  have HIg := hide hig
  clear hig hpf hck
  go_upto_region 5 with (go_at_call 8; refine HN.out.mono ?_; rintro e w5 h5; obtain ⟨G, O, rfl, hG, -, -⟩ := NG.gh h5 (Below.refl _ _); have HG := hide hG; clear h5 hG q1)
  clear HN HBk4
  go_upto_region 7 with fail
  by_cases r1 : cl0 < 1
  · go_wp2
    go_ret
    exact ⟨rfl, bt HB4.out HG.out.below⟩
  by_cases r2 : 20 < cl0
  · go_wp2
    go_ret
    exact ⟨rfl, bt HB4.out HG.out.below⟩
  by_cases r3 : P0 < 1
  · go_wp2
    go_ret
    exact ⟨rfl, bt HB4.out HG.out.below⟩
  by_cases r4 : 20 < P0
  · go_wp2
    go_ret
    exact ⟨rfl, bt HB4.out HG.out.below⟩
  obtain ⟨cl, rfl⟩ := Int.eq_ofNat_of_zero_le (show 0 ≤ cl0 by omega)
  obtain ⟨P, rfl⟩ := Int.eq_ofNat_of_zero_le (show 0 ≤ P0 by omega)
  obtain ⟨nd, hnd⟩ : ∃ nd, nd = (P + 7) / 8 := ⟨_, rfl⟩
  have hn : nd = 1 ∨ nd = 2 ∨ nd = 3 := by omega
  have hP0 : 8 * nd < P + 8 := by omega
  have hP : P ≤ 8 * nd := by omega
  have hP20 : P ≤ 20 := by omega
  have hc20 : cl ≤ 20 := by omega
  have HAll := hide (And.intro hn (And.intro hP0 hP))
  have HNd := hide hnd
  have HV0 := hide (show FW wB G (m : Int) m nd P 0 cl 0 0 0 w5 from ⟨_, O, FI.zero _ m nd P cl HIg.out, HG.out⟩)
  clear HIg HG hnd hn hP0 hP
  go_upto_region 9 with fail
  go_wp2
  go_loopw [11] (fun t wr => ∃ (n : Nat), n ≤ 2 ∧ t = .int .i64 n ∧ Hid (FW wB G (m : Int) m nd P (30 * (n : Int)) cl 0 0 0 wr)) (fun t _ => 2 - (intOf t).toNat)
  case atStart => exact ⟨0, by omega, rfl, HV0⟩
  case round =>
    clear HV0
    obtain ⟨n, hn2, rfl, HV⟩ := hrel
    by_cases hlt : n < 2
    case neg =>
      have j1 : ¬ (n : Int) < 2 := by omega
      go_wp2
      go_ret
      exact ⟨rfl, bt HB4.out HV.out.below⟩
    have j1 : (n : Int) < 2 := by omega
    have HT := hide (show (0 : Int) ≤ 30 * (n : Int) ∧ 30 * (n : Int) ≤ 30 by omega)
    have HT2 := hide (show 30 * (n : Int) + 30 = 30 * ((n + 1 : Nat) : Int) by omega)
    generalize 30 * (n : Int) = T at HT HT2 HV
    go_upto_region 13 with fail
    go_wp2
    go_loopw [12, 13] (fun u t wr => ∃ (i gv : Nat), i ≤ cl ∧ u = .int .i64 gv ∧ t = .int .i64 i ∧ Hid (FW wB G (m : Int) m nd P T cl i 0 gv wr)) (fun _ t _ => cl - (intOf t).toNat)
    case atStart => exact ⟨0, 0, by omega, rfl, rfl, HV⟩
    case round =>
      clear HV
      obtain ⟨i, gv, hi, rfl, rfl, HV⟩ := hrel
      by_cases hic : i < cl
      · have j2 : (i : Int) < (cl : Int) := by omega
        go_upto_region 16 with fail
        go_wp2
        go_loopw [12, 14] (fun u t wr => ∃ (k gv : Nat), k ≤ P ∧ u = .int .i64 gv ∧ t = .int .i64 k ∧ Hid (FW wB G (m : Int) m nd P T cl i k gv wr)) (fun _ t _ => P - (intOf t).toNat)
        case atStart => exact ⟨0, gv, by omega, rfl, rfl, HV⟩
        case round =>
          clear HV
          obtain ⟨k, gv, hk, rfl, rfl, HV⟩ := hrel
          by_cases hkP : k < P
          · have j3 : (k : Int) < (P : Int) := by omega
            have hz : Okg [17, (k : Int), 80, 0, 0, 0, 0] ([] : List Int).length := ⟨⟨(by show (0 : Int) ≤ k; omega), (by show (k : Int) ≤ 65535; omega)⟩, ⟨(by decide : (0 : Int) ≤ 80), (by decide : (80 : Int) ≤ 65535)⟩, Nat.zero_le _, .inr ⟨rfl, rfl, rfl, rfl, rfl⟩⟩
            have hs : Ok6 [3, (i : Int)] := fun j hj => by
              rcases (by omega : j = 0 ∨ j = 1 ∨ j = 2 ∨ j = 3 ∨ j = 4 ∨ j = 5 ∨ j = 6 ∨ j = 7) with rfl | rfl | rfl | rfl | rfl | rfl | rfl | rfl
              · exact ⟨(by show (0 : Int) ≤ 3; decide), (by show (3 : Int) ≤ 65535; decide)⟩
              · exact ⟨(by show (0 : Int) ≤ i; omega), (by show (i : Int) ≤ 65535; omega)⟩
              all_goals exact ⟨(by show (0 : Int) ≤ 0; decide), (by show (0 : Int) ≤ 65535; decide)⟩
            have hv : Ok6 (vip c0) := fun j hj => by rcases (by omega : j = 0 ∨ j = 1 ∨ j = 2 ∨ j = 3 ∨ j = 4 ∨ j = 5 ∨ j = 6 ∨ j = 7) with rfl | rfl | rfl | rfl | rfl | rfl | rfl | rfl <;> exact ⟨by decide, by decide⟩
            have HS := hide (fun W => (show Calls Tryz.prog 32 #[.agg #[.int .i64 17, .int .i64 (k : Int), .int .i64 80, .int .i64 0, .int .i64 0, .int .i64 0, .int .i64 0, .slice none 0 0], .agg #[.int .i64 3, .int .i64 (i : Int), .int .i64 0, .int .i64 0, .int .i64 0, .int .i64 0, .int .i64 0, .int .i64 0], .agg (sixC (vip (cB (m : Int)))), .int .i64 9] W fun e w' => ∃ v, e = .returned v ∧ Own W.heap.size w' v (p6o [3, (i : Int)] (vip c0) 9 [17, (k : Int), 80, 0, 0, 0, 0] []) ∧ Below W.heap.size W w' from sent_ok [17, (k : Int), 80, 0, 0, 0, 0] none 0 0 [] [3, (i : Int)] (vip c0) 9 W hs hv (by decide) hz (gt_no W)))
            have HI := hide (fun W a l c (h : FW wB G (m : Int) m nd P T cl i k gv W) r e1 e2 => in6_fw (a := a) (l := l) (c := c) h HAll.out.1 HAll.out.2.1 HAll.out.2.2 hP20 hkP hic hc20 hm16 r e1 e2)
            have HL6 := hide (@p6o_len [3, (i : Int)] (vip c0) 9 [17, (k : Int), 80, 0, 0, 0, 0] [])
            generalize p6o [3, (i : Int)] (vip c0) 9 [17, (k : Int), 80, 0, 0, 0, 0] [] = Y6 at HS HI HL6
            clear hz hs hv
            have q2 := (HC4.out.kept HV.out.below).hv
            go_upto_region 20 with (first
              | (go_at_call 32; refine (HS.out _).mono ?_; rintro e w7 ⟨v7, rfl, o7, hb7⟩; obtain ⟨g7, c7, rfl, k1, k2, -, -, r7⟩ := o7.form HL6.out; have HR7 := hide (And.intro r7 (And.intro k1 k2)); have HV7 := hide (HV.out.kept hb7); clear o7 hb7 k1 k2 r7 q2)
              | (go_at_call 21; refine (HI.out _ _ _ _ HV7.out HR7.out.1 HR7.out.2.1 HR7.out.2.2).mono ?_; rintro e w8 ⟨a8, l8, c8, j, rfl, h8⟩; have H8 := hide h8; clear h8))
            clear HS HI HL6 HV HV7 HR7
            obtain ⟨gv', hgv, HV⟩ : ∃ gv' : Nat, ((j = 0 ∧ gv' = gv + 1) ∨ (j = 3 ∧ gv' = gv)) ∧ Hid (FW wB G (m : Int) m nd P T cl i (k + 1) gv' w8) := by
              rcases H8.out with ⟨e, h⟩ | ⟨e, h⟩
              · exact ⟨gv + 1, .inl ⟨e, rfl⟩, hide h⟩
              · exact ⟨gv, .inr ⟨e, rfl⟩, hide h⟩
            clear H8
            have hgm : gv ≤ 128 := by
              have := HV.out.most.1
              omega
            go_upto_region 21 with (go_at_call 16; refine (error_any j 3 _ (HLd.out.below (bt HB4.out HV.out.below))).mono ?_; rintro e w9 ⟨rfl, hb9⟩; replace HV := hide (HV.out.kept hb9); clear hb9)
            rcases hgv with ⟨rfl, rfl⟩ | ⟨rfl, rfl⟩
            · rw [ev_nil, show ((0 : Int) == 3) = false from rfl]
              go_wp2
              go_roundw
              case rel => exact ⟨k + 1, gv + 1, by omega, by go_num, by go_num, HV⟩
              case measure => simp [intOf]; omega
            · rw [show ev 3 = .iface 28 (.int .i64 3) from rfl, show ((3 : Int) == 3) = true from rfl]
              go_wp2
              go_roundw
              case rel => exact ⟨k + 1, _, by omega, rfl, by go_num, HV⟩
              case measure => simp [intOf]; omega
          · have j3 : ¬ (k : Int) < (P : Int) := by omega
            obtain rfl : k = P := by omega
            go_wp2
            go_roundw
            case rel => exact ⟨i + 1, gv, by omega, rfl, by go_num, hide HV.out.next⟩
            case measure => simp [intOf]; omega
      · have j2 : ¬ (i : Int) < (cl : Int) := by omega
        obtain rfl : i = cl := by omega
        have hmo := HV.out.most
        have hnd : (nd : Int) = ((P : Int) + 7) / 8 := by have := HNd.out; omega
        have hall := HAll.out.1
        go_upto_region 25 with fail
        have v1 : IntKind.i64.wrap ((P : Int) + 8) = (P : Int) + 8 := by rw [IntKind.wrap_i64]; omega
        have v2 : IntKind.i64.wrap ((P : Int) + 8 - 1) = (P : Int) + 7 := by rw [IntKind.wrap_i64]; omega
        have v3 : Int.tdiv ((P : Int) + 7) 8 = (nd : Int) := by rw [Int.tdiv_eq_ediv_of_nonneg (by omega), hnd]
        have v4 : IntKind.i64.wrap (nd : Int) = (nd : Int) := by rw [IntKind.wrap_i64]; omega
        obtain ⟨NC, hNC⟩ : ∃ NC : Int, (nd : Int) * (i : Int) = NC := ⟨_, rfl⟩
        obtain ⟨CP, hCP⟩ : ∃ CP : Int, (i : Int) * (P : Int) = CP := ⟨_, rfl⟩
        obtain ⟨M8, hM8⟩ : ∃ M8 : Int, (m : Int) * 8 = M8 := ⟨_, rfl⟩
        have hNC2 : ((nd * i : Nat) : Int) = NC := by rw [← hNC]; exact Int.natCast_mul _ _
        have hCP2 : ((i * P : Nat) : Int) = CP := by rw [← hCP]; exact Int.natCast_mul _ _
        have hb1 : nd * i ≤ 60 := Nat.mul_le_mul (show nd ≤ 3 by omega) (show i ≤ 20 by omega)
        have hb2 : i * P ≤ 400 := Nat.mul_le_mul (show i ≤ 20 by omega) hP20
        have v5 : IntKind.i64.wrap ((nd : Int) * (i : Int)) = NC := by rw [hNC, IntKind.wrap_i64]; omega
        have v6 : IntKind.i64.wrap ((i : Int) * (P : Int)) = CP := by rw [hCP, IntKind.wrap_i64]; omega
        have v7 : IntKind.i64.wrap ((m : Int) * 8) = M8 := by rw [hM8, IntKind.wrap_i64]; omega
        have hcs : ¬ NC ≤ (m : Int) ∨ (NC ≤ (m : Int) ∧ ((gv : Int) != CP) = false) := by
          by_cases h : nd * i ≤ m
          · right
            have := hmo.2 h
            refine ⟨by omega, ?_⟩
            rw [bne_eq_false_iff_eq]
            omega
          · left
            omega
        have v8 : ¬ M8 < (gv : Int) := by have := hmo.1; omega
        have v9 : ((gv : Int) != (gv : Int)) = false := by simp
        clear hNC hCP hM8 hNC2 hCP2 hb1 hb2 hmo hnd hall
        go_upto_region 26 with fail
        go_cut [111] from 100 to 111 (fun u wx => u = .bool false ∧ wr = wx)
        case first =>
          rcases hcs with h1 | ⟨h1, h2⟩
          all_goals
            go_wp2
            go_meet
            exact ⟨rfl, rfl⟩
        case rest =>
          obtain ⟨rfl, rfl⟩ := hcut
          clear hcs v1 v2 v3 v4 v5 v6
          go_upto_region 28 with fail
          go_upto_region 30 with (go_at_call 18; refine (binds_fw HV.out).mono ?_; rintro e wa ⟨aa, ca, rfl, hba⟩; have HVa := hide (HV.out.kept hba); clear hba)
          clear HV v7 v8 v9
          go_upto_region 31 with (go_at_call 33; refine (tick_fw HVa.out HT.out).mono ?_; rintro e wb ⟨rfl, hb⟩; have HVb := hide hb; clear hb)
          clear HVa
          go_wp2_with (go_at_call 18; refine (binds_fw HVb.out).mono ?_; rintro e wc ⟨ac, cc, rfl, hbc⟩; replace HVb := hide (HVb.out.kept hbc); clear hbc)
          go_roundw
          case rel => exact ⟨n + 1, by omega, by go_num, by rw [HT2.out] at HVb; exact HVb⟩
          case measure => simp [intOf]; omega
end Go.Proofs.YtkhahbghmdccaaaGreatDoor
