/- TopMoves, walked: both gates, one without a server. TopMoves, whatever comes. -/
import Derived.Test.YtkhahbghmdccaaaGreatM48
import Derived.Below
import Derived.OpenShut
import Derived.Test.YtkhahbghmdccaaaGreatProg
import Derived.WalkKit
import Derived.LaidEql
import Derived.BigQuiet
import Derived.Laws.AppendOwnNone
import Derived.Laws.MakeOwn
import Derived.Deep.RegionLaw
import Derived.Lib.Bytes
import Derived.Deep.MidRow
import Derived.Laws.ResultCell
import Derived.Deep.CutBlock
import Derived.Deep.QuietTactic
import Derived.OwnWalk
import Derived.Deep.RegionHeld3
import Derived.Deep.DrawnRows
import Derived.Maps.AppendAt
import Derived.Laws.StructEq
import Derived.Maps.RangeWalk
import Derived.Stop.Asserts
import Derived.RowKitTokens
import Derived.Test.YtkhahbghmdccaaaGreatShelf
import Derived.Shelf.Abstract
import Derived.Lib.SliceRun
import Derived.Lib.AppendZerosOnto
import Derived.Lib.AppendZeros
import Derived.Laws.CopyOwn
import Derived.RangeFuncNested
import Derived.RangeFuncBound
import Derived.RangeFuncCalls
import Derived.RangeFuncLeaves
import Derived.RangeFuncFrom
import Derived.Shelf.RegionOpen
import Derived.OwnWalkIn
import Derived.TacticsInMore
import Derived.LoopNIn
import Derived.LoopIn
import Derived.Deep.RegionWith
import Derived.ArgAppend
import Derived.Lib.SlBytesConst
import Derived.Lib.AppendStr
import Derived.Deep.Slices
import Derived.ChangeArms
import Derived.WideShapes
import Derived.Test.YtkhahbghmdccaaaGreatM47
namespace Go.Proofs.YtkhahbghmdccaaaGreat
open Go.RowKit
theorem bk_at {g off : Nat} {x : List Int} {w : World} (h : w.rangeAt g off (bkC x).toList) : w.cell? ⟨g, off, none⟩ = some (.int .i64 (el x 0)) ∧ w.cell? ⟨g, off + 1, none⟩ = some (.int .i64 (el x 1)) ∧ w.cell? ⟨g, off + 2, none⟩ = some (.int .i64 (el x 2)) := ⟨h 0 _ rfl, h 1 _ rfl, h 2 _ rfl⟩
attribute [local go_sem ↓] hload_shut cload_shut
set_option maxRecDepth 100000 in
set_option maxHeartbeats 8000000 in
theorem tmv_c (c : List Int) (inj : Bool) (gb ob : Nat) (kc : Nat) (bk : List (List Int)) (m : Nat) (s : List Int) (k p : Int) (w : World) (i : Nat) (id x1 x2 near : Int) (hid : el (bk.getD i []) 0 = id) (hi : i < bk.length) (h8 : bk.length ≤ 8) (g0 g1 h1 h2 : GS) (zs Y Y2 : List Int) (r1 r2 : Int) (hg0 : g0 = gz0 c inj bk m) (hbk : Bks (some ⟨gb, ob, none⟩) bk w)
    (hN : ∀ W, Below w.heap.size w W → Calls Tryz.prog 13 #[.agg (cfC c inj (some ⟨gb, ob, none⟩) bk.length kc)] W fun e w' => NG W c inj bk m e w')
    (hP : ∀ W, Calls Tryz.prog 41 #[.int .i64 k, .int .i64 bk.length] W fun e w' => e = .returned (.int .i64 i) ∧ w' = W)
    (hPr : ∀ w G O W, GH w G g0 O W → Calls Tryz.prog 42 #[.pointer (some ⟨G, 0, none⟩), .int .i64 id, .bool false] W fun e w' => e = .returned .nilIface ∧ GN w G h1 O W w')
    (hS : ∀ W, Below w.heap.size w W → Calls Tryz.prog 32 #[.agg #[.int .i64 17, .int .i64 p, .int .i64 (el c 8), .int .i64 0, .int .i64 0, .int .i64 0, .int .i64 0, .slice none 0 0], .agg (sixC s), .agg (sixC (vip c)), .int .i64 9] W fun e w' => ∃ b l k, e = .returned (.slice b l k) ∧ (Row8 w' b l k zs ∧ l ≤ k ∧ k ≤ maxLen) ∧ Below W.heap.size W w')
    (hI : ∀ w G O W b l k, GH w G g0 O W → Row8 W b l k zs → l ≤ k → k ≤ maxLen → Calls Tryz.prog 16 #[.pointer (some ⟨G, 0, none⟩), .slice b l k] W fun e w' => (∃ a2 l2 c2, e = .returned (.tuple #[.slice a2 l2 c2, ev r1]) ∧ Row8 w' a2 l2 c2 Y ∧ l2 ≤ c2 ∧ c2 ≤ maxLen) ∧ GN w G g1 O W w')
    (hJ : ∀ w G O W b l k, GH w G h1 O W → Row8 W b l k zs → l ≤ k → k ≤ maxLen → Calls Tryz.prog 16 #[.pointer (some ⟨G, 0, none⟩), .slice b l k] W fun e w' => (∃ a2 l2 c2, e = .returned (.tuple #[.slice a2 l2 c2, ev r2]) ∧ Row8 w' a2 l2 c2 Y2 ∧ l2 ≤ c2 ∧ c2 ≤ maxLen) ∧ GN w G h2 O W w')
    (hE : (r1 ≠ 0 ∧ r2 ≠ 0) ∨ (r1 = 0 ∧ (∀ W b l k, Row8 W b l k Y → l ≤ k → k ≤ maxLen → Calls Tryz.prog 33 #[.slice b l k] W fun e w' => ∃ a1 l1 c1 a2 l2 c2, e = .returned (.tuple #[.agg #[.int .i64 near, .int .i64 x1, .int .i64 8, .int .i64 17, .int .i64 0, .slice a1 l1 c1], .agg (sgC [17, 1024, x2, 0, 0, 0, 0] a2 l2 c2), .bool true]) ∧ Below W.heap.size W w') ∧
      (∀ w G O W, GH w G g1 O W → Calls Tryz.prog 24 #[.pointer (some ⟨G, 0, none⟩)] W fun e w' => ∃ g off n, e = .returned (.slice (some ⟨g, off, none⟩) 1 n) ∧ w'.cell? ⟨g, off + 21, none⟩ = some (.int .i64 x2) ∧ Below W.heap.size W w') ∧
      ((el (bk.getD i []) 1 = x1 ∧ el (bk.getD i []) 2 = x2) ∨ (r2 = 0 ∧ Y2 = Y)))) :
    Calls Tryz.prog 10 #[.agg (cfC c inj (some ⟨gb, ob, none⟩) bk.length kc), .int .i64 k, .agg (sixC s), .int .i64 p] w fun e w' => e = .returned (.bool true) ∧ Below w.heap.size w w' := by
  have HF := hide one_any
  have HK := hide (Kpl.start w c inj (some ⟨gb, ob, none⟩) bk kc s)
  have HN := hide hN
  have HP := hide hP
  have HPr := hide hPr
  have HS := hide hS
  have HI := hide hI
  have HJ := hide hJ
  have HE := hide hE
  have HId := hide hid
  have HBk := hide hbk
  have HBi := hide hi
  have j1 : (i : Int) < (bk.length : Int) := by omega
  have j2 : (bk.length : Int) ≤ 8 := by omega
  have j3 : ¬ (bk.length : Int) = 0 := by omega
  subst hg0
  clear hN hP hPr hS hI hJ hE hid hbk hi h8
  go_enter Tryz.func10, Tryz.ntmps10
  go_upto_region 1 with fail
  generalize (World.alloc _ _).alloc _ = W0 at HK ⊢
  go_upto_region 4 with (go_at_call 31; refine (HF.out _).mono ?_; rintro e w1 ⟨rfl, hb1⟩; replace HK := hide (HK.out.kept hb1); clear hb1)
  have q1 := HK.out.1.cl
  go_upto_region 5 with (go_at_call 13; refine (HN.out _ HK.out.2.2).mono ?_; rintro e w2 h2; obtain ⟨G, O, rfl, g2, -, hb2⟩ := NG.gh (w := w1) h2 (Below.refl _ _); have HK1 := HK; have HG := hide g2; replace HK := hide (HK.out.kept hb2); clear hb2 q1 h2 g2)
  have q1 := HK.out.1.cl
  go_upto_region 6 with (go_at_call 13; refine (HN.out _ HK.out.2.2).mono ?_; rintro e w3 h3; obtain ⟨H, P, rfl, g3, o3, hb3⟩ := NG.gh (w := w1) h3 HG.out.below; have HG3 := hide (show G2 w1 G (gz0 c inj bk m) O H (gz0 c inj bk m) P w3 from ⟨HG.out.kept hb3, g3, fun x ho hp => by have := HG.out.lt ho; have := o3 x hp; omega⟩); replace HK := hide (HK.out.kept hb3); clear hb3 q1 h3 g3 o3)
  clear HG
  have q1 := HK.out.1.c22
  go_upto_region 8 with fail
  obtain ⟨gb', ob', eb', hgl, hrow⟩ := (HBk.out.below HK.out.2.2) (by have := HBi.out; omega)
  obtain ⟨rfl, rfl⟩ : gb = gb' ∧ ob = ob' := by cases eb'; exact ⟨rfl, rfl⟩
  have q2 := (bk_at (hrow i HBi.out)).1
  rw [HId.out] at q2
  have HB3 := hide (fun n => drn (Below.refl w3.heap.size w3) n)
  clear hgl hrow eb'
  go_quiet (first | (go_at_call 41; refine Calls.quiet_of_same (HP.out _)))
  replace HG3 := hide (HG3.out.kept (HB3.out nq))
  clear q1 q2 HB3 HK HP
  generalize World.drewN w3 nq = W3 at HG3 ⊢
  go_upto_region 11 with (go_at_call 42; refine (HPr.out _ _ _ _ HG3.out.2.1).mono ?_; rintro e w4 ⟨rfl, n4⟩; obtain ⟨P4, g4, -⟩ := HG3.out.right n4; have HG4 := hide g4; clear n4 g4)
  have HK := hide (HK1.out.kept HG4.out.1.below)
  clear HG3 HPr
  have q1 := HK.out.1.c8
  have q2 := HK.out.2.1.hl
  have q3 := HK.out.1.hv
  go_upto_region 12 with (go_at_call 32; refine (HS.out _ HK.out.2.2).mono ?_; rintro e w5 ⟨b5, l5, k5, rfl, r5, hb5⟩; have HR5 := hide r5; replace HG4 := hide (HG4.out.kept hb5); clear hb5 r5 q1 q2 q3)
  clear HK
  go_upto_region 13 with (go_at_call 16; refine (HI.out _ _ _ _ _ _ _ HG4.out.1 HR5.out.1 HR5.out.2.1 HR5.out.2.2).mono ?_; rintro e w6 ⟨⟨a6, l6, c6, rfl, r6⟩, n6⟩; obtain ⟨O6, g6, k6⟩ := HG4.out.left n6; have HG6 := hide g6; have HR6 := hide r6; replace HR5 := hide (And.intro (k6.2 _ _ _ _ HR5.out.1) HR5.out.2); clear n6 g6 k6 r6)
  clear HG4 HI
  go_upto_region 14 with (go_at_call 16; refine (HJ.out _ _ _ _ _ _ _ HG6.out.2.1 HR5.out.1 HR5.out.2.1 HR5.out.2.2).mono ?_; rintro e w7 ⟨⟨a7, l7, c7, rfl, r7⟩, n7⟩; obtain ⟨P7, g7, k7⟩ := HG6.out.right n7; have HG7 := hide g7; have HR7 := hide r7; replace HR6 := hide (And.intro (k7.2 _ _ _ _ HR6.out.1) HR6.out.2); clear n7 g7 k7 r7)
  clear HG6 HJ HR5
  have HK := hide (HK1.out.kept HG7.out.1.below)
  clear HK1
  rcases HE.out with ⟨e1, e2⟩ | ⟨rfl, hO, hB, hx⟩
  · rw [ev_err e1, ev_err e2]
    unfold err
    clear HE e1 e2
    go_wp2
    go_ret
    exact ⟨rfl, HK.out.2.2⟩
  · have HO := hide hO
    have HBd := hide hB
    have HX := hide hx
    rw [ev_nil]
    clear HE hO hB hx
    have HZ4 := hide (fun W => R4.start W)
    unfold V4.zero4 zero7 at HZ4
    go_upto_region 17 with (first
      | (go_at_call 33; refine (HO.out _ _ _ _ HR6.out.1 HR6.out.2.1 HR6.out.2.2).mono ?_; rintro e w8 ⟨a8, l8, c8, a9, l9, c9, rfl, hb8⟩; have HZ8 := hide (HZ4.out w8); replace HG7 := hide (HG7.out.kept hb8); replace HK := hide (HK.out.kept hb8); replace HR6 := hide (HR6.out.1.below hb8); replace HR7 := hide (HR7.out.1.below hb8); clear hb8)
      | (refine V4.at_store rfl (.tmp 18) (.tmp 95) rfl rfl HZ8.out.1 near x1 8 17 0 a8 l8 c8 rfl ?_; intro w9 p9 on9; have HS9 := hide (on9.sg HZ8.out.2.1 (by omega)); have HP9 := hide p9; have HB9 := hide (on9.below HZ8.out.2.2 (Nat.le_refl _)); clear p9 on9)
      | (refine at_store rfl (.tmp 19) (.tmp 96) rfl rfl HS9.out [17, 1024, x2, 0, 0, 0, 0] a9 l9 c9 rfl ?_; intro wa pa ona; have HPa := hide (show V4.PkIn w8.heap.size near x1 8 17 0 a8 l8 c8 wa from (ona.2.2.2.2 _ (by omega)).trans HP9.out); have HBa := hide (ona.below HB9.out (Nat.le_succ _)); clear pa ona))
    replace HG7 := hide (HG7.out.kept HBa.out)
    replace HK := hide (HK.out.kept HBa.out)
    replace HR6 := hide (HR6.out.below HBa.out)
    replace HR7 := hide (HR7.out.below HBa.out)
    clear HZ8 HS9 HP9 HB9 HBa HO
    generalize w8.heap.size = B8 at HPa ⊢
    go_upto_region 20 with (go_at_call 24; refine (HBd.out _ _ _ _ HG7.out.1).mono ?_; rintro e wb ⟨gl, ol, nl, rfl, hl, hbb⟩; have HCl := hide hl; replace HK := hide (HK.out.kept hbb); replace HR6 := hide (HR6.out.below hbb); replace HR7 := hide (HR7.out.below hbb); replace HPa := hide (HPa.out.kept hbb); clear hbb hl)
    clear HG7 HBd
    obtain ⟨KL, kx, kk, kf⟩ : ∃ KL : World → Prop, KL wb ∧ (∀ W W', Below W.heap.size W W' → KL W → KL W') ∧ (∀ W, KL W → Kpl w c inj (some ⟨gb, ob, none⟩) bk kc s W ∧ V4.PkIn B8 near x1 8 17 0 a8 l8 c8 W ∧ W.cell? ⟨gl, ol + 21, none⟩ = some (.int .i64 x2) ∧ Row8 W a6 l6 c6 Y ∧ Row8 W a7 l7 c7 Y2) := ⟨fun W => Kpl w c inj (some ⟨gb, ob, none⟩) bk kc s W ∧ V4.PkIn B8 near x1 8 17 0 a8 l8 c8 W ∧ W.cell? ⟨gl, ol + 21, none⟩ = some (.int .i64 x2) ∧ Row8 W a6 l6 c6 Y ∧ Row8 W a7 l7 c7 Y2, ⟨HK.out, HPa.out, HCl.out, HR6.out, HR7.out⟩, fun W W' hb h => ⟨h.1.kept hb, h.2.1.kept hb, by rw [hb.cell (p := ⟨gl, ol + 21, none⟩) (cell_lt h.2.2.1)]; exact h.2.2.1, h.2.2.2.1.below hb, h.2.2.2.2.below hb⟩, fun W h => h⟩
    have HKL := hide kx
    have HKK := hide kk
    have HKF := hide kf
    clear kx kk kf HK HPa HCl HR6 HR7
    go_wp2
    go_loopw [22, 23] (fun u t wr => ∃ (j : Nat) (b : Bool), j ≤ bk.length ∧ t = .int .i64 j ∧ u = .bool b ∧ Hid (el (bk.getD i []) 1 = x1 ∧ el (bk.getD i []) 2 = x2 → i < j → b = true) ∧ Hid (KL wr)) (fun _ t _ => bk.length - (intOf t).toNat)
    case atStart => exact ⟨0, false, by omega, rfl, rfl, hide (fun _ h => absurd h (by omega)), HKL⟩
    case round =>
      obtain ⟨j, b, hj, rfl, rfl, HRl, HW⟩ := hrel
      have q1 := (HKF.out _ HW.out).1.1.c22
      by_cases hlt : j < bk.length
      · obtain ⟨gb', ob', eb', hgl, hrow⟩ := (HBk.out.below (HKF.out _ HW.out).1.2.2) (by omega)
        obtain ⟨rfl, rfl⟩ : gb = gb' ∧ ob = ob' := by cases eb'; exact ⟨rfl, rfl⟩
        obtain ⟨y0, y1, y2⟩ := bk_at (hrow j hlt)
        have q2 := (HKF.out _ HW.out).2.1.all.2.1
        have q3 := (HKF.out _ HW.out).2.2.1
        have jl : (j : Int) < (bk.length : Int) := by omega
        have HSm := hide (show el (bk.getD i []) 1 = x1 ∧ el (bk.getD i []) 2 = x2 → i = j → el (bk.getD j []) 0 = id ∧ el (bk.getD j []) 1 = x1 ∧ el (bk.getD j []) 2 = x2 from fun h e => by subst e; exact ⟨HId.out, h⟩)
        have HBn := hide (fun n => HKK.out _ _ (drn (Below.refl wr.heap.size wr) n) HW.out)
        clear hgl hrow eb'
        generalize el (bk.getD j []) 0 = u0 at y0 HSm
        generalize el (bk.getD j []) 1 = u1 at y1 HSm
        generalize el (bk.getD j []) 2 = u2 at y2 HSm
        cases b
        case true =>
          go_upto_region 24 with fail
          go_quiet (fail)
          go_wp2
          go_roundw
          case rel => exact ⟨j + 1, true, by omega, by go_num, rfl, hide (fun _ _ => rfl), hide (HBn.out _)⟩
          case measure => simp [intOf]; omega
        case false =>
          cases f0 : (u0 == id)
          case false =>
            have HL := hide (show el (bk.getD i []) 1 = x1 ∧ el (bk.getD i []) 2 = x2 → i < j + 1 → false = true from fun h e => if e' : i < j then HRl.out h e' else absurd (HSm.out h (by omega)).1 (by simpa using f0))
            go_upto_region 24 with fail
            go_quiet (fail)
            go_wp2
            go_roundw
            case rel => exact ⟨j + 1, false, by omega, by go_num, rfl, HL, hide (HBn.out _)⟩
            case measure => simp [intOf]; omega
          case true =>
            cases f1 : (u1 == x1)
            case false =>
              have HL := hide (show el (bk.getD i []) 1 = x1 ∧ el (bk.getD i []) 2 = x2 → i < j + 1 → false = true from fun h e => if e' : i < j then HRl.out h e' else absurd (HSm.out h (by omega)).2.1 (by simpa using f1))
              go_upto_region 24 with fail
              go_quiet (fail)
              go_wp2
              go_roundw
              case rel => exact ⟨j + 1, false, by omega, by go_num, rfl, HL, hide (HBn.out _)⟩
              case measure => simp [intOf]; omega
            case true =>
              cases f2 : (u2 == x2)
              case false =>
                have HL := hide (show el (bk.getD i []) 1 = x1 ∧ el (bk.getD i []) 2 = x2 → i < j + 1 → false = true from fun h e => if e' : i < j then HRl.out h e' else absurd (HSm.out h (by omega)).2.2 (by simpa using f2))
                go_upto_region 24 with fail
                go_quiet (fail)
                go_wp2
                go_roundw
                case rel => exact ⟨j + 1, false, by omega, by go_num, rfl, HL, hide (HBn.out _)⟩
                case measure => simp [intOf]; omega
              case true =>
                go_upto_region 24 with fail
                go_quiet (fail)
                go_wp2
                go_roundw
                case rel => exact ⟨j + 1, true, by omega, by go_num, rfl, hide (fun _ _ => rfl), hide (HBn.out _)⟩
                case measure => simp [intOf]; omega
      · cases b
        case true =>
          go_wp2
          go_ret
          exact ⟨rfl, (HKF.out _ HW.out).1.2.2⟩
        case false =>
          rcases HX.out with h | ⟨rfl, h⟩
          · exact absurd (HRl.out h (by have := HBi.out; omega)) (by decide)
          · rw [ev_nil]
            have v1 := conv8 (HKF.out _ HW.out).2.2.2.1
            have v2 := conv8 (HKF.out _ HW.out).2.2.2.2
            rw [h] at v2
            have qs := str8_eq (HKF.out _ HW.out).2.2.2.1.2.2.1 (HKF.out _ HW.out).2.2.2.1.2.2.1 true (by simp)
            clear h HX
            go_wp2
            go_ret
            exact ⟨rfl, (HKF.out _ HW.out).1.2.2⟩
end Go.Proofs.YtkhahbghmdccaaaGreat

namespace Go.Proofs.YtkhahbghmdccaaaGreat
open Go.RowKit
set_option linter.unusedVariables false
theorem in6_gh {g : GS} (hg : IG g) (zs : List Int) : ∀ w G O W b l k, GH w G g O W → Row8 W b l k zs → l ≤ k → k ≤ maxLen → Calls Tryz.prog 16 #[.pointer (some ⟨G, 0, none⟩), .slice b l k] W fun e w' => (∃ a2 l2 c2, e = .returned (.tuple #[.slice a2 l2 c2, ev (g6 g zs).1]) ∧ Row8 w' a2 l2 c2 (g6 g zs).2.1 ∧ l2 ≤ c2 ∧ c2 ≤ maxLen) ∧ GN w G (g6 g zs).2.2 O W w' :=
  fun w G O W b l k h r e1 e2 => h.call (R := fun e w' => ∃ a2 l2 c2, e = .returned (.tuple #[.slice a2 l2 c2, ev (g6 g zs).1]) ∧ Row8 w' a2 l2 c2 (g6 g zs).2.1 ∧ l2 ≤ c2 ∧ c2 ≤ maxLen) fun a cap tv S Ot β hG => (in6_any G a cap tv S Ot β g b l k zs W hG hg.1 hg.2.1 hg.2.2 r e1 e2).mono fun e w' ⟨a2, l2, c2, e3, e4, e5⟩ => ⟨⟨a2, l2, c2, e3, e4⟩, e5⟩
theorem cko_dwn {c : List Int} {bk : List (List Int)} {i : Nat} (hi : i < bk.length) (ho : OKs bk) (h : cko c bk 0 = 0) : cko c (dwn bk i) 0 = 0 := by
  unfold cko at h ⊢
  rw [oks_bf (oks_dwn ho hi)]
  rw [oks_bf ho] at h
  exact h
theorem binds_gh {g : GS} {b : List Int} (hg : IG g) (hb : g.bs = [b]) : ∀ w G O W, GH w G g O W → Calls Tryz.prog 24 #[.pointer (some ⟨G, 0, none⟩)] W fun e w' => ∃ x off n, e = .returned (.slice (some ⟨x, off, none⟩) 1 n) ∧ w'.cell? ⟨x, off + 21, none⟩ = some (.int .i64 (el b 21)) ∧ Below W.heap.size W w' := by
  rintro w G O W ⟨a, cap, tv, S, Ot, β, rfl, h⟩
  refine (binds_any G a cap tv S Ot β g W h.1 hg.1).mono ?_
  rintro e w' ⟨v, rfl, hr, hbl⟩
  rw [hb] at hr
  obtain ⟨a5, c5, rfl, hx⟩ := hr
  obtain ⟨x, off, rfl, -, hx⟩ := hx (show 0 < 1 by decide)
  have h0 : w'.rangeAt x off (bdC b).toList := by
    have := hx 0 (show 0 < 1 by decide)
    simpa using this
  exact ⟨x, off, c5, rfl, h0 21 _ rfl, hbl⟩
theorem tmv_walk (c : List Int) (inj : Bool) (ka : Option Addr) (kc : Nat) (bk : List (List Int)) (k : Int) (s : List Int) (p : Int) (w : World) (hb : Bks ka bk w) (h1 : bk.length ≤ kc) (h2 : kc ≤ maxLen) (ha : ka = none → bk = [] ∧ kc = 0) (hk : I64 k) :
    Calls Tryz.prog 10 #[.agg (cfC c inj ka bk.length kc), .int .i64 k, .agg (sixC s), .int .i64 p] w fun e w' => e = .returned (.bool true) ∧ Below w.heap.size w w' := by
  rcases gnew_dich c inj ka kc bk w hb h1 h2 ha with ⟨j, hj, hN⟩ | ⟨m, hm1, hm2, hm3, hl8, hpf, hck, hN⟩
  · exact tmv_a c inj ka kc bk s k p w j hN
  · by_cases hz0 : bk.length = 0
    · exact tmv_b c inj ka kc bk m s k p w hz0 hN
    · obtain ⟨i, hi, hP⟩ := pick_any k bk.length hk (by omega) (by omega)
      obtain ⟨gb, ob, rfl, -⟩ := hb (by omega)
      have ho : OKs bk := oks_of (cko_zero hck).2.2.2
      have hig0 : IG (gz0 c inj bk m) := gz0_ig hm2 hpf hck
      have hig1 : IG (gz0 c inj (dwn bk i) m) := gz0_ig hm2 hpf (cko_dwn hi ho hck)
      have hmk : gmk (gz0 c inj bk m) (el (bk.getD i []) 0) (fun x => bup x false) = (0, gz0 c inj (dwn bk i) m) := by
        unfold gmk
        rw [show svk (gz0 c inj bk m).bk (el (bk.getD i []) 0) = some i from svk_self ho hi]
        rfl
      have hPr : ∀ w G O W, GH w G (gz0 c inj bk m) O W → Calls Tryz.prog 42 #[.pointer (some ⟨G, 0, none⟩), .int .i64 (el (bk.getD i []) 0), .bool false] W fun e w' => e = .returned .nilIface ∧ GN w G (gz0 c inj (dwn bk i) m) O W w' := fun w G O W h => h.call (R := fun e _ => e = .returned .nilIface) fun a cap tv S Ot β hG => by
        have := probe_any G a cap tv S Ot β _ (el (bk.getD i []) 0) false W hG (show bk.length ≤ 1000 by omega)
        rw [hmk] at this
        exact this
      obtain ⟨zs, hzs, hS⟩ : ∃ zs : List Int, (zs = [] ∨ (Ok6 s ∧ Ok6 (vip c) ∧ Okg [17, p, el c 8, 0, 0, 0, 0] 0 ∧ zs = p6o s (vip c) 9 [17, p, el c 8, 0, 0, 0, 0] [])) ∧ ∀ W, Below w.heap.size w W → Calls Tryz.prog 32 #[.agg #[.int .i64 17, .int .i64 p, .int .i64 (el c 8), .int .i64 0, .int .i64 0, .int .i64 0, .int .i64 0, .slice none 0 0], .agg (sixC s), .agg (sixC (vip c)), .int .i64 9] W fun e w' => ∃ b l k, e = .returned (.slice b l k) ∧ (Row8 w' b l k zs ∧ l ≤ k ∧ k ≤ maxLen) ∧ Below W.heap.size W w' := by
        rcases sent_any [17, p, el c 8, 0, 0, 0, 0] none 0 0 [] s (vip c) 9 w (gt_no w) with h | ⟨hs, hd, ht, hz, h⟩
        · exact ⟨[], .inl rfl, fun W hW => (h W hW).mono fun e w' ⟨e1, e2⟩ => ⟨none, 0, 0, e1, ⟨gt_no _, Nat.le_refl _, Nat.zero_le _⟩, e2⟩⟩
        · refine ⟨_, .inr ⟨hs, hd, hz, rfl⟩, fun W hW => (h W hW).mono fun e w' ⟨v, e1, o, e2⟩ => ?_⟩
          obtain ⟨g, k, rfl, k1, k2, _, _, r⟩ := o.form p6o_len
          exact ⟨_, _, k, e1, ⟨r, k1, k2⟩, e2⟩
      rcases hzs with rfl | ⟨hs, hd, hz, rfl⟩
      · refine tmv_c c inj gb ob kc bk m s k p w i _ 0 0 0 rfl hi hl8 _ _ _ _ [] _ _ _ _ rfl hb hN hP hPr hS (in6_gh hig0 []) (in6_gh hig1 []) (.inl ?_)
        rw [g6_nil, g6_nil]
        exact ⟨(by decide : (5 : Int) ≠ 0), (by decide : (5 : Int) ≠ 0)⟩
      · obtain ⟨f, hf⟩ : ∃ f, f = fl5 17 s p (vip c) (el c 8) := ⟨_, rfl⟩
        have f0' : el f 0 = 17 := by rw [hf]; rfl
        have f18 : el f 18 = el c 8 := by rw [hf]; rfl
        have fd : eqz (dst f) (vip c) = true := (eqz_iff _ _).2 fun j hj => by
          rw [hf]
          rcases (by omega : j = 0 ∨ j = 1 ∨ j = 2 ∨ j = 3 ∨ j = 4 ∨ j = 5 ∨ j = 6 ∨ j = 7) with rfl | rfl | rfl | rfl | rfl | rfl | rfl | rfl <;> rfl
        have hgg : ∀ bk, g6 (gz0 c inj bk m) (p6o s (vip c) 9 [17, p, el c 8, 0, 0, 0, 0] []) = g6s (gz0 c inj bk m) f 9 (z7 [17, p, el c 8, 0, 0, 0, 0]) [] := fun bk => by
          rw [g6_p6o _ hs hd (by decide) hz, if_neg (by decide), hf]
          rfl
        obtain ⟨v1, v2⟩ := vip_g6s (inj := inj) (bk := bk) hm1 f0' fd f18 9 (z7 [17, p, el c 8, 0, 0, 0, 0]) []
        obtain ⟨u1, u2⟩ := vip_g6s (inj := inj) (bk := dwn bk i) hm1 f0' fd f18 9 (z7 [17, p, el c 8, 0, 0, 0, 0]) []
        rw [← hgg bk] at v1 v2
        rw [← hgg (dwn bk i)] at u1 u2
        have hig2 := (g6_ig hig0 (p6o_oct hs hd (show up 255 9 = true by decide) hz SM.oct_nil)).1
        have hI := in6_gh hig0 (p6o s (vip c) 9 [17, p, el c 8, 0, 0, 0, 0] [])
        have hJ := in6_gh hig1 (p6o s (vip c) 9 [17, p, el c 8, 0, 0, 0, 0] [])
        by_cases hpk : (pko (el c 19) f bk).2 = 0
        case neg =>
          have hpk' := pick_none (i := i) ho hpk
          refine tmv_c c inj gb ob kc bk m s k p w i _ 0 0 0 rfl hi hl8 _ _ _ _ _ _ _ _ _ rfl hb hN hP hPr hS hI hJ (.inl ?_)
          rw [v1 hpk, u1 hpk']
          exact ⟨hpk, hpk'⟩
        case pos =>
          have hv := v2 hpk
          have hbest := pick_best hpk
          rw [hv] at hI hig2
          have hgb := hig2.1.2.2.1.1 (mkb f 1024 (el (pko (el c 19) f bk).1 1) (el (pko (el c 19) f bk).1 2) 0) (List.mem_singleton.2 rfl)
          have hx1 : up 4294967295 (el (pko (el c 19) f bk).1 1) = true := by
            have h : fr (el (pko (el c 19) f bk).1 1) = true := hgb.2.2.2.1
            unfold fr at h
            rw [Bool.and_eq_true, decide_eq_true_eq, decide_eq_true_eq] at h
            exact decide_eq_true h
          have hx2 : 0 ≤ el (pko (el c 19) f bk).1 2 ∧ el (pko (el c 19) f bk).1 2 ≤ 65535 := by
            have h : wd (el (pko (el c 19) f bk).1 2) = true := hgb.2.2.2.2
            unfold wd at h
            rw [Bool.and_eq_true, decide_eq_true_eq, decide_eq_true_eq] at h
            exact h
          have hun : up 4294967295 (el c 18) = true := hig0.2.2.2.2.2.1
          have hown : (el (bk.getD i []) 1 = el (pko (el c 19) f bk).1 1 ∧ el (bk.getD i []) 2 = el (pko (el c 19) f bk).1 2) ∨ pko (el c 19) f (dwn bk i) = ((pko (el c 19) f bk).1, 0) := by
            by_cases he : el (pko (el c 19) f bk).1 0 = el (bk.getD i []) 0
            · have hx : (pko (el c 19) f bk).1 = bk.getD i [] := oks_inj ho hbest.2.2.1 (by rw [getD_at hi]; exact List.getElem_mem hi) he
              exact .inl ⟨by rw [hx], by rw [hx]⟩
            · exact .inr (pick_dwn hi hpk he)
          have hbd := binds_gh (b := mkb f 1024 (el (pko (el c 19) f bk).1 1) (el (pko (el c 19) f bk).1 2) 0) hig2 rfl
          refine tmv_c c inj gb ob kc bk m s k p w i _ (el (pko (el c 19) f bk).1 1) (el (pko (el c 19) f bk).1 2) (el c 18) rfl hi hl8 _ _ _ _ _ _ _ _ _ rfl hb hN hP hPr hS hI hJ (.inr ⟨rfl, ?_, hbd, ?_⟩)
          · intro W b l q r e1 e2
            exact (opened_ok b l q (el c 18) (el (pko (el c 19) f bk).1 1) 8 [17, 1024, el (pko (el c 19) f bk).1 2, 0, 0, 0, 0] [] W r e1 e2 hun hx1 (by decide) ⟨⟨(by decide : (0 : Int) ≤ 1024), (by decide : (1024 : Int) ≤ 65535)⟩, hx2, Nat.zero_le _, .inr ⟨rfl, rfl, rfl, rfl, rfl⟩⟩).mono fun e w' ⟨a1, l1, c1, a2, l2, c2, e3, _, e5⟩ => ⟨a1, l1, c1, a2, l2, c2, e3, e5⟩
          · rcases hown with h | h
            · exact .inl h
            · right
              have hu := u2 (by rw [h])
              rw [h] at hu
              rw [hu]
              exact ⟨rfl, rfl⟩
end Go.Proofs.YtkhahbghmdccaaaGreat
