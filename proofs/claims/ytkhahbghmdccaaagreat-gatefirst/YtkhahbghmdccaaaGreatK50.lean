/- GateFirst, walked. An argument that is a step of gangplanklaw3, opened. -/
import Derived.Test.YtkhahbghmdccaaaGreatK37
import Derived.Test.YtkhahbghmdccaaaGreatK44
import Derived.Test.YtkhahbghmdccaaaGreatK45
import Derived.Test.YtkhahbghmdccaaaGreatK49
import Derived.Below
import Derived.OpenShut
import Derived.Test.YtkhahbghmdccaaaGreatProg
import Derived.WalkKit
import Derived.LaidEql
import Derived.BigQuiet
import Derived.Laws.AppendOwnNone
import Derived.Laws.MakeOwn
import Derived.Deep.RegionLaw
import Derived.Lib.Bytes
import Derived.Deep.MidRow
import Derived.Laws.ResultCell
import Derived.Deep.CutBlock
import Derived.Deep.QuietTactic
import Derived.OwnWalk
import Derived.Deep.RegionHeld3
import Derived.Deep.DrawnRows
import Derived.Laws.StructEq
import Derived.Maps.AppendAt
import Derived.Maps.RangeWalk
import Derived.Stop.Asserts
import Derived.RowKitTokens
import Derived.Test.YtkhahbghmdccaaaGreatShelf
import Derived.Shelf.Abstract
import Derived.Lib.SliceRun
import Derived.Lib.AppendZerosOnto
import Derived.Lib.AppendZeros
import Derived.Laws.CopyOwn
import Derived.RangeFuncNested
import Derived.RangeFuncBound
import Derived.RangeFuncCalls
import Derived.RangeFuncLeaves
import Derived.RangeFuncFrom
import Derived.Shelf.RegionOpen
import Derived.OwnWalkIn
import Derived.TacticsInMore
import Derived.LoopNIn
import Derived.LoopIn
import Derived.Deep.RegionWith
import Derived.ArgAppend
import Derived.Lib.SlBytesConst
import Derived.Lib.AppendStr
import Derived.Test.YtkhahbghmdccaaaGreatK21
import Derived.Test.YtkhahbghmdccaaaGreatK38
import Derived.Deep.Slices
import Derived.ChangeArms
import Derived.WideShapes
import Derived.Deep.Fields
import Derived.ChangeSlices
namespace Go.Proofs.YtkhahbghmdccaaaGreat
open Go.RowKit
/-- a config, a flow, a bind, in their blocks. -/
def Ksc (w : World) (c : List Int) (inj : Bool) (ka : Option Addr) (bk : List (List Int)) (kc : Nat) (f b : List Int) (W : World) : Prop := CfIn w.heap.size c inj ka bk.length kc W ∧ FlIn (w.heap.size + 1) f W ∧ BdIn (w.heap.size + 1 + 1) b W ∧ Bks ka bk W ∧ Below w.heap.size w W
theorem Ksc.kept {w : World} {c : List Int} {inj : Bool} {ka : Option Addr} {bk : List (List Int)} {kc : Nat} {f b : List Int} {W W' : World} (h : Ksc w c inj ka bk kc f b W) (hb : Below W.heap.size W W') : Ksc w c inj ka bk kc f b W' := ⟨h.1.kept hb, h.2.1.kept hb, h.2.2.1.kept hb, h.2.2.2.1.below hb, bt h.2.2.2.2 hb⟩
theorem Ksc.start (w : World) (c : List Int) (inj : Bool) (ka : Option Addr) (bk : List (List Int)) (kc : Nat) (f b : List Int) (hb : Bks ka bk w) : Ksc w c inj ka bk kc f b (((w.alloc (.cells (cfC c inj ka bk.length kc) 26)).alloc (.cells (flC f) 61)).alloc (.cells (bdC b) 63)) := by
  have b1 := al_below w (.cells (cfC c inj ka bk.length kc) 26)
  have b2 := al_below (w.alloc (.cells (cfC c inj ka bk.length kc) 26)) (.cells (flC f) 61)
  have b3 := al_below ((w.alloc (.cells (cfC c inj ka bk.length kc) 26)).alloc (.cells (flC f) 61)) (.cells (bdC b) 63)
  have p2 := fl_new f (w.alloc (.cells (cfC c inj ka bk.length kc) 26))
  have p3 := bd_new b ((w.alloc (.cells (cfC c inj ka bk.length kc) 26)).alloc (.cells (flC f) 61))
  rw [World.size_alloc] at p2
  rw [World.size_alloc, World.size_alloc] at p3
  have hb3 := bt (bt b1 b2) b3
  exact ⟨((cf_new w c inj ka bk.length kc).kept b2).kept b3, p2.kept b3, p3, hb.below hb3, hb3⟩
attribute [local go_sem ↓] fload_shut
set_option maxRecDepth 100000 in
set_option maxHeartbeats 4000000 in
theorem scored_any (c : List Int) (inj : Bool) (ka : Option Addr) (bk : List (List Int)) (kc : Nat) (b : List Int) (w : World) (hb : Bks ka bk w) (hl : bk.length ≤ maxLen) (h0 : (pko (el c 19) b bk).2 = 0) (h1 : el (pko (el c 19) b bk).1 1 = el b 20) (h2 : el (pko (el c 19) b bk).1 2 = el b 21) :
    Calls Tryz.prog 30 #[.agg (cfC c inj ka bk.length kc), .agg (flC b), .agg (bdC b)] w fun e w' => e = .returned (.bool true) ∧ Below w.heap.size w w' := by
  have HK := hide (Ksc.start w c inj ka bk kc b b hb)
  have HP := hide (fun W (h : Bks ka bk W) => rpick_any (el c 19) b ka kc bk W h hl)
  rw [h0] at HP
  generalize (pko (el c 19) b bk).1 = x at HP h1 h2
  have HZ := hide (fun W => bk_zero W)
  unfold zero4b at HZ
  have H1 := hide h1
  have H2 := hide h2
  clear hb hl h0 h1 h2
  go_enter Tryz.func30, Tryz.ntmps30
  go_upto_region 1 with fail
  generalize ((World.alloc _ _).alloc _).alloc _ = W0 at HK ⊢
  have q1 := HK.out.1.c19
  have q2 := HK.out.2.1.fl
  have q3 := HK.out.1.c22
  go_upto_region 2 with (first
    | (go_at_call 84; refine (HP.out _ HK.out.2.2.2.1).mono ?_; rintro e w1 ⟨rfl, hb1⟩; replace HK := hide (HK.out.kept hb1); have HZ1 := hide (HZ.out w1); clear hb1 q1 q2 q3)
    | (refine at_storek rfl (.tmp 7) (.tmp 16) rfl rfl HZ1.out x rfl ?_; intro w2 p2 on2; replace HK := hide (HK.out.kept (new_below _ on2)); have HX := hide p2; clear p2 on2))
  have q1 := HX.out.c1
  have q2 := HX.out.c2
  have q3 := HK.out.2.2.1.cell 20 (by omega)
  have q4 := HK.out.2.2.1.cell 21 (by omega)
  rw [H1.out] at q1
  rw [H2.out] at q2
  go_wp2
  go_ret
  exact ⟨rfl, HK.out.2.2.2.2⟩
/-- a config and a step, in their blocks. -/
def Kfs (w : World) (c : List Int) (inj : Bool) (ka : Option Addr) (bk : List (List Int)) (kc : Nat) (wh : Int) (ba : Option Addr) (bl bc : Nat) (z : List Int) (a : Option Addr) (len cap : Nat) (s d : List Int) (hop n : Int) (is : Bool) (W : World) : Prop := CfIn w.heap.size c inj ka bk.length kc W ∧ StIn3 (w.heap.size + 1) wh ba bl bc z a len cap s d hop n is W ∧ Below w.heap.size w W
theorem Kfs.kept {w : World} {c : List Int} {inj : Bool} {ka : Option Addr} {bk : List (List Int)} {kc : Nat} {wh : Int} {ba : Option Addr} {bl bc : Nat} {z : List Int} {a : Option Addr} {len cap : Nat} {s d : List Int} {hop n : Int} {is : Bool} {W W' : World} (h : Kfs w c inj ka bk kc wh ba bl bc z a len cap s d hop n is W) (hb : Below W.heap.size W W') : Kfs w c inj ka bk kc wh ba bl bc z a len cap s d hop n is W' := ⟨h.1.kept hb, h.2.1.kept hb, bt h.2.2 hb⟩
theorem Kfs.start (w : World) (c : List Int) (inj : Bool) (ka : Option Addr) (bk : List (List Int)) (kc : Nat) (wh : Int) (ba : Option Addr) (bl bc : Nat) (z : List Int) (a : Option Addr) (len cap : Nat) (s d : List Int) (hop n : Int) (is : Bool) : Kfs w c inj ka bk kc wh ba bl bc z a len cap s d hop n is ((w.alloc (.cells (cfC c inj ka bk.length kc) 26)).alloc (.cells (stC3 wh ba bl bc z a len cap s d hop n is) 32)) := by
  have b1 := al_below w (.cells (cfC c inj ka bk.length kc) 26)
  have b2 := al_below (w.alloc (.cells (cfC c inj ka bk.length kc) 26)) (.cells (stC3 wh ba bl bc z a len cap s d hop n is) 32)
  have p2 := st3_new (w.alloc (.cells (cfC c inj ka bk.length kc) 26)) wh ba bl bc z a len cap s d hop n is
  rw [World.size_alloc] at p2
  exact ⟨(cf_new w c inj ka bk.length kc).kept b2, p2, bt b1 b2⟩
/-- what is sent by a new step, as one row of bytes. -/
theorem lsent_row (z : List Int) (a : Option Addr) (len cap : Nat) (s d : List Int) (hop : Int) (c : List Int) (inj : Bool) (ka : Option Addr) (kn kc : Nat) (D : List Int) (w : World) (hr : Row8 w a len cap D) : ∃ zs : List Int, (zs = [] ∨ (Ok6 s ∧ Ok6 d ∧ up 255 hop = true ∧ Okg z D.length ∧ zs = p6o s d hop z D)) ∧
    ∀ W, Below w.heap.size w W → Calls Tryz.prog 15 #[.agg (stC3 9 none 0 0 z a len cap s d hop 0 false), .agg (cfC c inj ka kn kc), .slice none 0 0] W fun e w' => ∃ b l k, e = .returned (.slice b l k) ∧ (Row8 w' b l k zs ∧ l ≤ k ∧ k ≤ maxLen) ∧ Below W.heap.size W w' := by
  rcases lsent_any 9 none 0 0 z a len cap s d hop 0 false c inj ka kn kc (.slice none 0 0) D w (by decide) hr with h | ⟨hs, hd, ht, hz, h⟩
  · exact ⟨[], .inl rfl, fun W hW => (h W hW).mono fun e w' ⟨e1, e2⟩ => ⟨none, 0, 0, e1, ⟨gt_no _, Nat.le_refl _, Nat.zero_le _⟩, e2⟩⟩
  · refine ⟨_, .inr ⟨hs, hd, ht, hz, rfl⟩, fun W hW => (h W hW).mono fun e w' ⟨v, e1, o, e2⟩ => ?_⟩
    obtain ⟨g, k, rfl, k1, k2, _, _, r⟩ := o.form p6o_len
    exact ⟨_, _, k, e1, ⟨r, k1, k2⟩, e2⟩
attribute [local go_sem ↓] gload_shut hload_shut cload_shut sbu_shut bload_shut
set_option maxRecDepth 100000 in
set_option maxHeartbeats 8000000 in
theorem gfirst_walk (c : List Int) (inj : Bool) (ka : Option Addr) (kc : Nat) (bk : List (List Int)) (wh : Int) (ba : Option Addr) (bl bc : Nat) (z : List Int) (a : Option Addr) (len cap : Nat) (D s d : List Int) (hop n : Int) (is : Bool) (w : World) (hb : Bks ka bk w) (h1 : bk.length ≤ kc) (h2 : kc ≤ maxLen) (ha : ka = none → bk = [] ∧ kc = 0) (hr : Row8 w a len cap D) :
    Calls Tryz.prog 6 #[.agg (cfC c inj ka bk.length kc), .agg (stC3 wh ba bl bc z a len cap s d hop n is)] w fun e w' => e = .returned (.bool true) ∧ Below w.heap.size w w' := by
  have HF := hide fact_any
  have HK := hide (Kfs.start w c inj ka bk kc wh ba bl bc z a len cap s d hop n is)
  rcases gnew_dich c inj ka kc bk w hb h1 h2 ha with ⟨j, hj, hN⟩ | ⟨m, hm1, hm2, hm3, hl8, hpf, hck, hN⟩
  · have HN := hide hN
    unfold err at HN
    clear hb h1 h2 ha hr hN hj
    go_enter Tryz.func6, Tryz.ntmps6
    go_upto_region 1 with fail
    generalize (World.alloc _ _).alloc _ = W0 at HK ⊢
    go_upto_region 4 with (go_at_call 12; refine (HF.out _).mono ?_; rintro e w1 ⟨rfl, hb1⟩; replace HK := hide (HK.out.kept hb1); clear hb1)
    have q1 := HK.out.1.cl
    go_wp2_with (go_at_call 13; refine (HN.out _ HK.out.2.2).mono ?_; rintro e w2 ⟨rfl, hb2⟩; replace HK := hide (HK.out.kept hb2); clear hb2 q1)
    go_ret
    exact ⟨rfl, HK.out.2.2⟩
  · obtain ⟨zs, hzs, hS⟩ := lsent_row z a len cap s (vip c) hop c inj ka bk.length kc D w hr
    have hig : IG (gz0 c inj bk m) := gz0_ig hm2 hpf hck
    have hoct : SM.Oct zs := by
      rcases hzs with rfl | ⟨q1, q2, q3, q4, rfl⟩
      · exact SM.oct_nil
      · exact p6o_oct q1 q2 q3 q4 hr.2.2.1
    have hR : ((g6 (gz0 c inj bk m) zs).1 ≠ 0 ∧ (g6 (gz0 c inj bk m) zs).2.2.bs = []) ∨ ∃ f p, (g6 (gz0 c inj bk m) zs).2.2.bs = [mkb f p (el (pko (el c 19) f bk).1 1) (el (pko (el c 19) f bk).1 2) 0] ∧ (pko (el c 19) f bk).2 = 0 := by
      rcases hzs with rfl | ⟨q1, q2, q3, q4, rfl⟩
      · rw [g6_nil]
        exact .inl ⟨(by decide : (5 : Int) ≠ 0), rfl⟩
      · rw [g6_p6o _ q1 q2 q3 q4]
        by_cases ht : hop < 2
        · rw [if_pos ht]
          exact .inl ⟨(by decide : (7 : Int) ≠ 0), rfl⟩
        · rw [if_neg ht]
          rcases first_g6s (inj := inj) (bk := bk) (m := m) (cko_vip hck) (f := fl5 (el z 0) s (el z 1) (vip c) (el z 2)) (fun j hj => by
            rcases (by omega : j = 0 ∨ j = 1 ∨ j = 2 ∨ j = 3 ∨ j = 4 ∨ j = 5 ∨ j = 6 ∨ j = 7) with rfl | rfl | rfl | rfl | rfl | rfl | rfl | rfl <;> rfl) hop (z7 z) D with h | ⟨p, h3, h4⟩
          · exact .inl h
          · exact .inr ⟨_, p, h3, h4⟩
    have hg2 := (g6_ig hig hoct).1
    have HI := hide (fun G x kc' tv S Ot β W b l k (h : GC G x kc' tv S Ot β (gz0 c inj bk m) W) (r : Row8 W b l k zs) (e1 : l ≤ k) (e2 : k ≤ maxLen) => in6_any G x kc' tv S Ot β _ b l k zs W h hig.1 hig.2.1 hig.2.2 r e1 e2)
    have HBi := hide (fun G x kc' tv S Ot β W (h : GC G x kc' tv S Ot β (g6 (gz0 c inj bk m) zs).2.2 W) => binds_any G x kc' tv S Ot β _ W h hg2.1)
    have HSc := hide (fun b W (hW : Bks ka bk W) (e0 : (pko (el c 19) b bk).2 = 0) (e1 : el (pko (el c 19) b bk).1 1 = el b 20) (e2 : el (pko (el c 19) b bk).1 2 = el b 21) => scored_any c inj ka bk kc b W hW (Nat.le_trans h1 h2) e0 e1 e2)
    have HR := hide hR
    have HBk := hide hb
    have HN := hide hN
    have HS := hide hS
    have hsb := fun W => sbu_run z a len cap s (vip c) hop W
    generalize g6 (gz0 c inj bk m) zs = R at HI HBi HR
    clear hb h1 h2 ha hr hN hm1 hm2 hm3 hl8 hpf hck hzs hS hig hoct hR hg2
    go_enter Tryz.func6, Tryz.ntmps6
    go_upto_region 1 with fail
    generalize (World.alloc _ _).alloc _ = W0 at HK ⊢
    go_upto_region 4 with (go_at_call 12; refine (HF.out _).mono ?_; rintro e w1 ⟨rfl, hb1⟩; replace HK := hide (HK.out.kept hb1); clear hb1)
    have q1 := HK.out.1.cl
    go_upto_region 7 with (go_at_call 13; refine (HN.out _ HK.out.2.2).mono ?_; rintro e w2 ⟨G, a2, c2, tv, S, Ot, rfl, g2, o2, hb2⟩; have HG := hide (show OG w1 G a2 c2 tv S Ot (fun _ => 0) (gz0 c inj bk m) w2 from ⟨g2, o2, hb2⟩); have HK1 := HK; replace HK := hide (HK.out.kept hb2); clear hb2 q1 g2 o2)
    have q1 := HK.out.1.cl
    have q2 := HK.out.2.1.gl
    have q3 := HK.out.2.1.hs
    have q4 := HK.out.1.hv
    have q5 := HK.out.2.1.hop
    go_upto_region 8 with (first
      | (go_at_call 15; refine (HS.out _ HK.out.2.2).mono ?_; rintro e w3 ⟨b3, l3, k3, rfl, r3, hb3⟩; have HR3 := hide r3; replace HG := hide (HG.out.kept hb3); clear hb3 r3 q1 q2 q3 q4 q5)
      | (go_at_call 16; refine (HI.out _ _ _ _ _ _ _ _ _ _ _ HG.out.1 HR3.out.1 HR3.out.2.1 HR3.out.2.2).mono ?_; rintro e w4 ⟨a4, l4, c4, rfl, r4, q4⟩; obtain ⟨Ot4, β4, g4⟩ := HG.out.step q4; have HG4 := hide g4; clear r4 q4 g4))
    clear HG HR3 HS HI HK
    go_upto_region 9 with (go_at_call 24; refine (HBi.out _ _ _ _ _ _ _ _ HG4.out.1).mono ?_; rintro e w5 ⟨v5, rfl, r5, hb5⟩; have HR5 := hide r5; replace HG4 := hide (HG4.out.kept hb5); clear hb5 r5)
    have HK := hide (HK1.out.kept HG4.out.2.2)
    clear HBi HK1
    obtain ⟨a5, c5, rfl, hx5⟩ := HR5.out
    rcases HR.out with ⟨e1, e2⟩ | ⟨f, p, e1, e2⟩
    · rw [e2] at hx5 ⊢
      rw [ev_err e1]
      unfold err
      clear hx5 HR5 HR e1 e2
      rw [List.length_nil]
      go_wp2
      go_ret
      exact ⟨rfl, HK.out.2.2⟩
    · rw [e1] at hx5 ⊢
      obtain ⟨g5, off5, rfl, -, hx⟩ := hx5 (show 0 < 1 by decide)
      have hx0 : w5.rangeAt g5 off5 (bdC (mkb f p (el (pko (el c 19) f bk).1 1) (el (pko (el c 19) f bk).1 2) 0)).toList := by
        have := hx 0 (show 0 < 1 by decide)
        simpa using this
      have HX := hide hx0
      have HSb := hide (fun W (hW : Bks ka bk W) => HSc.out (mkb f p (el (pko (el c 19) f bk).1 1) (el (pko (el c 19) f bk).1 2) 0) W hW (by rw [pko_mkb]; exact e2) (by rw [pko_mkb]; rfl) (by rw [pko_mkb]; rfl))
      generalize mkb f p (el (pko (el c 19) f bk).1 1) (el (pko (el c 19) f bk).1 2) 0 = b at HX HSb
      clear hx hx0 hx5 HR5 HR e1 e2 HSc
      rw [List.length_singleton]
      have HBw := hide (HBk.out.below HK.out.2.2)
      have hcases : ev R.1 = .nilIface ∨ ∃ j, ev R.1 = .iface 47 (.int .i64 j) := by
        by_cases hE : R.1 = 0
        · exact .inl (by rw [hE]; rfl)
        · exact .inr ⟨R.1, ev_err hE⟩
      rcases hcases with hE | ⟨j, hE⟩
      all_goals
        rw [hE]
        clear hE
        go_upto_region 11 with fail
        have hbd : Below w5.heap.size w5 w5.drew := (Below.refl _ _).drew
        have HX1 := hide (show w5.drew.rangeAt g5 off5 (bdC b).toList from HX.out)
        have HQ := hide (show ∀ W', CfIn w.heap.size c inj ka bk.length kc W' → W'.rangeAt g5 off5 (bdC b).toList → (cload (.pointer (some ⟨w.heap.size, 0, none⟩))).run Tryz.prog W' = .ok (.agg (cfC c inj ka bk.length kc)) W' ∧ (fload (.pointer (some ⟨g5, off5, none⟩))).run Tryz.prog W' = .ok (.agg (flC b)) W' ∧ (bload (.pointer (some ⟨g5, off5, none⟩))).run Tryz.prog W' = .ok (.agg (bdC b)) W' from fun W' h1 h2 => ⟨h1.cl, row_fl h2, row_bl h2⟩)
        have HQ1 := hide (HQ.out w5.drew (HK.out.1.kept hbd) HX1.out)
        have HK1 := hide (HK.out.kept hbd)
        have HBd := hide (HBw.out.below hbd)
        clear hbd
        obtain ⟨q1, q2, q3⟩ := HQ1.out
        go_region_held3 (fun W' => (cload (.pointer (some ⟨w.heap.size, 0, none⟩))).run Tryz.prog W' = .ok (.agg (cfC c inj ka bk.length kc)) W' ∧ (fload (.pointer (some ⟨g5, off5, none⟩))).run Tryz.prog W' = .ok (.agg (flC b)) W' ∧ (bload (.pointer (some ⟨g5, off5, none⟩))).run Tryz.prog W' = .ok (.agg (bdC b)) W')
          (first
            | exact HQ1.out
            | exact HQ2.out
            | go_keep)
          (first
            | (go_at_call 30; refine (HSb.out _ HBd.out).mono ?_; rintro e w6 ⟨rfl, hb6⟩; have HQ2 := hide (HQ.out w6 (HK1.out.1.kept hb6) (fun j v hv => by have hc := HX1.out j v hv; rw [hb6.cell (p := ⟨g5, off5 + j, none⟩) (cell_lt hc)]; exact hc)); have HB6 := hide (bt HK1.out.2.2 hb6); clear hb6 q1 q2 q3; obtain ⟨q1, q2, q3⟩ := HQ2.out))
        all_goals
          clear q1 q2 q3
          go_wp2_with fail
          go_ret
          exact ⟨rfl, HB6.out⟩
end Go.Proofs.YtkhahbghmdccaaaGreat

namespace Go.Proofs.YtkhahbghmdccaaaGreat
open Go.ChangeShapes Go.WideShapes Go.Deep Go.RowKit
theorem Tryz.step3F : (Tryz.prog.underlying 32).map (fun d => match d with | .struct fs => fs.toList.map (fun f => (f.offset, f.type)) | _ => []) = some [(0, 3), (1, 28), (2, 30), (10, 23), (18, 23), (26, 3), (27, 3), (28, 4)] := by kernel_rfl
theorem part_at {cs : List Value} {o n j : Nat} (h : j < n) : ((cs.drop o).take n)[j]? = cs[o + j]? := by
  rw [List.getElem?_take_of_lt h, List.getElem?_drop]
set_option maxRecDepth 100000 in
/-- a step's cells. -/
theorem step_of {H : Type} {enc : TypeId × Value → H} {W : World} {base : Nat} {held : Bool} {n : Nat} {cs : List Value} {y : DataW H × List MemPlace} (h : DataW.trod enc Tryz.prog W base (fun _ => true) held n 32 cs = some y) :
    ∃ wh ba bl bc bs z a len cap D s d hop m is, cs = (stC3 wh ba bl bc z a len cap s d hop m is).toList ∧ IsRow .u8 W ba bl bc bs ∧ Row8 W a len cap D := by
  have hu := Tryz.underlying32
  obtain ⟨xs, m, _, _, hl, hx, hall⟩ := DataW.trod_struct hu h
  have hF := Tryz.step3F
  rw [hu] at hF
  replace hF := Option.some.inj hF
  have c1 : Tryz.prog.cellsOf 3 = 1 := by kernel_rfl
  have cb : Tryz.prog.cellsOf 28 = 1 := by kernel_rfl
  have c8 : Tryz.prog.cellsOf 30 = 8 := by kernel_rfl
  have c6 : Tryz.prog.cellsOf 23 = 8 := by kernel_rfl
  have cl : Tryz.prog.cellsOf 4 = 1 := by kernel_rfl
  have c29 : Tryz.prog.cellsOf 32 = 29 := by kernel_rfl
  rw [c29] at hl
  obtain ⟨y0, g0⟩ := sg_field (k := 0) hF hx hall _ _ rfl
  obtain ⟨y1, g1⟩ := sg_field (k := 1) hF hx hall _ _ rfl
  obtain ⟨y2, g2⟩ := sg_field (k := 2) hF hx hall _ _ rfl
  obtain ⟨y3, g3⟩ := sg_field (k := 3) hF hx hall _ _ rfl
  obtain ⟨y4, g4⟩ := sg_field (k := 4) hF hx hall _ _ rfl
  obtain ⟨y5, g5⟩ := sg_field (k := 5) hF hx hall _ _ rfl
  obtain ⟨y6, g6⟩ := sg_field (k := 6) hF hx hall _ _ rfl
  obtain ⟨y7, g7⟩ := sg_field (k := 7) hF hx hall _ _ rfl
  rw [c1] at g0 g5 g6
  rw [cb] at g1
  rw [c8] at g2
  rw [c6] at g3 g4
  rw [cl] at g7
  obtain ⟨x0, e0, _, _⟩ := DataW.trod_int Tryz.underlying3 g0
  obtain ⟨x5, e5, _, _⟩ := DataW.trod_int Tryz.underlying3 g5
  obtain ⟨x6, e6, _, _⟩ := DataW.trod_int Tryz.underlying3 g6
  obtain ⟨x7, e7, _⟩ := DataW.trod_bool Tryz.underlying4 g7
  obtain ⟨v1, e1⟩ := sg_cut (cs := cs) (o := 1) (by omega)
  rw [e1] at g1
  obtain ⟨ba, bl, bc, bs, rfl, hrow⟩ := field_bytes Tryz.underlying28 Tryz.underlying5 (by kernel_rfl) (fun _ => rfl) g1
  obtain ⟨z, a, len, cap, D, e2, hD⟩ := seg_of g2
  have hs := nums_six g3
  have hd := nums_six g4
  obtain ⟨s0, es0, _⟩ := hs.2 0 (by omega)
  rw [part_at (by omega)] at es0
  obtain ⟨s1, es1, _⟩ := hs.2 1 (by omega)
  rw [part_at (by omega)] at es1
  obtain ⟨s2, es2, _⟩ := hs.2 2 (by omega)
  rw [part_at (by omega)] at es2
  obtain ⟨s3, es3, _⟩ := hs.2 3 (by omega)
  rw [part_at (by omega)] at es3
  obtain ⟨s4, es4, _⟩ := hs.2 4 (by omega)
  rw [part_at (by omega)] at es4
  obtain ⟨s5, es5, _⟩ := hs.2 5 (by omega)
  rw [part_at (by omega)] at es5
  obtain ⟨s6, es6, _⟩ := hs.2 6 (by omega)
  rw [part_at (by omega)] at es6
  obtain ⟨s7, es7, _⟩ := hs.2 7 (by omega)
  rw [part_at (by omega)] at es7
  obtain ⟨d0, ed0, _⟩ := hd.2 0 (by omega)
  rw [part_at (by omega)] at ed0
  obtain ⟨d1, ed1, _⟩ := hd.2 1 (by omega)
  rw [part_at (by omega)] at ed1
  obtain ⟨d2, ed2, _⟩ := hd.2 2 (by omega)
  rw [part_at (by omega)] at ed2
  obtain ⟨d3, ed3, _⟩ := hd.2 3 (by omega)
  rw [part_at (by omega)] at ed3
  obtain ⟨d4, ed4, _⟩ := hd.2 4 (by omega)
  rw [part_at (by omega)] at ed4
  obtain ⟨d5, ed5, _⟩ := hd.2 5 (by omega)
  rw [part_at (by omega)] at ed5
  obtain ⟨d6, ed6, _⟩ := hd.2 6 (by omega)
  rw [part_at (by omega)] at ed6
  obtain ⟨d7, ed7, _⟩ := hd.2 7 (by omega)
  rw [part_at (by omega)] at ed7
  refine ⟨x0, ba, bl, bc, bs, z, a, len, cap, D, [s0, s1, s2, s3, s4, s5, s6, s7], [d0, d1, d2, d3, d4, d5, d6, d7], x5, x6, x7, List.ext_getElem? fun i => ?_, hrow, hD⟩
  by_cases hi : i < 29
  · rcases (by omega : i = 0 ∨ i = 1 ∨ i = 2 ∨ i = 3 ∨ i = 4 ∨ i = 5 ∨ i = 6 ∨ i = 7 ∨ i = 8 ∨ i = 9 ∨ i = 10 ∨ i = 11 ∨ i = 12 ∨ i = 13 ∨ i = 14 ∨ i = 15 ∨ i = 16 ∨ i = 17 ∨ i = 18 ∨ i = 19 ∨ i = 20 ∨ i = 21 ∨ i = 22 ∨ i = 23 ∨ i = 24 ∨ i = 25 ∨ i = 26 ∨ i = 27 ∨ i = 28) with rfl | rfl | rfl | rfl | rfl | rfl | rfl | rfl | rfl | rfl | rfl | rfl | rfl | rfl | rfl | rfl | rfl | rfl | rfl | rfl | rfl | rfl | rfl | rfl | rfl | rfl | rfl | rfl | rfl
    · exact sg_one e0
    · exact sg_one e1
    · have := congrArg (fun l => l[0]?) e2; rw [part_at (by omega)] at this; exact this
    · have := congrArg (fun l => l[1]?) e2; rw [part_at (by omega)] at this; exact this
    · have := congrArg (fun l => l[2]?) e2; rw [part_at (by omega)] at this; exact this
    · have := congrArg (fun l => l[3]?) e2; rw [part_at (by omega)] at this; exact this
    · have := congrArg (fun l => l[4]?) e2; rw [part_at (by omega)] at this; exact this
    · have := congrArg (fun l => l[5]?) e2; rw [part_at (by omega)] at this; exact this
    · have := congrArg (fun l => l[6]?) e2; rw [part_at (by omega)] at this; exact this
    · have := congrArg (fun l => l[7]?) e2; rw [part_at (by omega)] at this; exact this
    · exact es0
    · exact es1
    · exact es2
    · exact es3
    · exact es4
    · exact es5
    · exact es6
    · exact es7
    · exact ed0
    · exact ed1
    · exact ed2
    · exact ed3
    · exact ed4
    · exact ed5
    · exact ed6
    · exact ed7
    · exact sg_one e5
    · exact sg_one e6
    · exact sg_one e7
  · rw [List.getElem?_eq_none (by omega), List.getElem?_eq_none (by show 29 ≤ i; omega)]
set_option maxRecDepth 100000 in
/-- an argument that is a step. -/
theorem step_open {H : Type} {enc : TypeId × Value → H} {W : World} {base b0 : Nat} {held : Bool} {v : Value} {x : DataW H} {p : List MemPlace} (h : Value.okWide Tryz.prog W .any b0 32 v) (ht : DataW.Trod enc Tryz.prog W base (fun _ => true) held 32 v x p) :
    ∃ wh ba bl bc bs z a len cap D s d hop m is, v = .agg (stC3 wh ba bl bc z a len cap s d hop m is) ∧ IsRow .u8 W ba bl bc bs ∧ Row8 W a len cap D := by
  have hu := Tryz.underlying32
  unfold Value.okWide at h
  rw [hu] at h
  obtain ⟨cs, rfl, _⟩ := h
  obtain ⟨fuel, hf⟩ := ht
  obtain ⟨wh, ba, bl, bc, bs, z, a, len, cap, D, s, d, hop, m, is, e, h1, h2⟩ := step_of hf
  refine ⟨wh, ba, bl, bc, bs, z, a, len, cap, D, s, d, hop, m, is, ?_, h1, h2⟩
  have e' : cs.toList = (stC3 wh ba bl bc z a len cap s d hop m is).toList := e
  rw [Array.toList_inj.1 e']
end Go.Proofs.YtkhahbghmdccaaaGreat
