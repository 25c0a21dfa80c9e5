/- Package gate: the bind of a flow, walked. Package gate: the bind of a flow that has none, walked. Package gate: the stream of a bind, by contracts. -/
import Derived.Test.YtkhahbghmdccaaaGreatDoorF31
import Derived.Test.YtkhahbghmdccaaaGreatDoorF33
import Derived.Test.YtkhahbghmdccaaaGreatDoorF38
import Derived.Below
import Derived.OpenShut
import Derived.Test.YtkhahbghmdccaaaGreatDoorProg
import Derived.WalkKit
import Derived.LaidEql
import Derived.BigQuiet
import Derived.Laws.AppendOwnNone
import Derived.Laws.MakeOwn
import Derived.Deep.RegionLaw
import Derived.Lib.Bytes
import Derived.Deep.MidRow
import Derived.Laws.ResultCell
import Derived.Deep.CutBlock
import Derived.Deep.QuietTactic
import Derived.OwnWalk
import Derived.Deep.RegionHeld3
import Derived.Deep.DrawnRows
import Derived.Laws.StructEq
import Derived.Maps.AppendAt
import Derived.Maps.RangeWalk
import Derived.Stop.Asserts
import Derived.RowKitTokens
import Derived.Test.YtkhahbghmdccaaaGreatDoorShelf
import Derived.Shelf.Abstract
import Derived.Lib.SliceRun
import Derived.Lib.AppendZerosOnto
import Derived.Lib.AppendZeros
import Derived.Laws.CopyOwn
import Derived.RangeFuncNested
import Derived.RangeFuncBound
import Derived.RangeFuncCalls
import Derived.RangeFuncLeaves
import Derived.RangeFuncFrom
import Derived.Shelf.RegionOpen
import Derived.OwnWalkIn
import Derived.TacticsInMore
import Derived.LoopNIn
import Derived.LoopIn
import Derived.Deep.RegionWith
import Derived.Test.YtkhahbghmdccaaaGreatDoorF30
import Derived.Test.YtkhahbghmdccaaaGreatDoorF37
import Derived.ArgAppend
import Derived.Lib.SlBytesConst
import Derived.Lib.AppendStr
namespace Go.Proofs.YtkhahbghmdccaaaGreatDoor
open Go.RowKit
attribute [local go_sem ↓] fload_shut bload_shut bstore_shut
set_option maxRecDepth 100000 in
set_option maxHeartbeats 8000000 in
theorem bindof_has (G : Nat) (a : Option Addr) (cap : Nat) (tv : Value) (S : Nat) (Ot : Nat → Prop) (β : Int → Nat) (g : GS) (f : List Int) (flags : Int) (lv : Value) (k : Nat) (w : World) (h : GC G a cap tv S Ot β g w) (hi : TI g) (hf : okf f = true) (hfn : fnd g.bs f = some k) :
    Calls Tryz.prog 66 #[.pointer (some ⟨G, 0, none⟩), .agg (flC f), .int .i64 flags, lv] w fun e w' => e = .returned (.tuple #[.agg (bdC (g.bs.getD k [])), .nilIface]) ∧ BQ w w.heap.size G a cap tv S Ot β g (g.tab g.ws g.ts (g.bs.set k (usd (g.bs.getD k []) g.now))) w' := by
  have HK := hide (BK.start f h)
  have H0 := hide h
  obtain ⟨t1, t2, t3, t4, t5⟩ := hi
  obtain ⟨hk, hmem, _⟩ := fndY hfn
  have HFd := hide (fun W (hW : BK w G a cap tv S Ot β g f W) => tb_jr.2.1 tv g.m g.ws g.ts g.bs Ot W f (g.bs.getD k []) 0 t1 t2 t3 hW.1.2.2.1 (.inr (.inr ⟨hf, k, hfn, rfl, rfl⟩)))
  have HUs := hide (fun W (hW : BK w G a cap tv S Ot β g f W) => tb_ji.2.2.2.2.1 tv g.m g.ws g.ts g.bs Ot W (el (g.bs.getD k []) 19) g.now 0 _ t1 t2 t3 hW.1.2.2.1 (.inr (.inr (.inr ⟨k, prt_self t3.2.1 hk, t4, by have := t5 _ hmem; omega, rfl, rfl⟩))))
  rw [ev_nil] at HFd HUs
  generalize hx : g.bs.getD k [] = x at HFd HUs ⊢
  clear hx
  have HR := hide (show ∀ W', BK w G a cap tv S Ot β g f W' → W'.cell? ⟨G, 23, none⟩ = some tv ∧ (fload (.pointer (some ⟨w.heap.size, 0, none⟩))).run Tryz.prog W' = .ok (.agg (flC f)) W' from fun W' h => ⟨h.1.1.table, h.2.1.fl⟩)
  have HZ := hide (fun W => bd_zero W)
  unfold zero23 at HK HZ
  clear h hf hfn t1 t2 t3 t4 t5 hk hmem
  go_enter Tryz.func66, Tryz.ntmps66
  go_upto_region 1 with fail
  generalize (World.alloc _ _).alloc _ = W at HK ⊢
  have HD := hide (show w.heap.size + 1 < W.heap.size from HK.out.2.2.1.lt)
  have HK1 := hide (HK.out.kept (show Below W.heap.size W W.drew from (Below.refl _ _).drew))
  have HKb := hide (HK.out.kept (show Below W.heap.size W (W.alloc (.cells zero23 75)).drew from (al_below W _).drew))
  have HIb := hide (show BdIn W.heap.size [] (W.alloc (.cells zero23 75)).drew from bd_zero W)
  unfold zero23 at HKb HIb
  obtain ⟨q1, q2⟩ := HR.out _ HK1.out
  go_cut [10, 11] from 10 to 71 (fun u v wx => (∃ D, u = .pointer (some ⟨D, 0, none⟩) ∧ Hid (BdIn D x wx ∧ w.heap.size + 1 < D)) ∧ v = .nilIface ∧ Hid (BK w G a cap tv S Ot β g f wx))
  case first =>
    go_region_held3 (fun W' => W'.cell? ⟨G, 23, none⟩ = some tv ∧ (fload (.pointer (some ⟨w.heap.size, 0, none⟩))).run Tryz.prog W' = .ok (.agg (flC f)) W')
      (first
        | exact HR.out _ HK1.out
        | exact HR.out _ HKb.out
        | exact HR.out _ HK4.out
        | exact HR.out _ HK5.out
        | exact HR.out _ HK6.out
        | go_keep)
      (first
        | (go_at_call 122; refine (HFd.out _ HK1.out).mono ?_; rintro e w4 ⟨rfl, hb4⟩; have HK4 := hide (HK1.out.kept hb4); have HK5 := hide (HK4.out.kept (al_below w4 (.cells zero23 75))); obtain ⟨w6, k6, p6, on6⟩ := (HZ.out w4).held x; have hD4 := hide (show w.heap.size + 1 < w4.heap.size from HK4.out.2.2.1.lt); unfold zero23 at HK5; have HK6 := hide (HK5.out.only H0.out on6 hD4.out); have HF := hide (And.intro p6 hD4.out); clear hb4 q1 q2 p6 on6; obtain ⟨q1, q2⟩ := HR.out _ HK4.out)
        | (go_at_call 122; refine (HFd.out _ HKb.out).mono ?_; rintro e w4 ⟨rfl, hb4⟩; have HK4 := hide (HKb.out.kept hb4); have HK5 := HK4; obtain ⟨w6, k6, p6, on6⟩ := (HIb.out.kept hb4).held x; have HK6 := hide (HK4.out.only H0.out on6 HD.out); have HF := hide (And.intro p6 HD.out); clear hb4 q1 q2 p6 on6; obtain ⟨q1, q2⟩ := HR.out _ HK4.out))
    all_goals
      go_wp2_with fail
      go_meet
      exact ⟨⟨_, rfl, HF⟩, rfl, HK6⟩
  case rest =>
    obtain ⟨⟨D, rfl, HF⟩, rfl, HQ⟩ := hcut
    clear HK1 HKb HIb q1 q2 HK HD HFd HR HZ
    go_upto_region 3 with fail
    have HQ1 := hide (HQ.out.kept (show Below wc.heap.size wc wc.drew from (Below.refl _ _).drew))
    have HF1 := hide (show BdIn D x wc.drew from HF.out.1)
    have HD := hide (show w.heap.size + 1 < D ∧ D < wc.heap.size from ⟨HF.out.2, HF.out.1.lt⟩)
    have q1 := HF1.out.bl
    have q2 := HQ1.out.1.1.table
    have q3 := HF1.out.cell 19 (by omega)
    have q4 := HQ1.out.1.1.now
    clear HF HQ
    go_region_held3 (fun W' => (bload (.pointer (some ⟨D, 0, none⟩))).run Tryz.prog W' = .ok (.agg (bdC x)) W' ∧ W'.cell? ⟨G, 23, none⟩ = some tv ∧ W'.cell? ⟨D, 19, none⟩ = some (.int .i64 (el x 19)) ∧ W'.cell? ⟨G, 25, none⟩ = some (.int .i64 g.now))
      (first
        | exact ⟨HF1.out.bl, HQ1.out.1.1.table, HF1.out.cell 19 (by omega), HQ1.out.1.1.now⟩
        | exact S5.out
        | exact S6.out
        | go_keep)
      (first
        | (go_at_call 77; refine (HUs.out _ HQ1.out).mono ?_; rintro e w5 ⟨rfl, tq⟩; obtain ⟨b1, b2, b3, b4, b5⟩ := HQ1.out.tab H0.out tq; have HF5 := hide (b5 D x HF1.out (by have := HD.out; omega)); obtain ⟨w6, k6, p6, on6⟩ := b2.held x; have HB6 := hide (b1.put rfl H0.out b2 on6 (Nat.le_succ _) (by have := HD.out; have := HQ1.out.2.2.1.lt; omega)); have S5 := hide (show (bload (.pointer (some ⟨D, 0, none⟩))).run Tryz.prog w5 = .ok (.agg (bdC x)) w5 ∧ w5.cell? ⟨G, 23, none⟩ = some tv ∧ w5.cell? ⟨D, 19, none⟩ = some (.int .i64 (el x 19)) ∧ w5.cell? ⟨G, 25, none⟩ = some (.int .i64 g.now) by obtain ⟨_, c1, _⟩ := b1; exact ⟨HF5.out.bl, c1.1.table, HF5.out.cell 19 (by omega), c1.1.now⟩); have HF6 := hide (show BdIn D x w6 from (on6.2.2.2.2 D (by have := HD.out; omega)).trans HF5.out); have S6 := hide (show (bload (.pointer (some ⟨D, 0, none⟩))).run Tryz.prog w6 = .ok (.agg (bdC x)) w6 ∧ w6.cell? ⟨G, 23, none⟩ = some tv ∧ w6.cell? ⟨D, 19, none⟩ = some (.int .i64 (el x 19)) ∧ w6.cell? ⟨G, 25, none⟩ = some (.int .i64 g.now) by obtain ⟨_, c1, _⟩ := HB6.out; exact ⟨HF6.out.bl, c1.1.table, HF6.out.cell 19 (by omega), c1.1.now⟩); have HP6 := hide p6; clear q1 q2 q3 q4 b1 b2 b3 b4 b5 p6 on6 tq; obtain ⟨q1, q2, q3, q4⟩ := S5.out))
    all_goals
      clear q1 q2 q3 q4
      go_wp2
      try simp only [Exit.inBlock, Exit.then]
      refine bodyPost_ret (results_bd rfl _ _ (w.heap.size + 1) x rfl HP6.out) rfl ?_
      exact ⟨rfl, HB6.out.end (by have := HQ1.out.2.2.2.size; omega)⟩
end Go.Proofs.YtkhahbghmdccaaaGreatDoor

namespace Go.Proofs.YtkhahbghmdccaaaGreatDoor
open Go.RowKit
theorem bdo_some {g : GS} {f : List Int} {flags : Int} {wr : Int × Int × Int} {k : Nat} (h : fnd g.bs f = some k) : bdo g f flags wr = (0, g.bs.getD k [], g.tab g.ws g.ts (g.bs.set k (usd (g.bs.getD k []) g.now))) := by unfold bdo; rw [h]
theorem bdo_none {g : GS} {f : List Int} {flags : Int} {wr : Int × Int × Int} (h : fnd g.bs f = none) : bdo g f flags wr = if el f 0 = 6 ∧ ¬ (flags / 2 % 2 = 1 ∧ flags / 16 % 2 = 0) then (9, [], g)
    else if wr.2.2 ≠ 0 then (wr.2.2, [], g)
    else match tk g.ws g.ts (cli f) (8 * g.m) with
      | none => (3, [], g)
      | some i => (0, mkb f (1024 + (i : Int)) wr.1 wr.2.1 g.now, g.tab (upd g.ws i (cli f)) (upd g.ts i true) (ins (mkb f (1024 + (i : Int)) wr.1 wr.2.1 g.now) g.bs)) := by unfold bdo; simp only [h]; rfl
def mko (g : GS) (f : List Int) (wr : Int × Int × Int) : Int × List Int × GS := match tk g.ws g.ts (cli f) (8 * g.m) with
  | none => (3, [], g)
  | some i => (0, mkb f (1024 + (i : Int)) wr.1 wr.2.1 g.now, g.tab (upd g.ws i (cli f)) (upd g.ts i true) (ins (mkb f (1024 + (i : Int)) wr.1 wr.2.1 g.now) g.bs))
theorem mko_ss (g : GS) (f : List Int) (wr : Int × Int × Int) : (mko g f wr).2.2.ss = g.ss ∧ (mko g f wr).2.2.now = g.now := by
  unfold mko
  split <;> exact ⟨rfl, rfl⟩
theorem mko_call {G : Nat} {a : Option Addr} {cap : Nat} {tv : Value} {S : Nat} {Ot : Nat → Prop} {β : Int → Nat} {g : GS} {f : List Int} {wr : Int × Int × Int} {W : World} (h : GC G a cap tv S Ot β g W) (hi : TI g) (hf : okf f = true) (hfn : fnd g.bs f = none) (h1 : fr wr.1 = true) (h2 : wd wr.2.1 = true) :
    Calls Tryz.prog 123 #[tv, .agg (flC f), .int .i64 wr.1, .int .i64 wr.2.1, .int .i64 g.now] W fun r w' => r = .returned (.tuple #[.agg (bdC (mko g f wr).2.1), ev (mko g f wr).1]) ∧ TQ TB tv g.m (mko g f wr).2.2.ws (mko g f wr).2.2.ts (mko g f wr).2.2.bs Ot W w' := by
  obtain ⟨t1, t2, t3, t4, t5⟩ := hi
  have hall : (fr wr.1 && wd wr.2.1 && tc g.now) = true := by rw [h1, h2, t4]; rfl
  unfold mko
  cases ht : tk g.ws g.ts (cli f) (8 * g.m) with
  | none => exact tb_ji.2.2.2.1 tv g.m g.ws g.ts g.bs Ot W f wr.1 wr.2.1 g.now [] 3 g.ws g.ts g.bs t1 t2 t3 h.2.2.1 (.inr (.inr (.inr (.inl ⟨hf, hall, hfn, ht, rfl, rfl, rfl, rfl, rfl⟩))))
  | some i => exact tb_ji.2.2.2.1 tv g.m g.ws g.ts g.bs Ot W f wr.1 wr.2.1 g.now _ 0 _ _ _ t1 t2 t3 h.2.2.1 (.inr (.inr (.inr (.inr ⟨hf, hall, hfn, i, ht, rfl, rfl, rfl, rfl, rfl⟩))))
theorem mko_tab (g : GS) (f : List Int) (wr : Int × Int × Int) : g.tab (mko g f wr).2.2.ws (mko g f wr).2.2.ts (mko g f wr).2.2.bs = (mko g f wr).2.2 := by
  unfold mko
  split <;> rfl
attribute [local go_sem ↓] fload_shut bload_shut bstore_shut
set_option maxRecDepth 100000 in
set_option maxHeartbeats 8000000 in
theorem bindof_new (G : Nat) (a : Option Addr) (cap : Nat) (tv : Value) (S : Nat) (Ot : Nat → Prop) (β : Int → Nat) (g : GS) (f : List Int) (flags : Int) (gf : Nat) (lb : Array Value) (wr : Int × Int × Int) (w : World) (h : GC G a cap tv S Ot β g w) (hi : TI g) (hf : okf f = true) (hfl : 0 ≤ flags ∧ flags ≤ 31) (hfn : fnd g.bs f = none)
    (eg : ∀ args w, (callFunc gf args).run Tryz.prog w = .ok (.enter gf args) w)
    (hw : ∀ W, Below w.heap.size w W → Calls Tryz.prog gf lb W fun e w' => e = .returned (.tuple #[.int .i64 wr.1, .int .i64 wr.2.1, ev wr.2.2]) ∧ Below W.heap.size W w') (hwr : wr.2.2 = 0 → fr wr.1 = true ∧ wd wr.2.1 = true) :
    Calls Tryz.prog 66 #[.pointer (some ⟨G, 0, none⟩), .agg (flC f), .int .i64 flags, .func (.func gf) #[] lb] w fun e w' => e = .returned (.tuple #[.agg (bdC (bdo g f flags wr).2.1), ev (bdo g f flags wr).1]) ∧ BQ w w.heap.size G a cap tv S Ot β g (bdo g f flags wr).2.2 w' := by
  have HK := hide (BK.start f h)
  have H0 := hide h
  have HFd := hide (fun W (hW : BK w G a cap tv S Ot β g f W) => tb_jr.2.1 tv g.m g.ws g.ts g.bs Ot W f [] 4 hi.1 hi.2.1 hi.2.2.1 hW.1.2.2.1 (.inr (.inl ⟨hf, hfn, rfl, rfl⟩)))
  rw [show ev 4 = err 4 from rfl] at HFd
  unfold err at HFd
  have HMk := hide (fun (h0 : wr.2.2 = 0) W (hW : BK w G a cap tv S Ot β g f W) => mko_call hW.1 hi hf hfn (hwr h0).1 (hwr h0).2)
  have HMt := hide (mko_tab g f wr)
  have HMs := hide (mko_ss g f wr)
  have HR0 := hide (show bdo g f flags wr = if el f 0 = 6 ∧ ¬ (flags / 2 % 2 = 1 ∧ flags / 16 % 2 = 0) then (9, [], g) else if wr.2.2 ≠ 0 then (wr.2.2, [], g) else mko g f wr from bdo_none hfn)
  generalize mko g f wr = M at HMk HMt HMs HR0
  generalize bdo g f flags wr = R at HR0 ⊢
  have ha := and18 flags hfl.1 hfl.2
  have HW := hide hw
  have HR := hide (show ∀ W', BK w G a cap tv S Ot β g f W' → W'.cell? ⟨G, 23, none⟩ = some tv ∧ (fload (.pointer (some ⟨w.heap.size, 0, none⟩))).run Tryz.prog W' = .ok (.agg (flC f)) W' from fun W' h => ⟨h.1.1.table, h.2.1.fl⟩)
  have HZ := hide (fun W => bd_zero W)
  unfold zero23 at HK HZ
  clear h hi hf hfn hw hwr hfl
  go_enter Tryz.func66, Tryz.ntmps66
  go_upto_region 1 with fail
  generalize (World.alloc _ _).alloc _ = W at HK ⊢
  have HD := hide (show w.heap.size + 1 < W.heap.size from HK.out.2.2.1.lt)
  have HK1 := hide (HK.out.kept (show Below W.heap.size W W.drew from (Below.refl _ _).drew))
  have HKb := hide (HK.out.kept (show Below W.heap.size W (W.alloc (.cells zero23 75)).drew from (al_below W _).drew))
  have HIb := hide (show BdIn W.heap.size [] (W.alloc (.cells zero23 75)).drew from bd_zero W)
  unfold zero23 at HKb HIb
  obtain ⟨q1, q2⟩ := HR.out _ HK1.out
  go_cut [10, 11] from 10 to 71 (fun u v wx => (∃ D, u = .pointer (some ⟨D, 0, none⟩)) ∧ v = .iface 28 (.int .i64 4) ∧ Hid (BK w G a cap tv S Ot β g f wx))
  case first =>
    go_region_held3 (fun W' => W'.cell? ⟨G, 23, none⟩ = some tv ∧ (fload (.pointer (some ⟨w.heap.size, 0, none⟩))).run Tryz.prog W' = .ok (.agg (flC f)) W')
      (first
        | exact HR.out _ HK1.out
        | exact HR.out _ HKb.out
        | exact HR.out _ HK4.out
        | exact HR.out _ HK5.out
        | exact HR.out _ HK6.out
        | go_keep)
      (first
        | (go_at_call 122; refine (HFd.out _ HK1.out).mono ?_; rintro e w4 ⟨rfl, hb4⟩; have HK4 := hide (HK1.out.kept hb4); have HK5 := hide (HK4.out.kept (al_below w4 (.cells zero23 75))); obtain ⟨w6, k6, p6, on6⟩ := (HZ.out w4).held []; have hD4 := hide (show w.heap.size + 1 < w4.heap.size from HK4.out.2.2.1.lt); unfold zero23 at HK5; have HK6 := hide (HK5.out.only H0.out on6 hD4.out); clear hb4 q1 q2 p6 on6; obtain ⟨q1, q2⟩ := HR.out _ HK4.out)
        | (go_at_call 122; refine (HFd.out _ HKb.out).mono ?_; rintro e w4 ⟨rfl, hb4⟩; have HK4 := hide (HKb.out.kept hb4); have HK5 := HK4; obtain ⟨w6, k6, p6, on6⟩ := (HIb.out.kept hb4).held []; have HK6 := hide (HK4.out.only H0.out on6 HD.out); clear hb4 q1 q2 p6 on6; obtain ⟨q1, q2⟩ := HR.out _ HK4.out))
    all_goals
      go_wp2_with fail
      go_meet
      exact ⟨⟨_, rfl⟩, rfl, HK6⟩
  case rest =>
    obtain ⟨⟨D, rfl⟩, rfl, HQ⟩ := hcut
    clear HK1 HKb HIb q1 q2 HK HD HFd HZ
    by_cases hst : el f 0 = 6 ∧ ¬ (flags / 2 % 2 = 1 ∧ flags / 16 % 2 = 0)
    · have HRR := hide (show R = (9, [], g) by rw [HR0.out, if_pos hst])
      rw [decide_eq_true hst.2] at ha
      have e6 : (el f 0 == 6) = true := by simpa using hst.1
      have l0 := HQ.out.2.1.cell 0 (by omega)
      clear HR0 hst HMk HMt HMs HW
      go_wp2_with (refine at_storeb rfl (.tmp 8) (.tmp 46) rfl rfl HQ.out.2.2.1 [] rfl ?_; intro w5 p5 on5; have HB5 := hide (on5.below HQ.out.2.2.2 (Nat.le_succ _)); replace p5 := hide p5; clear on5)
      try simp only [Exit.inBlock, Exit.then]
      refine bodyPost_ret (results_bd rfl _ _ (w.heap.size + 1) [] rfl p5.out) rfl ?_
      rw [HRR.out]
      exact ⟨rfl, BK.still H0.out HB5.out⟩
    · have hguard : (el f 0 == 6) = false ∨ ((el f 0 == 6) = true ∧ (bits .and .i64 flags 18 != 2) = false) := by
        by_cases h6 : el f 0 = 6
        · refine .inr ⟨by simpa using h6, ?_⟩
          rw [ha]
          exact decide_eq_false (fun h => hst ⟨h6, h⟩)
        · exact .inl (by simpa using h6)
      have HR1 := hide (show R = if wr.2.2 ≠ 0 then (wr.2.2, [], g) else M by rw [HR0.out, if_neg hst])
      clear HR0 hst ha
      have l0 := HQ.out.2.1.cell 0 (by omega)
      go_upto_region 4 with fail
      go_cut [45] from 38 to 45 (fun u wx => u = .bool false ∧ wx = wc)
      case first =>
        rcases hguard with e6 | ⟨e6, e18⟩
        all_goals
          go_wp2_with fail
          go_meet
          exact ⟨rfl, rfl⟩
      case rest =>
        obtain ⟨rfl, rfl⟩ := hcut
        clear l0 hguard
        by_cases h0 : wr.2.2 = 0
        · have HRR := hide (show R = M by rw [HR1.out, if_neg (fun h => h h0)])
          have HM := hide (HMk.out h0)
          rw [h0, ev_nil] at HW
          clear HR1 HMk h0
          go_upto_region 9 with (go_at_fn gf; refine (HW.out _ HQ.out.2.2.2).mono ?_; rintro e w3 ⟨rfl, hb3⟩; replace HQ := hide (HQ.out.kept hb3); clear hb3)
          rename World => w3
          have HQ1 := hide (HQ.out.kept (show Below w3.heap.size w3 w3.drew from (Below.refl _ _).drew))
          have HS := hide (show ∀ W', BK w G a cap tv S Ot β g f W' → W'.cell? ⟨G, 23, none⟩ = some tv ∧ (fload (.pointer (some ⟨w.heap.size, 0, none⟩))).run Tryz.prog W' = .ok (.agg (flC f)) W' ∧ W'.cell? ⟨G, 25, none⟩ = some (.int .i64 g.now) from fun W' h => ⟨h.1.1.table, h.2.1.fl, h.1.1.now⟩)
          clear HQ HR HW
          obtain ⟨q1, q2, q3⟩ := HS.out _ HQ1.out
          go_region_held3 (fun W' => W'.cell? ⟨G, 23, none⟩ = some tv ∧ (fload (.pointer (some ⟨w.heap.size, 0, none⟩))).run Tryz.prog W' = .ok (.agg (flC f)) W' ∧ W'.cell? ⟨G, 25, none⟩ = some (.int .i64 g.now))
            (first
              | exact HS.out _ HQ1.out
              | exact S5.out
              | exact S6.out
              | go_keep)
            (first
              | (go_at_call 123; refine (HM.out _ HQ1.out).mono ?_; rintro e w5 ⟨rfl, tq⟩; obtain ⟨b1, b2, b3, b4, b5⟩ := HQ1.out.tab H0.out tq; rw [HMt.out] at b1; obtain ⟨w6, k6, p6, on6⟩ := b2.held M.2.1; have HB6 := hide (b1.put HMs.out.1 H0.out b2 on6 (Nat.le_succ _) HQ1.out.2.2.1.lt); have S5 := hide (show w5.cell? ⟨G, 23, none⟩ = some tv ∧ (fload (.pointer (some ⟨w.heap.size, 0, none⟩))).run Tryz.prog w5 = .ok (.agg (flC f)) w5 ∧ w5.cell? ⟨G, 25, none⟩ = some (.int .i64 g.now) by obtain ⟨_, c1, _⟩ := b1; have c2 := c1.1.now; rw [HMs.out.2] at c2; exact ⟨c1.1.table, b3.fl, c2⟩); have S6 := hide (show w6.cell? ⟨G, 23, none⟩ = some tv ∧ (fload (.pointer (some ⟨w.heap.size, 0, none⟩))).run Tryz.prog w6 = .ok (.agg (flC f)) w6 ∧ w6.cell? ⟨G, 25, none⟩ = some (.int .i64 g.now) by obtain ⟨_, c1, _⟩ := HB6.out; have c2 := c1.1.now; rw [HMs.out.2] at c2; exact ⟨c1.1.table, FlIn.fl ((on6.2.2.2.2 _ (by omega)).trans b3), c2⟩); have HP6 := hide p6; clear q1 q2 q3 b1 b2 b3 b4 b5 p6 on6 tq; obtain ⟨q1, q2, q3⟩ := S5.out))
          all_goals
            clear q1 q2 q3
            go_wp2
            try simp only [Exit.inBlock, Exit.then]
            refine bodyPost_ret (results_bd rfl _ _ (w.heap.size + 1) M.2.1 rfl HP6.out) rfl ?_
            rw [HRR.out]
            exact ⟨rfl, HB6.out.end (by have := HQ1.out.2.2.2.size; omega)⟩
        · have HRR := hide (show R = (wr.2.2, [], g) by rw [HR1.out, if_pos h0])
          rw [ev_err h0] at HW
          have HE := hide (ev_err h0)
          unfold err at HW
          clear HR1 HMk h0 HMt HMs HR
          go_wp2_with (first
            | (go_at_fn gf; refine (HW.out _ HQ.out.2.2.2).mono ?_; rintro e w3 ⟨rfl, hb3⟩; replace HQ := hide (HQ.out.kept hb3); clear hb3)
            | (refine at_storeb rfl (.tmp 8) (.tmp 56) rfl rfl HQ.out.2.2.1 [] rfl ?_; intro w5 p5 on5; have HB5 := hide (on5.below HQ.out.2.2.2 (Nat.le_succ _)); replace p5 := hide p5; clear on5))
          try simp only [Exit.inBlock, Exit.then]
          refine bodyPost_ret (results_bd rfl _ _ (w.heap.size + 1) [] rfl p5.out) rfl ?_
          rw [HRR.out]
          exact ⟨by rw [HE.out]; rfl, BK.still H0.out HB5.out⟩
end Go.Proofs.YtkhahbghmdccaaaGreatDoor

namespace Go.Proofs.YtkhahbghmdccaaaGreatDoor
open Go.RowKit
theorem Tryz.mapS : Tryz.prog.underlying 96 = some (.map 3 205) := Tryz.underlying96
theorem zero_sp (w : World) : (zeroValue 205).run Tryz.prog w = .ok (.pointer none) w := by kernel_rfl
def slk (m x : Value) (c : Bool) : Sem Value := Instr.lookup 96 m x c
theorem slk_shut (m x : Value) (c : Bool) : Instr.lookup 96 m x c = slk m x c := rfl
def sst (m k v : Value) : Sem Unit := Instr.mapUpdate 96 m k v
theorem sst_shut (m k v : Value) : Instr.mapUpdate 96 m k v = sst m k v := rfl
theorem SS.yes {S : Nat} {β : Int → Nat} {ss : List (Int × List Int × Int × Bool × Bool)} {w : World} (h : SS S β ss w) {x : Int × List Int × Int × Bool × Bool} (hx : x ∈ ss) : (slk (.map (some S)) (.int .i64 x.1) true).run Tryz.prog w = .ok (.tuple #[.pointer (some ⟨β x.1, 0, none⟩), .bool true]) w :=
  h.1.look_yes koi Tryz.mapS ⟨_, rfl⟩ (List.mem_map.2 ⟨x, hx, rfl⟩) true
theorem SS.no {S : Nat} {β : Int → Nat} {ss : List (Int × List Int × Int × Bool × Bool)} {w : World} (h : SS S β ss w) {p : Int} (hp : ∀ x ∈ ss, x.1 ≠ p) : (slk (.map (some S)) (.int .i64 p) true).run Tryz.prog w = .ok (.tuple #[.pointer none, .bool false]) w :=
  h.1.look_no koi Tryz.mapS (zero_sp w) ⟨_, rfl⟩ (fun q hq e => by
    obtain ⟨x, hx, rfl⟩ := List.mem_map.1 hq
    unfold sE at e
    injection e with _ e
    exact hp x hx e) true
def βp (β : Int → Nat) (p : Int) (B : Nat) : Int → Nat := fun q => if q = p then B else β q
theorem βp_map {β : Int → Nat} {p : Int} {B : Nat} {ss : List (Int × List Int × Int × Bool × Bool)} (hp : ∀ x ∈ ss, x.1 ≠ p) : ss.map (sE (βp β p B)) = ss.map (sE β) := by
  refine List.map_congr_left fun x hx => ?_
  unfold sE βp
  rw [if_neg (hp x hx)]
theorem GC.add {G : Nat} {a : Option Addr} {cap : Nat} {tv : Value} {S : Nat} {Ot : Nat → Prop} {β : Int → Nat} {g : GS} {W : World} (h : GC G a cap tv S Ot β g W) {p : Int} (hp : ∀ x ∈ g.ss, x.1 ≠ p) {B : Nat} {hd : List Int} {s : Int} {b hh : Bool} (st : ST 267 B hd s b hh W) (hB : ¬ GO G a Ot (SO S β g.ss) B) :
    ∃ W', (sst (.map (some S)) (.int .i64 p) (.pointer (some ⟨B, 0, none⟩))).run Tryz.prog W = .ok () W' ∧ GC G a cap tv S Ot (βp β p B) (g.str ((p, hd, s, b, hh) :: g.ss)) W' ∧ Only S W W' := by
  obtain ⟨d1, d2, d3⟩ := h.2.2.2.2
  obtain ⟨W', k1, k2, on⟩ := h.2.2.2.1.1.store_new koi Tryz.mapS (x := .int .i64 p) (.pointer (some ⟨B, 0, none⟩)) ⟨_, rfl⟩ (fun q hq e => by
    obtain ⟨x, hx, rfl⟩ := List.mem_map.1 hq
    unfold sE at e
    injection e with _ e
    exact hp x hx e)
  have hS : SO S β g.ss S := .inl rfl
  have nb : ∀ j x, W.cell? ⟨S, j, none⟩ ≠ some (.int .u8 x) := fun j x => h.2.2.2.1.1.nb j _
  have hso : ∀ k, SO S (βp β p B) ((p, hd, s, b, hh) :: g.ss) k → k = B ∨ SO S β g.ss k := by
    rintro k (h1 | ⟨x, hx, h1⟩)
    · exact .inr (.inl h1)
    · rcases List.mem_cons.1 hx with rfl | hx
      · exact .inl (by rw [h1]; exact if_pos rfl)
      · exact .inr (.inr ⟨x, hx, by rw [h1]; exact if_neg (hp x hx)⟩)
  refine ⟨W', k1, ⟨h.1.same (on.2.2.2.2 G (fun e => d1.2.2 (e ▸ hS))), ⟨h.2.1.1.same (fun k hk => on.2.2.2.2 k (fun e => (d2 k hk).2 (e ▸ hS))), fun k hk => by rw [on.2.2.2.1]; exact h.2.1.2.1 k hk, h.2.1.2.2⟩, (tb_kept _ _ _ _ _ _ _ h.2.2.1).2 W' (by rw [on.2.2.2.1]; exact Nat.le_refl _) (fun k hk => on.2.2.2.2 k (fun e => d3 k hk (e ▸ hS))), ⟨?_, fun x hx => ?_, fun x hx y hy e => ?_⟩, ⟨d1.1, d1.2.1, fun hs => ?_⟩, fun k hk => ⟨(d2 k hk).1, fun hs => ?_⟩, fun k hk hs => ?_⟩, on⟩
  · show MP isI S (sE (βp β p B) (p, hd, s, b, hh) :: g.ss.map (sE (βp β p B))) W'
    rw [βp_map hp, show sE (βp β p B) (p, hd, s, b, hh) = (.int .i64 p, .pointer (some ⟨B, 0, none⟩)) by unfold sE βp; simp]
    exact k2
  · rcases List.mem_cons.1 hx with rfl | hx
    · show ST _ (βp β p B p) _ _ _ _ _
      rw [show βp β p B p = B from if_pos rfl]
      obtain ⟨x1, x2, x3, x4, x5, x6⟩ := st
      exact ⟨x1, x2, x3, (on.2.2.2.2 B (fun e => hB (.inr (.inr (.inr (.inl e)))))).trans x4, x5.pastn nb on, x6⟩
    · rw [show βp β p B x.1 = β x.1 from if_neg (hp x hx)]
      obtain ⟨x1, x2, x3, x4, x5, x6⟩ := h.2.2.2.1.2.1 x hx
      refine ⟨x1, x2, x3, (on.2.2.2.2 _ (fun e => ?_)).trans x4, x5.pastn nb on, x6⟩
      rw [e] at x4
      exact h.2.2.2.1.1.notcells x4
  · rcases List.mem_cons.1 hx with rfl | hx <;> rcases List.mem_cons.1 hy with rfl | hy
    · rfl
    · rw [show βp β p B y.1 = β y.1 from if_neg (hp y hy), show βp β p B p = B from if_pos rfl] at e
      exact absurd (.inr (.inr (.inr (.inr ⟨y, hy, e⟩)))) hB
    · rw [show βp β p B x.1 = β x.1 from if_neg (hp x hx), show βp β p B p = B from if_pos rfl] at e
      exact absurd (.inr (.inr (.inr (.inr ⟨x, hx, e.symm⟩)))) hB
    · rw [show βp β p B x.1 = β x.1 from if_neg (hp x hx), show βp β p B y.1 = β y.1 from if_neg (hp y hy)] at e
      exact h.2.2.2.1.2.2 x hx y hy e
  · rcases hso G hs with h1 | h1
    · exact hB (.inl h1.symm)
    · exact d1.2.2 h1
  · rcases hso k hs with h1 | h1
    · exact hB (.inr (.inl (h1 ▸ hk)))
    · exact (d2 k hk).2 h1
  · rcases hso k hs with h1 | h1
    · exact hB (.inr (.inr (.inl (h1 ▸ hk))))
    · exact d3 k hk h1
def GQ (w : World) (G : Nat) (a : Option Addr) (cap : Nat) (tv : Value) (S : Nat) (Ot : Nat → Prop) (β : Int → Nat) (g g' : GS) (w' : World) : Prop := ∃ Ot' β', GC G a cap tv S Ot' β' g' w' ∧ Kpt (GO G a Ot (SO S β g.ss)) w w' ∧ ∀ k, GO G a Ot' (SO S β' g'.ss) k → GO G a Ot (SO S β g.ss) k ∨ w.heap.size ≤ k
theorem BQ.gq {w : World} {G : Nat} {a : Option Addr} {cap : Nat} {tv : Value} {S : Nat} {Ot : Nat → Prop} {β : Int → Nat} {g g' : GS} {W : World} (h : BQ w w.heap.size G a cap tv S Ot β g g' W) (hss : g'.ss = g.ss) : GQ w G a cap tv S Ot β g g' W := by
  obtain ⟨Ot', q1, q2, q3⟩ := h
  refine ⟨Ot', β, q1, q2, ?_⟩
  rw [hss]
  rintro k (h1 | h1 | h1 | h1)
  · exact .inl (.inl h1)
  · exact .inl (.inr (.inl h1))
  · exact (q3 k h1).imp (fun h => .inr (.inr (.inl h))) id
  · exact .inl (.inr (.inr (.inr h1)))
theorem GC.still {w : World} {G : Nat} {a : Option Addr} {cap : Nat} {tv : Value} {S : Nat} {Ot : Nat → Prop} {β : Int → Nat} {g : GS} {W : World} (h0 : GC G a cap tv S Ot β g w) (hb : Below w.heap.size w W) : GQ w G a cap tv S Ot β g g W := ⟨Ot, β, h0.kept hb, Kpt.of hb, fun _ hk => .inl hk⟩
theorem GQ.trans {w : World} {G : Nat} {a : Option Addr} {cap : Nat} {tv : Value} {S : Nat} {Ot : Nat → Prop} {β : Int → Nat} {g g' g'' : GS} {W W' : World} {Ot' : Nat → Prop} {β' : Int → Nat} (q2 : Kpt (GO G a Ot (SO S β g.ss)) w W) (q3 : ∀ k, GO G a Ot' (SO S β' g'.ss) k → GO G a Ot (SO S β g.ss) k ∨ w.heap.size ≤ k) (h : GQ W G a cap tv S Ot' β' g' g'' W') : GQ w G a cap tv S Ot β g g'' W' := by
  obtain ⟨Ot2, β2, r1, r2, r3⟩ := h
  refine ⟨Ot2, β2, r1, q2.trans r2 q3, fun k hk => ?_⟩
  rcases r3 k hk with h1 | h1
  · exact q3 k h1
  · exact .inr (Nat.le_trans q2.size h1)
theorem GQ.kept {w : World} {G : Nat} {a : Option Addr} {cap : Nat} {tv : Value} {S : Nat} {Ot : Nat → Prop} {β : Int → Nat} {g g' : GS} {W W' : World} (h : GQ w G a cap tv S Ot β g g' W) (hb : Below W.heap.size W W') : GQ w G a cap tv S Ot β g g' W' := by
  obtain ⟨Ot', β', q1, q2, q3⟩ := h
  exact ⟨Ot', β', q1.kept hb, q2.trans (Kpt.of (O := fun _ => False) hb) (fun _ h => h.elim), q3⟩
attribute [local go_sem ↓] fload_shut slk_shut sst_shut
set_option maxRecDepth 100000 in
set_option maxHeartbeats 4000000 in
theorem streamof_has (G : Nat) (a : Option Addr) (cap : Nat) (tv : Value) (S : Nat) (Ot : Nat → Prop) (β : Int → Nat) (g : GS) (b : List Int) (x : Int × List Int × Int × Bool × Bool) (w : World) (h : GC G a cap tv S Ot β g w) (hx : x ∈ g.ss) (hb : x.1 = el b 19) :
    Calls Tryz.prog 124 #[.pointer (some ⟨G, 0, none⟩), .agg (bdC b)] w fun e w' => e = .returned (.tuple #[.pointer (some ⟨β x.1, 0, none⟩), .nilIface]) ∧ Below w.heap.size w w' := by
  have HB := al_below w (.cells (bdC b) 75)
  have hc := h.kept HB
  have q1 := hc.1.streams
  have q2 := (bd_new b w).cell 19 (by omega)
  have q3 := fun k => SS.yes (w := (w.alloc (.cells (bdC b) 75)).drewN k) ((h.kept (drn HB k)).2.2.2.1) hx
  rw [hb] at q3
  rw [← hb] at q2 q3
  have HBn := hide (fun n => drn HB n)
  clear h hx hc HB
  rw [hb] at q2 q3 ⊢
  go_enter Tryz.func124, Tryz.ntmps124
  go_upto_region 1 with fail
  go_quiet (fail)
  go_wp2
  go_ret2
  exact ⟨rfl, HBn.out _⟩
set_option maxRecDepth 100000 in
set_option maxHeartbeats 4000000 in
theorem streamof_new (G : Nat) (a : Option Addr) (cap : Nat) (tv : Value) (S : Nat) (Ot : Nat → Prop) (β : Int → Nat) (g : GS) (b : List Int) (w : World) (h : GC G a cap tv S Ot β g w) (hp : ∀ x ∈ g.ss, x.1 ≠ el b 19) (hf : okf b = true) :
    Calls Tryz.prog 124 #[.pointer (some ⟨G, 0, none⟩), .agg (bdC b)] w fun e w' => ∃ B, e = .returned (.tuple #[.pointer (some ⟨B, 0, none⟩), .nilIface]) ∧ w.heap.size ≤ B ∧ GC G a cap tv S Ot (βp β (el b 19) B) (g.str ((el b 19, hb b, 0, false, false) :: g.ss)) w' ∧ Kpt (GO G a Ot (SO S β g.ss)) w w' := by
  have HB := al_below w (.cells (bdC b) 75)
  have q1 := (h.kept HB).1.streams
  have q2 := (bd_new b w).cell 19 (by omega)
  have q3 := fun k => SS.no (w := (w.alloc (.cells (bdC b) 75)).drewN k) ((h.kept (drn HB k)).2.2.2.1) hp
  have HP := hide (bd_new b w)
  have HPn := hide (fun n => show BdIn w.heap.size b ((w.alloc (.cells (bdC b) 75)).drewN n) from bd_new b w)
  have HBn := hide (fun n => drn HB n)
  have HE := hide (show ∀ W, Calls Tryz.prog 173 #[.agg (flC b)] W fun e w' => ∃ ao c, e = .returned (.tuple #[.slice ao 52 c, .nilIface]) ∧ Row8 w' ao 52 c (hb b) ∧ Below W.heap.size W w' from fun W => (yencode b W).mono fun e w' ⟨v, e1, e2, _, e4⟩ => by
    obtain ⟨g1, c1, rfl, _, _, _, _, r⟩ := (e2 hf).form (by rw [hb_len]; omega)
    rw [hf] at e1
    exact ⟨_, _, e1, r, e4⟩)
  have HN := hide (fun W ao c (r : Row8 W ao 52 c (hb b)) => new_ok ao 52 c (hb b) W (by omega) r)
  have H0 := hide h
  have HPp := hide hp
  clear h hp hf HB
  go_enter Tryz.func124, Tryz.ntmps124
  go_upto_region 1 with fail
  go_quiet (fail)
  clear q1 q2 q3 HP
  generalize hW : World.drewN _ _ = W1
  have HP : Hid (BdIn w.heap.size b W1) := by rw [← hW]; exact HPn.out _
  have HB : Hid (Below w.heap.size w W1) := by rw [← hW]; exact HBn.out _
  clear hW HPn HBn
  have l := HP.out.ff
  go_upto_region 10 with (first
    | (go_at_call 173; refine (HE.out _).mono ?_; rintro e w2 ⟨a2, c2, rfl, r2, hb2⟩; replace HP := hide (HP.out.kept hb2); replace HB := hide (bt HB.out hb2); replace r2 := hide r2; clear hb2 l)
    | (go_at_call 174; refine (HN.out _ a2 c2 r2.out).mono ?_; rintro e w3 ⟨B3, rfl, st3, hB3, hb3⟩; have HB3 := hide (Nat.le_trans HB.out.size hB3); replace HP := hide (HP.out.kept hb3); replace HB := hide (bt HB.out hb3); replace st3 := hide st3; clear hb3 hB3 r2))
  have HG := hide (H0.out.kept (show Below w.heap.size w w3.drew from HB.out.drew))
  have HP3 := hide (show BdIn w.heap.size b w3.drew from HP.out)
  obtain ⟨w4, k4, g4, on4⟩ := HG.out.add HPp.out (show ST _ B3 _ _ _ _ w3.drew from st3.out) (fun hk => by have := H0.out.lt hk; have := HB3.out; omega)
  have HK4 := hide (show Kpt (GO G a Ot (SO S β g.ss)) w w4 from ((Kpt.of HB.out.drew).trans (show Kpt (GO G a Ot (SO S β g.ss)) w3.drew w4 from ⟨⟨on4.1, on4.2.1, on4.2.2.1, by rw [on4.2.2.2.1]; exact Nat.le_refl _, fun k _ hn => on4.2.2.2.2 k (fun e => hn (.inr (.inr (.inr (.inl e)))))⟩, fun _ _ _ _ r => r.pastn (fun j x => HG.out.2.2.2.1.1.nb j _) on4⟩) (fun k hk => .inl hk)))
  have HG4 := hide g4
  have HP4 := hide (show BdIn w.heap.size b w4 from (on4.2.2.2.2 _ (fun e => by have := H0.out.2.2.2.1.1.lt; omega)).trans HP3.out)
  clear g4 on4
  have q1 := HG.out.1.streams
  have q2 := HP3.out.cell 19 (by omega)
  go_region_held3 (fun W' => W'.cell? ⟨G, 24, none⟩ = some (.map (some S)) ∧ W'.cell? ⟨w.heap.size, 19, none⟩ = some (.int .i64 (el b 19)))
    (first
      | exact ⟨HG.out.1.streams, HP3.out.cell 19 (by omega)⟩
      | exact ⟨HG4.out.1.streams, HP4.out.cell 19 (by omega)⟩
      | go_keep)
    (fail)
  all_goals
    clear q1 q2
    go_wp2
    go_ret2
    exact ⟨B3, rfl, HB3.out, HG4.out, HK4.out⟩
end Go.Proofs.YtkhahbghmdccaaaGreatDoor
