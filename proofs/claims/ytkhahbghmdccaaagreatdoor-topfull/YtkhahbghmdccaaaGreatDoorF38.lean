/- Package gate: tells, and where a flow is led, by contracts. Package gate: what a lead answers, by contracts. Package gate: the bind of a flow, by a contract. -/
import Derived.Test.YtkhahbghmdccaaaGreatDoorF19
import Derived.Test.YtkhahbghmdccaaaGreatDoorF21
import Derived.Test.YtkhahbghmdccaaaGreatDoorF24
import Derived.Test.YtkhahbghmdccaaaGreatDoorF35
import Derived.Below
import Derived.OpenShut
import Derived.Test.YtkhahbghmdccaaaGreatDoorProg
import Derived.WalkKit
import Derived.LaidEql
import Derived.BigQuiet
import Derived.Laws.AppendOwnNone
import Derived.Laws.MakeOwn
import Derived.Deep.RegionLaw
import Derived.Lib.Bytes
import Derived.Deep.MidRow
import Derived.Laws.ResultCell
import Derived.Deep.CutBlock
import Derived.Deep.QuietTactic
import Derived.OwnWalk
import Derived.Deep.RegionHeld3
import Derived.Deep.DrawnRows
import Derived.Laws.StructEq
import Derived.Maps.AppendAt
import Derived.Maps.RangeWalk
import Derived.Stop.Asserts
import Derived.RowKitTokens
import Derived.Test.YtkhahbghmdccaaaGreatDoorShelf
import Derived.Shelf.Abstract
import Derived.Lib.SliceRun
import Derived.Lib.AppendZerosOnto
import Derived.Lib.AppendZeros
import Derived.Laws.CopyOwn
import Derived.RangeFuncNested
import Derived.RangeFuncBound
import Derived.RangeFuncCalls
import Derived.RangeFuncLeaves
import Derived.RangeFuncFrom
import Derived.Shelf.RegionOpen
import Derived.OwnWalkIn
import Derived.TacticsInMore
import Derived.LoopNIn
import Derived.LoopIn
import Derived.Deep.RegionWith
import Derived.Test.YtkhahbghmdccaaaGreatDoorF17
import Derived.Test.YtkhahbghmdccaaaGreatDoorF33
import Derived.Test.YtkhahbghmdccaaaGreatDoorF36
namespace Go.Proofs.YtkhahbghmdccaaaGreatDoor
open Go.RowKit
def tell (c : List Int) (inj : Bool) (f : List Int) : Bool := inj && (el f 0 == 6) && eqz (dst f) (vip c)
def oto (z : List Int) (n : Int) : Int × Int := if Em.shp z (Em.pos (n / 8).toNat 3 + 1) = true then (0, 2) else (Em.gat z (n / 8).toNat, 0)
theorem eout (z : List Int) (n : Int) (w : World) (h : Ok6 z) (hn : Em.LongP n) : Calls Tryz.prog 120 #[.agg (sixC z), .int .i64 n] w fun e w' => e = .returned (.tuple #[.int .i64 (oto z n).1, ev (oto z n).2]) ∧ Below w.heap.size w w' := by
  obtain ⟨q, rfl, hq, _, h12⟩ := Em.long_q hn
  refine (Em.out_long z q w h hn).mono ?_
  rintro e w' ⟨rfl, hb⟩
  refine ⟨?_, hb⟩
  unfold oto
  rw [hq, Em.acc_gat z q h h12]
  split <;> rfl
theorem ain (a p : List Int) (n : Int) (w : World) (ha : Ok6 a) (hp : Ok6 p) (h0 : 0 ≤ n) (h1 : n ≤ 128) : Calls Tryz.prog 99 #[.agg (sixC a), .agg (sixC p), .int .i64 n] w fun e w' => e = .returned (.tuple #[.bool (Em.inF a p n), .nilIface]) ∧ Below w.heap.size w w' := Em.in_ok a p n w ha hp h0 h1
def ldo (c : List Int) (f : List Int) : Int × Bool × Int :=
  if eqz (dst f) (vip c) = true ∧ el f 18 = el c 8 then (0, true, 0)
  else if Em.inF (dst f) (pfx c) (el c 17) = true ∧ (oto (dst f) (el c 17)).2 = 0 then (0, false, (oto (dst f) (el c 17)).1) else (4, false, 0)
theorem seq_run (a b : List Int) (w : World) : (Op.equalIn 10000 23 (.agg (sixC a)) (.agg (sixC b))).run Tryz.prog w = .ok (eqz a b) w := eq_aggn 9998 a b w
theorem drn {w W : World} {b : Nat} (h : Below b w W) (n : Nat) : Below b w (W.drewN n) := h.trans ⟨rfl, rfl, rfl, Nat.le_refl _, fun _ _ => rfl⟩
attribute [local go_sem ↓] hload_shut
set_option maxRecDepth 100000 in
set_option maxHeartbeats 2000000 in
theorem tells_any (G : Nat) (c : List Int) (inj : Bool) (a : Option Addr) (n cap : Nat) (tv : Value) (S : Nat) (now : Int) (f : List Int) (w : World) (hG : GtIn G c inj a n cap tv S now w) :
    Calls Tryz.prog 65 #[.pointer (some ⟨G, 0, none⟩), .agg (flC f)] w fun e w' => e = .returned (.bool (tell c inj f)) ∧ Below w.heap.size w w' := by
  have HB := al_below w (.cells (flC f) 73)
  have HF := fl_new f w
  have g21 := (hG.kept HB).inj
  have gv := fun k => GtIn.hv (w := (w.alloc (.cells (flC f) 73)).drewN k) (hG.kept (drn HB k))
  have f0 := HF.cell 0 (by omega)
  have fd := fun k => FlIn.hd (w := (w.alloc (.cells (flC f) 73)).drewN k) HF
  have he := fun W => seq_run (dst f) (vip c) W
  have HBn := hide (fun n => drn HB n)
  clear hG HF HB
  generalize hT : tell c inj f = T
  unfold tell at hT
  cases inj
  · have HT := hide (show T = false by rw [← hT]; rfl)
    clear hT
    go_enter Tryz.func65, Tryz.ntmps65
    go_upto_region 1 with fail
    go_quiet (fail)
    go_wp2
    go_ret
    exact ⟨by rw [HT.out]; rfl, HBn.out _⟩
  · by_cases h6 : el f 0 = 6
    · have e6 : (el f 0 == 6) = true := by simpa using h6
      rw [e6] at hT
      have HT := hide (show T = eqz (dst f) (vip c) by rw [← hT]; simp)
      clear hT h6
      generalize eqz (dst f) (vip c) = Q at he HT
      go_enter Tryz.func65, Tryz.ntmps65
      go_upto_region 1 with fail
      go_quiet (fail)
      go_wp2
      go_ret
      exact ⟨by rw [HT.out]; rfl, HBn.out _⟩
    · have e6 : (el f 0 == 6) = false := by simpa using h6
      rw [e6] at hT
      have HT := hide (show T = false by rw [← hT]; simp)
      clear hT h6
      go_enter Tryz.func65, Tryz.ntmps65
      go_upto_region 1 with fail
      go_quiet (fail)
      go_wp2
      go_ret
      exact ⟨by rw [HT.out]; rfl, HBn.out _⟩
def PtIn (B G : Nat) (w : World) : Prop := w.heap[B]? = some (.cells #[.pointer (some ⟨G, 0, none⟩)] 30 (0, 0))
theorem PtIn.lt {B G : Nat} {w : World} (p : PtIn B G w) : B < w.heap.size := (Array.getElem?_eq_some_iff.1 p).1
theorem PtIn.kept {B G : Nat} {w w' : World} (p : PtIn B G w) (hb : Below w.heap.size w w') : PtIn B G w' := (hb.block B p.lt).trans p
theorem PtIn.cell {B G : Nat} {w : World} (p : PtIn B G w) : w.cell? ⟨B, 0, none⟩ = some (.pointer (some ⟨G, 0, none⟩)) := cell_of_row w B 0 _ _ _ p
def InIn (B : Nat) (x : Int) (w : World) : Prop := w.heap[B]? = some (.cells #[.int .i64 x] 3 (0, 0))
theorem InIn.lt {B : Nat} {x : Int} {w : World} (p : InIn B x w) : B < w.heap.size := (Array.getElem?_eq_some_iff.1 p).1
theorem InIn.kept {B : Nat} {x : Int} {w w' : World} (p : InIn B x w) (hb : Below w.heap.size w w') : InIn B x w' := (hb.block B p.lt).trans p
theorem InIn.cell {B : Nat} {x : Int} {w : World} (p : InIn B x w) : w.cell? ⟨B, 0, none⟩ = some (.int .i64 x) := cell_of_row w B 0 _ _ _ p
theorem InIn.frz {B : Nat} {x : Int} {w : World} (p : InIn B x w) : w.frozen? ⟨B, 0, none⟩ = false := by
  unfold InIn at p
  simp [World.frozen?, p]
theorem InIn.set {B : Nat} {x : Int} {w : World} (p : InIn B x w) (y : Int) : InIn B y (w.setCell ⟨B, 0, none⟩ (.int .i64 y)) ∧ Only B w (w.setCell ⟨B, 0, none⟩ (.int .i64 y)) := by
  rw [setCell_eq_setRow w B 0 _ _ (0, 0) _ p]
  exact ⟨setRow_heap w B _ _ _ (0, 0) p, only_setRow _ _ _⟩
theorem in_new (x : Int) (w : World) : InIn w.heap.size x (w.alloc (.cells #[.int .i64 x] 3)) := heap_alloc_new w _
def LV (G : Nat) (f : List Int) (l : Bool × Int) (v : Value) (w : World) : Prop :=
  (l.1 = true ∧ ∃ B F, v = .func (.func 118) #[] #[.pointer (some ⟨B, 0, none⟩), .pointer (some ⟨F, 0, none⟩)] ∧ PtIn B G w ∧ FlIn F f w) ∨
  (l.1 = false ∧ ∃ B F, v = .func (.func 121) #[] #[.pointer (some ⟨B, 0, none⟩), .pointer (some ⟨F, 0, none⟩)] ∧ InIn B l.2 w ∧ FlIn F f w)
theorem LV.kept {G : Nat} {f : List Int} {l : Bool × Int} {v : Value} {w w' : World} (h : LV G f l v w) (hb : Below w.heap.size w w') : LV G f l v w' := by
  rcases h with ⟨h1, B, F, rfl, h2, h3⟩ | ⟨h1, B, F, rfl, h2, h3⟩
  · exact .inl ⟨h1, B, F, rfl, h2.kept hb, h3.kept hb⟩
  · exact .inr ⟨h1, B, F, rfl, h2.kept hb, h3.kept hb⟩
def LK (w : World) (G : Nat) (c : List Int) (inj : Bool) (a : Option Addr) (n cap : Nat) (tv : Value) (S : Nat) (now : Int) (f : List Int) (W : World) : Prop := GtIn G c inj a n cap tv S now W ∧ PtIn w.heap.size G W ∧ FlIn (w.heap.size + 1) f W ∧ Below w.heap.size w W
theorem LK.kept {w : World} {G : Nat} {c : List Int} {inj : Bool} {a : Option Addr} {n cap : Nat} {tv : Value} {S : Nat} {now : Int} {f : List Int} {W W' : World} (h : LK w G c inj a n cap tv S now f W) (hb : Below W.heap.size W W') : LK w G c inj a n cap tv S now f W' := ⟨h.1.kept hb, h.2.1.kept hb, h.2.2.1.kept hb, bt h.2.2.2 hb⟩
theorem LK.only {w : World} {G : Nat} {c : List Int} {inj : Bool} {a : Option Addr} {n cap : Nat} {tv : Value} {S : Nat} {now : Int} {f : List Int} {W W' : World} (h : LK w G c inj a n cap tv S now f W) {D : Nat} (on : Only D W W') (hD : G < D ∧ w.heap.size + 1 < D) : LK w G c inj a n cap tv S now f W' := ⟨h.1.same (on.2.2.2.2 G (by omega)), (on.2.2.2.2 _ (by omega)).trans h.2.1, (on.2.2.2.2 _ (by omega)).trans h.2.2.1, on.below h.2.2.2 (by omega)⟩
theorem LK.start (G : Nat) (c : List Int) (inj : Bool) (a : Option Addr) (n cap : Nat) (tv : Value) (S : Nat) (now : Int) (f : List Int) (w : World) (hG : GtIn G c inj a n cap tv S now w) : LK w G c inj a n cap tv S now f ((w.alloc (.cells #[.pointer (some ⟨G, 0, none⟩)] 30)).alloc (.cells (flC f) 73)) := by
  have b1 := al_below w (.cells #[.pointer (some ⟨G, 0, none⟩)] 30)
  have b2 := al_below (w.alloc (.cells #[.pointer (some ⟨G, 0, none⟩)] 30)) (.cells (flC f) 73)
  have p1 : PtIn w.heap.size G (w.alloc (.cells #[.pointer (some ⟨G, 0, none⟩)] 30)) := heap_alloc_new w _
  have p2 := fl_new f (w.alloc (.cells #[.pointer (some ⟨G, 0, none⟩)] 30))
  rw [World.size_alloc] at p2
  exact ⟨(hG.kept b1).kept b2, p1.kept b2, p2, bt b1 b2⟩
set_option maxRecDepth 100000 in
set_option maxHeartbeats 4000000 in
theorem leadof_vip (G : Nat) (c : List Int) (inj : Bool) (a : Option Addr) (n cap : Nat) (tv : Value) (S : Nat) (now : Int) (f : List Int) (w : World) (hG : GtIn G c inj a n cap tv S now w) (hv : eqz (dst f) (vip c) = true) (hd : el f 18 = el c 8) :
    Calls Tryz.prog 64 #[.pointer (some ⟨G, 0, none⟩), .agg (flC f)] w fun e w' => ∃ v, e = .returned (.tuple #[v, .nilIface]) ∧ LV G f (true, 0) v w' ∧ Below w.heap.size w w' := by
  have HK := hide (LK.start G c inj a n cap tv S now f w hG)
  have he := fun W => seq_run (dst f) (vip c) W
  rw [hv] at he
  have e18 : (el f 18 == el c 8) = true := by simpa using hd
  clear hG hv hd
  go_enter Tryz.func64, Tryz.ntmps64
  go_upto_region 1 with fail
  generalize (World.alloc _ _).alloc _ = W at HK ⊢
  have fd := fun k => FlIn.hd (w := W.drewN k) HK.out.2.2.1
  have f18 := HK.out.2.2.1.cell 18 (by omega)
  have gv := fun k => GtIn.hv (w := W.drewN k) HK.out.1
  have g8 := HK.out.1.door
  have gp := HK.out.2.1.cell
  have HKn := hide (fun n => HK.out.kept (W' := World.drewN W n) ⟨rfl, rfl, rfl, Nat.le_refl _, fun _ _ => rfl⟩)
  clear HK
  go_quiet (fail)
  clear fd f18 gv g8 gp
  go_wp2
  go_ret2
  exact ⟨_, rfl, .inl ⟨rfl, _, _, rfl, (HKn.out _).2.1, (HKn.out _).2.2.1⟩, (HKn.out _).2.2.2⟩
set_option maxRecDepth 100000 in
set_option maxHeartbeats 4000000 in
theorem leadof_out (G : Nat) (c : List Int) (inj : Bool) (a : Option Addr) (n cap : Nat) (tv : Value) (S : Nat) (now : Int) (f : List Int) (w : World) (hG : GtIn G c inj a n cap tv S now w) (hv : ¬ (eqz (dst f) (vip c) = true ∧ el f 18 = el c 8)) (h1 : Ok6 (dst f)) (h2 : Ok6 (pfx c)) (h3 : Em.LongP (el c 17)) :
    Calls Tryz.prog 64 #[.pointer (some ⟨G, 0, none⟩), .agg (flC f)] w fun e w' => (((ldo c f).1 ≠ 0 ∧ (ldo c f).1 = 4 ∧ ∃ v, e = .returned (.tuple #[v, err 4])) ∨ ((ldo c f).1 = 0 ∧ ∃ v, e = .returned (.tuple #[v, .nilIface]) ∧ LV G f (ldo c f).2 v w')) ∧ Below w.heap.size w w' := by
  have HK := hide (LK.start G c inj a n cap tv S now f w hG)
  have he := fun W => seq_run (dst f) (vip c) W
  have hL : 0 ≤ el c 17 ∧ el c 17 ≤ 128 := by unfold Em.LongP at h3; omega
  have HIn := hide (fun W => ain (dst f) (pfx c) (el c 17) W h1 h2 hL.1 hL.2)
  have HOut := hide (fun W => eout (dst f) (el c 17) W h1 h3)
  have HL := hide (show ldo c f = if Em.inF (dst f) (pfx c) (el c 17) = true ∧ (oto (dst f) (el c 17)).2 = 0 then (0, false, (oto (dst f) (el c 17)).1) else (4, false, 0) from if_neg hv)
  generalize ldo c f = L at HL ⊢
  generalize Em.inF (dst f) (pfx c) (el c 17) = I at HIn HL
  generalize oto (dst f) (el c 17) = T at HOut HL
  have HR := hide (show ∀ W', LK w G c inj a n cap tv S now f W' → (hload (.pointer (some ⟨w.heap.size + 1, 10, none⟩))).run Tryz.prog W' = .ok (.agg (sixC (dst f))) W' ∧ W'.cell? ⟨w.heap.size, 0, none⟩ = some (.pointer (some ⟨G, 0, none⟩)) ∧ (hload (.pointer (some ⟨G, 9, none⟩))).run Tryz.prog W' = .ok (.agg (sixC (pfx c))) W' ∧ W'.cell? ⟨G, 17, none⟩ = some (.int .i64 (el c 17)) from fun W' h => ⟨h.2.2.1.hd, h.2.1.cell, h.1.hp, h.1.len⟩)
  have hcase : (eqz (dst f) (vip c) = false) ∨ (eqz (dst f) (vip c) = true ∧ (el f 18 == el c 8) = false) := by
    cases hq : eqz (dst f) (vip c)
    · exact .inl rfl
    · exact .inr ⟨rfl, by simpa using fun h => hv ⟨hq, h⟩⟩
  clear hG hv h1 h2 h3 hL
  rcases hcase with hq | ⟨hq, e18⟩
  all_goals
    rw [hq] at he
    clear hq
    go_enter Tryz.func64, Tryz.ntmps64
    go_upto_region 1 with fail
    generalize (World.alloc _ _).alloc _ = W at HK ⊢
    have fd := fun k => FlIn.hd (w := W.drewN k) HK.out.2.2.1
    have f18 := HK.out.2.2.1.cell 18 (by omega)
    have gv := fun k => GtIn.hv (w := W.drewN k) HK.out.1
    have g8 := HK.out.1.door
    have gp := HK.out.2.1.cell
    have HKn := hide (fun n => HK.out.kept (W' := World.drewN W n) ⟨rfl, rfl, rfl, Nat.le_refl _, fun _ _ => rfl⟩)
    clear HK
    go_quiet (fail)
    clear fd f18 gv g8 gp he
    generalize hW : World.drewN _ _ = W1
    have HK : Hid (LK w G c inj a n cap tv S now f W1) := by rw [← hW]; exact HKn.out _
    clear hW HKn
    go_upto_region 3 with fail
    have HK1 := hide (HK.out.kept (show Below W1.heap.size W1 W1.drew from (Below.refl _ _).drew))
    obtain ⟨q1, q2, q3, q4⟩ := HR.out _ HK1.out
    go_region_held3 (fun W' => (hload (.pointer (some ⟨w.heap.size + 1, 10, none⟩))).run Tryz.prog W' = .ok (.agg (sixC (dst f))) W' ∧ W'.cell? ⟨w.heap.size, 0, none⟩ = some (.pointer (some ⟨G, 0, none⟩)) ∧ (hload (.pointer (some ⟨G, 9, none⟩))).run Tryz.prog W' = .ok (.agg (sixC (pfx c))) W' ∧ W'.cell? ⟨G, 17, none⟩ = some (.int .i64 (el c 17)))
      (first
        | exact HR.out _ HK1.out
        | exact HR.out _ HK2.out
        | go_keep)
      (first | (go_at_call 99; refine (HIn.out _).mono ?_; rintro e w2 ⟨rfl, hb2⟩; have HK2 := hide (HK1.out.kept hb2); clear hb2 q1 q2 q3 q4; obtain ⟨q1, q2, q3, q4⟩ := HR.out _ HK2.out))
    clear HK1 HK HIn
    cases I
    · have HLL := hide (show L = (4, false, 0) by rw [HL.out]; simp)
      clear HL HOut
      go_wp2
      go_ret2
      exact ⟨.inl ⟨by rw [HLL.out]; decide, by rw [HLL.out], _, rfl⟩, HK2.out.2.2.2⟩
    · go_upto_region 6 with fail
      have HD := hide (show G < w2.heap.size ∧ w.heap.size + 1 < w2.heap.size from ⟨HK2.out.1.lt, HK2.out.2.2.1.lt⟩)
      have HK3 := hide (HK2.out.kept (show Below w2.heap.size w2 w2.drew from (Below.refl _ _).drew))
      have HKb := hide (HK2.out.kept (show Below w2.heap.size w2 (w2.alloc (.cells #[.int .i64 0] 3)).drew from (al_below w2 _).drew))
      have HIb := hide (show InIn w2.heap.size 0 (w2.alloc (.cells #[.int .i64 0] 3)).drew from in_new 0 w2)
      clear q1 q2 q3 q4
      obtain ⟨q1, q2, q3, q4⟩ := HR.out _ HK3.out
      clear HK2
      obtain ⟨E, hE⟩ : ∃ E, E = ev T.2 := ⟨_, rfl⟩
      have HE := hide hE
      have hE2 : (T.2 = 0 ∧ E = .nilIface) ∨ (T.2 ≠ 0 ∧ E = err T.2) := by
        rw [hE]
        by_cases h : T.2 = 0
        · exact .inl ⟨h, by rw [h]; rfl⟩
        · exact .inr ⟨h, ev_err h⟩
      rw [← hE] at HOut
      clear hE
      go_cut [7, 8] from 7 to 66 (fun u v wx => u = E ∧ ∃ D, v = .pointer (some ⟨D, 0, none⟩) ∧ Hid (InIn D T.1 wx ∧ LK w G c inj a n cap tv S now f wx))
      case first =>
        go_region_held3 (fun W' => (hload (.pointer (some ⟨w.heap.size + 1, 10, none⟩))).run Tryz.prog W' = .ok (.agg (sixC (dst f))) W' ∧ W'.cell? ⟨w.heap.size, 0, none⟩ = some (.pointer (some ⟨G, 0, none⟩)) ∧ (hload (.pointer (some ⟨G, 9, none⟩))).run Tryz.prog W' = .ok (.agg (sixC (pfx c))) W' ∧ W'.cell? ⟨G, 17, none⟩ = some (.int .i64 (el c 17)))
          (first
            | exact HR.out _ HK3.out
            | exact HR.out _ HKb.out
            | exact HR.out _ HK4.out
            | exact HR.out _ HK5.out
            | exact HR.out _ HK6.out
            | go_keep)
          (first
            | (go_at_call 120; refine (HOut.out _).mono ?_; rintro e w4 ⟨rfl, hb4⟩; have HK4 := hide (HK3.out.kept hb4); have HK5 := hide (HK4.out.kept (al_below w4 (.cells #[.int .i64 0] 3))); have HK6 := hide (HK4.out.kept (al_below w4 (.cells #[.int .i64 T.1] 3))); have HF := hide (in_new T.1 w4); clear hb4 q1 q2 q3 q4; obtain ⟨q1, q2, q3, q4⟩ := HR.out _ HK4.out)
            | (go_at_call 120; refine (HOut.out _).mono ?_; rintro e w4 ⟨rfl, hb4⟩; have HK4 := hide (HKb.out.kept hb4); have HI4 := hide (HIb.out.kept hb4); have HK5 := HK4; have x5 := HI4.out.cell; have y5 := HI4.out.frz; have z5 := HI4.out.set T.1; have HF := hide z5.1; have HK6 := hide (HK4.out.only z5.2 HD.out); clear hb4 z5 q1 q2 q3 q4; obtain ⟨q1, q2, q3, q4⟩ := HR.out _ HK4.out))
        all_goals
          go_wp2_with fail
          go_meet
          exact ⟨by first | rfl | exact HE.out.symm, _, rfl, hide ⟨HF.out, HK6.out⟩⟩
      case rest =>
        obtain ⟨rfl, D, rfl, HQ⟩ := hcut
        clear HK3 HKb HIb q1 q2 q3 q4 HOut
        rcases hE2 with ⟨h0, rfl⟩ | ⟨h0, rfl⟩
        · have HLL := hide (show L = (0, false, T.1) by rw [HL.out, if_pos ⟨rfl, h0⟩])
          clear HE HL
          go_wp2
          go_ret2
          refine ⟨.inr ⟨by rw [HLL.out], _, rfl, ?_⟩, HQ.out.2.2.2.2⟩
          rw [HLL.out]
          exact .inr ⟨rfl, _, _, rfl, HQ.out.1, HQ.out.2.2.2.1⟩
        · have HLL := hide (show L = (4, false, 0) by rw [HL.out, if_neg (fun h => h0 h.2)])
          clear HE HL
          unfold err
          go_wp2
          go_ret2
          exact ⟨.inl ⟨by rw [HLL.out]; decide, by rw [HLL.out], _, rfl⟩, HQ.out.2.2.2.2⟩
end Go.Proofs.YtkhahbghmdccaaaGreatDoor

namespace Go.Proofs.YtkhahbghmdccaaaGreatDoor
open Go.RowKit
def kst (x y : Value) : Sem Unit := Instr.storeAt 95 x y
theorem kst_shut (x y : Value) : Instr.storeAt 95 x y = kst x y := rfl
theorem BkIn.held {B : Nat} {b0 : List Int} {w : World} (p : BkIn B b0 w) (b : List Int) : ∃ w', (kst (.pointer (some ⟨B, 0, none⟩)) (.agg (bkC b))).run Tryz.prog w = .ok () w' ∧ BkIn B b w' ∧ Only B w w' := by
  refine ⟨w.setRow B (bkC b), ?_, p.stored b, only_setRow _ _ _⟩
  unfold kst
  simp only [Instr.storeAt, Instr.sureAddr, Sem.run_bind, Sem.run_pure, Result.andThen_ok]
  exact run_storeVar_row w B 95 95 _ (bkC b) p (by kernel_rfl) rfl (by unfold bkC; simp [Value.oneCell'])
theorem BkIn.c1 {B : Nat} {b : List Int} {w : World} (p : BkIn B b w) : w.cell? ⟨B, 1, none⟩ = some (.int .i64 (el b 1)) := cell_of_row w B 1 _ _ _ p
theorem BkIn.c2 {B : Nat} {b : List Int} {w : World} (p : BkIn B b w) : w.cell? ⟨B, 2, none⟩ = some (.int .i64 (el b 2)) := cell_of_row w B 2 _ _ _ p
attribute [local go_sem ↓] fload_shut kst_shut
set_option maxRecDepth 100000 in
set_option maxHeartbeats 4000000 in
theorem wh1_any (B F G : Nat) (c : List Int) (inj : Bool) (a : Option Addr) (cap : Nat) (tv : Value) (S : Nat) (now : Int) (f : List Int) (bk : List (List Int)) (w : World) (hp : PtIn B G w) (hf : FlIn F f w) (hG : GtIn G c inj a bk.length cap tv S now w) (hb : Bks a bk w) (h1 : bk.length ≤ maxLen) (h2 : bk.length ≤ cap) :
    Calls Tryz.prog 118 #[.pointer (some ⟨B, 0, none⟩), .pointer (some ⟨F, 0, none⟩)] w fun e w' => e = .returned (.tuple #[.int .i64 (el (pko (el c 19) f bk).1 1), .int .i64 (el (pko (el c 19) f bk).1 2), ev (pko (el c 19) f bk).2]) ∧ Below w.heap.size w w' := by
  have HC := hide (fun W (hw : Below w.heap.size w W) => kpick (el c 19) f a cap bk W (hb.below hw) h1 h2)
  generalize pko (el c 19) f bk = R at HC ⊢
  have HR := hide (show ∀ W', Below w.heap.size w W' → W'.cell? ⟨B, 0, none⟩ = some (.pointer (some ⟨G, 0, none⟩)) ∧ (fload (.pointer (some ⟨F, 0, none⟩))).run Tryz.prog W' = .ok (.agg (flC f)) W' ∧ W'.cell? ⟨G, 19, none⟩ = some (.int .i64 (el c 19)) ∧ W'.cell? ⟨G, 22, none⟩ = some (.slice a bk.length cap) from fun W' h => ⟨(hp.kept h).cell, (hf.kept h).fl, (hG.kept h).seed, (hG.kept h).backs⟩)
  clear hp hf hG hb h1 h2
  have HB1 := hide ((Below.refl w.heap.size w).drew)
  have HBb := hide (show Below w.heap.size w (w.alloc (.cells zero4b 95)).drew from (al_below w _).drew)
  have HIb := hide (show BkIn w.heap.size [] (w.alloc (.cells zero4b 95)).drew from bk_zero w)
  have HZ := hide (fun W => bk_zero W)
  unfold zero4b at HBb HIb HZ
  obtain ⟨q1, q2, q3, q4⟩ := HR.out _ HB1.out
  go_enter Tryz.func118, Tryz.ntmps118
  go_upto_region 1 with fail
  go_cut [5, 6] from 5 to 26 (fun u v wx => (∃ D, u = .pointer (some ⟨D, 0, none⟩) ∧ Hid (BkIn D R.1 wx)) ∧ v = ev R.2 ∧ Hid (Below w.heap.size w wx))
  case first =>
    go_region_held3 (fun W' => W'.cell? ⟨B, 0, none⟩ = some (.pointer (some ⟨G, 0, none⟩)) ∧ (fload (.pointer (some ⟨F, 0, none⟩))).run Tryz.prog W' = .ok (.agg (flC f)) W' ∧ W'.cell? ⟨G, 19, none⟩ = some (.int .i64 (el c 19)) ∧ W'.cell? ⟨G, 22, none⟩ = some (.slice a bk.length cap))
      (first
        | exact HR.out _ HB1.out
        | exact HR.out _ HBb.out
        | exact HR.out _ HB4.out
        | exact HR.out _ HB5.out
        | exact HR.out _ HB6.out
        | go_keep)
      (first
        | (go_at_call 119; refine (HC.out _ HB1.out).mono ?_; rintro e w4 ⟨rfl, hb4⟩; have HB4 := hide (bt HB1.out hb4); have HB5 := hide (bt HB4.out (al_below w4 (.cells #[.int .i64 0, .int .i64 0, .int .i64 0, .int .i64 0, .bool false, .bool false] 95))); obtain ⟨w6, k6, p6, on6⟩ := (HZ.out w4).held R.1; have HB6 := hide (on6.below HB5.out HB4.out.size); have HF := hide p6; clear hb4 q1 q2 q3 q4 p6 on6; obtain ⟨q1, q2, q3, q4⟩ := HR.out _ HB4.out)
        | (go_at_call 119; refine (HC.out _ HBb.out).mono ?_; rintro e w4 ⟨rfl, hb4⟩; have HB4 := hide (bt HBb.out hb4); have HB5 := HB4; obtain ⟨w6, k6, p6, on6⟩ := (HIb.out.kept hb4).held R.1; have HB6 := hide (on6.below HB4.out (Nat.le_refl _)); have HF := hide p6; clear hb4 q1 q2 q3 q4 p6 on6; obtain ⟨q1, q2, q3, q4⟩ := HR.out _ HB4.out))
    all_goals
      go_wp2_with fail
      go_meet
      exact ⟨⟨_, rfl, HF⟩, rfl, HB6⟩
  case rest =>
    obtain ⟨⟨D, rfl, HD⟩, rfl, HB⟩ := hcut
    clear HB1 HBb HIb HZ HR HC q1 q2 q3 q4
    have d1 := HD.out.c1
    have d2 := HD.out.c2
    have HBn := hide (fun n => drn HB.out n)
    clear HD HB
    go_upto_region 2 with fail
    go_quiet (fail)
    go_wp2
    refine bodyPost_ret (results_tmp3 rfl _ _ _) rfl ?_
    exact ⟨rfl, HBn.out _⟩
set_option maxRecDepth 100000 in
set_option maxHeartbeats 2000000 in
theorem wh2_any (B F : Nat) (x : Int) (f : List Int) (w : World) (hp : InIn B x w) (hf : FlIn F f w) :
    Calls Tryz.prog 121 #[.pointer (some ⟨B, 0, none⟩), .pointer (some ⟨F, 0, none⟩)] w fun e w' => e = .returned (.tuple #[.int .i64 x, .int .i64 (el f 18), .nilIface]) ∧ Below w.heap.size w w' := by
  have q1 := hp.cell
  have q2 := hf.cell 18 (by omega)
  have HBn := hide (fun n => drn (Below.refl w.heap.size w) n)
  clear hp hf
  go_enter Tryz.func121, Tryz.ntmps121
  go_upto_region 1 with fail
  go_quiet (fail)
  go_wp2
  refine bodyPost_ret (results_tmp3 rfl _ _ _) rfl ?_
  exact ⟨rfl, HBn.out _⟩
end Go.Proofs.YtkhahbghmdccaaaGreatDoor

namespace Go.Proofs.YtkhahbghmdccaaaGreatDoor
open Go.RowKit
def TI (g : GS) : Prop := g.m ≤ 16 ∧ g.bs.length ≤ 128 ∧ BI g.m g.ws g.ts g.bs ∧ tc g.now = true ∧ ∀ b ∈ g.bs, el b 22 ≤ g.now
def bdo (g : GS) (f : List Int) (flags : Int) (wr : Int × Int × Int) : Int × List Int × GS :=
  match fnd g.bs f with
  | some k => (0, g.bs.getD k [], g.tab g.ws g.ts (g.bs.set k (usd (g.bs.getD k []) g.now)))
  | none => if el f 0 = 6 ∧ ¬ (flags / 2 % 2 = 1 ∧ flags / 16 % 2 = 0) then (9, [], g)
    else if wr.2.2 ≠ 0 then (wr.2.2, [], g)
    else match tk g.ws g.ts (cli f) (8 * g.m) with
      | none => (3, [], g)
      | some i => (0, mkb f (1024 + (i : Int)) wr.1 wr.2.1 g.now, g.tab (upd g.ws i (cli f)) (upd g.ts i true) (ins (mkb f (1024 + (i : Int)) wr.1 wr.2.1 g.now) g.bs))
theorem and18_all : ∀ f : Fin 32, (bits .and .i64 ((f.val : Nat) : Int) 18 != 2) = decide (¬ (f.val / 2 % 2 = 1 ∧ f.val / 16 % 2 = 0)) := by decide +kernel
theorem and18 (n : Int) (h0 : 0 ≤ n) (h1 : n ≤ 31) : (bits .and .i64 n 18 != 2) = decide (¬ (n / 2 % 2 = 1 ∧ n / 16 % 2 = 0)) := by
  obtain ⟨k, rfl⟩ := Int.eq_ofNat_of_zero_le h0
  have h := and18_all ⟨k, by omega⟩
  simp only at h
  rw [h]
  by_cases h2 : k / 2 % 2 = 1 ∧ k / 16 % 2 = 0
  · rw [decide_eq_false (fun h => h h2), decide_eq_false (fun h => h (by omega))]
  · rw [decide_eq_true h2, decide_eq_true (by omega)]
theorem BdIn.no8 {B : Nat} {b : List Int} {w : World} (p : BdIn B b w) (j : Nat) (x : Int) : w.cell? ⟨B, j, none⟩ ≠ some (.int .u8 x) := by
  by_cases h : j < 23
  · rw [p.cell j h]; intro h; cases h
  · rw [cell_of_row w B j _ _ _ p, Array.getElem?_eq_none (by show 23 ≤ j; omega)]; intro h; cases h
theorem Kpt.own {O : Nat → Prop} {w w1 w2 : World} (h : Kpt O w w1) {D : Nat} (on : Only D w1 w2) (hD : w.heap.size ≤ D) (nb : ∀ j x, w1.cell? ⟨D, j, none⟩ ≠ some (.int .u8 x)) : Kpt O w w2 :=
  ⟨⟨on.1.trans h.1.1, on.2.1.trans h.1.2.1, on.2.2.1.trans h.1.2.2.1, by rw [on.2.2.2.1]; exact h.size, fun g hg hn => (on.2.2.2.2 g (by omega)).trans (h.1.2.2.2.2 g hg hn)⟩, fun a n c zs r => (h.2 a n c zs r).pastn nb on⟩
theorem GC.other {G : Nat} {a : Option Addr} {cap : Nat} {tv : Value} {S : Nat} {Ot : Nat → Prop} {β : Int → Nat} {g : GS} {w w' : World} (h : GC G a cap tv S Ot β g w) {D : Nat} (on : Only D w w') (hD : ¬ GO G a Ot (SO S β g.ss) D) (nb : ∀ j x, w.cell? ⟨D, j, none⟩ ≠ some (.int .u8 x)) : GC G a cap tv S Ot β g w' := by
  have hs : ∀ k, GO G a Ot (SO S β g.ss) k → w'.heap[k]? = w.heap[k]? := fun k hk => on.2.2.2.2 k (fun e => hD (e ▸ hk))
  exact ⟨h.1.same (hs G (.inl rfl)), ⟨h.2.1.1.same (fun k hk => hs k (.inr (.inl hk))), fun k hk => by rw [on.2.2.2.1]; exact h.2.1.2.1 k hk, h.2.1.2.2⟩, (tb_kept _ _ _ _ _ _ _ h.2.2.1).2 w' (by rw [on.2.2.2.1]; exact Nat.le_refl _) (fun k hk => hs k (.inr (.inr (.inl hk)))), h.2.2.2.1.same (fun k hk => hs k (.inr (.inr (.inr hk)))) (fun _ _ _ _ r => r.pastn nb on), h.2.2.2.2⟩
def BK (w : World) (G : Nat) (a : Option Addr) (cap : Nat) (tv : Value) (S : Nat) (Ot : Nat → Prop) (β : Int → Nat) (g : GS) (f : List Int) (W : World) : Prop := GC G a cap tv S Ot β g W ∧ FlIn w.heap.size f W ∧ BdIn (w.heap.size + 1) [] W ∧ Below w.heap.size w W
theorem BK.kept {w : World} {G : Nat} {a : Option Addr} {cap : Nat} {tv : Value} {S : Nat} {Ot : Nat → Prop} {β : Int → Nat} {g : GS} {f : List Int} {W W' : World} (h : BK w G a cap tv S Ot β g f W) (hb : Below W.heap.size W W') : BK w G a cap tv S Ot β g f W' := ⟨h.1.kept hb, h.2.1.kept hb, h.2.2.1.kept hb, bt h.2.2.2 hb⟩
theorem BK.only {w : World} {G : Nat} {a : Option Addr} {cap : Nat} {tv : Value} {S : Nat} {Ot : Nat → Prop} {β : Int → Nat} {g : GS} {f : List Int} {W W' : World} (h : BK w G a cap tv S Ot β g f W) (h0 : GC G a cap tv S Ot β g w) {D : Nat} (on : Only D W W') (hD : w.heap.size + 1 < D) : BK w G a cap tv S Ot β g f W' := by
  have hb : Below w.heap.size w W' := on.below h.2.2.2 (by omega)
  exact ⟨h0.kept hb, (on.2.2.2.2 _ (by omega)).trans h.2.1, (on.2.2.2.2 _ (by omega)).trans h.2.2.1, hb⟩
theorem BK.start {G : Nat} {a : Option Addr} {cap : Nat} {tv : Value} {S : Nat} {Ot : Nat → Prop} {β : Int → Nat} {g : GS} (f : List Int) {w : World} (h : GC G a cap tv S Ot β g w) : BK w G a cap tv S Ot β g f ((w.alloc (.cells (flC f) 73)).alloc (.cells zero23 75)) := by
  have b1 := al_below w (.cells (flC f) 73)
  have b2 := al_below (w.alloc (.cells (flC f) 73)) (.cells zero23 75)
  have p2 := bd_zero (w.alloc (.cells (flC f) 73))
  rw [World.size_alloc] at p2
  exact ⟨(h.kept b1).kept b2, (fl_new f w).kept b2, p2, bt b1 b2⟩
def BQ (w : World) (n : Nat) (G : Nat) (a : Option Addr) (cap : Nat) (tv : Value) (S : Nat) (Ot : Nat → Prop) (β : Int → Nat) (g g' : GS) (w' : World) : Prop := ∃ Ot', GC G a cap tv S Ot' β g' w' ∧ Kpt (GO G a Ot (SO S β g.ss)) w w' ∧ ∀ k, Ot' k → Ot k ∨ n ≤ k
theorem BK.tab {w : World} {G : Nat} {a : Option Addr} {cap : Nat} {tv : Value} {S : Nat} {Ot : Nat → Prop} {β : Int → Nat} {g : GS} {f : List Int} {W W' : World} (h : BK w G a cap tv S Ot β g f W) (h0 : GC G a cap tv S Ot β g w) {ws : Nat → List Int} {ts : Nat → Bool} {bs : List (List Int)} (q : TQ TB tv g.m ws ts bs Ot W W') : BQ w W.heap.size G a cap tv S Ot β g (g.tab ws ts bs) W' ∧ BdIn (w.heap.size + 1) [] W' ∧ FlIn w.heap.size f W' ∧ W.heap.size ≤ W'.heap.size ∧ ∀ D b, BdIn D b W → w.heap.size ≤ D → BdIn D b W' := by
  obtain ⟨Ot', q1, q2, q3⟩ := h.1.tab q
  have hs := h.2.2.2.size
  have hkeep : ∀ D, w.heap.size ≤ D → D < W.heap.size → W'.heap[D]? = W.heap[D]? := fun D h1 h2 => q2.1.2.2.2.2 D h2 (fun ho => by have := h0.lt ho; omega)
  exact ⟨⟨Ot', q1, (Kpt.of h.2.2.2).trans q2 (fun k hk => .inl hk), q3⟩, (hkeep _ (by omega) h.2.2.1.lt).trans h.2.2.1, (hkeep _ (by omega) h.2.1.lt).trans h.2.1, q2.size, fun D b hb hD => (hkeep D hD hb.lt).trans hb⟩
theorem BQ.put {w : World} {n : Nat} {G : Nat} {a : Option Addr} {cap : Nat} {tv : Value} {S : Nat} {Ot : Nat → Prop} {β : Int → Nat} {g g' : GS} {W W' : World} (h : BQ w n G a cap tv S Ot β g g' W) (hss : g'.ss = g.ss) (h0 : GC G a cap tv S Ot β g w) {D : Nat} {b : List Int} (p : BdIn D b W) (on : Only D W W') (hD : w.heap.size ≤ D) (hn : D < n) : BQ w n G a cap tv S Ot β g g' W' := by
  obtain ⟨Ot', q1, q2, q3⟩ := h
  refine ⟨Ot', q1.other on ?_ p.no8, q2.own on hD p.no8, q3⟩
  rintro (h1 | h1 | h1 | h1)
  · have := h0.1.lt; omega
  · have := h0.2.1.2.1 D h1; omega
  · rcases q3 D h1 with h2 | h2
    · have := h0.ot h2; omega
    · omega
  · rw [hss] at h1
    have := h0.2.2.2.1.lt h1
    omega
theorem BQ.end {w : World} {n : Nat} {G : Nat} {a : Option Addr} {cap : Nat} {tv : Value} {S : Nat} {Ot : Nat → Prop} {β : Int → Nat} {g g' : GS} {W : World} (h : BQ w n G a cap tv S Ot β g g' W) (hn : w.heap.size ≤ n) : BQ w w.heap.size G a cap tv S Ot β g g' W := by
  obtain ⟨Ot', q1, q2, q3⟩ := h
  exact ⟨Ot', q1, q2, fun k hk => (q3 k hk).imp id (fun h => by omega)⟩
theorem BK.still {w : World} {G : Nat} {a : Option Addr} {cap : Nat} {tv : Value} {S : Nat} {Ot : Nat → Prop} {β : Int → Nat} {g : GS} {W : World} (h0 : GC G a cap tv S Ot β g w) (hb : Below w.heap.size w W) : BQ w w.heap.size G a cap tv S Ot β g g W := ⟨Ot, h0.kept hb, Kpt.of hb, fun _ hk => .inl hk⟩
theorem prt_self {bs : List (List Int)} (h : bs.Pairwise (fun a b => el a 19 < el b 19)) {k : Nat} (hk : k < bs.length) : prt bs (el (bs.getD k []) 19) = some k := by
  unfold prt
  rw [List.find?_range_eq_some]
  refine ⟨by simp, List.mem_range.2 hk, fun j hj => ?_⟩
  have h1 := List.pairwise_iff_getElem.1 h j k (by omega) hk hj
  have e1 : bs.getD j [] = bs[j] := by rw [List.getD_eq_getElem?_getD, List.getElem?_eq_getElem (by omega)]; rfl
  have e2 : bs.getD k [] = bs[k] := by rw [List.getD_eq_getElem?_getD, List.getElem?_eq_getElem hk]; rfl
  rw [e1, e2]
  simp
  omega
end Go.Proofs.YtkhahbghmdccaaaGreatDoor
