/- Which segments may be. bytes.Clone, slices.Grow and slices.Concat (of two), by contracts. Streams with a head as they lie in the heap; numbers of streams; shift's wrap, ahead, own, check and sooner, by contracts. -/
import Derived.Test.YtkhahbghmdccaaaGreatDoorF01
import Derived.Below
import Derived.OpenShut
import Derived.Test.YtkhahbghmdccaaaGreatDoorProg
import Derived.WalkKit
import Derived.LaidEql
import Derived.BigQuiet
import Derived.Laws.AppendOwnNone
import Derived.Laws.MakeOwn
import Derived.Deep.RegionLaw
import Derived.Lib.Bytes
import Derived.Deep.MidRow
import Derived.Laws.ResultCell
import Derived.Deep.CutBlock
import Derived.Deep.QuietTactic
import Derived.OwnWalk
import Derived.Deep.RegionHeld3
import Derived.Deep.DrawnRows
import Derived.Test.YtkhahbghmdccaaaGreatDoorF06
import Derived.Lib.SliceRun
import Derived.Lib.AppendZerosOnto
import Derived.Lib.AppendZeros
import Derived.Test.YtkhahbghmdccaaaGreatDoorF09
namespace Go.Proofs.YtkhahbghmdccaaaGreatDoor
open Go.RowKit
theorem row_no (w : World) : Row8 w none 0 0 [] := ⟨rfl, by simp [maxLen], SM.oct_nil, fun _ => ⟨rfl, rfl⟩, fun h => by omega⟩
end Go.Proofs.YtkhahbghmdccaaaGreatDoor

namespace Go.Proofs.YtkhahbghmdccaaaGreatDoor
open Go.RowKit
theorem gr_empty (w : World) : Gr w (w.alloc (.cells #[] 5)) (.slice (some ⟨w.heap.size, 0, none⟩) 0 0) [] :=
  ⟨⟨SM.oct_nil, World.ownsRow_made w #[] 0 (Nat.le_refl _) (Nat.zero_le _) rfl⟩, al_below _ _⟩
set_option maxHeartbeats 2000000 in
theorem clone_any (a : Option Addr) (len cap : Nat) (zs : List Int) (w : World) (hr : Row8 w a len cap zs) (hm : len ≤ 1000000) :
    Calls Tryz.prog 206 #[.slice a len cap] w fun e w' => ∃ v, e = .returned v ∧ Gr w w' v zs := by
  have q := fun (w : World) (a : Option Addr) (n c n' c' : Nat) => Lib.run_eql_slice_nil (P := Tryz.prog) w 37 _ a n c n' c' Tryz.underlying37
  cases a with
  | none =>
    obtain ⟨rfl, rfl⟩ := hr.2.2.2.1 rfl
    obtain rfl : zs = [] := List.eq_nil_of_length_eq_zero hr.1
    clear hr
    go_enter Tryz.func206, Tryz.ntmps206
    go_wp2
    go_ret
    exact ⟨_, rfl, Gr.nil w⟩
  | some ad =>
    have HG := hide (gr_empty w)
    have HR := hide (hr.below (al_below w (.cells #[] 5)))
    clear hr
    go_enter Tryz.func206, Tryz.ntmps206
    go_wp2_with (at_builtin; refine gr_app rfl (.tmp 5) (.tmp 6) rfl rfl HG.out rfl HR.out (by simp only [List.length_nil]; omega) ?_; intro v' w' HG2; replace HG2 := hide HG2)
    go_ret
    exact ⟨_, rfl, HG2.out⟩
set_option maxHeartbeats 2000000 in
theorem grow_any (n : Nat) (w : World) (hn : n ≤ 1000000) : Calls Tryz.prog 227 #[.slice none 0 0, .int .i64 n] w fun e w' => ∃ v, e = .returned v ∧ Gr w w' v [] := by
  by_cases h0 : n = 0
  · subst h0
    go_enter Tryz.func227, Tryz.ntmps227
    go_wp2
    go_ret
    exact ⟨_, rfl, Gr.nil w⟩
  · obtain ⟨i0, hi, hz0, hz1, hz2⟩ := info_parts Tryz.infoByte
    have hold : (Builtin.firstCells i0.size 0 (.slice none 0 0)).run Tryz.prog w.drew = .ok ([] : List Value).toArray w.drew := run_firstCells_none w.drew i0.size 0 0 0
    obtain ⟨G, hG⟩ : ∃ G, G = grownCap w n 0 5 := ⟨_, rfl⟩
    obtain ⟨W, hW⟩ : ∃ W, W = w.drew.alloc (.cells (([] : List Value).toArray ++ Builtin.zeroCells (Value.int .u8 0).cells n ++ Builtin.zeroCells (Value.int .u8 0).cells (G - n)) 5) := ⟨_, rfl⟩
    have hGn : n ≤ G := by rw [hG]; exact grownCap_ge w _ _ _
    have hGm : G ≤ maxLen := by rw [hG]; exact grownCap_le_maxLen w n 0 5 (by unfold maxLen; omega)
    have hrz : ∀ ty, (Builtin.append_ #[37, 3] ty #[.slice none 0 0, .int .i64 n]).run Tryz.prog w = .ok (.slice (some ⟨w.heap.size, 0, none⟩) n G) W := fun ty => by
      have h := Lib.run_append_grow_zeros (P := Tryz.prog) w 37 3 ty 5 i0 (.int .u8 0) .i64 .i64 Tryz.underlying37 Tryz.underlying3 hi hz0 none 0 0 [] hold n (by omega) (by omega) (by omega) (by omega)
        (by rw [hz2]; omega) (by rw [Nat.zero_add]; exact growslice_fits (by omega) (by rw [hz2]; omega))
      rw [Nat.zero_add, ← hG, ← hW] at h
      exact h
    have HG := hide (show Gr w W (.slice (some ⟨w.heap.size, 0, none⟩) 0 G) [] by
      rw [hW]
      refine ⟨⟨SM.oct_nil, World.ownsRow_made w.drew _ G (Nat.le_refl _) hGm ?_⟩, ((Below.refl _ w).drew).alloc (Nat.le_refl _) _⟩
      simp [Builtin.zeroCells, Value.cells]
      omega)
    unfold maxLen at hGm
    clear hW hG hold hi hz0 hz1 hz2
    go_enter Tryz.func227, Tryz.ntmps227
    go_wp2_with (at_builtin; refine Lib.wpList_append_run _ rfl _ _ _ _ rfl _ _ rfl rfl _ _ (hrz _) ?_)
    go_ret
    exact ⟨_, rfl, HG.out⟩
def Two (V : Nat) (v1 v2 : Value) (w : World) : Prop := w.heap[V]? = some (.cells #[v1, v2] 37 (0, 0))
theorem Two.lt {V : Nat} {v1 v2 : Value} {w : World} (h : Two V v1 v2 w) : V < w.heap.size := (Array.getElem?_eq_some_iff.1 h).1
theorem Two.kept {V : Nat} {v1 v2 : Value} {w w' : World} (h : Two V v1 v2 w) (hb : Below w.heap.size w w') : Two V v1 v2 w' := (hb.block V h.lt).trans h
theorem Two.c0 {V : Nat} {v1 v2 : Value} {w : World} (h : Two V v1 v2 w) : w.cell? ⟨V, 0, none⟩ = some v1 := cell_of_row w V 0 _ _ _ h
theorem Two.c1 {V : Nat} {v1 v2 : Value} {w : World} (h : Two V v1 v2 w) : w.cell? ⟨V, 1, none⟩ = some v2 := cell_of_row w V 1 _ _ _ h
set_option maxHeartbeats 4000000 in
set_option maxRecDepth 100000 in
theorem concat_any (V : Nat) (a1 a2 : Option Addr) (n1 n2 c1 c2 : Nat) (xs ys : List Int) (w : World) (h : Two V (.slice a1 n1 c1) (.slice a2 n2 c2) w) (r1 : Row8 w a1 n1 c1 xs) (r2 : Row8 w a2 n2 c2 ys) (b1 : n1 ≤ 1000) (b2 : n2 ≤ 1000) :
    Calls Tryz.prog 209 #[.slice (some ⟨V, 0, none⟩) 2 2] w fun e w' => ∃ v, e = .returned v ∧ Gr w w' v (xs ++ ys) := by
  have HT := hide h
  have R1 := hide r1
  have R2 := hide r2
  have L1 := hide r1.1
  have L2 := hide r2.1
  have x0 := h.c0
  have x1 := h.c1
  clear h r1 r2
  obtain ⟨S, hS⟩ : ∃ S, S = n1 + n2 := ⟨_, rfl⟩
  have HG := hide (fun W => grow_any S W (by omega))
  have HS := hide (show (S : Int) = (n1 : Int) + (n2 : Int) by omega)
  have hSb : S ≤ 2000 := by omega
  clear hS
  go_enter Tryz.func209, Tryz.ntmps209
  go_wp2
  go_loop [3, 11] (fun t i => (t = .int .i64 0 ∧ i = .int .i64 0) ∨ (t = .int .i64 n1 ∧ i = .int .i64 1) ∨ (t = .int .i64 S ∧ i = .int .i64 2)) (fun _ i => 2 - (intOf i).toNat)
  case atStart => exact .inl ⟨rfl, rfl⟩
  case round =>
    rcases hrel with ⟨rfl, rfl⟩ | ⟨rfl, rfl⟩ | ⟨rfl, rfl⟩
    · go_wp2
      go_round
      case rel => exact .inr (.inl ⟨by go_num, rfl⟩)
      case measure => simp [intOf]
    · go_wp2
      go_round
      case rel => exact .inr (.inr ⟨by rw [HS.out], rfl⟩)
      case measure => simp [intOf]
    · clear x0 x1
      go_upto_region 11 with (go_at_call 227; refine (HG.out _).mono ?_; rintro e w1 ⟨v1, rfl, HG1⟩; replace HG1 := hide HG1)
      go_loopw [6, 27] (fun v i wr => (i = .int .i64 0 ∧ Hid (Gr w wr v [])) ∨ (i = .int .i64 1 ∧ Hid (Gr w wr v xs)) ∨ (i = .int .i64 2 ∧ Hid (Gr w wr v (xs ++ ys)))) (fun _ i _ => 2 - (intOf i).toNat)
      case atStart => exact .inl ⟨rfl, HG1⟩
      case round =>
        clear HG1
        rcases hrel with ⟨rfl, HO⟩ | ⟨rfl, HO⟩ | ⟨rfl, HO⟩
        · have x0 := (HT.out.kept HO.out.2).c0
          have R := hide (R1.out.below HO.out.2)
          go_wp2_with (at_builtin; refine gr_app rfl (.tmp 31) (.tmp 32) rfl rfl HO.out rfl R.out (by simp only [List.length_nil]; omega) ?_; intro v' w' HG2; replace HG2 := hide HG2)
          go_roundw
          case rel => exact .inr (.inl ⟨rfl, HG2⟩)
          case measure => simp [intOf]
        · have x1 := (HT.out.kept HO.out.2).c1
          have R := hide (R2.out.below HO.out.2)
          go_wp2_with (at_builtin; refine gr_app rfl (.tmp 31) (.tmp 32) rfl rfl HO.out rfl R.out (by rw [L1.out]; omega) ?_; intro v' w' HG2; replace HG2 := hide HG2)
          go_roundw
          case rel => exact .inr (.inr ⟨rfl, HG2⟩)
          case measure => simp [intOf]
        · go_wp2
          go_ret
          exact ⟨_, rfl, HO.out⟩
end Go.Proofs.YtkhahbghmdccaaaGreatDoor

namespace Go.Proofs.YtkhahbghmdccaaaGreatDoor
open Go.RowKit
def zq (z : List Int) (q : Int) : List Int := [el z 0, el z 1, el z 2, q, el z 4, el z 5, el z 6]
def za (z : List Int) (k : Int) : List Int := [el z 0, el z 1, el z 2, el z 3, k, el z 5, el z 6]
theorem SgIn.set3 {B : Nat} {z : List Int} {a : Option Addr} {len cap : Nat} {w : World} (p : SgIn B z a len cap w) (q : Int) : SgIn B (zq z q) a len cap (w.setCell ⟨B, 3, none⟩ (.int .i64 q)) ∧ Only B w (w.setCell ⟨B, 3, none⟩ (.int .i64 q)) := by
  rw [setCell_eq_setRow w B 3 _ _ (0, 0) _ p]
  exact ⟨setRow_heap w B _ _ _ (0, 0) p, only_setRow _ _ _⟩
theorem SgIn.set4 {B : Nat} {z : List Int} {a : Option Addr} {len cap : Nat} {w : World} (p : SgIn B z a len cap w) (q : Int) : SgIn B (za z q) a len cap (w.setCell ⟨B, 4, none⟩ (.int .i64 q)) ∧ Only B w (w.setCell ⟨B, 4, none⟩ (.int .i64 q)) := by
  rw [setCell_eq_setRow w B 4 _ _ (0, 0) _ p]
  exact ⟨setRow_heap w B _ _ _ (0, 0) p, only_setRow _ _ _⟩
theorem SgIn.set7 {B : Nat} {z : List Int} {a : Option Addr} {len cap : Nat} {w : World} (p : SgIn B z a len cap w) (a' : Option Addr) (n c : Nat) : SgIn B z a' n c (w.setCell ⟨B, 7, none⟩ (.slice a' n c)) ∧ Only B w (w.setCell ⟨B, 7, none⟩ (.slice a' n c)) := by
  rw [setCell_eq_setRow w B 7 _ _ (0, 0) _ p]
  exact ⟨setRow_heap w B _ _ _ (0, 0) p, only_setRow _ _ _⟩
def stC (a : Option Addr) (n c : Nat) (s : Int) (b h : Bool) : Array Value := #[.slice a n c, .int .i64 s, .bool b, .bool h]
def StB (T : TypeId) (B : Nat) (a : Option Addr) (n c : Nat) (s : Int) (b h : Bool) (w : World) : Prop := w.heap[B]? = some (.cells (stC a n c s b h) T (0, 0))
theorem StB.lt {T : TypeId} {B : Nat} {a : Option Addr} {n c : Nat} {s : Int} {b h : Bool} {w : World} (p : StB T B a n c s b h w) : B < w.heap.size := (Array.getElem?_eq_some_iff.1 p).1
theorem StB.kept {T : TypeId} {B : Nat} {a : Option Addr} {n c : Nat} {s : Int} {b h : Bool} {w w' : World} (p : StB T B a n c s b h w) (hb : Below w.heap.size w w') : StB T B a n c s b h w' := (hb.block B p.lt).trans p
theorem StB.c0 {T : TypeId} {B : Nat} {a : Option Addr} {n c : Nat} {s : Int} {b h : Bool} {w : World} (p : StB T B a n c s b h w) : w.cell? ⟨B, 0, none⟩ = some (.slice a n c) := cell_of_row w B 0 _ _ _ p
theorem StB.c1 {T : TypeId} {B : Nat} {a : Option Addr} {n c : Nat} {s : Int} {b h : Bool} {w : World} (p : StB T B a n c s b h w) : w.cell? ⟨B, 1, none⟩ = some (.int .i64 s) := cell_of_row w B 1 _ _ _ p
theorem StB.c2 {T : TypeId} {B : Nat} {a : Option Addr} {n c : Nat} {s : Int} {b h : Bool} {w : World} (p : StB T B a n c s b h w) : w.cell? ⟨B, 2, none⟩ = some (.bool b) := cell_of_row w B 2 _ _ _ p
theorem StB.c3 {T : TypeId} {B : Nat} {a : Option Addr} {n c : Nat} {s : Int} {b h : Bool} {w : World} (p : StB T B a n c s b h w) : w.cell? ⟨B, 3, none⟩ = some (.bool h) := cell_of_row w B 3 _ _ _ p
theorem StB.frz {T : TypeId} {B : Nat} {a : Option Addr} {n c : Nat} {s : Int} {b h : Bool} {w : World} (p : StB T B a n c s b h w) (j : Nat) : w.frozen? ⟨B, j, none⟩ = false := by
  unfold StB at p
  simp [World.frozen?, p]
theorem StB.set1 {T : TypeId} {B : Nat} {a : Option Addr} {n c : Nat} {s : Int} {b h : Bool} {w : World} (p : StB T B a n c s b h w) (t : Int) : StB T B a n c t b h (w.setCell ⟨B, 1, none⟩ (.int .i64 t)) ∧ Only B w (w.setCell ⟨B, 1, none⟩ (.int .i64 t)) := by
  rw [setCell_eq_setRow w B 1 _ _ (0, 0) _ p]
  exact ⟨setRow_heap w B _ _ _ (0, 0) p, only_setRow _ _ _⟩
theorem StB.set2 {T : TypeId} {B : Nat} {a : Option Addr} {n c : Nat} {s : Int} {b h : Bool} {w : World} (p : StB T B a n c s b h w) (t : Bool) : StB T B a n c s t h (w.setCell ⟨B, 2, none⟩ (.bool t)) ∧ Only B w (w.setCell ⟨B, 2, none⟩ (.bool t)) := by
  rw [setCell_eq_setRow w B 2 _ _ (0, 0) _ p]
  exact ⟨setRow_heap w B _ _ _ (0, 0) p, only_setRow _ _ _⟩
theorem StB.set3 {T : TypeId} {B : Nat} {a : Option Addr} {n c : Nat} {s : Int} {b h : Bool} {w : World} (p : StB T B a n c s b h w) (t : Bool) : StB T B a n c s b t (w.setCell ⟨B, 3, none⟩ (.bool t)) ∧ Only B w (w.setCell ⟨B, 3, none⟩ (.bool t)) := by
  rw [setCell_eq_setRow w B 3 _ _ (0, 0) _ p]
  exact ⟨setRow_heap w B _ _ _ (0, 0) p, only_setRow _ _ _⟩
theorem StB.no8 {T : TypeId} {B : Nat} {a : Option Addr} {n c : Nat} {s : Int} {b h : Bool} {w : World} (p : StB T B a n c s b h w) (j : Nat) (x : Int) : w.cell? ⟨B, j, none⟩ ≠ some (.int .u8 x) := by
  rw [cell_of_row w B j _ _ _ p]
  by_cases h : j < 4
  · rcases (by omega : j = 0 ∨ j = 1 ∨ j = 2 ∨ j = 3) with rfl | rfl | rfl | rfl <;> intro h <;> cases h
  · rw [Array.getElem?_eq_none (by show 4 ≤ j; omega)]; intro h; cases h
def Bu (B : Nat) (w w' : World) : Prop := w'.os = w.os ∧ w'.tape = w.tape ∧ w'.output = w.output ∧ w.heap.size ≤ w'.heap.size ∧ ∀ g, g < w.heap.size → g ≠ B → w'.heap[g]? = w.heap[g]?
theorem Bu.of {B : Nat} {w w' : World} (h : Below w.heap.size w w') : Bu B w w' := ⟨h.os, h.tape, h.output, h.size, fun g hg _ => h.block g hg⟩
theorem Bu.trans {B : Nat} {w w' w'' : World} (h : Bu B w w') (k : Bu B w' w'') : Bu B w w'' := ⟨k.1.trans h.1, k.2.1.trans h.2.1, k.2.2.1.trans h.2.2.1, Nat.le_trans h.2.2.2.1 k.2.2.2.1, fun g hg hn => (k.2.2.2.2 g (Nat.lt_of_lt_of_le hg h.2.2.2.1) hn).trans (h.2.2.2.2 g hg hn)⟩
theorem Only.bu {B : Nat} {w w' : World} (h : Only B w w') : Bu B w w' := ⟨h.1, h.2.1, h.2.2.1, by rw [h.2.2.2.1]; exact Nat.le_refl _, fun g _ hn => h.2.2.2.2 g hn⟩
theorem Only.bun {B B' : Nat} {w0 w w' : World} (h : Only B' w w') (u : Bu B w0 w) (hB : w0.heap.size ≤ B') : Bu B w0 w' := ⟨h.1.trans u.1, h.2.1.trans u.2.1, h.2.2.1.trans u.2.2.1, by rw [h.2.2.2.1]; exact u.2.2.2.1, fun g hg hn => (h.2.2.2.2 g (by omega)).trans (u.2.2.2.2 g hg hn)⟩
theorem Bu.below {B base : Nat} {w0 w w' : World} (u : Bu B w w') (h : Below base w0 w) (hB : base ≤ B) (hs : base ≤ w0.heap.size) : Below base w0 w' :=
  ⟨u.1.trans h.os, u.2.1.trans h.tape, u.2.2.1.trans h.output, Nat.le_trans h.size u.2.2.2.1, fun g hg => (u.2.2.2.2 g (by have := h.size; omega) (by omega)).trans (h.block g hg)⟩
theorem cell_lt {w : World} {g j : Nat} {v : Value} (h : w.cell? ⟨g, j, none⟩ = some v) : g < w.heap.size := by
  by_cases hg : g < w.heap.size
  · exact hg
  · exfalso
    have : w.heap[g]? = none := Array.getElem?_eq_none (by omega)
    simp [World.cell?, this] at h
theorem Row8.bu {T : TypeId} {B : Nat} {a : Option Addr} {n c : Nat} {s : Int} {b h : Bool} {w w' : World} (p : StB T B a n c s b h w) (u : Bu B w w') {x : Option Addr} {l k : Nat} {zs : List Int} (r : Row8 w x l k zs) : Row8 w' x l k zs := by
  refine ⟨r.1, r.2.1, r.2.2.1, r.2.2.2.1, fun hp => ?_⟩
  obtain ⟨g, off, e, hc⟩ := r.2.2.2.2 hp
  refine ⟨g, off, e, fun i hi => ?_⟩
  have h := hc i hi
  have hne : g ≠ B := by
    rintro rfl
    exact p.no8 _ _ h
  rw [← h]
  exact World.cell?_of_block (u.2.2.2.2 g (cell_lt h) hne)
theorem SgIn.bu {T : TypeId} {B : Nat} {a : Option Addr} {n c : Nat} {s : Int} {b h : Bool} {w w' : World} (p : StB T B a n c s b h w) (u : Bu B w w') {D : Nat} {z : List Int} {x : Option Addr} {l k : Nat} (q : SgIn D z x l k w) : SgIn D z x l k w' := by
  refine (u.2.2.2.2 D q.lt ?_).trans q
  rintro rfl
  unfold StB stC at p
  unfold SgIn sgC at q
  rw [p] at q
  injection q with q
  injection q with q
  injection q with q
  injection q with q
  cases q
def ST (T : TypeId) (B : Nat) (hd : List Int) (s : Int) (b h : Bool) (w : World) : Prop := ∃ a n c, StB T B a n c s b h w ∧ Row8 w a n c hd ∧ n ≤ 100
theorem ST.kept {T : TypeId} {B : Nat} {hd : List Int} {s : Int} {b h : Bool} {w w' : World} (p : ST T B hd s b h w) (hb : Below w.heap.size w w') : ST T B hd s b h w' := by
  obtain ⟨a, n, c, p1, p2, p3⟩ := p
  exact ⟨a, n, c, p1.kept hb, p2.below hb, p3⟩
theorem ST.lt {T : TypeId} {B : Nat} {hd : List Int} {s : Int} {b h : Bool} {w : World} (p : ST T B hd s b h w) : B < w.heap.size := by
  obtain ⟨a, n, c, p1, p2, p3⟩ := p
  exact p1.lt
theorem ST.row {T : TypeId} {B : Nat} {hd : List Int} {s : Int} {b h : Bool} {w w' : World} (p : ST T B hd s b h w) (u : Bu B w w') {x : Option Addr} {l k : Nat} {zs : List Int} (r : Row8 w x l k zs) : Row8 w' x l k zs := by
  obtain ⟨a, n, c, p1, p2, p3⟩ := p
  exact r.bu p1 u
theorem ST.sg {T : TypeId} {B : Nat} {hd : List Int} {s : Int} {b h : Bool} {w w' : World} (p : ST T B hd s b h w) (u : Bu B w w') {D : Nat} {z : List Int} {x : Option Addr} {l k : Nat} (q : SgIn D z x l k w) : SgIn D z x l k w' := by
  obtain ⟨a, n, c, p1, p2, p3⟩ := p
  exact q.bu p1 u
theorem ST.other {T T' : TypeId} {B B' : Nat} {hd hd' : List Int} {s s' : Int} {b h b' h' : Bool} {w w' : World} (p : ST T B hd s b h w) (u : Bu B w w') (q : ST T' B' hd' s' b' h' w) (hne : B' ≠ B) : ST T' B' hd' s' b' h' w' := by
  obtain ⟨a, n, c, q1, q2, q3⟩ := q
  exact ⟨a, n, c, (u.2.2.2.2 B' q1.lt hne).trans q1, p.row u q2, q3⟩
def md (n : Int) : Int := n % 4294967296
theorem md_in (n : Int) : 0 ≤ md n ∧ md n < 4294967296 := by unfold md; omega
theorem wrap_any (n : Int) (w : World) (h0 : -4294967296 ≤ n) (h1 : n ≤ 1000000000000) : Calls Tryz.prog 207 #[.int .i64 n] w fun e w' => e = .returned (.int .i64 (md n)) ∧ w' = w := by
  have hm := hide (show (n + 4294967296) % 4294967296 = md n by unfold md; omega)
  go_enter Tryz.func207, Tryz.ntmps207
  go_wp2
  go_ret
  exact ⟨by rw [hm.out]; rfl, rfl⟩
def ah (a b : Int) : Bool := decide (1 ≤ md (b - a) ∧ md (b - a) < 2147483648)
theorem ahead_any (a b : Int) (w : World) (a0 : 0 ≤ a) (a1 : a < 4294967296) (b0 : 0 ≤ b) (b1 : b < 4294967296) : Calls Tryz.prog 185 #[.int .i64 a, .int .i64 b] w fun e w' => e = .returned (.bool (ah a b)) ∧ w' = w := by
  have HW := hide (fun W => wrap_any (b - a) W (by omega) (by omega))
  have hm := md_in (b - a)
  unfold ah
  generalize md (b - a) = m at HW hm ⊢
  by_cases h1 : 1 ≤ m
  · by_cases h2 : m < 2147483648
    · rw [decide_eq_true ⟨h1, h2⟩]
      go_enter Tryz.func185, Tryz.ntmps185
      go_wp2_with (go_at_call 207; refine (HW.out _).mono ?_; rintro e w' ⟨rfl, rfl⟩)
      go_ret
      exact ⟨rfl, rfl⟩
    · rw [decide_eq_false (fun h => h2 h.2)]
      go_enter Tryz.func185, Tryz.ntmps185
      go_wp2_with (go_at_call 207; refine (HW.out _).mono ?_; rintro e w' ⟨rfl, rfl⟩)
      go_ret
      exact ⟨by show Ending.returned (.bool (decide (m < 2147483648))) = _; rw [decide_eq_false (by omega)], rfl⟩
  · rw [decide_eq_false (fun h => h1 h.1)]
    go_enter Tryz.func185, Tryz.ntmps185
    go_wp2_with (go_at_call 207; refine (HW.out _).mono ?_; rintro e w' ⟨rfl, rfl⟩)
    go_ret
    exact ⟨rfl, rfl⟩
def T2 (w : World) (z : List Int) (a : Option Addr) (len cap : Nat) (W : World) : Prop := SgIn w.heap.size z a len cap W ∧ SgIn (w.heap.size + 1) [] none 0 0 W ∧ Below w.heap.size w W
theorem T2.kept {w : World} {z : List Int} {a : Option Addr} {len cap : Nat} {W W' : World} (t : T2 w z a len cap W) (hb : Below W.heap.size W W') : T2 w z a len cap W' := ⟨t.1.kept hb, t.2.1.kept hb, bt t.2.2 hb⟩
theorem T2.start (w : World) (z : List Int) (a : Option Addr) (len cap : Nat) : T2 w z a len cap ((w.alloc (.cells (sgC z a len cap) 39)).alloc (.cells zero7 39)) := by
  have b1 := al_below w (.cells (sgC z a len cap) 39)
  have b2 := al_below (w.alloc (.cells (sgC z a len cap) 39)) (.cells zero7 39)
  have p2 := zero_new (w.alloc (.cells (sgC z a len cap) 39))
  rw [World.size_alloc] at p2
  exact ⟨(sg_new w z a len cap).kept b2, p2, bt b1 b2⟩
theorem T2.turn {w : World} {z : List Int} {a : Option Addr} {len cap : Nat} {W W' : World} (t : T2 w z a len cap W) {z' : List Int} {a' : Option Addr} {len' cap' : Nat} (p : SgIn w.heap.size z' a' len' cap' W') (on : Only w.heap.size W W') : T2 w z' a' len' cap' W' :=
  ⟨p, on.sg t.2.1 (by omega), on.below t.2.2 (Nat.le_refl _)⟩
theorem T2.put {w : World} {z : List Int} {a : Option Addr} {len cap : Nat} {W W' : World} (t : T2 w z a len cap W) (on : Only (w.heap.size + 1) W W') : Below w.heap.size w W' := on.below t.2.2 (Nat.le_succ _)
theorem SgIn.no8 {B : Nat} {z : List Int} {a : Option Addr} {len cap : Nat} {w : World} (p : SgIn B z a len cap w) (j : Nat) (x : Int) : w.cell? ⟨B, j, none⟩ ≠ some (.int .u8 x) := by
  rw [p.cellAt]
  by_cases h : j < 8
  · rcases (by omega : j = 0 ∨ j = 1 ∨ j = 2 ∨ j = 3 ∨ j = 4 ∨ j = 5 ∨ j = 6 ∨ j = 7) with rfl | rfl | rfl | rfl | rfl | rfl | rfl | rfl <;> intro h <;> cases h
  · rw [Array.getElem?_eq_none (by show 8 ≤ j; omega)]; intro h; cases h
theorem Row8.past {B : Nat} {w w' : World} {z : List Int} {x : Option Addr} {l k : Nat} (p : SgIn B z x l k w) (on : Only B w w') {a : Option Addr} {n c : Nat} {zs : List Int} (r : Row8 w a n c zs) : Row8 w' a n c zs := by
  refine ⟨r.1, r.2.1, r.2.2.1, r.2.2.2.1, fun hp => ?_⟩
  obtain ⟨b, off, e, hc⟩ := r.2.2.2.2 hp
  refine ⟨b, off, e, fun i hi => ?_⟩
  have h := hc i hi
  have hne : b ≠ B := by
    rintro rfl
    exact p.no8 _ _ h
  rw [← h]
  exact World.cell?_of_block (on.2.2.2.2 b hne)
set_option maxRecDepth 100000 in
set_option maxHeartbeats 2000000 in
theorem own_any (z : List Int) (a : Option Addr) (len cap : Nat) (zs : List Int) (w : World) (hr : Row8 w a len cap zs) (hm : len ≤ 1000000) :
    Calls Tryz.prog 178 #[.agg (sgC z a len cap)] w fun e w' => ∃ a' c', e = .returned (.agg (sgC z a' len c')) ∧ Row8 w' a' len c' zs ∧ Below w.heap.size w w' := by
  have HV := hide (T2.start w z a len cap)
  unfold zero7 at HV
  have HC := hide (fun W (hb : Below w.heap.size w W) => clone_any a len cap zs W (hr.below hb) hm)
  have HL := hide hr.1
  clear hr
  go_enter Tryz.func178, Tryz.ntmps178
  go_upto_region 1 with fail
  generalize (World.alloc _ _).alloc _ = W0 at HV ⊢
  have l7 := HV.out.1.c7
  go_upto_region 2 with (go_at_call 206; refine (HC.out _ HV.out.2.2).mono ?_; rintro e w1 ⟨v1, rfl, g1⟩; obtain ⟨a1, c1, rfl, hr1, -⟩ := g1.1.row8; rw [HL.out] at hr1 ⊢; replace HV := hide (HV.out.kept g1.2); clear l7; have l7 := HV.out.1.c7; have f7 := HV.out.1.frz 7; have s7 := HV.out.1.set7 a1 len c1; have hr2 := hide (hr1.past HV.out.1 s7.2); replace HV := hide (HV.out.turn s7.1 s7.2); clear g1 hr1 s7)
  clear l7 f7
  generalize World.setCell _ _ _ = W1 at HV hr2 ⊢
  go_wp2_with (first
    | (refine at_load rfl (.tmp 1) rfl rfl HV.out.1 ?_)
    | (refine at_store rfl (.tmp 2) (.tmp 7) rfl rfl HV.out.2.1 z a1 len c1 rfl ?_; intro w5 p5 on5; have HB := hide (HV.out.put on5); replace hr2 := hide (hr2.out.past HV.out.2.1 on5); replace p5 := hide p5; clear on5 HV))
  try simp only [Exit.inBlock, Exit.then]
  refine bodyPost_ret (sg_result rfl _ _ (w.heap.size + 1) z a1 len c1 rfl p5.out) rfl ?_
  exact ⟨a1, c1, rfl, hr2.out, HB.out⟩
def cf (z : List Int) (len : Nat) : Int := if sf z len = 0 ∧ el z 0 ≠ 6 then 2 else sf z len
set_option maxRecDepth 100000 in
set_option maxHeartbeats 2000000 in
theorem scheck_any (z : List Int) (a : Option Addr) (len cap : Nat) (w : World) (hm : len ≤ maxLen) :
    Calls Tryz.prog 175 #[.agg (sgC z a len cap)] w fun e w' => e = .returned (ev (cf z len)) ∧ Below w.heap.size w w' := by
  have HC := hide (fun W => chk_any z a len cap W hm)
  have HB := hide (al_below w (.cells (sgC z a len cap) 39))
  have HP := hide (sg_new w z a len cap)
  obtain ⟨E, hE⟩ : ∃ E, E = ev (cf z len) := ⟨_, rfl⟩
  rw [← hE]
  unfold cf at hE
  generalize sf z len = F at HC hE
  by_cases hF : F = 0
  · subst hF
    rw [show ev 0 = .nilIface from rfl] at HC
    by_cases h6 : el z 0 = 6
    · have HE := hide (show E = .nilIface by rw [hE, if_neg (fun h => h.2 h6)]; rfl)
      have n6 : (el z 0 != 6) = false := by rw [h6]; rfl
      clear hE h6
      go_enter Tryz.func175, Tryz.ntmps175
      go_upto_region 1 with fail
      generalize w.alloc (.cells (sgC z a len cap) 39) = W at HB HP ⊢
      go_upto_region 4 with (first
        | (refine at_load rfl (.tmp 1) rfl rfl HP.out ?_)
        | (go_at_call 140; refine (HC.out _).mono ?_; rintro e w1 ⟨rfl, hb1⟩; replace HB := hide (bt HB.out hb1); replace HP := hide (HP.out.kept hb1); clear hb1))
      have l0 := HP.out.c0
      go_wp2
      go_ret
      exact ⟨by rw [HE.out]; rfl, HB.out⟩
    · have HE := hide (show E = err 2 by rw [hE, if_pos ⟨rfl, h6⟩]; rfl)
      have n6 : (el z 0 != 6) = true := by simpa using h6
      unfold err at HE
      clear hE h6
      go_enter Tryz.func175, Tryz.ntmps175
      go_upto_region 1 with fail
      generalize w.alloc (.cells (sgC z a len cap) 39) = W at HB HP ⊢
      go_upto_region 4 with (first
        | (refine at_load rfl (.tmp 1) rfl rfl HP.out ?_)
        | (go_at_call 140; refine (HC.out _).mono ?_; rintro e w1 ⟨rfl, hb1⟩; replace HB := hide (bt HB.out hb1); replace HP := hide (HP.out.kept hb1); clear hb1))
      have l0 := HP.out.c0
      go_wp2
      go_ret
      exact ⟨by rw [HE.out]; rfl, HB.out⟩
  · have HE := hide (show E = err F by rw [hE, if_neg (fun h => hF h.1)]; exact if_neg hF)
    rw [show ev F = err F from if_neg hF] at HC
    unfold err at HE HC
    clear hE hF
    go_enter Tryz.func175, Tryz.ntmps175
    go_upto_region 1 with fail
    generalize w.alloc (.cells (sgC z a len cap) 39) = W at HB HP ⊢
    go_wp2_with (first
      | (refine at_load rfl (.tmp 1) rfl rfl HP.out ?_)
      | (go_at_call 140; refine (HC.out _).mono ?_; rintro e w1 ⟨rfl, hb1⟩; replace HB := hide (bt HB.out hb1); clear hb1))
    go_ret
    exact ⟨by rw [HE.out]; rfl, HB.out⟩
set_option maxRecDepth 100000 in
set_option maxHeartbeats 2000000 in
theorem sooner_any (B : Nat) (x : Option Addr) (n c : Nat) (s : Int) (b h : Bool) (z : List Int) (a : Option Addr) (len cap : Nat) (zs : List Int) (w : World) (hS : StB 267 B x n c s b h w) (hn : n ≤ 100) (hr : Row8 w a len cap zs) (h0 : 0 ≤ el z 3) (h1 : el z 3 < 4294967296) :
    Calls Tryz.prog 208 #[.pointer (some ⟨B, 0, none⟩), .agg (sgC z a len cap)] w fun e w' => e = .returned (.agg (sgC (zq z (md (el z 3 - n))) a len cap)) ∧ Row8 w' a len cap zs ∧ Below w.heap.size w w' := by
  have HV := hide (T2.start w z a len cap)
  unfold zero7 at HV
  have HW := hide (fun W => wrap_any (el z 3 - n) W (by omega) (by omega))
  have HS := hide (fun W (hb : Below w.heap.size w W) => hS.kept hb)
  have HR := hide (fun W (hb : Below w.heap.size w W) => hr.below hb)
  clear hS hr
  have hw : IntKind.i64.wrap (el z 3 - (n : Int)) = el z 3 - n := by rw [IntKind.wrap_i64]; omega
  generalize md (el z 3 - n) = M at HW ⊢
  go_enter Tryz.func208, Tryz.ntmps208
  go_upto_region 1 with fail
  generalize (World.alloc _ _).alloc _ = W0 at HV ⊢
  have l3 := HV.out.1.c3
  have l0 := (HS.out _ HV.out.2.2).c0
  have f3 := HV.out.1.frz 3
  have s3 := HV.out.1.set3 M
  have HR2 := hide (((HR.out _ HV.out.2.2).past HV.out.1 s3.2).below (Below.refl _ _).drew)
  replace HV := hide ((HV.out.turn s3.1 s3.2).kept (Below.refl _ _).drew)
  clear s3
  go_region_with (go_at_call 207; refine (HW.out _).mono ?_; rintro e w' ⟨rfl, hw'⟩; rw [hw']; clear hw' w')
  all_goals
    clear l3 l0 f3 hw
    generalize World.drew _ = W1 at HV HR2 ⊢
    go_wp2_with (first
      | (refine at_load rfl (.tmp 3) rfl rfl HV.out.1 ?_)
      | (refine at_store rfl (.tmp 4) (.tmp 15) rfl rfl HV.out.2.1 (zq z M) a len cap rfl ?_; intro w5 p5 on5; have HB := hide (HV.out.put on5); have HR5 := hide (HR2.out.past HV.out.2.1 on5); replace p5 := hide p5; clear on5 HV))
    try simp only [Exit.inBlock, Exit.then]
    refine bodyPost_ret (sg_result rfl _ _ (w.heap.size + 1) (zq z M) a len cap rfl p5.out) rfl ?_
    exact ⟨rfl, HR5.out, HB.out⟩
end Go.Proofs.YtkhahbghmdccaaaGreatDoor
