/- The program's Owner and Give of a port, by contracts. The program's Take and Free of ports, by contracts. The program's Blocks of somebody, and New, by contracts. Whose the blocks are, and which port is next. -/
import Derived.Test.YtkhahbghmdccaaaGreatDoorF25
import Derived.Deep.MidRow
import Derived.Laws.ResultCell
import Derived.Deep.CutBlock
import Derived.Deep.QuietTactic
import Derived.OwnWalk
import Derived.Deep.RegionHeld3
import Derived.Deep.DrawnRows
import Derived.Test.YtkhahbghmdccaaaGreatDoorProg
import Derived.WalkKit
import Derived.LaidEql
import Derived.Stop.Asserts
import Derived.RowKitTokens
import Derived.BigQuiet
import Derived.Below
import Derived.Laws.AppendOwnNone
import Derived.Laws.MakeOwn
import Derived.Deep.RegionLaw
import Derived.Test.YtkhahbghmdccaaaGreatDoorF22
import Derived.Test.YtkhahbghmdccaaaGreatDoorF23
namespace Go.Proofs.YtkhahbghmdccaaaGreatDoor
open Go.RowKit
theorem find_yes (B BB m : Nat) (ow : Nat → List Int) (ts : Nat → Bool) (k j : Nat) (w : World) (h : BP B BB m ow ts w) (hm : m ≤ 16) (hk : k < m) (hj : j < 8) (ht : ts (8 * k + j) = true) :
    Calls Tryz.prog 213 #[.pointer (some ⟨B, 0, none⟩), .int .i64 (1024 + ((8 * k + j : Nat) : Int))] w fun e w' => e = .returned (.tuple #[.pointer (some ⟨BB, 16 * k, none⟩), .int .i64 j]) ∧ w' = w := by
  have := find_in B BB m ow ts k j w h hm hk hj
  rw [ht] at this
  exact this
theorem BRow.set {B m : Nat} {ow : Nat → List Int} {ts : Nat → Bool} {w : World} (h : BRow B m ow ts w) (k j : Nat) (hk : k < m) (hj : j < 8) (x : Bool) : BRow B m ow (upd ts (8 * k + j) x) (w.setCell ⟨B, 16 * k + 8 + j, none⟩ (.bool x)) := by
  obtain ⟨cs, h1, h2, h3⟩ := h
  refine ⟨cs.setIfInBounds (16 * k + 8 + j) (.bool x), ?_, by simpa using h2, fun k' hk' j' hj' => ⟨?_, ?_⟩⟩
  · rw [setCell_eq_setRow w B _ _ 297 (0, 0) (.bool x) h1, setRow_heap w B _ _ 297 (0, 0) h1]
  · rw [Array.getElem?_setIfInBounds_ne (by omega)]
    exact (h3 k' hk' j' hj').1
  · unfold upd
    by_cases e : 8 * k' + j' = 8 * k + j
    · rw [if_pos e, show 16 * k' + 8 + j' = 16 * k + 8 + j by omega, Array.getElem?_setIfInBounds_self_of_lt (by omega)]
    · rw [if_neg e, Array.getElem?_setIfInBounds_ne (by omega)]
      exact (h3 k' hk' j' hj').2
theorem BRow.held {B m : Nat} {ow : Nat → List Int} {ts : Nat → Bool} {w : World} (h : BRow B m ow ts w) (k : Nat) (hk : k < m) (z : List Int) :
    ∃ w', (qstore (.pointer (some ⟨B, 16 * k, none⟩)) (.agg (sixC z))).run Tryz.prog w = .ok () w' ∧ BRow B m (upd ow k z) ts w' ∧ Only B w w' := by
  obtain ⟨cs, h1, h2, h3⟩ := h
  refine ⟨w.setCells B (16 * k) (sixC z).toList, ?_, ?_, setCells_only B _ _ w⟩
  · exact run_storeAt_mid w B (16 * k) 23 (sixC z) (fun j hj => by
      have hj8 : j < 8 := hj
      rw [cell_of_row w B (16 * k + j) _ _ _ h1, (h3 k hk j hj8).1]
      refine ⟨rfl, by simp [World.frozen?, h1]⟩) (by kernel_rfl) (by unfold sixC; simp [Value.oneCell'])
  · obtain ⟨cs', e1, e2, e3⟩ := setCells_row B 297 (sixC z).toList (16 * k) w cs h1
    have hl : (sixC z).toList.length = 8 := rfl
    refine ⟨cs', e1, e2.trans h2, fun k' hk' j hj => ⟨?_, ?_⟩⟩
    · rw [e3 (16 * k' + j) (by omega)]
      unfold upd
      by_cases e : k' = k
      · subst e
        rw [if_pos (by rw [hl]; omega), if_pos rfl, show 16 * k' + j - 16 * k' = j by omega, ← sixC_at z j hj]
        simp
      · rw [if_neg (by rw [hl]; omega), if_neg e]
        exact (h3 k' hk' j hj).1
    · rw [e3 (16 * k' + 8 + j) (by omega), if_neg (by rw [hl]; omega)]
      exact (h3 k' hk' j hj).2
theorem BP.setT {B BB m : Nat} {ow : Nat → List Int} {ts : Nat → Bool} {w : World} (h : BP B BB m ow ts w) (k j : Nat) (hk : k < m) (hj : j < 8) (x : Bool) : BP B BB m ow (upd ts (8 * k + j) x) (w.setCell ⟨BB, 16 * k + 8 + j, none⟩ (.bool x)) :=
  ⟨(Below.heap_setCell w ⟨BB, _, none⟩ _ B h.ne).trans h.1, h.2.set k j hk hj x⟩
theorem BP.only {B BB m : Nat} {ow ow' : Nat → List Int} {ts : Nat → Bool} {w w' : World} (h : BP B BB m ow ts w) (on : Only BB w w') (hw : BRow BB m ow' ts w') : BP B BB m ow' ts w' := ⟨(on.2.2.2.2 B h.ne).trans h.1, hw⟩
def gv (ow : Nat → List Int) (ts : Nat → Bool) (k : Nat) : Nat → List Int := if nob (sb ts k) = true then upd ow k [] else ow
attribute [local go_sem ↓] qstore_shut
set_option maxRecDepth 100000 in
set_option maxHeartbeats 1000000 in
theorem pgive_yes (B BB m : Nat) (ow : Nat → List Int) (ts : Nat → Bool) (k j : Nat) (w : World) (h : BP B BB m ow ts w) (hm : m ≤ 16) (hk : k < m) (hj : j < 8) (ht : ts (8 * k + j) = true) :
    Calls Tryz.prog 192 #[.pointer (some ⟨B, 0, none⟩), .int .i64 (1024 + ((8 * k + j : Nat) : Int))] w fun e w' => e = .returned .nilIface ∧ BP B BB m (gv ow (upd ts (8 * k + j) false) k) (upd ts (8 * k + j) false) w' ∧ Fr (fun g => g = BB) w w' := by
  have HP := hide (find_yes B BB m ow ts k j _ h hm hk hj ht)
  obtain ⟨c1, c2⟩ := h.2.bit k hk j hj
  have HS := hide (h.setT k j hk hj false)
  have HF := hide (setCell_fr w BB (16 * k + 8 + j) (.bool false))
  have HG := hide (show gv ow (upd ts (8 * k + j) false) k = if nob (sb (upd ts (8 * k + j) false) k) = true then upd ow k [] else ow from rfl)
  clear h ht
  have j7 : (j : Int) < 8 := by omega
  generalize upd ts (8 * k + j) false = ts' at HS HG ⊢
  have HN := hide (nob_any (ow k) (sb ts' k))
  generalize gv ow ts' k = ow' at HG ⊢
  generalize 1024 + ((8 * k + j : Nat) : Int) = p at HP ⊢
  go_enter Tryz.func192, Tryz.ntmps192
  go_upto_region 5 with (go_at_call 213; refine HP.out.mono ?_; rintro e w' ⟨rfl, rfl⟩)
  clear c1 c2 HP
  generalize w'.setCell _ _ = w1 at HS HF ⊢
  generalize nob (sb ts' k) = b at HN HG
  cases b
  · go_wp2_with (first
      | (refine at_brow rfl (.tmp 22) rfl k _ rfl (by omega) hk HS.out.2 ?_)
      | (go_at_call 214; refine (HN.out _).mono ?_; rintro e w2 ⟨rfl, hb2⟩; replace HS := hide (HS.out.kept hb2); replace HF := hide (HF.out.trans (Fr.of hb2)); clear hb2))
    go_ret
    exact ⟨rfl, by rw [HG.out]; exact HS.out, HF.out⟩
  · go_upto_region 6 with (first
      | (refine at_brow rfl (.tmp 22) rfl k _ rfl (by omega) hk HS.out.2 ?_)
      | (go_at_call 214; refine (HN.out _).mono ?_; rintro e w2 ⟨rfl, hb2⟩; replace HS := hide (HS.out.kept hb2); replace HF := hide (HF.out.trans (Fr.of hb2)); clear hb2))
    obtain ⟨w5, hst, p5, on5⟩ := HS.out.2.held k hk []
    replace p5 := hide (HS.out.only on5 p5)
    replace HF := hide (HF.out.trans (on5.fr rfl))
    clear on5
    replace hst : (qstore (.pointer (some ⟨BB, 16 * k, none⟩)) (.agg zero6)).run Tryz.prog w2 = .ok () w5 := hst
    unfold zero6 at hst
    go_wp2
    go_ret
    exact ⟨rfl, by rw [HG.out]; exact p5.out, HF.out⟩
end Go.Proofs.YtkhahbghmdccaaaGreatDoor

namespace Go.Proofs.YtkhahbghmdccaaaGreatDoor
open Go.RowKit
set_option maxRecDepth 100000 in
set_option maxHeartbeats 1000000 in
theorem ptake_full (B BB m : Nat) (ow : Nat → List Int) (ts : Nat → Bool) (z : List Int) (w : World) (h : BP B BB m ow ts w) (hm : m ≤ 16) (hz : Ok6 z) (hR : rm ow ts z m = none) :
    Calls Tryz.prog 172 #[.pointer (some ⟨B, 0, none⟩), .agg (sixC z)] w fun e w' => e = .returned (.tuple #[.int .i64 0, err 3]) ∧ Below w.heap.size w w' := by
  have HK := hide (show Kp w B BB m ow ts z (w.alloc (.cells (sixC z) 23)) from ⟨h.kept (al_below _ _), six_new z w, al_below _ _⟩)
  have HC := hide (fun W => pcheck_ok z W hz)
  have HR := hide (fun W hW => room_any B BB m ow ts z W hW hm none hR)
  clear h hR hz
  go_enter Tryz.func172, Tryz.ntmps172
  go_upto_region 1 with fail
  generalize w.alloc _ = W at HK ⊢
  go_wp2_with (first
    | (refine at_load6 rfl (.tmp 3) rfl rfl HK.out.2.1 ?_)
    | (go_at_call 95; refine (HC.out _).mono ?_; rintro e w1 ⟨rfl, hb1⟩; replace HK := hide (HK.out.kept hb1); clear hb1)
    | (go_at_call 203; refine (HR.out _ HK.out.1).mono ?_; rintro e w2 ⟨rfl, hb2⟩; replace HK := hide (HK.out.kept hb2); clear hb2; rw [show fi none = (-1 : Int) from rfl]))
  go_ret2
  exact ⟨rfl, HK.out.2.2⟩
attribute [local go_sem ↓] qstore_shut
set_option maxRecDepth 100000 in
set_option maxHeartbeats 1000000 in
theorem ptake_ok (B BB m : Nat) (ow : Nat → List Int) (ts : Nat → Bool) (z : List Int) (k j : Nat) (w : World) (h : BP B BB m ow ts w) (hm : m ≤ 16) (hz : Ok6 z) (hR : rm ow ts z m = some k) (hk : k < m) (hF : fx (sb ts k) = some j) (hj : j < 8) :
    Calls Tryz.prog 172 #[.pointer (some ⟨B, 0, none⟩), .agg (sixC z)] w fun e w' => e = .returned (.tuple #[.int .i64 (1024 + ((8 * k + j : Nat) : Int)), .nilIface]) ∧ BP B BB m (upd ow k z) (upd ts (8 * k + j) true) w' ∧ Fr (fun g => g = BB) w w' := by
  have HK := hide (show Kp w B BB m ow ts z (w.alloc (.cells (sixC z) 23)) from ⟨h.kept (al_below _ _), six_new z w, al_below _ _⟩)
  have HC := hide (fun W => pcheck_ok z W hz)
  have HR := hide (fun W hW => room_any B BB m ow ts z W hW hm (some k) hR)
  have HI := hide (fun W (hW : BP B BB m ow ts W) => show Calls Tryz.prog 204 #[.slice (some ⟨BB, 16 * k + 8, none⟩) 8 8, .bool false] W fun e w' => e = .returned (.int .i64 j) ∧ w' = W by
    have := index_any BB (16 * k + 8) (sb ts k) W (fun j hj => (hW.2.bit k hk j hj).1)
    rw [hF] at this
    exact this)
  have e16 : k * 16 = 16 * k := by omega
  have j1 : (k : Int) < (m : Int) := by omega
  have j2 : (m : Int) ≤ 16 := by omega
  have j3 : (j : Int) < 8 := by omega
  have j4 : ¬ (k : Int) < 0 := by omega
  clear h hR hz hF
  go_enter Tryz.func172, Tryz.ntmps172
  go_upto_region 1 with fail
  generalize w.alloc _ = W at HK ⊢
  go_upto_region 7 with (first
    | (refine at_load6 rfl (.tmp 3) rfl rfl HK.out.2.1 ?_)
    | (go_at_call 95; refine (HC.out _).mono ?_; rintro e w1 ⟨rfl, hb1⟩; replace HK := hide (HK.out.kept hb1); clear hb1)
    | (go_at_call 203; refine (HR.out _ HK.out.1).mono ?_; rintro e w2 ⟨rfl, hb2⟩; replace HK := hide (HK.out.kept hb2); clear hb2; rw [show fi (some k) = (k : Int) from rfl]))
  have l1 := HK.out.1.row
  go_upto_region 9 with (go_at_call 204; refine (HI.out _ HK.out.1).mono ?_; rintro e w3 ⟨rfl, rfl⟩)
  obtain ⟨w5, hst, p5, on5⟩ := HK.out.1.2.held k hk z
  have HP := hide (HK.out.1.only on5 p5)
  have HF := hide ((Fr.of (O := fun g => g = BB) HK.out.2.2).trans (on5.fr rfl))
  clear p5 on5
  go_upto_region 10 with (refine at_load6 rfl (.tmp 3) rfl rfl HK.out.2.1 ?_)
  obtain ⟨c1, c2⟩ := HP.out.2.bit k hk j hj
  have HS := hide (HP.out.setT k j hk hj true)
  replace HF := hide (HF.out.trans (setCell_fr w5 BB (16 * k + 8 + j) (.bool true)))
  go_wp2
  go_ret2
  rw [show (1024 : Int) + ((8 * k + j : Nat) : Int) = 1024 + (k : Int) * 8 + (j : Int) by omega]
  exact ⟨rfl, HS.out, HF.out⟩
end Go.Proofs.YtkhahbghmdccaaaGreatDoor

namespace Go.Proofs.YtkhahbghmdccaaaGreatDoor
open Go.RowKit
theorem Kp.grown {w : World} {B BB m : Nat} {ow : Nat → List Int} {ts : Nat → Bool} {z : List Int} {W W' : World} (h : Kp w B BB m ow ts z W) (hB : B < w.heap.size) (hBB : BB < w.heap.size) {r : Option Nat} (hg : W.grownBy W' r) (hr : ∀ k, r = some k → w.heap.size + 1 ≤ k) : Kp w B BB m ow ts z W' := by
  have hne : ∀ g, g ≤ w.heap.size → some g ≠ r := fun g hgl e => by have := hr g e.symm; omega
  have hs := h.2.2.size
  have hz := h.2.1.lt
  exact ⟨⟨(hg.block _ (by omega) (hne B (by omega))).trans h.1.1, h.1.2.same (hg.block _ (by omega) (hne BB (by omega)))⟩, (hg.block _ hz (hne _ (Nat.le_refl _))).trans h.2.1, h.2.2.grown hg hs (fun k e => by have := hr k e; omega)⟩
attribute [local go_sem ↓] pload_shut
theorem Tryz.infoBlk : (Tryz.prog.info? 297).map (fun i => (i.zero, i.size, i.bytes)) = some (some (.agg (pbC [] (fun _ => false))), 16, 72) := by kernel_rfl
theorem madeP (b : Nat) (_hb : b ≤ 16) : ∃ cs : Array Value, (∀ w : World, (mkSl 229 (.int .i64 (b : Int)) (.int .i64 (b : Int))).run Tryz.prog w = .ok (.slice (some ⟨w.heap.size, 0, none⟩) b b) (w.alloc (.cells cs 297))) ∧
    cs.size = 16 * b ∧ ∀ k, k < b → ∀ j, j < 8 → cs[16 * k + j]? = some (.int .i64 (el [] j)) ∧ cs[16 * k + 8 + j]? = some (.bool false) := by
  obtain ⟨i0, hi, hz0, hz1, hz2⟩ := info_parts Tryz.infoBlk
  refine ⟨madeCells (pbC [] (fun _ => false)) (16 * b), fun w => ?_, size_madeCells _ _, fun k hk j hj => ⟨?_, ?_⟩⟩
  · have h := run_make (P := Tryz.prog) w 229 297 i0 _ Tryz.underlying229 hi hz0 .i64 .i64 (b : Int) (b : Int) (by omega) (by omega) (by rw [hz2]; omega) (by omega)
    rw [hz1, show ((b : Int)).toNat = b by omega, show b * 16 = 16 * b by omega] at h
    exact h
  · rw [made_at _ _ _ (by omega)]
    have e8 : (16 * k + j) % (pbC [] (fun _ => false)).size = j := (by show (16 * k + j) % 16 = j; omega)
    rw [e8]
    rcases (by omega : j = 0 ∨ j = 1 ∨ j = 2 ∨ j = 3 ∨ j = 4 ∨ j = 5 ∨ j = 6 ∨ j = 7) with rfl | rfl | rfl | rfl | rfl | rfl | rfl | rfl <;> rfl
  · rw [made_at _ _ _ (by omega)]
    have e8 : (16 * k + 8 + j) % (pbC [] (fun _ => false)).size = 8 + j := (by show (16 * k + 8 + j) % 16 = 8 + j; omega)
    rw [e8]
    rcases (by omega : j = 0 ∨ j = 1 ∨ j = 2 ∨ j = 3 ∨ j = 4 ∨ j = 5 ∨ j = 6 ∨ j = 7) with rfl | rfl | rfl | rfl | rfl | rfl | rfl | rfl <;> rfl
theorem pbtwo_new (w : World) (a b : Obj) : ((w.alloc a).alloc b).heap[w.heap.size]? = some a ∧ ((w.alloc a).alloc b).heap[w.heap.size + 1]? = some b ∧ Below w.heap.size w ((w.alloc a).alloc b) := by
  have s1 : (w.alloc a).heap.size = w.heap.size + 1 := World.size_alloc _ _
  have b1 := al_below w a
  have b2 := al_below (w.alloc a) b
  have n1 : (w.alloc a).heap[w.heap.size]? = some a := heap_alloc_new w a
  have n2 := heap_alloc_new (w.alloc a) b
  rw [s1] at n2
  exact ⟨by rw [b2.block _ (by omega)]; exact n1, n2, bt b1 b2⟩
set_option maxRecDepth 100000 in
set_option maxHeartbeats 1000000 in
theorem pnew_bad (b : Int) (w : World) (hb : b < 1 ∨ 16 < b) :
    Calls Tryz.prog 100 #[.int .i64 b] w fun e w' => e = .returned (.tuple #[.pointer none, err 1]) ∧ w' = w := by
  rcases hb with h1 | h1
  · go_enter Tryz.func100, Tryz.ntmps100
    go_wp2
    go_ret2
    exact ⟨rfl, rfl⟩
  · have h2 : ¬ b < 1 := by omega
    go_enter Tryz.func100, Tryz.ntmps100
    go_wp2
    go_ret2
    exact ⟨rfl, rfl⟩
attribute [local go_sem ↓] mkSl_shut
set_option maxRecDepth 100000 in
set_option maxHeartbeats 1000000 in
theorem pnew_any (b : Nat) (w : World) (h1 : 1 ≤ b) (hb : b ≤ 16) :
    Calls Tryz.prog 100 #[.int .i64 b] w fun e w' => ∃ B BB, e = .returned (.tuple #[.pointer (some ⟨B, 0, none⟩), .nilIface]) ∧ BP B BB b (fun _ => []) (fun _ => false) w' ∧ w.heap.size ≤ B ∧ w.heap.size ≤ BB ∧ Below w.heap.size w w' := by
  obtain ⟨cs, mk, sc, hc⟩ := madeP b hb
  have HS := hide sc
  have HC := hide hc
  have q1 : ¬ (b : Int) < 1 := by omega
  have q2 : ¬ 16 < (b : Int) := by omega
  clear sc hc
  go_enter Tryz.func100, Tryz.ntmps100
  go_wp2
  go_ret2
  obtain ⟨t1, t2, t3⟩ := pbtwo_new w (.cells cs 297) (.cells #[.slice (some ⟨w.heap.size, 0, none⟩) b b] 231)
  exact ⟨w.heap.size + 1, rfl, w.heap.size, ⟨t2, cs, t1, HS.out, HC.out⟩, by omega, by omega, t3⟩
end Go.Proofs.YtkhahbghmdccaaaGreatDoor

namespace Go.Proofs.YtkhahbghmdccaaaGreatDoor
open Go.RowKit
def Ag (ws ow : Nat → List Int) (ts : Nat → Bool) (m : Nat) : Prop := ∀ k, k < m → ∀ j, j < 8 → ts (8 * k + j) = true → sixC (ws (8 * k + j)) = sixC (ow k)
theorem six_el {a b : List Int} (h : sixC a = sixC b) (j : Nat) (hj : j < 8) : el a j = el b j := by
  have h1 := sixC_at a j hj
  rw [h, sixC_at b j hj] at h1
  injection h1 with h1
  injection h1 with _ h1
  exact h1.symm
theorem eqz_six {a b : List Int} (h : eqz a b = true) : sixC a = sixC b := by
  have h' := (eqz_iff a b).1 h
  unfold sixC
  rw [h' 0 (by omega), h' 1 (by omega), h' 2 (by omega), h' 3 (by omega), h' 4 (by omega), h' 5 (by omega), h' 6 (by omega), h' 7 (by omega)]
theorem eqz_congr {a b : List Int} (h : sixC a = sixC b) (z : List Int) : eqz a z = eqz b z := by
  unfold eqz
  rw [six_el h 0 (by omega), six_el h 1 (by omega), six_el h 2 (by omega), six_el h 3 (by omega), six_el h 4 (by omega), six_el h 5 (by omega), six_el h 6 (by omega), six_el h 7 (by omega)]
theorem fo_cases (ts : Nat → Bool) (k : Nat) : (nob (sb ts k) = true ∧ pofo ts k = none) ∨ (nob (sb ts k) = false ∧ ∃ j, j < 8 ∧ ts (8 * k + j) = true ∧ pofo ts k = some (8 * k + j)) := by
  cases h : pofo ts k with
  | none =>
    refine .inl ⟨(nob_iff _).2 fun j hj => ?_, rfl⟩
    unfold pofo at h
    rw [List.find?_eq_none] at h
    have := h (8 * k + j) (by rw [List.mem_range'_1]; omega)
    unfold sb
    simpa using this
  | some i =>
    unfold pofo at h
    have h1 := List.find?_some h
    have h2 := List.mem_of_find?_eq_some h
    rw [List.mem_range'_1] at h2
    obtain ⟨j, rfl⟩ : ∃ j, i = 8 * k + j := ⟨i - 8 * k, by omega⟩
    refine .inr ⟨?_, j, by omega, h1, rfl⟩
    cases hn : nob (sb ts k)
    · rfl
    · have := (nob_iff _).1 hn j (by omega)
      unfold sb at this
      rw [this] at h1
      cases h1
theorem om_mine {ws ow : Nat → List Int} {ts : Nat → Bool} {m : Nat} (h : Ag ws ow ts m) (z : List Int) (k : Nat) (hk : k < m) : om ws ts z k = mine ow ts z k := by
  unfold om mine
  rcases fo_cases ts k with ⟨h1, h2⟩ | ⟨h1, j, hj, ht, h2⟩
  · rw [h1, h2]; simp [ome]
  · rw [h1, h2]
    show eqz (ws (8 * k + j)) z = _
    rw [eqz_congr (h k hk j hj ht) z]
    simp
theorem fx_spec {t : Nat → Bool} {j : Nat} (h : fx t = some j) : j < 8 ∧ t j = false ∧ ∀ i, i < j → t i = true := by
  unfold fx at h
  rw [List.find?_range_eq_some] at h
  obtain ⟨h1, h2, h3⟩ := h
  exact ⟨List.mem_range.1 h2, by simpa using h1, fun i hi => by simpa using h3 i hi⟩
theorem fx_spec0 {t : Nat → Bool} (h : fx t = none) (j : Nat) (hj : j < 8) : t j = true := by
  unfold fx at h
  rw [List.find?_eq_none] at h
  simpa using h j (List.mem_range.2 hj)
theorem find_blocks (f : Nat → Bool) (a : Nat → Bool) (ts : Nat → Bool) (m : Nat) (hf : ∀ k, k < m → ∀ j, j < 8 → f (8 * k + j) = (!ts (8 * k + j) && a k)) :
    ((List.range m).find? (fun k => a k && (fx (sb ts k)).isSome) = none ∧ (List.range (8 * m)).find? f = none) ∨
    ∃ k j, k < m ∧ j < 8 ∧ a k = true ∧ (List.range m).find? (fun k => a k && (fx (sb ts k)).isSome) = some k ∧ fx (sb ts k) = some j ∧ (List.range (8 * m)).find? f = some (8 * k + j) := by
  have hno : ∀ k, k < m → (a k && (fx (sb ts k)).isSome) = false → ∀ j, j < 8 → f (8 * k + j) = false := by
    intro k hk h j hj
    rw [hf k hk j hj]
    cases ha : a k
    · simp
    · rw [ha] at h
      cases hx : fx (sb ts k) with
      | none => have := fx_spec0 hx j hj; unfold sb at this; rw [this]; rfl
      | some i => rw [hx] at h; cases h
  cases h : (List.range m).find? (fun k => a k && (fx (sb ts k)).isSome) with
  | none =>
    refine .inl ⟨rfl, find_none fun i hi => ?_⟩
    rw [List.find?_eq_none] at h
    have h1 := h (i / 8) (List.mem_range.2 (by omega))
    have := hno (i / 8) (by omega) (by simpa using h1) (i % 8) (by omega)
    rwa [show 8 * (i / 8) + i % 8 = i by omega] at this
  | some k =>
    rw [List.find?_range_eq_some] at h
    obtain ⟨h1, h2, h3⟩ := h
    have hk := List.mem_range.1 h2
    rw [Bool.and_eq_true] at h1
    obtain ⟨j, hj⟩ := Option.isSome_iff_exists.1 h1.2
    obtain ⟨j1, j2, j3⟩ := fx_spec hj
    refine .inr ⟨k, j, hk, j1, h1.1, rfl, hj, find_some (by omega) ?_ fun i hi => ?_⟩
    · rw [hf k hk j j1, h1.1]
      unfold sb at j2
      rw [j2]
      rfl
    · by_cases e : i / 8 = k
      · have h5 := j3 (i % 8) (by omega)
        unfold sb at h5
        have h6 := hf k hk (i % 8) (by omega)
        rw [show 8 * k + i % 8 = i by omega] at h5 h6
        rw [h6, h5]
        rfl
      · have h4 := h3 (i / 8) (by omega)
        have := hno (i / 8) (by omega) (by simpa only [Bool.not_eq_true'] using h4) (i % 8) (by omega)
        rwa [show 8 * (i / 8) + i % 8 = i by omega] at this
theorem tk_rm {ws ow : Nat → List Int} {ts : Nat → Bool} {m : Nat} (h : Ag ws ow ts m) (z : List Int) :
    (tk ws ts z (8 * m) = none ∧ rm ow ts z m = none) ∨ ∃ k j, k < m ∧ j < 8 ∧ (mine ow ts z k = true ∨ nob (sb ts k) = true) ∧ rm ow ts z m = some k ∧ fx (sb ts k) = some j ∧ tk ws ts z (8 * m) = some (8 * k + j) := by
  have e0 : r0 ow ts z = fun k => mine ow ts z k && (fx (sb ts k)).isSome := rfl
  have e1 : r1 ts = fun k => nob (sb ts k) && (fx (sb ts k)).isSome := by
    funext k
    unfold r1
    cases hn : nob (sb ts k)
    · rfl
    · rw [fx_some (t := sb ts k) (i := 0) (by omega) ((nob_iff _).1 hn 0 (by omega)) (fun j hj => absurd hj (by omega))]
      rfl
  have hd : ∀ k j : Nat, j < 8 → (8 * k + j) / 8 = k := fun k j hj => by omega
  unfold tk rm
  rw [e0, e1]
  rcases find_blocks (f0 ws ts z) (mine ow ts z) ts m (fun k hk j hj => by unfold f0; rw [hd k j hj, om_mine h z k hk]) with ⟨a1, a2⟩ | ⟨k, j, hk, hj, a0, a1, a2, a3⟩
  · rw [a1, a2]
    rcases find_blocks (f1 ts) (fun k => nob (sb ts k)) ts m (fun k hk j hj => by
      unfold f1
      rw [hd k j hj]
      rcases fo_cases ts k with ⟨h1, h2⟩ | ⟨h1, _, _, _, h2⟩ <;> rw [h1, h2] <;> rfl) with ⟨b1, b2⟩ | ⟨k, j, hk, hj, b0, b1, b2, b3⟩
    · rw [b1, b2]; exact .inl ⟨rfl, rfl⟩
    · rw [b1, b3]
      exact .inr ⟨k, j, hk, hj, .inr b0, rfl, b2, rfl⟩
  · rw [a1, a3]
    exact .inr ⟨k, j, hk, hj, .inl a0, rfl, a2, rfl⟩
theorem Ag.take {ws ow : Nat → List Int} {ts : Nat → Bool} {m : Nat} (h : Ag ws ow ts m) (z : List Int) (k j : Nat) (hj : j < 8) (hm : mine ow ts z k = true ∨ nob (sb ts k) = true) : Ag (upd ws (8 * k + j) z) (upd ow k z) (upd ts (8 * k + j) true) m := by
  intro k' hk' j' hj' ht
  unfold upd at ht ⊢
  by_cases e : 8 * k' + j' = 8 * k + j
  · have : k' = k := by omega
    rw [if_pos e, if_pos this]
  · rw [if_neg e] at ht ⊢
    have h1 := h k' hk' j' hj' ht
    by_cases ek : k' = k
    · subst ek
      rw [if_pos rfl, h1]
      rcases hm with hm | hm
      · unfold mine at hm
        rw [Bool.and_eq_true] at hm
        exact eqz_six hm.1
      · have := (nob_iff _).1 hm j' hj'
        unfold sb at this
        rw [this] at ht
        cases ht
    · rw [if_neg ek]; exact h1
theorem Ag.give {ws ow : Nat → List Int} {ts : Nat → Bool} {m : Nat} (h : Ag ws ow ts m) (k j : Nat) : Ag ws (gv ow (upd ts (8 * k + j) false) k) (upd ts (8 * k + j) false) m := by
  intro k' hk' j' hj' ht
  have ht0 : ts (8 * k' + j') = true := by
    unfold upd at ht
    by_cases e : 8 * k' + j' = 8 * k + j
    · rw [if_pos e] at ht; cases ht
    · rwa [if_neg e] at ht
  rw [h k' hk' j' hj' ht0]
  unfold gv
  split
  · rename_i hn
    by_cases ek : k' = k
    · subst ek
      have := (nob_iff _).1 hn j' hj'
      unfold sb at this
      rw [this] at ht
      cases ht
    · unfold upd; rw [if_neg ek]
  · rfl
end Go.Proofs.YtkhahbghmdccaaaGreatDoor
