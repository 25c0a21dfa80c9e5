/- bytes.Clone, slices.Grow and slices.Concat (of two), by contracts. -/
import Derived.Test.YtbbbcfihnjidaaaDoorShOk
import Derived.Lib.SliceRun
import Derived.Lib.AppendZerosOnto
import Derived.Lib.AppendZeros
namespace Go.Proofs.YtbbbcfihnjidaaaDoor
open Go.RowKit

theorem gr_empty (w : World) : Gr w (w.alloc (.cells #[] 5)) (.slice (some ⟨w.heap.size, 0, none⟩) 0 0) [] :=
  ⟨⟨SM.oct_nil, World.ownsRow_made w #[] 0 (Nat.le_refl _) (Nat.zero_le _) rfl⟩, al_below _ _⟩
set_option maxHeartbeats 2000000 in
theorem clone_any (a : Option Addr) (len cap : Nat) (zs : List Int) (w : World) (hr : Row8 w a len cap zs) (hm : len ≤ 1000000) :
    Calls Tryd.prog 13 #[.slice a len cap] w fun e w' => ∃ v, e = .returned v ∧ Gr w w' v zs := by
  have q := fun (w : World) (a : Option Addr) (n c n' c' : Nat) => Lib.run_eql_slice_nil (P := Tryd.prog) w 22 _ a n c n' c' Tryd.underlying22
  cases a with
  | none =>
    obtain ⟨rfl, rfl⟩ := hr.2.2.2.1 rfl
    obtain rfl : zs = [] := List.eq_nil_of_length_eq_zero hr.1
    clear hr
    go_enter Tryd.func13, Tryd.ntmps13
    go_wp2
    go_ret
    exact ⟨_, rfl, Gr.nil w⟩
  | some ad =>
    have HG := hide (gr_empty w)
    have HR := hide (hr.below (al_below w (.cells #[] 5)))
    clear hr
    go_enter Tryd.func13, Tryd.ntmps13
    go_wp2_with (at_builtin; refine gr_app rfl (.tmp 5) (.tmp 6) rfl rfl HG.out rfl HR.out (by simp only [List.length_nil]; omega) ?_; intro v' w' HG2; replace HG2 := hide HG2)
    go_ret
    exact ⟨_, rfl, HG2.out⟩
set_option maxHeartbeats 2000000 in
theorem grow_any (n : Nat) (w : World) (hn : n ≤ 1000000) : Calls Tryd.prog 35 #[.slice none 0 0, .int .i64 n] w fun e w' => ∃ v, e = .returned v ∧ Gr w w' v [] := by
  by_cases h0 : n = 0
  · subst h0
    go_enter Tryd.func35, Tryd.ntmps35
    go_wp2
    go_ret
    exact ⟨_, rfl, Gr.nil w⟩
  · obtain ⟨i0, hi, hz0, hz1, hz2⟩ := info_parts Tryd.infoByte
    have hold : (Builtin.firstCells i0.size 0 (.slice none 0 0)).run Tryd.prog w.drew = .ok ([] : List Value).toArray w.drew := run_firstCells_none w.drew i0.size 0 0 0
    obtain ⟨G, hG⟩ : ∃ G, G = grownCap w n 0 5 := ⟨_, rfl⟩
    obtain ⟨W, hW⟩ : ∃ W, W = w.drew.alloc (.cells (([] : List Value).toArray ++ Builtin.zeroCells (Value.int .u8 0).cells n ++ Builtin.zeroCells (Value.int .u8 0).cells (G - n)) 5) := ⟨_, rfl⟩
    have hGn : n ≤ G := by rw [hG]; exact grownCap_ge w _ _ _
    have hGm : G ≤ maxLen := by rw [hG]; exact grownCap_le_maxLen w n 0 5 (by unfold maxLen; omega)
    have hrz : ∀ ty, (Builtin.append_ #[22, 3] ty #[.slice none 0 0, .int .i64 n]).run Tryd.prog w = .ok (.slice (some ⟨w.heap.size, 0, none⟩) n G) W := fun ty => by
      have h := Lib.run_append_grow_zeros (P := Tryd.prog) w 22 3 ty 5 i0 (.int .u8 0) .i64 .i64 Tryd.underlying22 Tryd.underlying3 hi hz0 none 0 0 [] hold n (by omega) (by omega) (by omega) (by omega)
        (by rw [hz2]; omega) (by rw [Nat.zero_add]; exact growslice_fits (by omega) (by rw [hz2]; omega))
      rw [Nat.zero_add, ← hG, ← hW] at h
      exact h
    have HG := hide (show Gr w W (.slice (some ⟨w.heap.size, 0, none⟩) 0 G) [] by
      rw [hW]
      refine ⟨⟨SM.oct_nil, World.ownsRow_made w.drew _ G (Nat.le_refl _) hGm ?_⟩, ((Below.refl _ w).drew).alloc (Nat.le_refl _) _⟩
      simp [Builtin.zeroCells, Value.cells]
      omega)
    unfold maxLen at hGm
    clear hW hG hold hi hz0 hz1 hz2
    go_enter Tryd.func35, Tryd.ntmps35
    go_wp2_with (at_builtin; refine Lib.wpList_append_run _ rfl _ _ _ _ rfl _ _ rfl rfl _ _ (hrz _) ?_)
    go_ret
    exact ⟨_, rfl, HG.out⟩
/-- two slices of bytes in a slice. -/
def Two (V : Nat) (v1 v2 : Value) (w : World) : Prop := w.heap[V]? = some (.cells #[v1, v2] 22 (0, 0))
theorem Two.lt {V : Nat} {v1 v2 : Value} {w : World} (h : Two V v1 v2 w) : V < w.heap.size := (Array.getElem?_eq_some_iff.1 h).1
theorem Two.kept {V : Nat} {v1 v2 : Value} {w w' : World} (h : Two V v1 v2 w) (hb : Below w.heap.size w w') : Two V v1 v2 w' := (hb.block V h.lt).trans h
theorem Two.c0 {V : Nat} {v1 v2 : Value} {w : World} (h : Two V v1 v2 w) : w.cell? ⟨V, 0, none⟩ = some v1 := cell_of_row w V 0 _ _ _ h
theorem Two.c1 {V : Nat} {v1 v2 : Value} {w : World} (h : Two V v1 v2 w) : w.cell? ⟨V, 1, none⟩ = some v2 := cell_of_row w V 1 _ _ _ h
set_option maxHeartbeats 4000000 in
set_option maxRecDepth 100000 in
theorem concat_any (V : Nat) (a1 a2 : Option Addr) (n1 n2 c1 c2 : Nat) (xs ys : List Int) (w : World) (h : Two V (.slice a1 n1 c1) (.slice a2 n2 c2) w) (r1 : Row8 w a1 n1 c1 xs) (r2 : Row8 w a2 n2 c2 ys) (b1 : n1 ≤ 1000) (b2 : n2 ≤ 1000) :
    Calls Tryd.prog 27 #[.slice (some ⟨V, 0, none⟩) 2 2] w fun e w' => ∃ v, e = .returned v ∧ Gr w w' v (xs ++ ys) := by
  have HT := hide h
  have R1 := hide r1
  have R2 := hide r2
  have L1 := hide r1.1
  have L2 := hide r2.1
  have x0 := h.c0
  have x1 := h.c1
  clear h r1 r2
  obtain ⟨S, hS⟩ : ∃ S, S = n1 + n2 := ⟨_, rfl⟩
  have HG := hide (fun W => grow_any S W (by omega))
  have HS := hide (show (S : Int) = (n1 : Int) + (n2 : Int) by omega)
  have hSb : S ≤ 2000 := by omega
  clear hS
  go_enter Tryd.func27, Tryd.ntmps27
  go_wp2
  go_loop [3, 11] (fun t i => (t = .int .i64 0 ∧ i = .int .i64 0) ∨ (t = .int .i64 n1 ∧ i = .int .i64 1) ∨ (t = .int .i64 S ∧ i = .int .i64 2)) (fun _ i => 2 - (intOf i).toNat)
  case atStart => exact .inl ⟨rfl, rfl⟩
  case round =>
    rcases hrel with ⟨rfl, rfl⟩ | ⟨rfl, rfl⟩ | ⟨rfl, rfl⟩
    · go_wp2
      go_round
      case rel => exact .inr (.inl ⟨by go_num, rfl⟩)
      case measure => simp [intOf]
    · go_wp2
      go_round
      case rel => exact .inr (.inr ⟨by rw [HS.out], rfl⟩)
      case measure => simp [intOf]
    · clear x0 x1
      go_upto_region 11 with (go_at_call 35; refine (HG.out _).mono ?_; rintro e w1 ⟨v1, rfl, HG1⟩; replace HG1 := hide HG1)
      go_loopw [6, 27] (fun v i wr => (i = .int .i64 0 ∧ Hid (Gr w wr v [])) ∨ (i = .int .i64 1 ∧ Hid (Gr w wr v xs)) ∨ (i = .int .i64 2 ∧ Hid (Gr w wr v (xs ++ ys)))) (fun _ i _ => 2 - (intOf i).toNat)
      case atStart => exact .inl ⟨rfl, HG1⟩
      case round =>
        clear HG1
        rcases hrel with ⟨rfl, HO⟩ | ⟨rfl, HO⟩ | ⟨rfl, HO⟩
        · have x0 := (HT.out.kept HO.out.2).c0
          have R := hide (R1.out.below HO.out.2)
          go_wp2_with (at_builtin; refine gr_app rfl (.tmp 31) (.tmp 32) rfl rfl HO.out rfl R.out (by simp only [List.length_nil]; omega) ?_; intro v' w' HG2; replace HG2 := hide HG2)
          go_roundw
          case rel => exact .inr (.inl ⟨rfl, HG2⟩)
          case measure => simp [intOf]
        · have x1 := (HT.out.kept HO.out.2).c1
          have R := hide (R2.out.below HO.out.2)
          go_wp2_with (at_builtin; refine gr_app rfl (.tmp 31) (.tmp 32) rfl rfl HO.out rfl R.out (by rw [L1.out]; omega) ?_; intro v' w' HG2; replace HG2 := hide HG2)
          go_roundw
          case rel => exact .inr (.inr ⟨rfl, HG2⟩)
          case measure => simp [intOf]
        · go_wp2
          go_ret
          exact ⟨_, rfl, HO.out⟩
end Go.Proofs.YtbbbcfihnjidaaaDoor
