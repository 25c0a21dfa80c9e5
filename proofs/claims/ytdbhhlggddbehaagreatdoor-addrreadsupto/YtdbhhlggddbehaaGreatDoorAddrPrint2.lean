/- Print by a contract: of an address that is one, its text. -/
import Derived.Test.YtdbhhlggddbehaaGreatDoorAddrPrint
namespace Go.Proofs.YtdbhhlggddbehaaGreatDoor
open Go.RowKit Go.Shelf

theorem six_slice (B : Nat) (W : World) : (Instr.sliceAt 23 (.pointer (some ⟨B, 0, none⟩)) none none none).run Tryz.prog W = .ok (.slice (some ⟨B, 0, none⟩) 8 8) W := by kernel_rfl
theorem six_slice_h (B f : Nat) (hf : f ≤ 8) (W : World) : (Instr.sliceAt 23 (.pointer (some ⟨B, 0, none⟩)) none (some (.int .i64 f)) none).run Tryz.prog W = .ok (.slice (some ⟨B, 0, none⟩) f 8) W := by
  rcases (by omega : f = 0 ∨ f = 1 ∨ f = 2 ∨ f = 3 ∨ f = 4 ∨ f = 5 ∨ f = 6 ∨ f = 7 ∨ f = 8) with rfl | rfl | rfl | rfl | rfl | rfl | rfl | rfl | rfl <;> kernel_rfl
def off8 (f : Nat) : Nat := if f = 8 then 0 else f
theorem six_slice_l (B f : Nat) (hf : f ≤ 8) (W : World) : (Instr.sliceAt 23 (.pointer (some ⟨B, 0, none⟩)) (some (.int .i64 f)) none none).run Tryz.prog W = .ok (.slice (some ⟨B, off8 f, none⟩) (8 - f) (8 - f)) W := by
  rcases (by omega : f = 0 ∨ f = 1 ∨ f = 2 ∨ f = 3 ∨ f = 4 ∨ f = 5 ∨ f = 6 ∨ f = 7 ∨ f = 8) with rfl | rfl | rfl | rfl | rfl | rfl | rfl | rfl | rfl <;> kernel_rfl

/-- the cells of an address at a block. -/
def SixAt (B : Nat) (z : List Int) (w : World) : Prop := B < w.heap.size ∧ ∀ j, j < 8 → w.cell? ⟨B, j, none⟩ = some (.int .i64 (el z j))
theorem SixAt.kept {B : Nat} {z : List Int} {w w' : World} (h : SixAt B z w) (hb : Below w.heap.size w w') : SixAt B z w' :=
  ⟨Nat.lt_of_lt_of_le h.1 hb.size, fun j hj => (hb.cell (p := ⟨B, j, none⟩) h.1).trans (h.2 j hj)⟩
theorem SixAt.new (z : List Int) (w : World) : SixAt w.heap.size z (w.alloc (.cells (sixC z) 23)) := by
  refine ⟨by simp, fun j hj => ?_⟩
  rw [World.cell?_alloc_new]
  rcases (by omega : j = 0 ∨ j = 1 ∨ j = 2 ∨ j = 3 ∨ j = 4 ∨ j = 5 ∨ j = 6 ∨ j = 7) with rfl | rfl | rfl | rfl | rfl | rfl | rfl | rfl <;> rfl
set_option maxHeartbeats 8000000 in
set_option maxRecDepth 100000 in
theorem print_bad (z : List Int) (w : World) (hz : ¬ Ok6 z) : Calls Tryz.prog 9 #[six z] w fun e w' => e = .returned (.tuple #[.string ⟨#[]⟩, .iface 24 (.int .i64 1)]) ∧ Below w.heap.size w w' := by
  have hC := fun w => check_bad z w hz
  unfold six at hC ⊢
  go_enter Tryz.func9, Tryz.ntmps9
  go_wp2_with (go_at_call 8; refine (hC _).mono ?_; rintro e w1 ⟨rfl, rfl⟩)
  go_ret2
  exact ⟨rfl, ((Below.refl _ _).alloc (Nat.le_refl _) _).alloc (by simp) _⟩

theorem bytes_app (a b : List UInt8) : (⟨a.toArray⟩ : ByteArray) ++ ⟨b.toArray⟩ = ⟨(a ++ b).toArray⟩ := by
  apply ByteArray.ext
  simp
theorem bytes_app3 (t1 t2 : List UInt8) : (⟨(t1 ++ 58 :: 58 :: t2).toArray⟩ : ByteArray) = ⟨t1.toArray⟩ ++ ⟨#[58, 58]⟩ ++ ⟨t2.toArray⟩ := by
  have : (⟨#[58, 58]⟩ : ByteArray) = ⟨([58, 58] : List UInt8).toArray⟩ := rfl
  rw [this, bytes_app, bytes_app]
  simp
set_option maxHeartbeats 8000000 in
set_option maxRecDepth 100000 in
theorem print_ok (z : List Int) (w : World) (hz : Ok6 z) (h4 : Tab4 w) : Calls Tryz.prog 9 #[six z] w fun e w' => e = .returned (.tuple #[strv (AM.tx z), .nilIface]) ∧ Below w.heap.size w w' := by
  have hC := fun w => check_ok z w hz
  have hZ := fun w => zeros_any z w
  have hg := (AM.zgood_fl z).1
  unfold six at hC hZ ⊢
  have hS : SixAt w.heap.size z (((w.alloc (.cells (sixC z) 23)).alloc (.cells (sixC z) 23)).alloc (.cells (sixC z) 23)) :=
    ((SixAt.new z w).kept ((Below.refl _ _).alloc (Nat.le_refl _) _)).kept ((Below.refl _ _).alloc (Nat.le_refl _) _)
  have hB : Below w.heap.size w (((w.alloc (.cells (sixC z) 23)).alloc (.cells (sixC z) 23)).alloc (.cells (sixC z) 23)) := (((Below.refl _ _).alloc (Nat.le_refl _) _).alloc (by simp) _).alloc (by simp; omega) _
  unfold sixC at hC hZ hS hB
  generalize hw3 : ((w.alloc (.cells #[.int .i64 (el z 0), .int .i64 (el z 1), .int .i64 (el z 2), .int .i64 (el z 3), .int .i64 (el z 4), .int .i64 (el z 5), .int .i64 (el z 6), .int .i64 (el z 7)] 23)).alloc (.cells #[.int .i64 (el z 0), .int .i64 (el z 1), .int .i64 (el z 2), .int .i64 (el z 3), .int .i64 (el z 4), .int .i64 (el z 5), .int .i64 (el z 6), .int .i64 (el z 7)] 23)).alloc (.cells #[.int .i64 (el z 0), .int .i64 (el z 1), .int .i64 (el z 2), .int .i64 (el z 3), .int .i64 (el z 4), .int .i64 (el z 5), .int .i64 (el z 6), .int .i64 (el z 7)] 23) = w3 at hS hB
  have H3 := hide hw3
  clear hw3
  by_cases hl : AM.zlong z < 2
  · have hT : AM.tx z = AM.jn 58 (AM.hw z 0 8) := by unfold AM.tx; rw [if_pos hl]
    rw [hT]
    clear hT
    have hsl := six_slice w.heap.size
    go_enter Tryz.func9, Tryz.ntmps9
    go_wp2_with (first
      | (go_at_call 8; refine (hC _).mono ?_; rintro e w1 ⟨rfl, rfl⟩)
      | (go_at_call 23; refine (hZ _).mono ?_; rintro e w1 ⟨rfl, rfl⟩; rw [H3.out])
      | (go_at_call 24; refine (hexes_any w.heap.size 0 8 8 0 z w3 hz (by omega) hS.1 (fun j hj => by simp only [Nat.zero_add]; exact hS.2 j hj) (h4.below hB)).mono ?_; rintro e w1 ⟨rfl, hb⟩))
    go_ret2
    exact ⟨rfl, bt hB hb⟩
  · have hT : AM.tx z = AM.jn 58 (AM.hw z 0 (AM.zfrom z)) ++ 58 :: 58 :: AM.jn 58 (AM.hw z (AM.zfrom z + AM.zlong z) (8 - (AM.zfrom z + AM.zlong z))) := by unfold AM.tx; rw [if_neg hl]
    have HT := hide hT
    clear hT
    have hsh := six_slice_h w.heap.size (AM.zfrom z) (by omega)
    have hsl := six_slice_l w.heap.size (AM.zfrom z + AM.zlong z) (by omega)
    have hx1 : ∀ w4, Below w3.heap.size w3 w4 → Calls Tryz.prog 24 #[.slice (some ⟨w.heap.size, 0, none⟩) (AM.zfrom z) 8] w4 fun e w' => e = .returned (strv (AM.jn 58 (AM.hw z 0 (AM.zfrom z)))) ∧ Below w4.heap.size w4 w' := fun w4 hb4 =>
      hexes_any w.heap.size 0 8 (AM.zfrom z) 0 z w4 hz (by omega) (hS.kept hb4).1 (fun j hj => by simp only [Nat.zero_add]; exact (hS.kept hb4).2 j (by omega)) (h4.below (bt hB hb4))
    have hx2 : ∀ w4, Below w3.heap.size w3 w4 → Calls Tryz.prog 24 #[.slice (some ⟨w.heap.size, off8 (AM.zfrom z + AM.zlong z), none⟩) (8 - (AM.zfrom z + AM.zlong z)) (8 - (AM.zfrom z + AM.zlong z))] w4 fun e w' => e = .returned (strv (AM.jn 58 (AM.hw z (AM.zfrom z + AM.zlong z) (8 - (AM.zfrom z + AM.zlong z))))) ∧ Below w4.heap.size w4 w' := fun w4 hb4 =>
      hexes_any w.heap.size (off8 (AM.zfrom z + AM.zlong z)) (8 - (AM.zfrom z + AM.zlong z)) (8 - (AM.zfrom z + AM.zlong z)) (AM.zfrom z + AM.zlong z) z w4 hz (by omega) (hS.kept hb4).1 (fun j hj => by
        have e : off8 (AM.zfrom z + AM.zlong z) = AM.zfrom z + AM.zlong z := by unfold off8; rw [if_neg (by omega)]
        rw [e]; exact (hS.kept hb4).2 _ (by omega)) (h4.below (bt hB hb4))
    have hl1 := AM.jn_hw_len (z := z) hz (i := 0) (n := AM.zfrom z) (by omega)
    have hl2 := AM.jn_hw_len (z := z) hz (i := AM.zfrom z + AM.zlong z) (n := 8 - (AM.zfrom z + AM.zlong z)) (by omega)
    generalize AM.jn 58 (AM.hw z 0 (AM.zfrom z)) = t1 at HT hx1 hl1
    generalize AM.jn 58 (AM.hw z (AM.zfrom z + AM.zlong z) (8 - (AM.zfrom z + AM.zlong z))) = t2 at HT hx2 hl2
    have hs1 : (⟨t1.toArray⟩ : ByteArray).size ≤ 100 := by simp [ByteArray.size]; omega
    have hs2 : (⟨t2.toArray⟩ : ByteArray).size ≤ 100 := by simp [ByteArray.size]; omega
    clear hl1 hl2
    unfold strv at hx1 hx2 ⊢
    have HT2 := hide (show (⟨(AM.tx z).toArray⟩ : ByteArray) = ⟨t1.toArray⟩ ++ ⟨#[58, 58]⟩ ++ ⟨t2.toArray⟩ by rw [HT.out]; exact bytes_app3 t1 t2)
    generalize (⟨t1.toArray⟩ : ByteArray) = s1 at hx1 HT2 hs1
    generalize (⟨t2.toArray⟩ : ByteArray) = s2 at hx2 HT2 hs2
    generalize off8 (AM.zfrom z + AM.zlong z) = o8 at hsl hx2
    generalize 8 - (AM.zfrom z + AM.zlong z) = n8 at hsl hx2
    have hwr : IntKind.i64.wrap ((AM.zfrom z : Int) + (AM.zlong z : Int)) = ((AM.zfrom z + AM.zlong z : Nat) : Int) := by rw [IntKind.wrap_i64]; omega
    generalize AM.zfrom z + AM.zlong z = k8 at hsl hwr
    go_enter Tryz.func9, Tryz.ntmps9
    go_wp2_with (first
      | (go_at_call 8; refine (hC _).mono ?_; rintro e w1 ⟨rfl, rfl⟩)
      | (go_at_call 23; refine (hZ _).mono ?_; rintro e w1 ⟨rfl, rfl⟩; rw [H3.out]))
    go_region_with (first
      | (go_at_call_of 24 (Value.slice (some ⟨w.heap.size, 0, none⟩) (AM.zfrom z) 8); refine (hx1 _ ?_).mono ?_; exact (Below.refl _ _).drew; rintro e w5 ⟨rfl, hb5⟩)
      | (go_at_call_of 24 (Value.slice (some ⟨w.heap.size, o8, none⟩) n8 n8); refine (hx2 _ ?_).mono ?_; exact Below.trans (Below.refl _ w3).drew hb5; rintro e w6 ⟨rfl, hb6⟩))
    all_goals
      go_wp2_with fail
      go_ret2
      refine ⟨(show Ending.returned (.tuple #[.string (s1 ++ ⟨#[58, 58]⟩ ++ s2), .nilIface]) = _ by rw [HT2.out]), ?_⟩
      exact bt hB (bt (Below.trans (Below.refl _ w3).drew hb5) hb6)
end Go.Proofs.YtdbhhlggddbehaaGreatDoor
