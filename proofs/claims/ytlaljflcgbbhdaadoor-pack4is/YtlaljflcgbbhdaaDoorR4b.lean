/- The document's own words and FourBytes of a packet's head, by contracts. -/
import Derived.Test.YtlaljflcgbbhdaaDoorR4a
namespace Go.Proofs.YtlaljflcgbbhdaaDoor
open Go.RowKit
attribute [local go_sem ↓] Go.wp_at_zero Go.wp_at_succ

/-- words as bytes. -/
def wb (l : List Int) : Nat → List Int
  | 0 => []
  | k + 1 => wb l k ++ [l.getD k 0 / 256, l.getD k 0 % 256]
theorem wb_len (l : List Int) (k : Nat) : (wb l k).length = 2 * k := by
  induction k with
  | zero => rfl
  | succ k ih => simp only [wb, List.length_append, List.length_cons, List.length_nil, ih]; omega
theorem row_pair (w : World) (x y : Int) (hx : 0 ≤ x ∧ x ≤ 255) (hy : 0 ≤ y ∧ y ≤ 255) : Row8 (w.alloc (.cells #[.int .u8 x, .int .u8 y] 5)) (some ⟨w.heap.size, 0, none⟩) 2 2 [x, y] := by
  refine ⟨rfl, by simp [maxLen], ?_, (fun h => by cases h), fun _ => ⟨w.heap.size, 0, rfl, fun i hi => ?_⟩⟩
  · intro k
    match k with
    | 0 => simpa using hx
    | 1 => simpa using hy
    | k + 2 => simp
  · rcases (by omega : i = 0 ∨ i = 1) with rfl | rfl <;> simp
/-- six words in a block. -/
def Six0 (B : Nat) (l : List Int) (w : World) : Prop := ∀ k, k < 6 → w.cell? ⟨B, k, none⟩ = some (.int .i64 (l.getD k 0))
theorem Six0.lt {B : Nat} {l : List Int} {w : World} (h : Six0 B l w) : B < w.heap.size := World.block_lt_of_cell? w _ (h 0 (by omega))
theorem Six0.kept {B : Nat} {l : List Int} {w w' : World} (h : Six0 B l w) (hb : Below w.heap.size w w') : Six0 B l w' := fun k hk => by rw [hb.cell (p := ⟨B, k, none⟩) h.lt]; exact h k hk

set_option maxHeartbeats 4000000 in
set_option maxRecDepth 100000 in
theorem words_any (B : Nat) (l : List Int) (w : World) (hl : Six0 B l w) (hw : ∀ k, k < 6 → 0 ≤ l.getD k 0 ∧ l.getD k 0 ≤ 65535) :
    Calls Tryd.prog 27 #[.slice none 0 0, .slice (some ⟨B, 0, none⟩) 6 6] w fun e w' => ∃ v, e = .returned v ∧ Own w.heap.size w' v (wb l 6) ∧ Below w.heap.size w w' := by
  go_enter Tryd.func27, Tryd.ntmps27
  go_wp2
  go_loopw [0, 5] (fun v i wr => ∃ k : Nat, k ≤ 6 ∧ i = .int .i64 k ∧ Hid (Own w.heap.size wr v (wb l k)) ∧ Hid (Below w.heap.size w wr)) (fun _ i _ => 6 - (intOf i).toNat)
  case atStart => exact ⟨0, by omega, rfl, Own.nil _ _, Below.refl _ _⟩
  case round =>
    obtain ⟨k, hk, rfl, HO, HB⟩ := hrel
    by_cases hlt : k < 6
    · have hcx := (hl.kept HB.out) k hlt
      have hx := hw k hlt
      have HS := hide (show wb l (k + 1) = wb l k ++ [l.getD k 0 / 256, l.getD k 0 % 256] from rfl)
      have HLN := hide (show (wb l k).length + 2 ≤ 1000000000 by rw [wb_len]; omega)
      generalize l.getD k 0 = x at hcx hx HS
      obtain ⟨hx0, hx1⟩ := hx
      have hsz := HB.out.size
      have i0 : (0 : Int) ≤ (k : Int) := by omega
      have i1 : (k : Int) < 6 := by omega
      have q1 : IntKind.i64.wrap (x.tdiv 256) = x / 256 := by rw [Int.tdiv_eq_ediv_of_nonneg hx0, IntKind.wrap_i64]; omega
      have q2 : IntKind.u8.wrap (x / 256) = x / 256 := by rw [IntKind.wrap_u8]; omega
      have q3 : x.tmod 256 = x % 256 := Int.tmod_eq_emod_of_nonneg hx0
      have q4 : IntKind.u8.wrap (x % 256) = x % 256 := by rw [IntKind.wrap_u8]; omega
      have hb1 : Below wr.heap.size wr (wr.alloc (.cells #[.int .u8 (x / 256), .int .u8 (x % 256)] 5)).drew := ((Below.refl _ _).alloc (Nat.le_refl _) _).drew
      have HO2 := hide (HO.out.kept hb1)
      have HB2 := hide (HB.out.trans (hb1.mono hsz))
      have HC := hide (show Row8 (wr.alloc (.cells #[.int .u8 (x / 256), .int .u8 (x % 256)] 5)).drew (some ⟨wr.heap.size, 0, none⟩) 2 2 [x / 256, x % 256] from row_pair wr (x / 256) (x % 256) (by omega) (by omega))
      have HN := hide (show (wb l k ++ [x / 256, x % 256]).length = 2 * k + 2 by rw [List.length_append, wb_len]; rfl)
      have HSZ := hide (show w.heap.size ≤ (wr.alloc (.cells #[.int .u8 (x / 256), .int .u8 (x % 256)] 5)).drew.heap.size from Nat.le_trans hsz hb1.size)
      have hne : wr.heap.size ≠ B := World.new_ne wr _ hcx
      have HN2 := hide (show ∀ r, (∀ g, r = some g → w.heap.size ≤ g) → some B ≠ r from fun r hr e => by have := hr B e.symm; have := hl.lt; omega)
      have HN3 := hide (fun g h => (HO.out.2.lt g h).1)
      clear hl hw hb1
      go_wp2
      go_region_held3 (fun w' => w'.cell? ⟨B, k, none⟩ = some (.int .i64 x))
        (first
          | go_keep
          | (go_split_ands; exact g5.cell (by simp [*]) (HN2.out _ HN3.out)))
        (first | (refine step_app rfl (.tmp 12) (.tmp 25) rfl w.heap.size _ (wb l k) (by rfl) HO2.out _ ⟨_, rfl⟩ 2 2 [x / 256, x % 256] (2 * k + 2) HN.out (by rfl) HC.out HLN.out HSZ.out ?_; intro a5 c5 w5 o5 g5))
      have HB3 := hide (HB2.out.grown g5 HSZ.out (fun g h => HN3.out g h))
      replace o5 := hide o5
      go_wp2_with fail
      go_roundw
      case rel => exact ⟨k + 1, by omega, by go_num, HS.out ▸ o5.out, HB3⟩
      case measure => simp [intOf]; omega
    · obtain rfl : k = 6 := by omega
      go_wp2
      go_ret
      exact ⟨_, rfl, HO.out, HB.out⟩
end Go.Proofs.YtlaljflcgbbhdaaDoor
