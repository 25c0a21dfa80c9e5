/- strconv.FormatInt and strconv.ParseUint at base 16, of numbers of 16 bits, by contracts. -/
import Derived.Test.YtdbhhlggddbehaaGreatDoorAddrSix
import Derived.Test.YtdbhhlggddbehaaGreatDoorShelf
import Derived.Lib.ParseIntBMem
import Derived.Laws.Strings3
import Derived.Laws.IdiomStrings
import Derived.BigCall
import Derived.BigGuard
namespace Go.Proofs.YtdbhhlggddbehaaGreatDoor
open Go.RowKit Go.Shelf

/-- the one cell of a table of the library's that a shift by four wants. -/
def Tab4 (w : World) : Prop := w.cell? ⟨6, 15, none⟩ = some (.int .u8 4)
theorem lt_of_cell {w : World} {p : Addr} {v : Value} (h : w.cell? p = some v) : p.block < w.heap.size := by
  rcases Nat.lt_or_ge p.block w.heap.size with h1 | h1
  · exact h1
  · simp [World.cell?, Array.getElem?_eq_none h1] at h
theorem Tab4.below {w w' : World} (h : Tab4 w) (hb : Below w.heap.size w w') : Tab4 w' := by
  have := hb.cell (p := ⟨6, 15, none⟩) (lt_of_cell h)
  unfold Tab4; rw [this]; exact h

theorem tz16 (w : World) (hb : Tab4 w) :
    Calls Tryz.prog 77 #[.int .u64 16] w fun e w' => e = .returned (.int .i64 4) ∧ w' = w := by
  have e1 : IntKind.u64.wrap (-16) = 18446744073709551600 := by rw [IntKind.wrap_u64]; rfl
  have e2 : bits BinOp.and IntKind.u64 16 18446744073709551600 = 16 := by decide +kernel
  unfold Tab4 at hb
  go_enter Tryz.func77, Tryz.ntmps77
  go_wp2
  go_ret
  exact ⟨rfl, rfl⟩
theorem pow16 (w : World) : Calls Tryz.prog 76 #[.int .i64 16] w fun e w' => e = .returned (.bool true) ∧ w' = w := by
  have e2 : bits BinOp.and IntKind.i64 16 15 = 0 := by decide +kernel
  go_enter Tryz.func76, Tryz.ntmps76
  go_wp2
  go_ret
  exact ⟨rfl, rfl⟩

/-- the row of 65 bytes while digits are laid into it from behind. -/
def Buf (w : World) (B : Nat) (wr : World) (i : Nat) (L : List UInt8) : Prop :=
  i + L.length = 65 ∧ (∀ j, j < 65 → ∃ x : Int, wr.cell? ⟨B, j, none⟩ = some (.int .u8 x)) ∧ (∀ j (hj : j < L.length), wr.cell? ⟨B, i + j, none⟩ = some (.int .u8 (L[j].toNat : Int))) ∧ (∀ j, wr.frozen? ⟨B, j, none⟩ = false) ∧ Below B w wr
theorem Buf.store {w : World} {B : Nat} {wr : World} {i : Nat} {L : List UInt8} (h : Buf w B wr (i + 1) L) (c : UInt8) : Buf w B (wr.setCell ⟨B, i, none⟩ (.int .u8 (c.toNat : Int))) i (c :: L) := by
  obtain ⟨h1, h2, h3, h4, h5⟩ := h
  have hsame : (wr.setCell ⟨B, i, none⟩ (.int .u8 (c.toNat : Int))).cell? ⟨B, i, none⟩ = some (.int .u8 (c.toNat : Int)) := by
    obtain ⟨x, hx⟩ := h2 i (by omega)
    exact World.cell?_setCell_same _ _ _ hx
  have hoth : ∀ j, j ≠ i → (wr.setCell ⟨B, i, none⟩ (.int .u8 (c.toNat : Int))).cell? ⟨B, j, none⟩ = wr.cell? ⟨B, j, none⟩ := fun j hj => World.cell?_setCell_other _ _ _ _ (fun e => hj (by cases e; rfl))
  refine ⟨by simp; omega, fun j hj => ?_, fun j hj => ?_, fun j => ?_, h5.setCell (Nat.le_refl _) _⟩
  · by_cases e : j = i
    · subst e; exact ⟨_, hsame⟩
    · rw [hoth j e]; exact h2 j hj
  · cases j with
    | zero => exact hsame
    | succ j =>
      rw [hoth _ (by omega)]
      have := h3 j (by simpa using hj)
      rw [show i + (j + 1) = i + 1 + j by omega]
      exact this
  · rw [World.frozen?_setCell]; exact h4 j

theorem digit_at (k : Nat) (h : k < 16) (w : World) : (Instr.index 9 (.string ⟨#[48, 49, 50, 51, 52, 53, 54, 55, 56, 57, 97, 98, 99, 100, 101, 102, 103, 104, 105, 106, 107, 108, 109, 110, 111, 112, 113, 114, 115, 116, 117, 118, 119, 120, 121, 122]⟩) (.int .u64 k)).run Tryz.prog w = .ok (.int .u8 ((AM.hexd k).toNat : Int)) w := by
  rcases (by omega : k = 0 ∨ k = 1 ∨ k = 2 ∨ k = 3 ∨ k = 4 ∨ k = 5 ∨ k = 6 ∨ k = 7 ∨ k = 8 ∨ k = 9 ∨ k = 10 ∨ k = 11 ∨ k = 12 ∨ k = 13 ∨ k = 14 ∨ k = 15) with rfl | rfl | rfl | rfl | rfl | rfl | rfl | rfl | rfl | rfl | rfl | rfl | rfl | rfl | rfl | rfl <;> kernel_rfl
theorem and15 (u : Nat) : bits .and .u64 (u : Int) 15 = ((u % 16 : Nat) : Int) := by
  have h : (BitVec.ofInt 64 15).toNat = 2 ^ 4 - 1 := by decide
  have key : (BitVec.ofInt 64 (u : Int) &&& BitVec.ofInt 64 15).toNat = ((u : Int) % ((2 ^ 64 : Nat) : Int)).toNat % 2 ^ 4 := by
    rw [BitVec.toNat_and, BitVec.toNat_ofInt, h, Nat.and_two_pow_sub_one_eq_mod]
  show IntKind.u64.wrap ((BitVec.ofInt 64 (u : Int) &&& BitVec.ofInt 64 15).toNat : Nat) = _
  rw [key, IntKind.wrap_u64]
  omega

theorem slice65 (B k : Nat) (hk : k < 65) (W : World) : (Instr.sliceAt 131 (.pointer (some ⟨B, 0, none⟩)) (some (.int .i64 k)) none none).run Tryz.prog W = .ok (.slice (some ⟨B, k, none⟩) (65 - k) (65 - k)) W := by
  have hal : Tryz.prog.arrayLen 131 = 65 := by kernel_rfl
  have hel : Tryz.prog.elem 131 = 5 := by kernel_rfl
  have hsz : (sizeOf 5).run Tryz.prog W = .ok 1 W := by kernel_rfl
  rw [run_sliceAt_array_l W 131 ⟨B, 0, none⟩ (by kernel_rfl) .i64 (k : Int) (by omega) (by rw [hal]; omega), hal, hel, hsz]
  unfold slicedAt
  simp only [Result.andThen]
  rw [if_neg (by omega)]
  simp [Addr.add]
  exact fun h => h.symm
set_option maxHeartbeats 2000000 in
set_option maxRecDepth 100000 in
theorem formatBits16 (u : Nat) (w : World) (h : u ≤ 65535) (hb : Tab4 w) :
    Calls Tryz.prog 60 #[.slice none 0 0, .int .u64 u, .int .i64 16, .bool false, .bool false] w fun e w' => e = .returned (.tuple #[.slice none 0 0, .string ⟨(AM.hexL u).toArray⟩]) ∧ Below w.heap.size w w' := by
  have hb1 : Tab4 (w.alloc (.cells Tryz.zeroCells131 131)) := hb.below ((Below.refl _ _).alloc (Nat.le_refl _) _)
  go_enter Tryz.func60, Tryz.ntmps60
  go_wp2_with (first
    | (go_at_call 76; refine (pow16 _).mono ?_; rintro e w' ⟨rfl, rfl⟩)
    | (go_at_call 77; refine (tz16 _ hb1).mono ?_; rintro e w' ⟨rfl, rfl⟩))
  go_loopw [1, 13] (fun a b wr => ∃ (v i : Nat) (L : List UInt8), a = .int .u64 v ∧ b = .int .i64 i ∧ v ≤ 65535 ∧ Hid (AM.hexL u = AM.hexL v ++ L) ∧ i ≤ 65 ∧ Hid (62 ≤ i ∧ (v < 16 ∨ 63 ≤ i ∧ (v < 256 ∨ 64 ≤ i ∧ (v < 4096 ∨ i = 65)))) ∧ Hid (Buf w w.heap.size wr i L)) (fun a _ _ => (intOf a).toNat)
  case atStart =>
    refine ⟨u, 65, [], rfl, rfl, h, hide (by simp), by omega, hide (by omega), rfl, fun j hj => ⟨0, ?_⟩, fun j hj => absurd hj (by simp), fun j => World.frozen?_alloc_new _ _ _ _, (Below.refl _ _).alloc (Nat.le_refl _) _⟩
    have hz : Tryz.zeroCells131 = Array.replicate 65 (.int .u8 0) := by kernel_rfl
    rw [World.cell?_alloc_new, hz]
    simp [hj]
  case round =>
    obtain ⟨v, i, L, rfl, rfl, hv, HX, hi65, HB, HF⟩ := hrel
    obtain ⟨hi62, hbd⟩ := HB.out
    by_cases hlt : 16 ≤ v
    · obtain ⟨k, rfl⟩ : ∃ k, i = k + 1 := ⟨i - 1, by omega⟩
      have HB2 := hide (show 62 ≤ k ∧ (v / 16 < 16 ∨ 63 ≤ k ∧ (v / 16 < 256 ∨ 64 ≤ k ∧ (v / 16 < 4096 ∨ k = 65))) by omega)
      have ha := and15 v
      have hd := digit_at (v % 16) (by omega)
      have HX2 := hide (show AM.hexL u = AM.hexL (v / 16) ++ AM.hexd (v % 16) :: L by rw [HX.out, AM.hexL_ge (by omega)]; simp)
      generalize v % 16 = d at ha hd HX2
      obtain ⟨x, hx⟩ := HF.out.2.1 k (by omega)
      have hfz := HF.out.2.2.2.1 k
      have HF2 := hide (HF.out.store (AM.hexd d))
      clear hbd HB HF HX
      go_wp2
      go_roundw
      case rel => exact ⟨v / 16, k, AM.hexd d :: L, by go_num, by go_num, by omega, HX2, by omega, HB2, HF2⟩
      case measure => simp [intOf]; omega
    · obtain ⟨k, rfl⟩ : ∃ k, i = k + 1 := ⟨i - 1, by omega⟩
      have hd := digit_at v (by omega)
      have HX2 := hide (show AM.hexL u = AM.hexd v :: L by rw [HX.out, AM.hexL_lt (by omega)]; simp)
      obtain ⟨x, hx⟩ := HF.out.2.1 k (by omega)
      have hfz := HF.out.2.2.2.1 k
      have HF2 := hide (HF.out.store (AM.hexd v))
      clear hbd HB HF HX
      have hsl := slice65 w.heap.size k (by omega)
      have hcv : (convert 27 9 (.slice (some ⟨w.heap.size, k, none⟩) (65 - k) (65 - k))).run Tryz.prog (wr.setCell ⟨w.heap.size, k, none⟩ (.int .u8 ((AM.hexd v).toNat : Int))) = .ok (.string ⟨(AM.hexL u).toArray⟩) (wr.setCell ⟨w.heap.size, k, none⟩ (.int .u8 ((AM.hexd v).toNat : Int))) := by
        have hL : (AM.hexL u).length = 65 - k := by rw [HX2.out]; have := HF2.out.1; simp at this ⊢; omega
        have h := run_convert_bytes_back (P := Tryz.prog) (wr.setCell ⟨w.heap.size, k, none⟩ (.int .u8 ((AM.hexd v).toNat : Int))) 27 9 5 ⟨w.heap.size, k, none⟩ (65 - k) (AM.hexL u) Tryz.underlying27 Tryz.underlying5 Tryz.underlying9 (fun j hj => by
          rw [Lib.add_plain]
          have := HF2.out.2.2.1 j (by rw [← HX2.out]; exact hj)
          rw [this, List.getElem_of_eq HX2.out hj])
        rw [hL] at h
        exact h
      have hB := HF2.out.2.2.2.2
      go_wp2
      go_ret2
      exact ⟨rfl, hB⟩

theorem ifmt16 (u : Nat) (w : World) (h : u ≤ 65535) (hb : Tab4 w) :
    Calls Tryz.prog 47 #[.int .i64 u, .int .i64 16] w fun e w' => e = .returned (.string ⟨(AM.hexL u).toArray⟩) ∧ Below w.heap.size w w' := by
  go_enter Tryz.func47, Tryz.ntmps47
  go_wp2_with (go_at_call 60; refine (formatBits16 u _ h hb).mono ?_; rintro e w' ⟨rfl, hB⟩)
  go_ret
  exact ⟨rfl, hB⟩
/-- strconv.FormatInt at base 16. -/
theorem fmt16 (u : Nat) (w : World) (h : u ≤ 65535) (hb : Tab4 w) :
    Calls Tryz.prog 35 #[.int .i64 u, .int .i64 16] w fun e w' => e = .returned (.string ⟨(AM.hexL u).toArray⟩) ∧ Below w.heap.size w w' := by
  go_enter Tryz.func35, Tryz.ntmps35
  go_wp2_with (go_at_call 47; refine (ifmt16 u _ h hb).mono ?_; rintro e w' ⟨rfl, hB⟩)
  go_ret
  exact ⟨rfl, hB⟩

/-! reading -/
theorem lower_any (c : Int) (w : World) : Calls Tryz.prog 67 #[.int .u8 c] w fun e w' => e = .returned (.int .u8 (bits .or .u8 c 32)) ∧ w' = w := by
  go_enter Tryz.func67, Tryz.ntmps67
  go_wp2
  go_ret
  exact ⟨rfl, rfl⟩
/-- what a byte's small form is. -/
def lowOk (c : Fin 256) : Bool :=
  let l := bits .or .u8 (c.val : Int) 32
  decide (0 ≤ l) && decide (l ≤ 255) &&
  (if 48 ≤ c.val ∧ c.val ≤ 57 then true
   else if 97 ≤ c.val ∧ c.val ≤ 102 then decide (l = c.val) else if 65 ≤ c.val ∧ c.val ≤ 70 then decide (l = (c.val : Int) + 32)
   else decide (l < 97) || decide (102 < l))
theorem lowOk_all : ∀ c : Fin 256, lowOk c = true := by decide +kernel
theorem low_cases (c : UInt8) : 0 ≤ bits .or .u8 (c.toNat : Int) 32 ∧ bits .or .u8 (c.toNat : Int) 32 ≤ 255 ∧ ((48 ≤ c.toNat ∧ c.toNat ≤ 57 ∧ AM.hvl c = some (c.toNat - 48)) ∨ (¬ (48 ≤ c.toNat ∧ c.toNat ≤ 57) ∧ ∃ d : Nat, d < 6 ∧ bits .or .u8 (c.toNat : Int) 32 = 97 + (d : Int) ∧ AM.hvl c = some (10 + d)) ∨ (¬ (48 ≤ c.toNat ∧ c.toNat ≤ 57) ∧ AM.hvl c = none ∧ (bits .or .u8 (c.toNat : Int) 32 < 97 ∨ 102 < bits .or .u8 (c.toNat : Int) 32))) := by
  have h := lowOk_all ⟨c.toNat, c.toNat_lt⟩
  unfold lowOk at h
  simp only at h
  generalize bits .or .u8 (c.toNat : Int) 32 = l at h ⊢
  rw [Bool.and_eq_true, Bool.and_eq_true] at h
  obtain ⟨⟨h1, h2⟩, h3⟩ := h
  refine ⟨of_decide_eq_true h1, of_decide_eq_true h2, ?_⟩
  unfold AM.hvl
  by_cases c1 : 48 ≤ c.toNat ∧ c.toNat ≤ 57
  · exact .inl ⟨c1.1, c1.2, by rw [if_pos c1]⟩
  · rw [if_neg c1] at h3 ⊢
    by_cases c2 : 97 ≤ c.toNat ∧ c.toNat ≤ 102
    · rw [if_pos c2] at h3 ⊢
      have := of_decide_eq_true h3
      exact .inr (.inl ⟨c1, c.toNat - 97, by omega, by omega, by congr 1; omega⟩)
    · rw [if_neg c2] at h3 ⊢
      by_cases c3 : 65 ≤ c.toNat ∧ c.toNat ≤ 70
      · rw [if_pos c3] at h3 ⊢
        have := of_decide_eq_true h3
        exact .inr (.inl ⟨c1, c.toNat - 65, by omega, by omega, by congr 1; omega⟩)
      · rw [if_neg c3] at h3 ⊢
        refine .inr (.inr ⟨c1, rfl, ?_⟩)
        rcases Bool.or_eq_true _ _ ▸ h3 with h | h
        · exact .inl (of_decide_eq_true h)
        · exact .inr (of_decide_eq_true h)
end Go.Proofs.YtdbhhlggddbehaaGreatDoor
