/- strconv.ParseUint at base 16 and 16 bits, as a caller has it. -/
import Derived.Test.YtdbhhlggddbehaaGreatDoorHex2
namespace Go.Proofs.YtdbhhlggddbehaaGreatDoor
open Go.RowKit Go.Shelf

/-- the two variables that an error of strconv's names. -/
def Errs (w : World) : Prop := (∃ t p, w.cell? ⟨3, 0, none⟩ = some (.iface t p)) ∧ ∃ t p, w.cell? ⟨4, 0, none⟩ = some (.iface t p)
theorem Errs.below {w w' : World} (h : Errs w) (hb : Below w.heap.size w w') : Errs w' := by
  obtain ⟨⟨t, p, h1⟩, ⟨t2, p2, h2⟩⟩ := h
  exact ⟨⟨t, p, (hb.cell (p := ⟨3, 0, none⟩) (lt_of_cell h1)).trans h1⟩, ⟨t2, p2, (hb.cell (p := ⟨4, 0, none⟩) (lt_of_cell h2)).trans h2⟩⟩
theorem toErr2 (s : ByteArray) (w : World) (hlim : s.size ≤ 281474976710656) (h : Errs w) :
    Calls Tryz.prog 53 #[.string ⟨#[80, 97, 114, 115, 101, 85, 105, 110, 116]⟩, .string s, .int .i64 16, .int .i64 16, .iface 121 (.int .i64 2)] w fun e w' => (∃ N, e = .returned (.iface 124 (.pointer (some ⟨N, 0, none⟩)))) ∧ Below w.heap.size w w' := by
  obtain ⟨⟨t, p, h1⟩, _⟩ := h
  exact (AnyPu.strconv_toError_syntax (P := Tryz.prog) (ρ := Tryz.laysPu14_ren) { Tryz.laysPu14 with } ⟨#[80, 97, 114, 115, 101, 85, 105, 110, 116]⟩ s 16 16 _ w hlim h1 (.inr ⟨t, p, rfl⟩)).mono fun e w' ⟨N, he, _, _, hb⟩ => ⟨⟨N, he⟩, hb⟩
theorem toErr1 (s : ByteArray) (w : World) (hlim : s.size ≤ 281474976710656) (h : Errs w) :
    Calls Tryz.prog 53 #[.string ⟨#[80, 97, 114, 115, 101, 85, 105, 110, 116]⟩, .string s, .int .i64 16, .int .i64 16, .iface 121 (.int .i64 1)] w fun e w' => (∃ N, e = .returned (.iface 124 (.pointer (some ⟨N, 0, none⟩)))) ∧ Below w.heap.size w w' := by
  obtain ⟨_, ⟨t, p, h1⟩⟩ := h
  exact (AnyPu.strconv_toError_range (P := Tryz.prog) (ρ := Tryz.laysPu14_ren) { Tryz.laysPu14 with } ⟨#[80, 97, 114, 115, 101, 85, 105, 110, 116]⟩ s 16 16 _ w hlim h1 (.inr ⟨t, p, rfl⟩)).mono fun e w' ⟨N, he, _, _, hb⟩ => ⟨⟨N, he⟩, hb⟩

/-- both together: how the inner function ends. -/
theorem iparse (t : ByteArray) (hmax : t.size ≤ 281474976710656) (w : World) :
    Calls Tryz.prog 52 #[.string t, .int .i64 16, .int .i64 16] w fun e w' =>
      ((∃ n, AM.hxw t.data.toList = some n ∧ e = .returned (.tuple #[.int .u64 (n : Nat), .nilIface])) ∨ (AM.hxw t.data.toList = none ∧ (e = .returned (.tuple #[.int .u64 0, .iface 121 (.int .i64 2)]) ∨ e = .returned (.tuple #[.int .u64 65535, .iface 121 (.int .i64 1)])))) ∧ Below w.heap.size w w' := by
  by_cases h0 : t.size = 0
  · obtain rfl : t = ⟨#[]⟩ := by
      obtain ⟨a⟩ := t
      have : a = #[] := Array.eq_empty_of_size_eq_zero h0
      rw [this]
    exact (iparse0 w).mono fun e w' ⟨h1, h2⟩ => ⟨.inr ⟨rfl, .inl h1⟩, by rw [h2]; exact Below.refl _ _⟩
  · have hl : t.data.toList ≠ [] := by
      intro e
      apply h0
      rw [Lib.size_eq, e]; rfl
    refine (iparse16 t h0 (by omega) w).mono fun e w' ⟨h1, h2⟩ => ⟨?_, by rw [h2]; exact Lib.bytesWorld_below _ _ _⟩
    unfold AM.hxw
    rw [if_neg hl]
    exact h1
/-- strconv.ParseUint at base 16 and 16 bits: the number. -/
theorem parse16_ok (t : ByteArray) (hmax : t.size ≤ 281474976710656) (w : World) (n : Nat) (hn : AM.hxw t.data.toList = some n) :
    Calls Tryz.prog 42 #[.string t, .int .i64 16, .int .i64 16] w fun e w' => e = .returned (.tuple #[.int .u64 (n : Nat), .nilIface]) ∧ Below w.heap.size w w' := by
  have hI : Calls Tryz.prog 52 #[.string t, .int .i64 16, .int .i64 16] w fun e w' => e = .returned (.tuple #[.int .u64 (n : Nat), .nilIface]) ∧ Below w.heap.size w w' := (iparse t hmax w).mono fun e w' ⟨h1, h2⟩ => by
    rcases h1 with ⟨m, hm, he⟩ | ⟨hm, _⟩
    · rw [hn] at hm; cases hm; exact ⟨he, h2⟩
    · rw [hn] at hm; cases hm
  go_enter Tryz.func42, Tryz.ntmps42
  go_wp2_with (go_at_call 52; refine hI.mono ?_; rintro e w' ⟨rfl, hB⟩)
  go_ret2
  exact ⟨rfl, hB⟩
/-- strconv.ParseUint at base 16 and 16 bits: an error. -/
theorem parse16_no (t : ByteArray) (hmax : t.size ≤ 281474976710656) (w : World) (hn : AM.hxw t.data.toList = none) (hE : Errs w) :
    Calls Tryz.prog 42 #[.string t, .int .i64 16, .int .i64 16] w fun e w' => (∃ u N, e = .returned (.tuple #[.int .u64 u, .iface 124 (.pointer (some ⟨N, 0, none⟩))])) ∧ Below w.heap.size w w' := by
  have hI : Calls Tryz.prog 52 #[.string t, .int .i64 16, .int .i64 16] w fun e w' => (e = .returned (.tuple #[.int .u64 0, .iface 121 (.int .i64 2)]) ∨ e = .returned (.tuple #[.int .u64 65535, .iface 121 (.int .i64 1)])) ∧ Below w.heap.size w w' := (iparse t hmax w).mono fun e w' ⟨h1, h2⟩ => by
    rcases h1 with ⟨m, hm, he⟩ | ⟨_, hm⟩
    · rw [hn] at hm; cases hm
    · exact ⟨hm, h2⟩
  go_enter Tryz.func42, Tryz.ntmps42
  go_wp2_with (go_at_call 52; refine hI.mono ?_; rintro e w' ⟨rfl | rfl, hB⟩)
  · go_wp2_with (go_at_call 53; refine (toErr2 t _ hmax (hE.below hB)).mono ?_; rintro e w2 ⟨⟨N, rfl⟩, hB2⟩)
    go_ret2
    exact ⟨⟨_, N, rfl⟩, bt hB hB2⟩
  · go_wp2_with (go_at_call 53; refine (toErr1 t _ hmax (hE.below hB)).mono ?_; rintro e w2 ⟨⟨N, rfl⟩, hB2⟩)
    go_ret2
    exact ⟨⟨_, N, rfl⟩, bt hB hB2⟩
end Go.Proofs.YtdbhhlggddbehaaGreatDoor
