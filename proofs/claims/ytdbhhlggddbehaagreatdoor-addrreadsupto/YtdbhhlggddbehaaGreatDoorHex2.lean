/- strconv.ParseUint at base 16 and 16 bits, by a contract: the number of the digits, or some error. -/
import Derived.Test.YtdbhhlggddbehaaGreatDoorHex
import Derived.Lib.Walk
import Derived.Lib.ConvBytes
import Derived.Lib.Hide
import Derived.Lib.AtoiErrMem
import Derived.Laws.Closers25
import Derived.Laws.Closers25b
namespace Go.Proofs.YtdbhhlggddbehaaGreatDoor
open Go.RowKit Go.Shelf

set_option maxHeartbeats 4000000 in
set_option maxRecDepth 100000 in
theorem iparse0 (w : World) : Calls Tryz.prog 52 #[.string ⟨#[]⟩, .int .i64 16, .int .i64 16] w fun e w' => e = .returned (.tuple #[.int .u64 0, .iface 121 (.int .i64 2)]) ∧ w' = w := by
  go_enter Tryz.func52, Tryz.ntmps52
  go_wp2
  go_ret2
  exact ⟨rfl, rfl⟩

set_option maxHeartbeats 32000000 in
set_option maxRecDepth 100000 in
theorem iparse16 (t : ByteArray) (hne : t.size ≠ 0) (hmax : t.size ≤ 9223372036854775806) (w : World) :
    Calls Tryz.prog 52 #[.string t, .int .i64 16, .int .i64 16] w fun e w' =>
      ((∃ n, AM.hx16 0 t.data.toList = some n ∧ e = .returned (.tuple #[.int .u64 (n : Nat), .nilIface])) ∨ (AM.hx16 0 t.data.toList = none ∧ (e = .returned (.tuple #[.int .u64 0, .iface 121 (.int .i64 2)]) ∨ e = .returned (.tuple #[.int .u64 65535, .iface 121 (.int .i64 1)])))) ∧ w' = Lib.bytesWorld w 5 t := by
  have hemp : t.toList.isEmpty = false := by
    rw [← decide_eq_emptyBytes]
    exact decide_eq_false (fun h => hne (by rw [h]; rfl))
  have hcv := Lib.run_convert_string_bytes (P := Tryz.prog) w 9 27 5 t (u := .string) Tryz.underlying9 Tryz.underlying27 Tryz.underlying5
  have hB : ∀ j, j < t.size → (Lib.bytesWorld w 5 t).cell? ⟨w.heap.size, j, none⟩ = some (.int .u8 (t.data.toList.getD j 0).toNat) := fun j hj => Lib.bytesWorld_cell w 5 t j hj
  obtain ⟨W1, hW1⟩ : ∃ W1, W1 = Lib.bytesWorld w 5 t := ⟨_, rfl⟩
  rw [← hW1] at hcv hB ⊢
  clear hW1
  obtain ⟨bs, hL⟩ : ∃ bs, bs = t.data.toList := ⟨_, rfl⟩
  have hLn : bs.length = t.size := by rw [hL, Lib.size_eq]
  rw [← hL] at hB ⊢
  clear hL
  have hmv : IntKind.u64.wrap (IntKind.u64.wrap 65536 - 1) = 65535 := by
    rw [IntKind.wrap_u64, IntKind.wrap_u64]
    decide
  go_enter Tryz.func52, Tryz.ntmps52
  go_wp2
  go_loop [12, 13, 101] (fun vu vn vi => ∃ (k acc : Nat) (a : Int), vu = .bool false ∧ vn = .int .u64 a ∧ vi = .int .i64 k ∧ k ≤ t.size ∧ Hid (a = (acc : Int) ∧ acc ≤ 65535 ∧ AM.hx16 0 bs = AM.hx16 acc (bs.drop k)))
    (fun _ _ vi => t.size - (intOf vi).toNat)
  case atStart => exact ⟨0, 0, 0, rfl, rfl, rfl, by omega, rfl, by omega, rfl⟩
  case round =>
    obtain ⟨k, acc, a, rfl, rfl, rfl, hk, hh⟩ := hrel
    obtain ⟨ha, hacc, hdec⟩ := hh.out
    clear hh
    have a0 : 0 ≤ a := by omega
    have a1 : a ≤ 65535 := by omega
    by_cases hkn : k < t.size
    · have hc := hB k hkn
      have hdrop : bs.drop k = bs[k]'(by omega) :: bs.drop (k + 1) := List.drop_eq_getElem_cons (by omega)
      have hget : bs.getD k 0 = bs[k]'(by omega) := by simp [List.getD, List.getElem?_eq_getElem (show k < bs.length by omega)]
      rw [hdrop] at hdec
      rw [hget] at hc
      generalize bs[k]'(by omega) = c at hc hdec
      have hc256 : c.toNat < 256 := c.toNat_lt
      clear hB hdrop hget
      obtain ⟨hl0, hl1, hcase⟩ := low_cases c
      have hl95 : bits .or .u8 95 32 = 127 := by decide +kernel
      rcases hcase with ⟨hd0, hd1, hvc⟩ | ⟨hd, d, hd6, hlo, hvc⟩ | ⟨hd, hvc, hlo⟩
      · -- a decimal digit
        clear hl0 hl1
        by_cases hov : 65535 < acc * 16 + (c.toNat - 48)
        · have HF := hide (show AM.hx16 0 bs = none by rw [hdec, AM.hx16, hvc]; simp [hov])
          have iov : 65535 < a * 16 + ((c.toNat : Int) - 48) := by omega
          clear hacc hov ha hdec hvc
          go_wp2
          go_ret2
          exact ⟨.inr ⟨HF.out, .inr rfl⟩, rfl⟩
        · have HN : Hid (a * 16 + ((c.toNat : Int) - 48) = ((acc * 16 + (c.toNat - 48) : Nat) : Int) ∧ acc * 16 + (c.toNat - 48) ≤ 65535 ∧ AM.hx16 0 bs = AM.hx16 (acc * 16 + (c.toNat - 48)) (bs.drop (k + 1))) := Lib.hid ⟨by omega, by omega, by rw [hdec, AM.hx16, hvc]; simp [hov]⟩
          have iov : a * 16 + ((c.toNat : Int) - 48) ≤ 65535 := by omega
          clear hacc hov hdec ha hvc
          go_wp2
          refine ⟨⟨k + 1, acc * 16 + (c.toNat - 48), a * 16 + ((c.toNat : Int) - 48), rfl, (by first | rfl | (congr 1; omega)), (by first | rfl | (congr 1; omega)), by omega, HN⟩, by simp [intOf]; omega⟩
      · -- a letter
        clear hl0 hl1
        have hne95 : ¬ (c.toNat : Int) = 95 := by intro e; rw [e, hl95] at hlo; omega
        by_cases hov : 65535 < acc * 16 + (10 + d)
        · have HF := hide (show AM.hx16 0 bs = none by rw [hdec, AM.hx16, hvc]; simp [hov])
          have iov : 65535 < a * 16 + (10 + (d : Int)) := by omega
          clear hacc hov ha hdec hvc
          go_wp2_with (go_at_call 67; refine (lower_any _ _).mono ?_; rintro e w' ⟨rfl, rfl⟩)
          all_goals go_ret2
          all_goals exact ⟨.inr ⟨HF.out, .inr rfl⟩, rfl⟩
        · have HN : Hid (a * 16 + (10 + (d : Int)) = ((acc * 16 + (10 + d) : Nat) : Int) ∧ acc * 16 + (10 + d) ≤ 65535 ∧ AM.hx16 0 bs = AM.hx16 (acc * 16 + (10 + d)) (bs.drop (k + 1))) := Lib.hid ⟨by omega, by omega, by rw [hdec, AM.hx16, hvc]; simp [hov]⟩
          have iov : a * 16 + (10 + (d : Int)) ≤ 65535 := by omega
          clear hacc hov hdec ha hvc
          go_wp2_with (go_at_call 67; refine (lower_any _ _).mono ?_; rintro e w' ⟨rfl, rfl⟩)
          all_goals refine ⟨⟨k + 1, acc * 16 + (10 + d), a * 16 + (10 + (d : Int)), rfl, (by first | rfl | (congr 1; omega)), (by first | rfl | (congr 1; omega)), by omega, HN⟩, by simp [intOf]; omega⟩
      · -- no digit
        have HF := hide (show AM.hx16 0 bs = none by rw [hdec, AM.hx16, hvc])
        clear hacc ha hdec hvc
        go_wp2_with (go_at_call 67; refine (lower_any _ _).mono ?_; rintro e w' ⟨rfl, rfl⟩)
        all_goals go_ret2
        all_goals exact ⟨.inr ⟨HF.out, .inl rfl⟩, rfl⟩
    · have hkk : k = t.size := by omega
      subst hkk
      have HF := hide (show AM.hx16 0 bs = some acc by rw [hdec, List.drop_eq_nil_of_le (by omega)]; rfl)
      subst ha
      clear hacc a0 a1 hdec
      go_wp2
      go_ret2
      exact ⟨.inl ⟨acc, HF.out, rfl⟩, rfl⟩

end Go.Proofs.YtdbhhlggddbehaaGreatDoor
