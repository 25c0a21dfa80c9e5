/- Parse4 by a contract: the four whose text it is, or ErrSyntax. -/
import Derived.Test.YtdbhhlggddbehaaGreatDoorFour
namespace Go.Proofs.YtdbhhlggddbehaaGreatDoor
open Go.RowKit Go.Shelf

theorem reads10 : Reads 10 8 AM.dec8 := by
  refine ⟨fun t n h => by have := AM.dec8_le h; omega, fun t w n ht hn => ?_, fun t w ht hn hE => ?_⟩
  · have h : Lib.parseUintB 8 t.data.toList = .ok n := by
      unfold AM.dec8 at hn
      split at hn
      · rename_i u hu; cases hn; exact hu
      · cases hn
    refine (Any.strconv_ParseUint_10_at8_ok Tryz.laysPu14 t (by omega) n h w).mono fun e w' ⟨he, hw⟩ => ⟨he, ?_⟩
    rcases hw with rfl | rfl
    · exact Below.refl _ _
    · exact Lib.bytesWorld_below _ _ _
  · obtain ⟨⟨t1, p1, h1⟩, ⟨t2, p2, h2⟩⟩ := hE
    cases h : Lib.parseUintB 8 t.data.toList
    · unfold AM.dec8 at hn; rw [h] at hn; cases hn
    · exact (Any.strconv_ParseUint_10_at8_syntax Tryz.laysPu14 t (by omega) h _ w h1 (.inr ⟨t1, p1, rfl⟩)).mono fun e w' ⟨N, he, _, _, hb⟩ => ⟨⟨_, N, he⟩, hb⟩
    · exact (Any.strconv_ParseUint_10_at8_range Tryz.laysPu14 t (by omega) h _ w h2 (.inr ⟨t2, p2, rfl⟩)).mono fun e w' ⟨N, he, _, _, hb⟩ => ⟨⟨_, N, he⟩, hb⟩

theorem or8 (a x : Nat) (ha : a < 16777216) (hx : x ≤ 255) : bits .or .i64 ((a * 256 : Nat) : Int) (x : Int) = ((a * 256 + x : Nat) : Int) := by
  have h1 : (BitVec.ofInt 64 ((a * 256 : Nat) : Int)).toNat = a * 256 := by rw [BitVec.toNat_ofInt]; omega
  have h2 : (BitVec.ofInt 64 (x : Int)).toNat = x := by rw [BitVec.toNat_ofInt]; omega
  have key : (BitVec.ofInt 64 ((a * 256 : Nat) : Int) ||| BitVec.ofInt 64 (x : Int)).toNat = a * 256 + x := by
    rw [BitVec.toNat_or, h1, h2]
    have := Nat.two_pow_add_eq_or_of_lt (i := 8) (show x < 2 ^ 8 by omega) a
    rw [show 2 ^ 8 * a + x = a * 256 + x by omega, show 2 ^ 8 * a = a * 256 by omega] at this
    exact this.symm
  show IntKind.i64.wrap ((BitVec.ofInt 64 ((a * 256 : Nat) : Int) ||| BitVec.ofInt 64 (x : Int)).toNat : Nat) = _
  rw [key, IntKind.wrap_i64]
  omega

set_option maxHeartbeats 4000000 in
theorem parse4_no1 (s : ByteArray) (w : World) (hM : MaxL w) (hE : Errs w) (hn : AM.read4 s.data.toList = none) : Calls Tryz.prog 19 #[.string s] w fun e w' => e = .returned (.tuple #[.int .i64 0, .iface 24 (.int .i64 5)]) ∧ Below w.heap.size w w' := by
  by_cases hl : s.size ≤ 15
  · unfold AM.read4 at hn
    rw [if_neg (by rw [← Lib.size_eq]; omega)] at hn
    cases h : AM.nums 46 AM.dec8 s.data.toList with
    | none =>
      have hN := numbers_no 46 10 8 _ reads10 s w (by omega) hM hE h
      clear h hn
      go_enter Tryz.func19, Tryz.ntmps19
      go_wp2_with (go_at_call 33; refine hN.mono ?_; rintro e w1 ⟨rfl, hb⟩)
      go_ret2
      exact ⟨rfl, hb⟩
    | some l =>
      have hN := numbers_ok 46 10 8 _ reads10 s w (by omega) hM hE l h
      have h4 : l.length ≠ 4 := by
        intro e
        simp [h, e] at hn
      have hb4 : ((l.length : Int) == 4) = false := by rw [beq_eq_false_iff_ne]; omega
      clear h hn
      go_enter Tryz.func19, Tryz.ntmps19
      go_wp2_with (go_at_call 33; refine hN.mono ?_; rintro e w1 ⟨⟨ao, rfl, hI⟩, hb⟩)
      go_ret2
      exact ⟨rfl, hb⟩
  · go_enter Tryz.func19, Tryz.ntmps19
    go_wp2
    go_ret2
    exact ⟨rfl, Below.refl _ _⟩

/-- the numbers so far, as one. -/
def acc4 (l : List Nat) : Nat → Nat
  | 0 => 0
  | k + 1 => acc4 l k * 256 + l.getD k 0
theorem acc4_lt (l : List Nat) (h : ∀ k, l.getD k 0 ≤ 255) (k : Nat) : acc4 l k < 256 ^ k := by
  induction k with
  | zero => simp [acc4]
  | succ k ih =>
    have := h k
    simp only [acc4, Nat.pow_succ]
    omega
theorem acc4_of (l : List Nat) (hl : l.length = 4) : acc4 l 4 = AM.of4 l := by
  match l, hl with
  | [a, b, c, d], _ => simp [acc4, AM.of4]

set_option maxHeartbeats 8000000 in
set_option maxRecDepth 100000 in
theorem parse4_some (s : ByteArray) (w : World) (hM : MaxL w) (hE : Errs w) (hP : Pow10 w) (l : List Nat) (hn : AM.read4 s.data.toList = some l) : Calls Tryz.prog 19 #[.string s] w fun e w' =>
    e = .returned (if AM.t4 (AM.of4 l) = s.data.toList then .tuple #[.int .i64 (AM.of4 l : Nat), .nilIface] else .tuple #[.int .i64 0, .iface 24 (.int .i64 5)]) ∧ Below w.heap.size w w' := by
  obtain ⟨h4, hle, hnu, hs⟩ := AM.read4_ok hn
  rw [← Lib.size_eq] at hs
  obtain ⟨r, hr⟩ : ∃ r : Value, r = if AM.t4 (AM.of4 l) = s.data.toList then .tuple #[.int .i64 (AM.of4 l : Nat), .nilIface] else .tuple #[.int .i64 0, .iface 24 (.int .i64 5)] := ⟨_, rfl⟩
  rw [← hr]
  have HRR := hide hr
  clear hr
  have hN := numbers_ok 46 10 8 _ reads10 s w (by omega) hM hE l hnu
  have hlt := (AM.by4_of4 h4 hle).2
  have hg : ∀ k, l.getD k 0 ≤ 255 := fun k => by
    by_cases hk : k < l.length
    · have : l.getD k 0 = l[k] := by simp [hk]
      rw [this]; exact hle _ (List.getElem_mem hk)
    · simp [List.getD, List.getElem?_eq_none (by omega : l.length ≤ k)]
  have hA4 := acc4_of l h4
  clear hnu hn hle
  rw [h4] at hN
  go_enter Tryz.func19, Tryz.ntmps19
  go_wp2_with (go_at_call 33; refine hN.mono ?_; rintro e w1 ⟨⟨ao, rfl, hI⟩, hb⟩)
  have HI := hide hI
  clear hI hN
  obtain ⟨ao', e1, hI2⟩ := HI.out
  have e2 : ao' = ao := by
    have := e1.symm
    simp at this
    exact this.1
  subst e2
  obtain ⟨B, rfl, _, _, hc⟩ := hI2 (fun e => by rw [e] at h4; simp at h4)
  clear hI2 e1 HI
  go_loop [6, 30] (fun a i => ∃ k : Nat, k ≤ 4 ∧ a = .int .i64 (acc4 l k : Nat) ∧ i = .int .i64 k) (fun _ i => 4 - (intOf i).toNat)
  case atStart => exact ⟨0, by omega, rfl, rfl⟩
  case round =>
    obtain ⟨k, hk, rfl, rfl⟩ := hrel
    by_cases hlt4 : k < 4
    · have hck := hc k (l.getD k 0) (by simp [List.getD, List.getElem?_eq_getElem (show k < l.length by omega)])
      have hx := hg k
      have hac := acc4_lt l hg k
      have hac2 : acc4 l k < 16777216 := by
        have : 256 ^ k ≤ 256 ^ 3 := Nat.pow_le_pow_right (by omega) (by omega)
        omega
      have hor := or8 (acc4 l k) (l.getD k 0) hac2 hx
      have HS := hide (show acc4 l (k + 1) = acc4 l k * 256 + l.getD k 0 from rfl)
      clear hc hg hac hA4
      generalize l.getD k 0 = x at hck hx hor HS
      generalize acc4 l k = a at hac2 hor HS ⊢
      rw [show ((a * 256 : Nat) : Int) = (a : Int) * 256 by omega] at hor
      go_wp2
      go_round
      case rel => exact ⟨k + 1, by omega, by rw [HS.out]; exact congrArg (Value.int .i64) (by omega), by go_num⟩
      case measure => simp [intOf]; omega
    · obtain rfl : k = 4 := by omega
      rw [hA4]
      have hPr := print4_ok (AM.of4 l) w1 (by omega) (hP.below hb)
      generalize AM.of4 l = n at hPr hlt HRR ⊢
      clear hA4 hc hg
      unfold strv at hPr
      by_cases ht : AM.t4 n = s.data.toList
      · have HQ := hide (HRR.out.trans (if_pos ht))
        have e : (⟨(AM.t4 n).toArray⟩ : ByteArray) = s := by rw [ht]
        rw [e] at hPr
        clear ht e
        go_wp2_with (go_at_call 17; refine hPr.mono ?_; rintro e w2 ⟨rfl, hb2⟩)
        go_ret2
        exact ⟨congrArg _ HQ.out.symm, bt hb hb2⟩
      · have HQ := hide (HRR.out.trans (if_neg ht))
        have hne : (⟨(AM.t4 n).toArray⟩ : ByteArray) ≠ s := fun e => ht (by rw [← e])
        have hbe := str_ne hne
        clear ht
        generalize (⟨(AM.t4 n).toArray⟩ : ByteArray) = tz at hPr hne hbe
        go_wp2_with (go_at_call 17; refine hPr.mono ?_; rintro e w2 ⟨rfl, hb2⟩)
        go_ret2
        exact ⟨congrArg _ HQ.out.symm, bt hb hb2⟩

theorem parse4_no (s : ByteArray) (w : World) (hM : MaxL w) (hE : Errs w) (hP : Pow10 w) (hn : AM.parse4F s.data.toList = none) : Calls Tryz.prog 19 #[.string s] w fun e w' => e = .returned (.tuple #[.int .i64 0, .iface 24 (.int .i64 5)]) ∧ Below w.heap.size w w' := by
  unfold AM.parse4F at hn
  cases hr : AM.read4 s.data.toList with
  | none => exact parse4_no1 s w hM hE hr
  | some l =>
    rw [hr] at hn
    refine (parse4_some s w hM hE hP l hr).mono fun e w' ⟨he, hb⟩ => ⟨?_, hb⟩
    rw [he, if_neg]
    intro e
    simp [e] at hn
theorem parse4_yes (s : ByteArray) (w : World) (hM : MaxL w) (hE : Errs w) (hP : Pow10 w) (n : Nat) (hn : AM.parse4F s.data.toList = some n) : Calls Tryz.prog 19 #[.string s] w fun e w' => e = .returned (.tuple #[.int .i64 (n : Nat), .nilIface]) ∧ Below w.heap.size w w' := by
  unfold AM.parse4F at hn
  cases hr : AM.read4 s.data.toList with
  | none => rw [hr] at hn; cases hn
  | some l =>
    rw [hr] at hn
    refine (parse4_some s w hM hE hP l hr).mono fun e w' ⟨he, hb⟩ => ⟨?_, hb⟩
    by_cases ht : AM.t4 (AM.of4 l) = s.data.toList
    · simp [ht] at hn
      rw [he, if_pos ht, hn]
    · simp [ht] at hn
end Go.Proofs.YtdbhhlggddbehaaGreatDoor
