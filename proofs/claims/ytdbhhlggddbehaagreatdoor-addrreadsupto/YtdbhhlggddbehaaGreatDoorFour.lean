/- Print4 and Parse4 by contracts. -/
import Derived.Test.YtdbhhlggddbehaaGreatDoorRows
import Derived.Test.YtdbhhlggddbehaaGreatDoorFourText
import Derived.Test.YtdbhhlggddbehaaGreatDoorAddrParse
namespace Go.Proofs.YtdbhhlggddbehaaGreatDoor
open Go.RowKit Go.Shelf

/-- the table that strconv.Itoa reads. -/
def Pow10 (w : World) : Prop := Lib.TabIs Tryz.prog w (Rows.addrReadsRow.named.getD 1 "") .u64 Lib.pow10Tab
theorem Tryz.powNamed : Tryz.prog.globalNamed (Rows.addrReadsRow.named.getD 1 "") = some 1 := by kernel_rfl
theorem Pow10.lt {w : World} (h : Pow10 w) : 1 < w.heap.size := by
  have := Lib.TabIs.cell h Tryz.powNamed 0 (by decide)
  exact lt_of_cell this
theorem Pow10.below {w w' : World} (h : Pow10 w) (hb : Below w.heap.size w w') : Pow10 w' := var?_below hb Tryz.powNamed h.lt h
theorem below_grow (w : World) (os : Array Obj) : Below w.heap.size w (Sort.grow w os) := by
  refine ⟨rfl, rfl, rfl, by simp [Sort.grow], fun k hk => ?_⟩
  simp [Sort.grow, Array.getElem?_append, hk]
theorem itoa_any (n : Nat) (w : World) (hn : n ≤ 1000000000000) (hP : Pow10 w) : Calls Tryz.prog 30 #[.int .i64 (n : Nat)] w fun e w' => e = .returned (strv (Lib.decDigits n)) ∧ Below w.heap.size w w' := by
  refine (Any.strconv_Itoa Tryz.laysM171 (n : Int) (by omega) (by omega) w hP).mono fun e w' ⟨he, k, os, hw⟩ => ⟨?_, ?_⟩
  · rw [he, Lib.itoa_nonneg]; rfl
  · rw [hw]; exact Below.trans (below_drewN (Below.refl _ _) k) (below_grow (w.drewN k) os)

theorem i64_and255 (n : Int) : bits .and .i64 n 255 = n % 256 := by
  have h : (BitVec.ofInt 64 255).toNat = 2 ^ 8 - 1 := by decide
  have key : (BitVec.ofInt 64 n &&& BitVec.ofInt 64 255).toNat = (n % ((2 ^ 64 : Nat) : Int)).toNat % 2 ^ 8 := by
    rw [BitVec.toNat_and, BitVec.toNat_ofInt, h, Nat.and_two_pow_sub_one_eq_mod]
  show IntKind.i64.wrap ((BitVec.ofInt 64 n &&& BitVec.ofInt 64 255).toNat : Nat) = n % 256
  rw [key, IntKind.wrap_i64]
  omega

theorem c4_ok (a : Int) (w : World) (h0 : 0 ≤ a) (h1 : a ≤ 4294967295) : Calls Tryz.prog 29 #[.int .i64 a] w fun e w' => e = .returned .nilIface ∧ w' = w := by
  go_enter Tryz.func29, Tryz.ntmps29
  go_wp2
  go_ret
  exact ⟨rfl, rfl⟩
theorem c4_bad (a : Int) (w : World) (h : a < 0 ∨ 4294967295 < a) : Calls Tryz.prog 29 #[.int .i64 a] w fun e w' => e = .returned (.iface 24 (.int .i64 1)) ∧ w' = w := by
  rcases h with h | h
  all_goals
    go_enter Tryz.func29, Tryz.ntmps29
    go_wp2
    go_ret
    exact ⟨rfl, rfl⟩
theorem print4_bad (n : Int) (w : World) (h : n < 0 ∨ 4294967295 < n) : Calls Tryz.prog 17 #[.int .i64 n] w fun e w' => e = .returned (.tuple #[.string ⟨#[]⟩, .iface 24 (.int .i64 1)]) ∧ w' = w := by
  have HH := hide h
  clear h
  go_enter Tryz.func17, Tryz.ntmps17
  go_wp2_with (go_at_call 29; refine (c4_bad _ _ HH.out).mono ?_; rintro e w1 ⟨rfl, rfl⟩)
  go_ret2
  exact ⟨rfl, rfl⟩

set_option maxHeartbeats 8000000 in
set_option maxRecDepth 100000 in
theorem print4_ok (n : Nat) (w : World) (h : n ≤ 4294967295) (hP : Pow10 w) : Calls Tryz.prog 17 #[.int .i64 (n : Nat)] w fun e w' => e = .returned (.tuple #[strv (AM.t4 n), .nilIface]) ∧ Below w.heap.size w w' := by
  have hmk : (Instr.makeSlice 63 (.int .i64 4) (.int .i64 4)).run Tryz.prog w = .ok (.slice (some ⟨w.heap.size, 0, none⟩) 4 4) (w.alloc (.cells (madeCells #[.string ⟨#[]⟩] 4) 9)) := make_str w 4 (by omega)
  have hR0 := Rowb.made w (.string ⟨#[]⟩) 4 9 rfl
  simp only [Value.cells] at hR0
  generalize w.alloc (.cells (madeCells #[.string ⟨#[]⟩] 4) 9) = w0 at hmk hR0
  go_enter Tryz.func17, Tryz.ntmps17
  go_wp2_with (go_at_call 29; refine (c4_ok _ _ (by omega) (by omega)).mono ?_; rintro e w1 ⟨rfl, hw⟩; rw [hw]; clear hw w1)
  go_loopw [15] (fun t wr => ∃ k : Nat, k ≤ 4 ∧ t = .int .i64 k ∧ Hid (Rowb w w.heap.size wr 4 ((((AM.by4 n).map Lib.decDigits).take k).map strv))) (fun t _ => 4 - (intOf t).toNat)
  case atStart => exact ⟨0, by omega, rfl, hR0⟩
  case round =>
    obtain ⟨k, hk, rfl, HR⟩ := hrel
    have hPr := hP.below HR.out.2.2.2.1
    by_cases hlt : k < 4
    · have go : ∀ (m : Nat) (hm : m ≤ 255) (w1 : World), Pow10 w1 → Calls Tryz.prog 30 #[.int .i64 (m : Nat)] w1 fun e w' => e = .returned (strv (Lib.decDigits m)) ∧ Below w1.heap.size w1 w' := fun m hm w1 hp => itoa_any m w1 (by omega) hp
      rcases (by omega : k = 0 ∨ k = 1 ∨ k = 2 ∨ k = 3) with rfl | rfl | rfl | rfl
      · have ha : bits .and .i64 ((n : Int) / 16777216) 255 = ((n / 16777216 : Nat) : Int) := by rw [i64_and255]; omega
        have hg := go (n / 16777216) (by omega) wr hPr
        have HT := hide (show (((AM.by4 n).map Lib.decDigits).take 1).map strv = (((AM.by4 n).map Lib.decDigits).take 0).map strv ++ [strv (Lib.decDigits (n / 16777216))] from rfl)
        have HL := hide (show ((((AM.by4 n).map Lib.decDigits).take 0).map strv).length = 0 from rfl)
        clear go
        unfold strv at hg
        generalize n / 16777216 = m at ha hg HT
        go_wp2_with (go_at_call 30; refine hg.mono ?_; rintro e w1 ⟨rfl, hB⟩; have HR1 := hide (HR.out.kept hB); obtain ⟨v, hv⟩ := HR1.out.1 0 (by omega); have hf := HR1.out.2.2.1 0)
        have HR2 := hide (HR1.out.store (by rw [HL.out]; omega) (strv (Lib.decDigits m)))
        rw [HL.out] at HR2
        go_roundw
        case rel =>
          refine ⟨1, by omega, rfl, ?_⟩
          rw [HT.out]
          exact HR2
        case measure => simp [intOf]
      · have ha : bits .and .i64 ((n : Int) / 65536) 255 = ((n / 65536 % 256 : Nat) : Int) := by rw [i64_and255]; omega
        have hg := go (n / 65536 % 256) (by omega) wr hPr
        have HT := hide (show (((AM.by4 n).map Lib.decDigits).take 2).map strv = (((AM.by4 n).map Lib.decDigits).take 1).map strv ++ [strv (Lib.decDigits (n / 65536 % 256))] from rfl)
        have HL := hide (show ((((AM.by4 n).map Lib.decDigits).take 1).map strv).length = 1 from rfl)
        clear go
        unfold strv at hg
        generalize n / 65536 % 256 = m at ha hg HT
        go_wp2_with (go_at_call 30; refine hg.mono ?_; rintro e w1 ⟨rfl, hB⟩; have HR1 := hide (HR.out.kept hB); obtain ⟨v, hv⟩ := HR1.out.1 1 (by omega); have hf := HR1.out.2.2.1 1)
        have HR2 := hide (HR1.out.store (by rw [HL.out]; omega) (strv (Lib.decDigits m)))
        rw [HL.out] at HR2
        go_roundw
        case rel =>
          refine ⟨2, by omega, rfl, ?_⟩
          rw [HT.out]
          exact HR2
        case measure => simp [intOf]
      · have ha : bits .and .i64 ((n : Int) / 256) 255 = ((n / 256 % 256 : Nat) : Int) := by rw [i64_and255]; omega
        have hg := go (n / 256 % 256) (by omega) wr hPr
        have HT := hide (show (((AM.by4 n).map Lib.decDigits).take 3).map strv = (((AM.by4 n).map Lib.decDigits).take 2).map strv ++ [strv (Lib.decDigits (n / 256 % 256))] from rfl)
        have HL := hide (show ((((AM.by4 n).map Lib.decDigits).take 2).map strv).length = 2 from rfl)
        clear go
        unfold strv at hg
        generalize n / 256 % 256 = m at ha hg HT
        go_wp2_with (go_at_call 30; refine hg.mono ?_; rintro e w1 ⟨rfl, hB⟩; have HR1 := hide (HR.out.kept hB); obtain ⟨v, hv⟩ := HR1.out.1 2 (by omega); have hf := HR1.out.2.2.1 2)
        have HR2 := hide (HR1.out.store (by rw [HL.out]; omega) (strv (Lib.decDigits m)))
        rw [HL.out] at HR2
        go_roundw
        case rel =>
          refine ⟨3, by omega, rfl, ?_⟩
          rw [HT.out]
          exact HR2
        case measure => simp [intOf]
      · have ha : bits .and .i64 ((n : Int)) 255 = ((n % 256 : Nat) : Int) := by rw [i64_and255]; omega
        have hg := go (n % 256) (by omega) wr hPr
        have HT := hide (show (((AM.by4 n).map Lib.decDigits).take 4).map strv = (((AM.by4 n).map Lib.decDigits).take 3).map strv ++ [strv (Lib.decDigits (n % 256))] from rfl)
        have HL := hide (show ((((AM.by4 n).map Lib.decDigits).take 3).map strv).length = 3 from rfl)
        clear go
        unfold strv at hg
        generalize n % 256 = m at ha hg HT
        go_wp2_with (go_at_call 30; refine hg.mono ?_; rintro e w1 ⟨rfl, hB⟩; have HR1 := hide (HR.out.kept hB); obtain ⟨v, hv⟩ := HR1.out.1 3 (by omega); have hf := HR1.out.2.2.1 3)
        have HR2 := hide (HR1.out.store (by rw [HL.out]; omega) (strv (Lib.decDigits m)))
        rw [HL.out] at HR2
        go_roundw
        case rel =>
          refine ⟨4, by omega, rfl, ?_⟩
          rw [HT.out]
          exact HR2
        case measure => simp [intOf]
    · obtain rfl : k = 4 := by omega
      have hJ := join_row 46 w wr w.heap.size 4 ((AM.by4 n).map Lib.decDigits) rfl (by omega) (by have := AM.t4_len (n := n) (by omega); unfold AM.t4 at this; omega) HR.out
      have hJ2 : Calls Tryz.prog 31 #[.slice (some ⟨w.heap.size, 0, none⟩) 4 4, .string ⟨#[46]⟩] wr fun e w' => e = .returned (strv (AM.t4 n)) ∧ Below wr.heap.size wr w' := hJ
      have HB := hide HR.out.2.2.2.1
      clear hJ
      go_wp2_with (go_at_call 31; refine hJ2.mono ?_; rintro e w1 ⟨rfl, hB⟩)
      go_ret2
      exact ⟨rfl, bt HB.out hB⟩
end Go.Proofs.YtdbhhlggddbehaaGreatDoor
