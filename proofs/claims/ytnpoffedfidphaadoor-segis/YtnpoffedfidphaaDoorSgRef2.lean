/- The document's own words, OverOf, Over4 and Over6, and the program's Over6, by contracts. -/
import Derived.Test.YtnpoffedfidphaaDoorSgRef
namespace Go.Proofs.YtnpoffedfidphaaDoor
open Go.RowKit
attribute [local go_sem ↓] Go.wp_at_zero Go.wp_at_succ

theorem nb2 (x : Int) (h0 : 0 ≤ x) (h1 : x ≤ 65535) : nb 2 x = [x / 256, x % 256] := by
  show [x / 256 ^ 1 % 256, x / 256 ^ 0 % 256] = _
  rw [show x / 256 ^ 1 % 256 = x / 256 by omega, show x / 256 ^ 0 % 256 = x % 256 by omega]
set_option maxHeartbeats 4000000 in
set_option maxRecDepth 100000 in
theorem words_any (W0 : World) (v : Value) (zs : List Int) (B n : Nat) (l : List Int) (w : World) (hg : Gr W0 w v zs) (hl : Ints B l w) (hn : l.length = n) (hm : n ≤ 100) (hz : zs.length ≤ 1000000) (hw : ∀ k, k < n → 0 ≤ l.getD k 0 ∧ l.getD k 0 ≤ 65535) :
    Calls Tryd.prog 26 #[v, .slice (some ⟨B, 0, none⟩) n n] w fun e w' => ∃ v', e = .returned v' ∧ Gr W0 w' v' (zs ++ wsn 2 l n) := by
  have HG := hide hg
  have HL := hide hl
  have HN := hide hn
  have HW := hide hw
  have HZ := hide hz
  clear hg hl hn hw hz
  go_enter Tryd.func26, Tryd.ntmps26
  go_wp2
  go_loopw [0, 5] (fun v i wr => ∃ k : Nat, k ≤ n ∧ i = .int .i64 k ∧ Hid (Gr W0 wr v (zs ++ wsn 2 l k)) ∧ Hid (Ints B l wr)) (fun _ i _ => n - (intOf i).toNat)
  case atStart => exact ⟨0, by omega, rfl, by simpa [wsn] using HG, HL⟩
  case round =>
    obtain ⟨k, hk, rfl, HO, HI⟩ := hrel
    clear HG HL
    by_cases hlt : k < n
    · have hcx := HI.out.cell k (by rw [HN.out]; exact hlt)
      have hx := HW.out k hlt
      have HS := hide (show zs ++ wsn 2 l (k + 1) = (zs ++ wsn 2 l k) ++ [l.getD k 0 / 256, l.getD k 0 % 256] by rw [List.append_assoc, ← nb2 _ hx.1 hx.2]; rfl)
      have HLN := hide (show (zs ++ wsn 2 l k).length + 2 ≤ 1000000000 by rw [List.length_append, wsn_len]; have := HZ.out; omega)
      generalize l.getD k 0 = x at hcx hx HS
      obtain ⟨hx0, hx1⟩ := hx
      have hsz := HO.out.2.size
      have i0 : (0 : Int) ≤ (k : Int) := by omega
      have i1 : (k : Int) < (n : Int) := by omega
      have q1 : IntKind.i64.wrap (x.tdiv 256) = x / 256 := by rw [Int.tdiv_eq_ediv_of_nonneg hx0, IntKind.wrap_i64]; omega
      have q2 : IntKind.u8.wrap (x / 256) = x / 256 := by rw [IntKind.wrap_u8]; omega
      have q3 : x.tmod 256 = x % 256 := Int.tmod_eq_emod_of_nonneg hx0
      have q4 : IntKind.u8.wrap (x % 256) = x % 256 := by rw [IntKind.wrap_u8]; omega
      have hb1 : Below wr.heap.size wr (wr.alloc (.cells #[.int .u8 (x / 256), .int .u8 (x % 256)] 5)).drew := ((Below.refl _ _).alloc (Nat.le_refl _) _).drew
      have HO2 := hide (HO.out.below hb1)
      have HI2 := hide (HI.out.kept hb1)
      have HC := hide (show Row8 (wr.alloc (.cells #[.int .u8 (x / 256), .int .u8 (x % 256)] 5)).drew (some ⟨wr.heap.size, 0, none⟩) 2 2 [x / 256, x % 256] from row_pair wr (x / 256) (x % 256) (by omega) (by omega))
      generalize zs ++ wsn 2 l k = Z at HO HO2 HS HLN
      obtain ⟨N, hN⟩ : ∃ N, N = (Z ++ [x / 256, x % 256]).length := ⟨_, rfl⟩
      have HN1 := hide hN.symm
      have hne : wr.heap.size ≠ B := World.new_ne wr _ hcx
      clear hb1 hN HW
      go_wp2
      go_region_held3 (fun w' => w'.cell? ⟨B, k, none⟩ = some (.int .i64 x))
        (first
          | go_keep
          | (go_split_ands; exact g5.cell (by simp [*]) (HI2.out.ne HO2.out.1)))
        (first | (refine step_app rfl (.tmp 12) (.tmp 25) rfl W0.heap.size _ Z (by rfl) HO2.out.1 _ ⟨_, rfl⟩ 2 2 [x / 256, x % 256] N HN1.out (by rfl) HC.out HLN.out HO2.out.2.size ?_; intro a5 c5 w5 o5 g5))
      have HG5 := hide (show Gr W0 w5 (.slice a5 N c5) (Z ++ [x / 256, x % 256]) from ⟨o5, HO2.out.2.grown g5 HO2.out.2.size (fun k e => (HO2.out.1.2.lt k e).1)⟩)
      have HI5 := hide (HI2.out.grown HO2.out.1 g5)
      clear o5 g5
      go_wp2_with fail
      go_roundw
      case rel => exact ⟨k + 1, by omega, by go_num, HS.out ▸ HG5.out, HI5⟩
      case measure => simp [intOf]; omega
    · obtain rfl : k = n := by omega
      go_wp2
      go_ret
      exact ⟨_, rfl, HO.out⟩
end Go.Proofs.YtnpoffedfidphaaDoor
