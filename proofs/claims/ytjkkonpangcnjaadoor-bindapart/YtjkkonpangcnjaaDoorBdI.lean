/- The document's own new table; two rows of binds held side by side. -/
import Derived.Test.YtjkkonpangcnjaaDoorBdE
namespace Go.Proofs.YtjkkonpangcnjaaDoor
open Go.RowKit

set_option maxRecDepth 100000 in
set_option maxHeartbeats 1000000 in
theorem rtable_new (m : Nat) (w : World) (hm : m ≤ 16) :
    Calls Tryd.prog 7 #[.int .i64 m] w fun e w' => ∃ B P BW BT, e = .returned (.pointer (some ⟨B, 0, none⟩)) ∧ RT B P BW BT (8 * m) (fun _ => []) (fun _ => false) (.slice none 0 0) [] w' ∧ (w.heap.size ≤ B ∧ w.heap.size ≤ P ∧ w.heap.size ≤ BW ∧ w.heap.size ≤ BT) ∧ Below w.heap.size w w' := by
  have HN := hide (rnew_any m w hm)
  go_enter Tryd.func7, Tryd.ntmps7
  go_wp2_with (go_at_call 25; refine HN.out.mono ?_; rintro e w1 ⟨P, BW, BT, rfl, hp, h1, h2, h3, hb⟩; replace hp := hide hp; replace h1 := hide (And.intro h1 (And.intro h2 h3)); replace hb := hide hb; clear h2 h3)
  go_ret
  have b2 := al_below w1 (.cells #[.pointer (some ⟨P, 0, none⟩), .slice none 0 0] 57)
  exact ⟨_, P, BW, BT, rfl, ⟨heap_alloc_new w1 _, hp.out.kept b2, OwB.nil _ _⟩, ⟨hb.out.size, h1.out⟩, bt hb.out b2⟩
/-- a row of binds, wherever it lies. -/
def BdRow (base : Nat) (w : World) (v : Value) (bs : List (List Int)) : Prop := ∃ a cap, v = .slice a bs.length cap ∧ (0 < bs.length → ∃ g off, a = some ⟨g, off, none⟩ ∧ (base ≤ g ∧ g < w.heap.size) ∧ ∀ k, k < bs.length → w.rangeAt g (off + k * 23) (bdC (bs.getD k [])).toList)
theorem BdRow.same {base : Nat} {w w' : World} {v : Value} {bs : List (List Int)} (h : BdRow base w v bs) (hb : Below w.heap.size w w') : BdRow base w' v bs := by
  obtain ⟨a, cap, rfl, hc⟩ := h
  refine ⟨a, cap, rfl, fun hp => ?_⟩
  obtain ⟨g, off, e, hlt, hx⟩ := hc hp
  refine ⟨g, off, e, ⟨hlt.1, Nat.lt_of_lt_of_le hlt.2 hb.size⟩, fun k hk j u hu => ?_⟩
  rw [hb.cell (p := ⟨g, off + k * 23 + j, none⟩) hlt.2]
  exact hx k hk j u hu
theorem BdRow.fr {base : Nat} {O : Nat → Prop} {w w' : World} {v : Value} {bs : List (List Int)} (h : BdRow base w v bs) (hf : Fr O w w') (hO : ∀ g, base ≤ g → g < w.heap.size → ¬ O g) : BdRow base w' v bs := by
  obtain ⟨a, cap, rfl, hc⟩ := h
  refine ⟨a, cap, rfl, fun hp => ?_⟩
  obtain ⟨g, off, e, hlt, hx⟩ := hc hp
  refine ⟨g, off, e, ⟨hlt.1, Nat.lt_of_lt_of_le hlt.2 hf.2.2.2.1⟩, fun k hk j u hu => ?_⟩
  rw [← hx k hk j u hu]
  unfold World.cell?
  rw [hf.2.2.2.2 g hlt.2 (hO g hlt.1 hlt.2)]
theorem OwB.bdrow {base : Nat} {w : World} {v : Value} {bs : List (List Int)} (h : OwB base w v bs) : BdRow base w v bs := by
  obtain ⟨ao, cap, rfl, -, -, hg⟩ := h.shape
  refine ⟨ao, cap, rfl, fun hp => ?_⟩
  obtain ⟨g, rfl⟩ := hg hp
  have hl := owns_lt h g rfl
  exact ⟨g, 0, rfl, ⟨hl.2, hl.1⟩, fun k hk => by rw [Nat.zero_add]; exact h.row k hk⟩
theorem bdrow_nil (base : Nat) (w : World) : BdRow base w (.slice none 0 0) [] := ⟨none, 0, rfl, fun h => absurd h (by simp)⟩
theorem BdRow.weak {base : Nat} {w : World} {v : Value} {bs : List (List Int)} (h : BdRow base w v bs) : BdRow 0 w v bs := by
  obtain ⟨a, cap, e, hc⟩ := h
  refine ⟨a, cap, e, fun hp => ?_⟩
  obtain ⟨g, off, e, hlt, hx⟩ := hc hp
  exact ⟨g, off, e, ⟨Nat.zero_le _, hlt.2⟩, hx⟩
theorem row_bl {w : World} {g o : Nat} {b : List Int} (h : w.rangeAt g o (bdC b).toList) : (bload (.pointer (some ⟨g, o, none⟩))).run Tryd.prog w = .ok (.agg (bdC b)) w := run_loadAt_mid w g o 41 _ _ h Tryd.underlying41 rfl (by kernel_rfl)
attribute [local go_sem ↓] bload_shut beq_shut
set_option maxRecDepth 100000 in
set_option maxHeartbeats 1000000 in
theorem binds_same (v1 v2 : Value) (b1 b2 : Nat) (bs : List (List Int)) (w : World) (h1 : BdRow b1 w v1 bs) (h2 : BdRow b2 w v2 bs) (hl : bs.length ≤ 1000) :
    Calls Tryd.prog 17 #[v1, v2] w fun e w' => e = .returned (.bool true) ∧ Below w.heap.size w w' := by
  obtain ⟨a, ca, rfl, ha⟩ := h1
  obtain ⟨b, cb, rfl, hb⟩ := h2
  have HA := hide ha
  have HB := hide hb
  generalize hn : bs.length = n at HA HB hl ⊢
  clear ha hb hn
  have hn' : (n : Int) ≤ 1000 := by omega
  have q1 : ((n : Int) != (n : Int)) = false := by simp
  go_enter Tryd.func17, Tryd.ntmps17
  go_wp2
  go_loopw [5] (fun t wr => ∃ k : Nat, k ≤ n ∧ t = .int .i64 k ∧ Hid (Below w.heap.size w wr)) (fun t _ => n - (intOf t).toNat)
  case atStart => exact ⟨0, by omega, rfl, Below.refl _ _⟩
  case round =>
    obtain ⟨k, hk, rfl, HW⟩ := hrel
    by_cases hlt : k < n
    · obtain ⟨ga, oa, rfl, ⟨-, la⟩, xa⟩ := HA.out (by omega)
      obtain ⟨gb, ob, rfl, ⟨-, lb⟩, xb⟩ := HB.out (by omega)
      have j1 : (k : Int) < (n : Int) := by omega
      obtain ⟨bk, hbk⟩ : ∃ x, bs.getD k [] = x := ⟨_, rfl⟩
      have HR := hide (show ∀ W, Below w.heap.size w W → W.rangeAt ga (oa + k * 23) (bdC bk).toList ∧ W.rangeAt gb (ob + k * 23) (bdC bk).toList from fun W hW => ⟨fun j u hu => by rw [hW.cell (p := ⟨ga, oa + k * 23 + j, none⟩) la, xa k hlt j u (by rw [hbk]; exact hu)], fun j u hu => by rw [hW.cell (p := ⟨gb, ob + k * 23 + j, none⟩) lb, xb k hlt j u (by rw [hbk]; exact hu)]⟩)
      clear xa xb HA HB la lb hbk
      have q2 := beq_run bk bk
      rw [eqb_refl] at q2
      go_upto_region 6 with fail
      replace HW := hide (bt HW.out (show Below wr.heap.size wr wr.drew from (Below.refl _ _).drew))
      have HLd := hide (show (bload (.pointer (some ⟨ga, oa + k * 23, none⟩))).run Tryd.prog wr.drew = .ok (.agg (bdC bk)) wr.drew ∧ (bload (.pointer (some ⟨gb, ob + k * 23, none⟩))).run Tryd.prog wr.drew = .ok (.agg (bdC bk)) wr.drew from ⟨row_bl (HR.out _ HW.out).1, row_bl (HR.out _ HW.out).2⟩)
      obtain ⟨e1, e2⟩ := HLd.out
      go_region_held3 (fun w' => (bload (.pointer (some ⟨ga, oa + k * 23, none⟩))).run Tryd.prog w' = .ok (.agg (bdC bk)) w' ∧ (bload (.pointer (some ⟨gb, ob + k * 23, none⟩))).run Tryd.prog w' = .ok (.agg (bdC bk)) w')
        (first
          | go_keep
          | exact HLd.out)
        (fail)
      clear e1 e2 HLd
      generalize wr.drew = wq at HW ⊢
      go_wp2_with fail
      go_roundw
      case rel => exact ⟨k + 1, by omega, by go_num, HW⟩
      case measure => simp [intOf]; omega
    · obtain rfl : n = k := by omega
      go_wp2
      go_ret
      exact ⟨rfl, HW.out⟩
end Go.Proofs.YtjkkonpangcnjaaDoor
