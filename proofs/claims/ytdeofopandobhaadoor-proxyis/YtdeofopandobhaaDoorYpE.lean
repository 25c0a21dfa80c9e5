/- Package proxy: read, by a contract. -/
import Derived.Test.YtdeofopandobhaaDoorYpD
namespace Go.Proofs.YtdeofopandobhaaDoor
open Go.RowKit

/-- the flow that is read of bytes, whatever they are. -/
def pf (zs : List Int) : List Int := kc (zs.getD 13 0) :: (adr zs 16 ++ [P4.wd zs 48] ++ adr zs 32 ++ [P4.wd zs 50])
theorem pf_cli (zs : List Int) (k : Nat) (hk : k < 8) : el (pf zs) (1 + k) = zs.getD (16 + 2 * k) 0 * 256 + zs.getD (16 + 2 * k + 1) 0 := by
  rcases (by omega : k = 0 ∨ k = 1 ∨ k = 2 ∨ k = 3 ∨ k = 4 ∨ k = 5 ∨ k = 6 ∨ k = 7) with rfl | rfl | rfl | rfl | rfl | rfl | rfl | rfl <;> rfl
theorem pf_dst (zs : List Int) (k : Nat) (hk : k < 8) : el (pf zs) (10 + k) = zs.getD (32 + 2 * k) 0 * 256 + zs.getD (32 + 2 * k + 1) 0 := by
  rcases (by omega : k = 0 ∨ k = 1 ∨ k = 2 ∨ k = 3 ∨ k = 4 ∨ k = 5 ∨ k = 6 ∨ k = 7) with rfl | rfl | rfl | rfl | rfl | rfl | rfl | rfl <;> rfl
/-- a flow without addresses. -/
def g0 (k p q : Int) : List Int := [k, 0, 0, 0, 0, 0, 0, 0, 0, p, 0, 0, 0, 0, 0, 0, 0, 0, q]
theorem fbl3 (k p q : Int) (w : World) : (fbl #[(0, .int .i64 k), (2, .int .i64 p), (4, .int .i64 q)]).run Tryd.prog w = .ok (.agg (flC (g0 k p q))) w := by kernel_rfl
/-- of two flows: so many numbers of the one's addresses, all else the other's. -/
def mf (F G : List Int) (a b : Nat) : List Int := (List.range 19).map fun j => if (1 ≤ j ∧ j < 1 + a) ∨ (10 ≤ j ∧ j < 10 + b) then el F j else el G j
theorem el_mf (F G : List Int) (a b j : Nat) (hj : j < 19) : el (mf F G a b) j = if (1 ≤ j ∧ j < 1 + a) ∨ (10 ≤ j ∧ j < 10 + b) then el F j else el G j := by
  simp [el, mf, List.getD, hj]
theorem mf_zero (F G : List Int) : ∀ j, j < 19 → el G j = el (mf F G 0 0) j := fun j hj => by rw [el_mf F G 0 0 j hj, if_neg (by omega)]
theorem mf_cli (F G : List Int) (k : Nat) (hk : k < 8) : ∀ i, i < 19 → el (mf F G (k + 1) k) i = if i = 1 + k then el F (1 + k) else el (mf F G k k) i := fun i hi => by
  rw [el_mf F G (k + 1) k i hi, el_mf F G k k i hi]
  by_cases e : i = 1 + k
  · subst e; rw [if_pos (by omega), if_pos rfl]
  · rw [if_neg e]
    by_cases h : (1 ≤ i ∧ i < 1 + k) ∨ (10 ≤ i ∧ i < 10 + k)
    · rw [if_pos h, if_pos (by omega)]
    · rw [if_neg h, if_neg (by omega)]
theorem mf_dst (F G : List Int) (k : Nat) (hk : k < 8) : ∀ i, i < 19 → el (mf F G (k + 1) (k + 1)) i = if i = 10 + k then el F (10 + k) else el (mf F G (k + 1) k) i := fun i hi => by
  rw [el_mf F G (k + 1) (k + 1) i hi, el_mf F G (k + 1) k i hi]
  by_cases e : i = 10 + k
  · subst e; rw [if_pos (by omega), if_pos rfl]
  · rw [if_neg e]
    by_cases h : (1 ≤ i ∧ i < 1 + (k + 1)) ∨ (10 ≤ i ∧ i < 10 + k)
    · rw [if_pos h, if_pos (by omega)]
    · rw [if_neg h, if_neg (by omega)]
theorem mf_all (F G : List Int) (h0 : el F 0 = el G 0) (h9 : el F 9 = el G 9) (h18 : el F 18 = el G 18) : ∀ j, j < 19 → el (mf F G 8 8) j = el F j := fun j hj => by
  rw [el_mf F G 8 8 j hj]
  by_cases h : (1 ≤ j ∧ j < 1 + 8) ∨ (10 ≤ j ∧ j < 10 + 8)
  · rw [if_pos h]
  · rw [if_neg h]
    rcases (by omega : j = 0 ∨ j = 9 ∨ j = 18) with rfl | rfl | rfl
    · exact h0.symm
    · exact h9.symm
    · exact h18.symm
theorem results_f1 {fn : Func} {p : Tmp} (h : fn.results = #[.cell p 25]) (tmps : Array Value) (w : World) (B : Nat) (f : List Int) (ht : tmps.getD p undef = .pointer (some ⟨B, 0, none⟩)) (hg : FlIn B f w) : (results fn tmps).run Tryd.prog w = .ok (.agg (flC f)) w :=
  results_cell_row h tmps w B 25 _ (0, 0) _ ht hg Tryd.underlying25 rfl (by kernel_rfl)
attribute [local go_sem ↓] fbl_shut fload_shut
set_option maxRecDepth 100000 in
set_option maxHeartbeats 4000000 in
theorem read_any (g off len cap : Nat) (zs : List Int) (w : World) (hr : Row8 w (some ⟨g, off, none⟩) len cap zs) (h : 52 ≤ len) :
    Calls Tryd.prog 20 #[.slice (some ⟨g, off, none⟩) len cap] w fun e w' => e = .returned (.agg (flC (pf zs))) ∧ Below w.heap.size w w' := by
  have HK := hide (ko_new hr)
  have HZ := hide fl_zero
  unfold zero19 at HK HZ
  have HNum := hide (fun W (k : Nat) (K : Int) (hK : K = (k : Int)) (hk : k + 1 < 52) (hW : Row8 W (some ⟨g, off, none⟩) len cap zs) => number_at g off len cap zs W k K hK (by omega) hW)
  have N48 := hide (fun W (hW : Row8 W (some ⟨g, off, none⟩) len cap zs) => number_at g off len cap zs W 48 48 rfl (by omega) hW)
  have N50 := hide (fun W (hW : Row8 W (some ⟨g, off, none⟩) len cap zs) => number_at g off len cap zs W 50 50 rfl (by omega) hW)
  have HKi := hide (fun W => kindof_any (zs.getD 13 0) W)
  have fb := fbl3 (kc (zs.getD 13 0)) (zs.getD 48 0 * 256 + zs.getD 49 0) (zs.getD 50 0 * 256 + zs.getD 51 0)
  have HF0 := hide (show el (pf zs) 0 = kc (zs.getD 13 0) from rfl)
  have HF9 := hide (show el (pf zs) 9 = zs.getD 48 0 * 256 + zs.getD 49 0 by show 256 * zs.getD 48 0 + zs.getD 49 0 = _; omega)
  have HF18 := hide (show el (pf zs) 18 = zs.getD 50 0 * 256 + zs.getD 51 0 by show 256 * zs.getD 50 0 + zs.getD 51 0 = _; omega)
  have c13 : ∀ W, Row8 W (some ⟨g, off, none⟩) len cap zs → W.cell? ⟨g, off + 13, none⟩ = some (.int .u8 (zs.getD 13 0)) := fun W hW => by obtain ⟨b, o, e, hc⟩ := hW.2.2.2.2 (by omega); cases e; exact hc 13 (by omega)
  replace c13 := c13 _ HK.out.2.1
  have HPc := hide (pf_cli zs)
  have HPd := hide (pf_dst zs)
  generalize zs.getD 13 0 = z13 at HKi fb HF0 c13
  generalize kc z13 = kz at HKi fb HF0
  rw [show (48 : Nat) + 1 = 49 from rfl] at N48
  rw [show (50 : Nat) + 1 = 51 from rfl] at N50
  generalize zs.getD 48 0 * 256 + zs.getD 49 0 = pz at N48 fb HF9
  generalize zs.getD 50 0 * 256 + zs.getD 51 0 = qz at N50 fb HF18
  have i5 : (13 : Int) < (len : Int) := by omega
  have hgl : g < w.heap.size := World.block_lt_of_cell? w ⟨g, off + 0, none⟩ (by obtain ⟨b, o, e, hc⟩ := hr.2.2.2.2 (by omega); cases e; exact hc 0 (by omega))
  generalize pf zs = F at HF0 HF9 HF18 HPc HPd ⊢
  clear hr
  go_enter Tryd.func20, Tryd.ntmps20
  go_upto_region 1 with fail
  generalize w.alloc _ = W at HK c13 ⊢
  go_upto_region 2 with (first
    | (go_at_call 25; (with_reducible refine (HKi.out _).mono ?_); rintro e w1 ⟨rfl, rfl⟩; clear c13; have HR := hide HK.out.2.1)
    | (go_at_call 26; (with_reducible refine (N48.out _ HR.out).mono ?_); rintro e w2 ⟨rfl, hb2⟩; replace HK := hide (HK.out.kept hb2); clear hb2 HR; have HR := hide HK.out.2.1)
    | (go_at_call 26; (with_reducible refine (N50.out _ HR.out).mono ?_); rintro e w3 ⟨rfl, hb3⟩; replace HK := hide (HK.out.kept hb3); clear hb3 HR; have HE := hide (show w.heap.size < w3.heap.size from HK.out.1.lt))
    | (refine at_storef rfl (.tmp 3) (.tmp 13) rfl rfl (HZ.out w3) (g0 kz pz qz) rfl ?_; intro w4 p4 on4; replace HK := hide (HK.out.kept (new_below _ on4)); have P4 := hide (p4.congr (mf_zero F (g0 kz pz qz))); clear on4 p4))
  generalize w3.heap.size = E at HE P4 ⊢
  clear fb HKi N48 N50 HZ i5
  go_upto_region 3 with fail
  go_loopw [14] (fun t wr => ∃ k : Nat, k ≤ 8 ∧ t = .int .i64 k ∧ Hid (FlIn E (mf F (g0 kz pz qz) k k) wr) ∧ Hid (KO w (some ⟨g, off, none⟩) len cap zs wr)) (fun t _ => 8 - (intOf t).toNat)
  case atStart => exact ⟨0, by omega, rfl, P4, HK⟩
  case round =>
    clear P4 HK
    obtain ⟨k, hk, rfl, HF, HK⟩ := hrel
    by_cases hlt : k < 8
    · have HR := hide HK.out.2.1
      have g2 : IntKind.i64.wrap (2 * (k : Int)) = 2 * (k : Int) := by rw [IntKind.wrap_i64]; omega
      have g3 : IntKind.i64.wrap (16 + 2 * (k : Int)) = 16 + 2 * (k : Int) := by rw [IntKind.wrap_i64]; omega
      have g4 : IntKind.i64.wrap (32 + 2 * (k : Int)) = 32 + 2 * (k : Int) := by rw [IntKind.wrap_i64]; omega
      have i0 : (0 : Int) ≤ (k : Int) := by omega
      have i1 : (k : Int) < 8 := by omega
      have N1 := hide (fun W hW => HNum.out W (16 + 2 * k) (16 + 2 * (k : Int)) (by omega) (by omega) hW)
      have N2 := hide (fun W hW => HNum.out W (32 + 2 * k) (32 + 2 * (k : Int)) (by omega) (by omega) hW)
      have S1 := hide (mf_cli F (g0 kz pz qz) k hlt)
      have S2 := hide (mf_dst F (g0 kz pz qz) k hlt)
      rw [← HPc.out k hlt] at N1
      rw [← HPd.out k hlt] at N2
      generalize el F (1 + k) = x at N1 S1
      generalize el F (10 + k) = y at N2 S2
      go_upto_region 6 with (go_at_call 26; (with_reducible refine (N1.out _ HR.out).mono ?_); rintro e w5 ⟨rfl, hb5⟩; replace HK := hide (HK.out.kept hb5); replace HF := hide (HF.out.kept hb5); clear hb5 HR; have c1 := HF.out.cell (1 + k) (by omega); have z1 := HF.out.frozen (1 + k); have Q1 := hide (HF.out.set (1 + k) x S1.out); have HK1 := hide (HK.out.only Q1.out.2 HE.out hgl); have HR := hide HK1.out.2.1)
      clear c1 z1
      replace HF := hide Q1.out.1
      replace HK := HK1
      clear Q1 HK1 S1 N1
      generalize w5.setCell _ _ = w6 at HF HK HR ⊢
      go_upto_region 7 with (go_at_call 26; (with_reducible refine (N2.out _ HR.out).mono ?_); rintro e w7 ⟨rfl, hb7⟩; replace HK := hide (HK.out.kept hb7); replace HF := hide (HF.out.kept hb7); clear hb7 HR; have c1 := HF.out.cell (10 + k) (by omega); have z1 := HF.out.frozen (10 + k); have Q1 := hide (HF.out.set (10 + k) y S2.out); have HK1 := hide (HK.out.only Q1.out.2 HE.out hgl))
      clear c1 z1
      replace HF := hide Q1.out.1
      replace HK := HK1
      clear Q1 HK1 S2 N2
      generalize w7.setCell _ _ = w8 at HF HK ⊢
      go_wp2_with fail
      go_roundw
      case rel => exact ⟨k + 1, by omega, by go_num, HF, HK⟩
      case measure => simp [intOf]; omega
    · obtain rfl : k = 8 := by omega
      replace HF := hide (HF.out.congr (mf_all F (g0 kz pz qz) HF0.out HF9.out HF18.out))
      have g1 := HF.out.fl
      go_wp2_with (refine at_storef rfl (.tmp 2) (.tmp 34) rfl rfl HK.out.1 F rfl ?_; intro w5 p5 on5; have HB5 := hide (on5.below HK.out.2.2 (Nat.le_refl _)); replace p5 := hide p5; clear on5)
      try simp only [Exit.inBlock, Exit.then]
      refine bodyPost_ret (results_f1 rfl _ _ w.heap.size F rfl p5.out) rfl ?_
      exact ⟨rfl, HB5.out⟩
end Go.Proofs.YtdeofopandobhaaDoor
