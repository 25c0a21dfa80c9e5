/- What is kept while a flow is read: the answer's block, the bytes. Package proxy: read, by a contract. Package proxy: Decode, by a contract. -/
import Derived.Test.YtkhahbghmdccaaaGreatT15
import Derived.Test.YtkhahbghmdccaaaGreatT18
import Derived.Below
import Derived.OpenShut
import Derived.Test.YtkhahbghmdccaaaGreatProg
import Derived.WalkKit
import Derived.LaidEql
import Derived.BigQuiet
import Derived.Laws.AppendOwnNone
import Derived.Laws.MakeOwn
import Derived.Deep.RegionLaw
import Derived.Lib.Bytes
import Derived.Deep.MidRow
import Derived.Laws.ResultCell
import Derived.Deep.CutBlock
import Derived.Deep.QuietTactic
import Derived.OwnWalk
import Derived.Deep.RegionHeld3
import Derived.Deep.DrawnRows
import Derived.Maps.AppendAt
import Derived.Laws.StructEq
import Derived.ArgAppend
import Derived.Lib.SlBytesConst
import Derived.Lib.AppendStr
import Derived.Test.YtkhahbghmdccaaaGreatT07
namespace Go.Proofs.YtkhahbghmdccaaaGreat
open Go.RowKit
def yzero19 : Array Value := #[.int .i64 0, .int .i64 0, .int .i64 0, .int .i64 0, .int .i64 0, .int .i64 0, .int .i64 0, .int .i64 0, .int .i64 0, .int .i64 0, .int .i64 0, .int .i64 0, .int .i64 0, .int .i64 0, .int .i64 0, .int .i64 0, .int .i64 0, .int .i64 0, .int .i64 0]
theorem yfl_zero (w : World) : FlIn w.heap.size [] (w.alloc (.cells yzero19 61)) := heap_alloc_new w _
def yKO (w : World) (a : Option Addr) (len cap : Nat) (zs : List Int) (W : World) : Prop := FlIn w.heap.size [] W ∧ Row8 W a len cap zs ∧ Below w.heap.size w W
theorem yKO.kept {w : World} {a : Option Addr} {len cap : Nat} {zs : List Int} {W W' : World} (h : yKO w a len cap zs W) (hb : Below W.heap.size W W') : yKO w a len cap zs W' := ⟨h.1.kept hb, h.2.1.below hb, bt h.2.2 hb⟩
theorem yko_new {w : World} {a : Option Addr} {len cap : Nat} {zs : List Int} (h : Row8 w a len cap zs) : yKO w a len cap zs (w.alloc (.cells yzero19 61)) := ⟨yfl_zero w, h.below (al_below _ _), al_below _ _⟩
theorem ysl52 (g off n ca : Nat) (hq : 52 ≤ ca) (w : World) : (slq 28 (.slice (some ⟨g, off, none⟩) n ca) none (some (.int .i64 52)) none).run Tryz.prog w = .ok (.slice (some ⟨g, off, none⟩) 52 ca) w := by
  have j1 : (52 : Int) ≤ (ca : Int) := by omega
  have u := Tryz.underlying28
  have z := Tryz.sizeOf5
  unfold slq
  go_simp
theorem yfbl0 (w : World) : (fbl #[]).run Tryz.prog w = .ok (.agg (flC [])) w := by kernel_rfl
theorem Only.yrowg {B : Nat} {w w' : World} (h : Only B w w') {g off len cap : Nat} {zs : List Int} (hr : Row8 w (some ⟨g, off, none⟩) len cap zs) (hg : g ≠ B) : Row8 w' (some ⟨g, off, none⟩) len cap zs := by
  refine ⟨hr.1, hr.2.1, hr.2.2.1, hr.2.2.2.1, fun hp => ?_⟩
  obtain ⟨b, o, e, hc⟩ := hr.2.2.2.2 hp
  cases e
  exact ⟨g, off, rfl, fun i hi => (World.cell?_of_block (a := ⟨g, off + i, none⟩) (h.2.2.2.2 g hg)).trans (hc i hi)⟩
theorem yKO.yonly {w : World} {g off len cap : Nat} {zs : List Int} {W W' : World} (h : yKO w (some ⟨g, off, none⟩) len cap zs W) {E : Nat} (ho : Only E W W') (hE : w.heap.size < E) (hg : g < w.heap.size) : yKO w (some ⟨g, off, none⟩) len cap zs W' :=
  ⟨(ho.2.2.2.2 w.heap.size (by omega)).trans h.1, ho.yrowg h.2.1 (by omega), ho.below h.2.2 (by omega)⟩
theorem FlIn.yfrozen {B : Nat} {f : List Int} {w : World} (h : FlIn B f w) (j : Nat) : w.frozen? ⟨B, j, none⟩ = false := by
  unfold FlIn at h
  simp [World.frozen?, h]
theorem FlIn.yset {B : Nat} {f f' : List Int} {w : World} (h : FlIn B f w) (j : Nat) (v : Int) (he : ∀ i, i < 19 → el f' i = if i = j then v else el f i) : FlIn B f' (w.setCell ⟨B, j, none⟩ (.int .i64 v)) ∧ Only B w (w.setCell ⟨B, j, none⟩ (.int .i64 v)) := by
  have h' : w.heap[B]? = some (.cells (flC f) 61 (0, 0)) := h
  have e : (flC f).setIfInBounds j (.int .i64 v) = flC f' := by
    apply Array.ext_getElem?
    intro i
    rw [Array.getElem?_setIfInBounds]
    by_cases hi : i < 19
    · rw [flC_at f' i hi, he i hi]
      by_cases hij : j = i
      · subst hij
        rw [if_pos rfl, if_pos rfl, if_pos (show j < (flC f).size from hi)]
      · rw [if_neg hij, if_neg (fun e => hij e.symm), flC_at f i hi]
    · rw [Array.getElem?_eq_none (xs := flC f') (by show 19 ≤ i; omega)]
      by_cases hij : j = i
      · subst hij
        rw [if_pos rfl, if_neg (show ¬ j < (flC f).size from hi)]
      · rw [if_neg hij, Array.getElem?_eq_none (by show 19 ≤ i; omega)]
  rw [setCell_eq_setRow w B j _ 61 (0, 0) (.int .i64 v) h', e]
  exact ⟨setRow_heap w B _ _ _ (0, 0) h, only_setRow _ _ _⟩
theorem FlIn.ycongr {B : Nat} {f f' : List Int} {w : World} (h : FlIn B f w) (he : ∀ j, j < 19 → el f j = el f' j) : FlIn B f' w := by
  unfold FlIn at h ⊢
  rw [flC_congr he] at h
  exact h
theorem yat_storef {ops : Array Oper} {rest : List Oper} {o : Oper} {f : Act} {w : World} {Q : Exit → Act → World → Prop} (hgd : o.guard = none) (x y : Operand) (ho : o.op = .store 61 x y)
    {B : Nat} {b0 : List Int} (hx : f.eval x = .pointer (some ⟨B, 0, none⟩)) (p : FlIn B b0 w) (b : List Int) (hy : f.eval y = .agg (flC b))
    (hK : ∀ w', FlIn B b w' → Only B w w' → wpList Tryz.prog ops Q rest (f.put o.dst undef) w') : wpList Tryz.prog ops Q (o :: rest) f w :=
  wpList_store_row hgd 61 x y ho B _ hx hy 61 _ p (by kernel_rfl) rfl (by unfold flC; simp [Value.oneCell']) (hK _ (setRow_heap w B _ _ _ (0, 0) p) (only_setRow _ _ _))
end Go.Proofs.YtkhahbghmdccaaaGreat

namespace Go.Proofs.YtkhahbghmdccaaaGreat
open Go.RowKit
def pf (zs : List Int) : List Int := kc (zs.getD 13 0) :: (adr zs 16 ++ [P4.wd zs 48] ++ adr zs 32 ++ [P4.wd zs 50])
theorem pf_cli (zs : List Int) (k : Nat) (hk : k < 8) : el (pf zs) (1 + k) = zs.getD (16 + 2 * k) 0 * 256 + zs.getD (16 + 2 * k + 1) 0 := by
  rcases (by omega : k = 0 ∨ k = 1 ∨ k = 2 ∨ k = 3 ∨ k = 4 ∨ k = 5 ∨ k = 6 ∨ k = 7) with rfl | rfl | rfl | rfl | rfl | rfl | rfl | rfl <;> rfl
theorem pf_dst (zs : List Int) (k : Nat) (hk : k < 8) : el (pf zs) (10 + k) = zs.getD (32 + 2 * k) 0 * 256 + zs.getD (32 + 2 * k + 1) 0 := by
  rcases (by omega : k = 0 ∨ k = 1 ∨ k = 2 ∨ k = 3 ∨ k = 4 ∨ k = 5 ∨ k = 6 ∨ k = 7) with rfl | rfl | rfl | rfl | rfl | rfl | rfl | rfl <;> rfl
def g0 (k p q : Int) : List Int := [k, 0, 0, 0, 0, 0, 0, 0, 0, p, 0, 0, 0, 0, 0, 0, 0, 0, q]
theorem fbl3 (k p q : Int) (w : World) : (fbl #[(0, .int .i64 k), (2, .int .i64 p), (4, .int .i64 q)]).run Tryz.prog w = .ok (.agg (flC (g0 k p q))) w := by kernel_rfl
def mf (F G : List Int) (a b : Nat) : List Int := (List.range 19).map fun j => if (1 ≤ j ∧ j < 1 + a) ∨ (10 ≤ j ∧ j < 10 + b) then el F j else el G j
theorem el_mf (F G : List Int) (a b j : Nat) (hj : j < 19) : el (mf F G a b) j = if (1 ≤ j ∧ j < 1 + a) ∨ (10 ≤ j ∧ j < 10 + b) then el F j else el G j := by
  simp [el, mf, List.getD, hj]
theorem mf_zero (F G : List Int) : ∀ j, j < 19 → el G j = el (mf F G 0 0) j := fun j hj => by rw [el_mf F G 0 0 j hj, if_neg (by omega)]
theorem mf_cli (F G : List Int) (k : Nat) (hk : k < 8) : ∀ i, i < 19 → el (mf F G (k + 1) k) i = if i = 1 + k then el F (1 + k) else el (mf F G k k) i := fun i hi => by
  rw [el_mf F G (k + 1) k i hi, el_mf F G k k i hi]
  by_cases e : i = 1 + k
  · subst e; rw [if_pos (by omega), if_pos rfl]
  · rw [if_neg e]
    by_cases h : (1 ≤ i ∧ i < 1 + k) ∨ (10 ≤ i ∧ i < 10 + k)
    · rw [if_pos h, if_pos (by omega)]
    · rw [if_neg h, if_neg (by omega)]
theorem mf_dst (F G : List Int) (k : Nat) (hk : k < 8) : ∀ i, i < 19 → el (mf F G (k + 1) (k + 1)) i = if i = 10 + k then el F (10 + k) else el (mf F G (k + 1) k) i := fun i hi => by
  rw [el_mf F G (k + 1) (k + 1) i hi, el_mf F G (k + 1) k i hi]
  by_cases e : i = 10 + k
  · subst e; rw [if_pos (by omega), if_pos rfl]
  · rw [if_neg e]
    by_cases h : (1 ≤ i ∧ i < 1 + (k + 1)) ∨ (10 ≤ i ∧ i < 10 + k)
    · rw [if_pos h, if_pos (by omega)]
    · rw [if_neg h, if_neg (by omega)]
theorem mf_all (F G : List Int) (h0 : el F 0 = el G 0) (h9 : el F 9 = el G 9) (h18 : el F 18 = el G 18) : ∀ j, j < 19 → el (mf F G 8 8) j = el F j := fun j hj => by
  rw [el_mf F G 8 8 j hj]
  by_cases h : (1 ≤ j ∧ j < 1 + 8) ∨ (10 ≤ j ∧ j < 10 + 8)
  · rw [if_pos h]
  · rw [if_neg h]
    rcases (by omega : j = 0 ∨ j = 9 ∨ j = 18) with rfl | rfl | rfl
    · exact h0.symm
    · exact h9.symm
    · exact h18.symm
theorem results_f1 {fn : Func} {p : Tmp} (h : fn.results = #[.cell p 61]) (tmps : Array Value) (w : World) (B : Nat) (f : List Int) (ht : tmps.getD p undef = .pointer (some ⟨B, 0, none⟩)) (hg : FlIn B f w) : (results fn tmps).run Tryz.prog w = .ok (.agg (flC f)) w :=
  results_cell_row h tmps w B 61 _ (0, 0) _ ht hg Tryz.underlying61 rfl (by kernel_rfl)
attribute [local go_sem ↓] fbl_shut fload_shut
set_option maxRecDepth 100000 in
set_option maxHeartbeats 4000000 in
theorem yread_any (g off len cap : Nat) (zs : List Int) (w : World) (hr : Row8 w (some ⟨g, off, none⟩) len cap zs) (h : 52 ≤ len) :
    Calls Tryz.prog 92 #[.slice (some ⟨g, off, none⟩) len cap] w fun e w' => e = .returned (.agg (flC (pf zs))) ∧ Below w.heap.size w w' := by
  have HK := hide (yko_new hr)
  have HZ := hide yfl_zero
  unfold yzero19 at HK HZ
  have HNum := hide (fun W (k : Nat) (K : Int) (hK : K = (k : Int)) (hk : k + 1 < 52) (hW : Row8 W (some ⟨g, off, none⟩) len cap zs) => ynumber_at g off len cap zs W k K hK (by omega) hW)
  have N48 := hide (fun W (hW : Row8 W (some ⟨g, off, none⟩) len cap zs) => ynumber_at g off len cap zs W 48 48 rfl (by omega) hW)
  have N50 := hide (fun W (hW : Row8 W (some ⟨g, off, none⟩) len cap zs) => ynumber_at g off len cap zs W 50 50 rfl (by omega) hW)
  have HKi := hide (fun W => kindof_any (zs.getD 13 0) W)
  have fb := fbl3 (kc (zs.getD 13 0)) (zs.getD 48 0 * 256 + zs.getD 49 0) (zs.getD 50 0 * 256 + zs.getD 51 0)
  have HF0 := hide (show el (pf zs) 0 = kc (zs.getD 13 0) from rfl)
  have HF9 := hide (show el (pf zs) 9 = zs.getD 48 0 * 256 + zs.getD 49 0 by show 256 * zs.getD 48 0 + zs.getD 49 0 = _; omega)
  have HF18 := hide (show el (pf zs) 18 = zs.getD 50 0 * 256 + zs.getD 51 0 by show 256 * zs.getD 50 0 + zs.getD 51 0 = _; omega)
  have c13 : ∀ W, Row8 W (some ⟨g, off, none⟩) len cap zs → W.cell? ⟨g, off + 13, none⟩ = some (.int .u8 (zs.getD 13 0)) := fun W hW => by obtain ⟨b, o, e, hc⟩ := hW.2.2.2.2 (by omega); cases e; exact hc 13 (by omega)
  replace c13 := c13 _ HK.out.2.1
  have HPc := hide (pf_cli zs)
  have HPd := hide (pf_dst zs)
  generalize zs.getD 13 0 = z13 at HKi fb HF0 c13
  generalize kc z13 = kz at HKi fb HF0
  rw [show (48 : Nat) + 1 = 49 from rfl] at N48
  rw [show (50 : Nat) + 1 = 51 from rfl] at N50
  generalize zs.getD 48 0 * 256 + zs.getD 49 0 = pz at N48 fb HF9
  generalize zs.getD 50 0 * 256 + zs.getD 51 0 = qz at N50 fb HF18
  have i5 : (13 : Int) < (len : Int) := by omega
  have hgl : g < w.heap.size := World.block_lt_of_cell? w ⟨g, off + 0, none⟩ (by obtain ⟨b, o, e, hc⟩ := hr.2.2.2.2 (by omega); cases e; exact hc 0 (by omega))
  generalize pf zs = F at HF0 HF9 HF18 HPc HPd ⊢
  clear hr
  go_enter Tryz.func92, Tryz.ntmps92
  go_upto_region 1 with fail
  generalize w.alloc _ = W at HK c13 ⊢
  go_upto_region 2 with (first
    | (go_at_call 144; (with_reducible refine (HKi.out _).mono ?_); rintro e w1 ⟨rfl, rfl⟩; clear c13; have HR := hide HK.out.2.1)
    | (go_at_call 145; (with_reducible refine (N48.out _ HR.out).mono ?_); rintro e w2 ⟨rfl, hb2⟩; replace HK := hide (HK.out.kept hb2); clear hb2 HR; have HR := hide HK.out.2.1)
    | (go_at_call 145; (with_reducible refine (N50.out _ HR.out).mono ?_); rintro e w3 ⟨rfl, hb3⟩; replace HK := hide (HK.out.kept hb3); clear hb3 HR; have HE := hide (show w.heap.size < w3.heap.size from HK.out.1.lt))
    | (refine yat_storef rfl (.tmp 3) (.tmp 13) rfl rfl (HZ.out w3) (g0 kz pz qz) rfl ?_; intro w4 p4 on4; replace HK := hide (HK.out.kept (new_below _ on4)); have P4 := hide (p4.ycongr (mf_zero F (g0 kz pz qz))); clear on4 p4))
  generalize w3.heap.size = E at HE P4 ⊢
  clear fb HKi N48 N50 HZ i5
  go_upto_region 3 with fail
  go_loopw [14] (fun t wr => ∃ k : Nat, k ≤ 8 ∧ t = .int .i64 k ∧ Hid (FlIn E (mf F (g0 kz pz qz) k k) wr) ∧ Hid (yKO w (some ⟨g, off, none⟩) len cap zs wr)) (fun t _ => 8 - (intOf t).toNat)
  case atStart => exact ⟨0, by omega, rfl, P4, HK⟩
  case round =>
    clear P4 HK
    obtain ⟨k, hk, rfl, HF, HK⟩ := hrel
    by_cases hlt : k < 8
    · have HR := hide HK.out.2.1
      have g2 : IntKind.i64.wrap (2 * (k : Int)) = 2 * (k : Int) := by rw [IntKind.wrap_i64]; omega
      have g3 : IntKind.i64.wrap (16 + 2 * (k : Int)) = 16 + 2 * (k : Int) := by rw [IntKind.wrap_i64]; omega
      have g4 : IntKind.i64.wrap (32 + 2 * (k : Int)) = 32 + 2 * (k : Int) := by rw [IntKind.wrap_i64]; omega
      have i0 : (0 : Int) ≤ (k : Int) := by omega
      have i1 : (k : Int) < 8 := by omega
      have N1 := hide (fun W hW => HNum.out W (16 + 2 * k) (16 + 2 * (k : Int)) (by omega) (by omega) hW)
      have N2 := hide (fun W hW => HNum.out W (32 + 2 * k) (32 + 2 * (k : Int)) (by omega) (by omega) hW)
      have S1 := hide (mf_cli F (g0 kz pz qz) k hlt)
      have S2 := hide (mf_dst F (g0 kz pz qz) k hlt)
      rw [← HPc.out k hlt] at N1
      rw [← HPd.out k hlt] at N2
      generalize el F (1 + k) = x at N1 S1
      generalize el F (10 + k) = y at N2 S2
      go_upto_region 6 with (go_at_call 145; (with_reducible refine (N1.out _ HR.out).mono ?_); rintro e w5 ⟨rfl, hb5⟩; replace HK := hide (HK.out.kept hb5); replace HF := hide (HF.out.kept hb5); clear hb5 HR; have c1 := HF.out.cell (1 + k) (by omega); have z1 := HF.out.yfrozen (1 + k); have Q1 := hide (HF.out.yset (1 + k) x S1.out); have HK1 := hide (HK.out.yonly Q1.out.2 HE.out hgl); have HR := hide HK1.out.2.1)
      clear c1 z1
      replace HF := hide Q1.out.1
      replace HK := HK1
      clear Q1 HK1 S1 N1
      generalize w5.setCell _ _ = w6 at HF HK HR ⊢
      go_upto_region 7 with (go_at_call 145; (with_reducible refine (N2.out _ HR.out).mono ?_); rintro e w7 ⟨rfl, hb7⟩; replace HK := hide (HK.out.kept hb7); replace HF := hide (HF.out.kept hb7); clear hb7 HR; have c1 := HF.out.cell (10 + k) (by omega); have z1 := HF.out.yfrozen (10 + k); have Q1 := hide (HF.out.yset (10 + k) y S2.out); have HK1 := hide (HK.out.yonly Q1.out.2 HE.out hgl))
      clear c1 z1
      replace HF := hide Q1.out.1
      replace HK := HK1
      clear Q1 HK1 S2 N2
      generalize w7.setCell _ _ = w8 at HF HK ⊢
      go_wp2_with fail
      go_roundw
      case rel => exact ⟨k + 1, by omega, by go_num, HF, HK⟩
      case measure => simp [intOf]; omega
    · obtain rfl : k = 8 := by omega
      replace HF := hide (HF.out.ycongr (mf_all F (g0 kz pz qz) HF0.out HF9.out HF18.out))
      have g1 := HF.out.fl
      go_wp2_with (refine yat_storef rfl (.tmp 2) (.tmp 34) rfl rfl HK.out.1 F rfl ?_; intro w5 p5 on5; have HB5 := hide (on5.below HK.out.2.2 (Nat.le_refl _)); replace p5 := hide p5; clear on5)
      try simp only [Exit.inBlock, Exit.then]
      refine bodyPost_ret (results_f1 rfl _ _ w.heap.size F rfl p5.out) rfl ?_
      exact ⟨rfl, HB5.out⟩
end Go.Proofs.YtkhahbghmdccaaaGreat

namespace Go.Proofs.YtkhahbghmdccaaaGreat
open Go.RowKit
theorem results_f3 {fn : Func} {p u v : Tmp} (h : fn.results = #[.cell p 61, .tmp u, .tmp v]) (tmps : Array Value) (w : World) (B : Nat) (b : List Int)
    (ht : tmps.getD p undef = .pointer (some ⟨B, 0, none⟩)) (hg : FlIn B b w) :
    (results fn tmps).run Tryz.prog w = .ok (.tuple #[.agg (flC b), tmps.getD u undef, tmps.getD v undef]) w := by
  have hl := run_loadVar_row (P := Tryz.prog) w B 61 61 _ (0, 0) _ hg Tryz.underlying61 rfl (by kernel_rfl)
  rw [Array.getD_eq_getD_getElem?] at ht
  simp only [results, h]
  simp [Result.andThen, ht, asAddr, hl]
theorem pf_fo {zs : List Int} (h : zs.getD 13 0 = 33 ∨ zs.getD 13 0 = 34) : pf zs = fo zs := by
  unfold pf fo kc
  rcases h with h | h <;> rw [h] <;> rfl
theorem pf_none {zs : List Int} (h1 : ¬ zs.getD 13 0 = 33) (h2 : ¬ zs.getD 13 0 = 34) : okf (pf zs) = false := by
  have e : el (pf zs) 0 = 0 := by
    show kc (zs.getD 13 0) = 0
    unfold kc
    rw [if_neg h1, if_neg h2]
  unfold okf
  rw [e]
  rfl
theorem ydo_none {zs : List Int} (h1 : ¬ zs.getD 13 0 = 33) (h2 : ¬ zs.getD 13 0 = 34) : ydo zs = ([], 0, 5) := by
  unfold ydo
  rw [if_neg]
  rintro ⟨_, e⟩
  have e13 := congrArg (fun l => l.getD 13 0) e
  have l1 : (zs.take 52).getD 13 0 = zs.getD 13 0 := P4.getD_take (by omega)
  have l2 : (hb (fo zs)).getD 13 0 = kd (fo zs) := rfl
  have e' : kd (fo zs) = zs.getD 13 0 := by rw [← l2, ← l1]; exact e13
  unfold kd at e'
  split at e'
  · exact h2 e'.symm
  · exact h1 e'.symm
attribute [local go_sem ↓] slq_shut fbl_shut fload_shut
set_option maxRecDepth 100000 in
set_option maxHeartbeats 2000000 in
theorem ydec_len (a : Option Addr) (len cap : Nat) (zs : List Int) (w : World) (hr : Row8 w a len cap zs) (h : len < 52) :
    Calls Tryz.prog 39 #[.slice a len cap] w fun e w' => e = .returned (.tuple #[.agg (flC []), .int .i64 0, err 5]) ∧ Below w.heap.size w w' := by
  have HK := hide (yko_new hr)
  unfold yzero19 at HK
  have fb := yfbl0
  have j1 : (len : Int) < 52 := by omega
  clear hr h
  go_enter Tryz.func39, Tryz.ntmps39
  go_upto_region 1 with fail
  generalize w.alloc _ = W at HK ⊢
  go_wp2_with (refine yat_storef rfl (.tmp 2) (.tmp 11) rfl rfl HK.out.1 [] rfl ?_; intro w5 p5 on5; have HB5 := hide (on5.below HK.out.2.2 (Nat.le_refl _)); replace p5 := hide p5; clear on5)
  try simp only [Exit.inBlock, Exit.then]
  refine bodyPost_ret (results_f3 rfl _ _ w.heap.size [] rfl p5.out) rfl ?_
  exact ⟨rfl, HB5.out⟩
set_option maxRecDepth 100000 in
set_option maxHeartbeats 4000000 in
theorem ydec_bad (g off len cap : Nat) (zs : List Int) (w : World) (hr : Row8 w (some ⟨g, off, none⟩) len cap zs) (h : 52 ≤ len) (hb : okf (pf zs) = false) :
    Calls Tryz.prog 39 #[.slice (some ⟨g, off, none⟩) len cap] w fun e w' => e = .returned (.tuple #[.agg (flC []), .int .i64 0, err 5]) ∧ Below w.heap.size w w' := by
  have HK := hide (yko_new hr)
  have HZ := hide yfl_zero
  unfold yzero19 at HK HZ
  have HRd := hide (fun W (hW : Row8 W (some ⟨g, off, none⟩) len cap zs) => yread_any g off len cap zs W hW h)
  have HE := hide (fun W => yenc_bad (pf zs) W hb)
  generalize pf zs = F at HRd HE
  unfold err at HE
  have fb := yfbl0
  have j1 : ¬ (len : Int) < 52 := by omega
  clear hr h hb
  go_enter Tryz.func39, Tryz.ntmps39
  go_upto_region 1 with fail
  generalize w.alloc _ = W at HK ⊢
  go_upto_region 4 with (first
    | (go_at_call 92; refine (HRd.out _ HK.out.2.1).mono ?_; rintro e w1 ⟨rfl, hb1⟩; replace HK := hide (HK.out.kept hb1); clear hb1)
    | (refine yat_storef rfl (.tmp 5) (.tmp 14) rfl rfl (HZ.out w1) F rfl ?_; intro w2 p2 on2; replace HK := hide (HK.out.kept (new_below _ on2)); replace p2 := hide p2; clear on2))
  generalize w1.heap.size = E at p2 ⊢
  have g1 := p2.out.fl
  clear HRd HZ j1
  go_wp2_with (first
    | (go_at_call 38; (with_reducible refine (HE.out _).mono ?_); rintro e w3 ⟨rfl, hb3⟩; replace HK := hide (HK.out.kept hb3); clear hb3 g1 p2)
    | (refine yat_storef rfl (.tmp 2) (.tmp 29) rfl rfl HK.out.1 [] rfl ?_; intro w5 p5 on5; have HB5 := hide (on5.below HK.out.2.2 (Nat.le_refl _)); replace p5 := hide p5; clear on5))
  try simp only [Exit.inBlock, Exit.then]
  refine bodyPost_ret (results_f3 rfl _ _ w.heap.size [] rfl p5.out) rfl ?_
  exact ⟨rfl, HB5.out⟩
set_option maxRecDepth 100000 in
set_option maxHeartbeats 4000000 in
theorem ydec_raw (g off len cap : Nat) (zs : List Int) (w : World) (hr : Row8 w (some ⟨g, off, none⟩) len cap zs) (h : 52 ≤ len) (hcl : len ≤ cap) (hb : pf zs = fo zs) :
    Calls Tryz.prog 39 #[.slice (some ⟨g, off, none⟩) len cap] w fun e w' => e = .returned (.tuple #[.agg (flC (ydo zs).1), .int .i64 (ydo zs).2.1, ev (ydo zs).2.2]) ∧ Below w.heap.size w w' := by
  have HK := hide (yko_new hr)
  have HZ := hide yfl_zero
  unfold yzero19 at HK HZ
  have HRd := hide (fun W (hW : Row8 W (some ⟨g, off, none⟩) len cap zs) => yread_any g off len cap zs W hW h)
  have hoct := hr.2.2.1
  rw [hb] at HRd
  have HE := hide (fun W => yenc_ok (fo zs) W (fo_ok hoct))
  have HEL := hide (hb_len (fo zs))
  have HOh := hide (hb_oct (fo_ok hoct))
  have HTk := hide (fun W (hW : Row8 W (some ⟨g, off, none⟩) len cap zs) => row_take hW 52 cap h)
  have HYd := hide (show ydo zs = if decide (Go.Proofs.YtkhahbghmdccaaaGreat.hb (fo zs) = zs.take 52) = true then (fo zs, 52, 0) else ([], 0, 5) by unfold ydo; rw [hr.1]; simp [h])
  have HSame := hide (show Go.Proofs.YtkhahbghmdccaaaGreat.hb (fo zs) = zs.take 52 ↔ decide (Go.Proofs.YtkhahbghmdccaaaGreat.hb (fo zs) = zs.take 52) = true by simp)
  generalize decide (Go.Proofs.YtkhahbghmdccaaaGreat.hb (fo zs) = zs.take 52) = r at HYd HSame
  generalize Go.Proofs.YtkhahbghmdccaaaGreat.hb (fo zs) = X at HE HEL HOh HSame
  generalize fo zs = F at HRd HE HYd
  generalize zs.take 52 = Y at HTk HSame
  generalize ydo zs = yy at HYd ⊢
  have fb := yfbl0
  have s52 := ysl52 g off len cap (by omega)
  have j1 : ¬ (len : Int) < 52 := by omega
  clear hr h hb hoct hcl
  go_enter Tryz.func39, Tryz.ntmps39
  go_upto_region 1 with fail
  generalize w.alloc _ = W at HK ⊢
  go_upto_region 4 with (first
    | (go_at_call 92; refine (HRd.out _ HK.out.2.1).mono ?_; rintro e w1 ⟨rfl, hb1⟩; replace HK := hide (HK.out.kept hb1); clear hb1)
    | (refine yat_storef rfl (.tmp 5) (.tmp 14) rfl rfl (HZ.out w1) F rfl ?_; intro w2 p2 on2; replace HK := hide (HK.out.kept (new_below _ on2)); replace p2 := hide p2; clear on2))
  generalize w1.heap.size = E at p2 ⊢
  have g1 := p2.out.fl
  clear HRd HZ j1
  go_upto_region 5 with (go_at_call 38; (with_reducible refine (HE.out _).mono ?_); rintro e w3 ⟨v3, rfl, o3, hb3⟩; obtain ⟨a3, c3, rfl, r3, -⟩ := o3.row8; rw [HEL.out] at r3 ⊢; replace HK := hide (HK.out.kept hb3); replace p2 := hide (p2.out.kept hb3); clear hb3 g1 o3)
  have HEq := hide (equal_any _ _ _ _ _ _ _ _ _ r3 (HTk.out _ HK.out.2.1) r HSame.out)
  have g1 := p2.out.fl
  clear r3 HTk HSame HE
  cases r
  · obtain rfl : yy = ([], 0, 5) := HYd.out
    clear HYd
    go_wp2_with (first
      | (go_at_call 62; refine HEq.out.mono ?_; rintro e w4 ⟨rfl, rfl⟩)
      | (refine yat_storef rfl (.tmp 2) (.tmp 29) rfl rfl HK.out.1 [] rfl ?_; intro w5 p5 on5; have HB5 := hide (on5.below HK.out.2.2 (Nat.le_refl _)); replace p5 := hide p5; clear on5))
    try simp only [Exit.inBlock, Exit.then]
    refine bodyPost_ret (results_f3 rfl _ _ w.heap.size [] rfl p5.out) rfl ?_
    exact ⟨rfl, HB5.out⟩
  · obtain rfl : yy = (F, 52, 0) := HYd.out
    clear HYd
    go_wp2_with (first
      | (go_at_call 62; refine HEq.out.mono ?_; rintro e w4 ⟨rfl, rfl⟩)
      | (refine yat_storef rfl (.tmp 2) (.tmp 31) rfl rfl HK.out.1 F rfl ?_; intro w5 p5 on5; have HB5 := hide (on5.below HK.out.2.2 (Nat.le_refl _)); replace p5 := hide p5; clear on5))
    try simp only [Exit.inBlock, Exit.then]
    refine bodyPost_ret (results_f3 rfl _ _ w.heap.size F rfl p5.out) rfl ?_
    exact ⟨rfl, HB5.out⟩
theorem ydecode : JYd := by
  intro a len cap zs w hr hcl hcm
  by_cases h : 52 ≤ len
  · obtain ⟨g, off, rfl, _⟩ := hr.2.2.2.2 (by omega)
    by_cases h1 : zs.getD 13 0 = 33
    · exact ydec_raw g off len cap zs w hr h hcl (pf_fo (.inl h1))
    · by_cases h2 : zs.getD 13 0 = 34
      · exact ydec_raw g off len cap zs w hr h hcl (pf_fo (.inr h2))
      · rw [ydo_none h1 h2]
        exact ydec_bad g off len cap zs w hr h (pf_none h1 h2)
  · have e : ydo zs = ([], 0, 5) := by unfold ydo; rw [if_neg]; rw [hr.1]; exact fun h' => h h'.1
    rw [e]
    exact ydec_len a len cap zs w hr (by omega)
end Go.Proofs.YtkhahbghmdccaaaGreat
