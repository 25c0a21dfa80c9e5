/- The program's Blocks of somebody, and New, by contracts. -/
import Derived.Test.YtchjhmokmpjbdaaDoorPbF
namespace Go.Proofs.YtchjhmokmpjbdaaDoor
open Go.RowKit

/-- the numbers below n that are picked. -/
def bq (f : Nat → Bool) : Nat → List Nat
  | 0 => []
  | k + 1 => bq f k ++ (if f k = true then [k] else [])
theorem bq_len (f : Nat → Bool) (k : Nat) : (bq f k).length ≤ k := by
  induction k with
  | zero => exact Nat.le_refl _
  | succ k ih => simp only [bq]; rw [List.length_append]; split <;> simp <;> omega
theorem Kp.grown {w : World} {B BB m : Nat} {ow : Nat → List Int} {ts : Nat → Bool} {z : List Int} {W W' : World} (h : Kp w B BB m ow ts z W) (hB : B < w.heap.size) (hBB : BB < w.heap.size) {r : Option Nat} (hg : W.grownBy W' r) (hr : ∀ k, r = some k → w.heap.size + 1 ≤ k) : Kp w B BB m ow ts z W' := by
  have hne : ∀ g, g ≤ w.heap.size → some g ≠ r := fun g hgl e => by have := hr g e.symm; omega
  have hs := h.2.2.size
  have hz := h.2.1.lt
  exact ⟨⟨(hg.block _ (by omega) (hne B (by omega))).trans h.1.1, h.1.2.same (hg.block _ (by omega) (hne BB (by omega)))⟩, (hg.block _ hz (hne _ (Nat.le_refl _))).trans h.2.1, h.2.2.grown hg hs (fun k e => by have := hr k e; omega)⟩
set_option maxRecDepth 100000 in
set_option maxHeartbeats 1000000 in
theorem pblocks_bad (v : Value) (z : List Int) (w : World) (hz : ¬ Ok6 z) :
    Calls Tryd.prog 18 #[v, .agg (sixC z)] w fun e w' => e = .returned (.tuple #[.slice none 0 0, err 1]) ∧ Below w.heap.size w w' := by
  have HB := hide (al_below w (.cells (sixC z) 33))
  have HZ := hide (show SixIn w.heap.size z (w.alloc (.cells (sixC z) 33)) from six_new z w)
  have HC := hide (fun W => pcheck_bad z W hz)
  clear hz
  go_enter Tryd.func18, Tryd.ntmps18
  go_upto_region 1 with fail
  generalize w.alloc _ = W at HB HZ ⊢
  go_wp2_with (first
    | (refine at_load6 rfl (.tmp 3) rfl rfl HZ.out ?_)
    | (go_at_call 23; refine (HC.out _).mono ?_; rintro e w1 ⟨rfl, hb1⟩; replace HB := hide (bt HB.out hb1); clear hb1))
  go_ret2
  exact ⟨rfl, HB.out⟩
attribute [local go_sem ↓] pload_shut
set_option maxRecDepth 100000 in
set_option maxHeartbeats 2000000 in
theorem pblocks_any (B BB m : Nat) (ow : Nat → List Int) (ts : Nat → Bool) (z : List Int) (w : World) (h : BP B BB m ow ts w) (hm : m ≤ 16) (hz : Ok6 z) :
    Calls Tryd.prog 18 #[.pointer (some ⟨B, 0, none⟩), .agg (sixC z)] w fun e w' => ∃ v, e = .returned (.tuple #[v, .nilIface]) ∧ OwnG 3 (w.heap.size + 1) w' v (iv (bq (mine ow ts z) m)) ∧ Below w.heap.size w w' := by
  have HK := hide (show Kp w B BB m ow ts z (w.alloc (.cells (sixC z) 33)) from ⟨h.kept (al_below _ _), six_new z w, al_below _ _⟩)
  have hwz : w.heap.size + 1 ≤ (w.alloc (.cells (sixC z) 33)).heap.size := by simp
  have HC := hide (fun W => pcheck_ok z W hz)
  have HL := hide (And.intro h.lt h.2.lt)
  have hm' : (m : Int) ≤ 16 := by omega
  clear h hz
  go_enter Tryd.func18, Tryd.ntmps18
  go_upto_region 1 with fail
  generalize w.alloc _ = W at HK hwz ⊢
  have HW := hide hwz
  clear hwz
  go_upto_region 2 with (first
    | (refine at_load6 rfl (.tmp 3) rfl rfl HK.out.2.1 ?_)
    | (go_at_call 23; refine (HC.out _).mono ?_; rintro e w1 ⟨rfl, hb1⟩; replace HK := hide (HK.out.kept hb1); replace HW := hide (Nat.le_trans HW.out hb1.size); clear hb1))
  have l1 := HK.out.1.row
  go_wp2
  go_loopw [7, 20] (fun v i wr => ∃ k : Nat, k ≤ m ∧ i = .int .i64 k ∧ Hid (OwnG 3 (w.heap.size + 1) wr v (iv (bq (mine ow ts z) k))) ∧ Hid (Kp w B BB m ow ts z wr) ∧ Hid (w.heap.size + 1 ≤ wr.heap.size)) (fun _ i _ => m - (intOf i).toNat)
  case atStart => exact ⟨0, by omega, rfl, OwnG.nil _ _ _, HK, HW⟩
  case round =>
    clear HK l1 HW
    obtain ⟨k, hk, rfl, HO, HV, HW⟩ := hrel
    by_cases hlt : k < m
    · have j1 : (k : Int) < (m : Int) := by omega
      have HLN := hide (bq_len (mine ow ts z) k)
      have HBS := hide (show bq (mine ow ts z) (k + 1) = bq (mine ow ts z) k ++ (if mine ow ts z k = true then [k] else []) from rfl)
      have HC1 := hide (fun W => show Calls Tryd.prog 29 #[.agg (pbC (ow k) (sb ts k)), .agg (sixC z)] W fun e w' => e = .returned (.bool (mine ow ts z k)) ∧ Below W.heap.size W w' from isof_any (ow k) (sb ts k) z W)
      go_upto_region 8 with (first
        | (refine at_brow rfl (.tmp 23) rfl k _ rfl (by omega) hlt HV.out.1.2 ?_; have HZ := hide (pb_zero wr))
        | (refine at_storepb rfl (.tmp 9) (.tmp 24) rfl rfl HZ.out (ow k) (sb ts k) rfl ?_; intro w2 p2 on2; have hb2 := new_below _ on2; replace HV := hide (HV.out.kept hb2); replace HO := hide (HO.out.kept hb2); replace HW := hide (Nat.le_trans HW.out hb2.size); replace p2 := hide p2; clear on2 hb2 HZ))
      generalize wr.heap.size = B2 at p2 ⊢
      generalize mine ow ts z k = b at HC1 HBS
      have g1 := p2.out.pl
      cases b
      · go_wp2_with (first
          | (refine at_load6 rfl (.tmp 3) rfl rfl HV.out.2.1 ?_)
          | (go_at_call 29; refine (HC1.out _).mono ?_; rintro e w3 ⟨rfl, hb3⟩; replace HV := hide (HV.out.kept hb3); replace HO := hide (HO.out.kept hb3); replace HW := hide (Nat.le_trans HW.out hb3.size); clear hb3))
        go_roundw
        case rel => exact ⟨k + 1, by omega, by go_num, by rw [HBS.out]; simpa using HO, HV, HW⟩
        case measure => simp [intOf]; omega
      · go_upto_region 9 with (first
          | (refine at_load6 rfl (.tmp 3) rfl rfl HV.out.2.1 ?_)
          | (go_at_call 29; refine (HC1.out _).mono ?_; rintro e w3 ⟨rfl, hb3⟩; replace HV := hide (HV.out.kept hb3); replace HO := hide (HO.out.kept hb3); replace HW := hide (Nat.le_trans HW.out hb3.size); clear hb3))
        clear g1
        have HB' := hide (show iv (bq (mine ow ts z) (k + 1)) = iv (bq (mine ow ts z) k) ++ [.int .i64 (k : Int)] by rw [HBS.out]; simp [iv])
        have hb4 := al_below w3 (.cells #[.int .i64 (k : Int)] 3)
        have HO3 := hide (HO.out.kept hb4)
        have HV3 := hide (HV.out.kept hb4)
        have HW3 := hide (Nat.le_trans HW.out hb4.size)
        have HC3 := hide (show ∀ (j : Nat) u, [Value.int .i64 (k : Int)][j]? = some u → (w3.alloc (.cells #[.int .i64 (k : Int)] 3)).cell? ⟨w3.heap.size, j, none⟩ = some u from fun j u hu => by match j with | 0 => simp at hu; subst hu; simp | j + 1 => simp at hu)
        have HL3 := hide (show (iv (bq (mine ow ts z) k)).length + 1 ≤ 4000000 by have := HLN.out; unfold iv; rw [List.length_map]; omega)
        clear hb4
        go_wp2_with (at_builtin; refine app_int rfl (.tmp 28) (.tmp 30) rfl (w.heap.size + 1) _ _ rfl HO3.out w3.heap.size 1 [.int .i64 (k : Int)] rfl rfl HC3.out (fun u hu => by simp at hu; subst hu; rfl) HL3.out HW3.out ?_; intro v4 w4 o4 g4; have HV4 := hide (HV3.out.grown HL.out.1 HL.out.2 g4 HO3.out.base); have HW4 := hide (Nat.le_trans HW3.out g4.size); replace o4 := hide o4)
        go_roundw
        case rel => exact ⟨k + 1, by omega, by go_num, by rw [HB'.out]; exact o4, HV4, HW4⟩
        case measure => simp [intOf]; omega
    · obtain rfl : m = k := by omega
      go_wp2
      go_ret2
      exact ⟨_, rfl, HO.out, HV.out.2.2⟩
theorem Tryd.infoBlk : (Tryd.prog.info? 71).map (fun i => (i.zero, i.size, i.bytes)) = some (some (.agg (pbC [] (fun _ => false))), 16, 72) := by kernel_rfl
theorem madeP (b : Nat) (_hb : b ≤ 16) : ∃ cs : Array Value, (∀ w : World, (mkSl 60 (.int .i64 (b : Int)) (.int .i64 (b : Int))).run Tryd.prog w = .ok (.slice (some ⟨w.heap.size, 0, none⟩) b b) (w.alloc (.cells cs 71))) ∧
    cs.size = 16 * b ∧ ∀ k, k < b → ∀ j, j < 8 → cs[16 * k + j]? = some (.int .i64 (el [] j)) ∧ cs[16 * k + 8 + j]? = some (.bool false) := by
  obtain ⟨i0, hi, hz0, hz1, hz2⟩ := info_parts Tryd.infoBlk
  refine ⟨madeCells (pbC [] (fun _ => false)) (16 * b), fun w => ?_, size_madeCells _ _, fun k hk j hj => ⟨?_, ?_⟩⟩
  · have h := run_make (P := Tryd.prog) w 60 71 i0 _ Tryd.underlying60 hi hz0 .i64 .i64 (b : Int) (b : Int) (by omega) (by omega) (by rw [hz2]; omega) (by omega)
    rw [hz1, show ((b : Int)).toNat = b by omega, show b * 16 = 16 * b by omega] at h
    exact h
  · rw [made_at _ _ _ (by omega)]
    have e8 : (16 * k + j) % (pbC [] (fun _ => false)).size = j := (by show (16 * k + j) % 16 = j; omega)
    rw [e8]
    rcases (by omega : j = 0 ∨ j = 1 ∨ j = 2 ∨ j = 3 ∨ j = 4 ∨ j = 5 ∨ j = 6 ∨ j = 7) with rfl | rfl | rfl | rfl | rfl | rfl | rfl | rfl <;> rfl
  · rw [made_at _ _ _ (by omega)]
    have e8 : (16 * k + 8 + j) % (pbC [] (fun _ => false)).size = 8 + j := (by show (16 * k + 8 + j) % 16 = 8 + j; omega)
    rw [e8]
    rcases (by omega : j = 0 ∨ j = 1 ∨ j = 2 ∨ j = 3 ∨ j = 4 ∨ j = 5 ∨ j = 6 ∨ j = 7) with rfl | rfl | rfl | rfl | rfl | rfl | rfl | rfl <;> rfl
theorem two_new (w : World) (a b : Obj) : ((w.alloc a).alloc b).heap[w.heap.size]? = some a ∧ ((w.alloc a).alloc b).heap[w.heap.size + 1]? = some b ∧ Below w.heap.size w ((w.alloc a).alloc b) := by
  have s1 : (w.alloc a).heap.size = w.heap.size + 1 := World.size_alloc _ _
  have b1 := al_below w a
  have b2 := al_below (w.alloc a) b
  have n1 : (w.alloc a).heap[w.heap.size]? = some a := heap_alloc_new w a
  have n2 := heap_alloc_new (w.alloc a) b
  rw [s1] at n2
  exact ⟨by rw [b2.block _ (by omega)]; exact n1, n2, bt b1 b2⟩
set_option maxRecDepth 100000 in
set_option maxHeartbeats 1000000 in
theorem pnew_bad (b : Int) (w : World) (hb : b < 1 ∨ 16 < b) :
    Calls Tryd.prog 5 #[.int .i64 b] w fun e w' => e = .returned (.tuple #[.pointer none, err 1]) ∧ w' = w := by
  rcases hb with h1 | h1
  · go_enter Tryd.func5, Tryd.ntmps5
    go_wp2
    go_ret2
    exact ⟨rfl, rfl⟩
  · have h2 : ¬ b < 1 := by omega
    go_enter Tryd.func5, Tryd.ntmps5
    go_wp2
    go_ret2
    exact ⟨rfl, rfl⟩
attribute [local go_sem ↓] mkSl_shut
set_option maxRecDepth 100000 in
set_option maxHeartbeats 1000000 in
theorem pnew_any (b : Nat) (w : World) (h1 : 1 ≤ b) (hb : b ≤ 16) :
    Calls Tryd.prog 5 #[.int .i64 b] w fun e w' => ∃ B BB, e = .returned (.tuple #[.pointer (some ⟨B, 0, none⟩), .nilIface]) ∧ BP B BB b (fun _ => []) (fun _ => false) w' ∧ w.heap.size ≤ B ∧ w.heap.size ≤ BB ∧ Below w.heap.size w w' := by
  obtain ⟨cs, mk, sc, hc⟩ := madeP b hb
  have HS := hide sc
  have HC := hide hc
  have q1 : ¬ (b : Int) < 1 := by omega
  have q2 : ¬ 16 < (b : Int) := by omega
  clear sc hc
  go_enter Tryd.func5, Tryd.ntmps5
  go_wp2
  go_ret2
  obtain ⟨t1, t2, t3⟩ := two_new w (.cells cs 71) (.cells #[.slice (some ⟨w.heap.size, 0, none⟩) b b] 62)
  exact ⟨w.heap.size + 1, rfl, w.heap.size, ⟨t2, cs, t1, HS.out, HC.out⟩, by omega, by omega, t3⟩
end Go.Proofs.YtchjhmokmpjbdaaDoor
