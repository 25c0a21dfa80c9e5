/- The document's own Make of a bind, by contracts. -/
import Derived.Test.YtjkkonpangcnjaaDoorBdC
namespace Go.Proofs.YtjkkonpangcnjaaDoor
open Go.RowKit

/-- what is kept: the table, the flow and the answer in their blocks. -/
def Km (w : World) (B P BW BT n : Nat) (ws : Nat → List Int) (ts : Nat → Bool) (v : Value) (bs : List (List Int)) (f : List Int) (W : World) : Prop :=
  RT B P BW BT n ws ts v bs W ∧ FlIn w.heap.size f W ∧ BdIn (w.heap.size + 1) [] W ∧ Fr (fun g => g = B ∨ g = BW ∨ g = BT) w W ∧ B < w.heap.size ∧ BW < w.heap.size ∧ BT < w.heap.size ∧ v.ownBlock ≠ some (w.heap.size + 1)
theorem Km.kept {w : World} {B P BW BT n : Nat} {ws : Nat → List Int} {ts : Nat → Bool} {v : Value} {bs : List (List Int)} {f : List Int} {W W' : World} (h : Km w B P BW BT n ws ts v bs f W) (hb : Below W.heap.size W W') : Km w B P BW BT n ws ts v bs f W' :=
  ⟨h.1.kept hb, h.2.1.kept hb, h.2.2.1.kept hb, h.2.2.2.1.trans (Fr.of hb), h.2.2.2.2⟩
theorem km_new {w : World} {B P BW BT n : Nat} {ws : Nat → List Int} {ts : Nat → Bool} {v : Value} {bs : List (List Int)} (f : List Int) (h : RT B P BW BT n ws ts v bs w) : Km w B P BW BT n ws ts v bs f ((w.alloc (.cells (flC f) 35)).alloc (.cells zero23 41)) := by
  have b1 := al_below w (.cells (flC f) 35)
  have b2 := al_below (w.alloc (.cells (flC f) 35)) (.cells zero23 41)
  have hz := bd_zero (w.alloc (.cells (flC f) 35))
  rw [World.size_alloc] at hz
  exact ⟨(h.kept b1).kept b2, (fl_new f w).kept b2, hz, Fr.of (bt b1 b2), h.lt, h.2.1.2.1.lt, h.2.1.2.2.lt, fun e => by have := (owns_lt h.2.2 _ e).1; omega⟩
theorem RT.took {B P BW BT n : Nat} {ws ws' : Nat → List Int} {ts ts' : Nat → Bool} {v : Value} {bs : List (List Int)} {W W' : World} (h : RT B P BW BT n ws ts v bs W) (hp : RP P BW BT n ws' ts' W') (hf : Fr (fun g => g = BW ∨ g = BT) W W') : RT B P BW BT n ws' ts' v bs W' := by
  obtain ⟨-, n2, n3, -, -, n6, n7⟩ := h.ne
  refine ⟨(hf.2.2.2.2 B h.lt (fun e => by rcases e with e | e; exact n2 e; exact n3 e)).trans h.1, hp, owns_same h.2.2 (fun g e => hf.2.2.2.2 g (owns_lt h.2.2 g e).1 (fun e' => ?_))⟩
  rcases e' with rfl | rfl
  · exact n6 e
  · exact n7 e
theorem Km.took {w : World} {B P BW BT n : Nat} {ws ws' : Nat → List Int} {ts ts' : Nat → Bool} {v : Value} {bs : List (List Int)} {f : List Int} {W W' : World} (h : Km w B P BW BT n ws ts v bs f W) (hp : RP P BW BT n ws' ts' W') (hf : Fr (fun g => g = BW ∨ g = BT) W W') : Km w B P BW BT n ws' ts' v bs f W' := by
  obtain ⟨k1, k2, k3, k4, k5, k6, k7⟩ := h
  have h2 := k2.lt
  have h3 := k3.lt
  exact ⟨k1.took hp hf, (hf.2.2.2.2 _ h2 (fun e => by omega)).trans k2, (hf.2.2.2.2 _ h3 (fun e => by omega)).trans k3, k4.trans (hf.mono (fun _ e => .inr e)), k5, k6, k7⟩
/-- how the list is written anew, with x where it belongs. -/
def st (x : List Int) (bs : List (List Int)) : Nat → List (List Int) × Bool
  | 0 => ([], false)
  | k + 1 => if (!(st x bs k).2 && decide (el x 19 < el (bs.getD k []) 19)) = true then ((st x bs k).1 ++ [x] ++ [bs.getD k []], true) else ((st x bs k).1 ++ [bs.getD k []], (st x bs k).2)
def ins (x : List Int) (bs : List (List Int)) : List (List Int) := if (st x bs bs.length).2 = true then (st x bs bs.length).1 else (st x bs bs.length).1 ++ [x]
theorem st_len (x : List Int) (bs : List (List Int)) (k : Nat) : (st x bs k).1.length ≤ k + 1 ∧ ((st x bs k).2 = false → (st x bs k).1.length = k) := by
  induction k with
  | zero => exact ⟨by simp [st], fun _ => rfl⟩
  | succ k ih =>
    simp only [st]
    split
    · rename_i h
      rw [Bool.and_eq_true] at h
      have := ih.2 (by simpa using h.1)
      refine ⟨?_, fun h => by cases h⟩
      simp only [List.length_append, List.length_singleton]
      omega
    · refine ⟨?_, fun h => ?_⟩
      · simp only [List.length_append, List.length_singleton]; omega
      · have := ih.2 h
        simp only [List.length_append, List.length_singleton]
        omega
theorem ins_len (x : List Int) (bs : List (List Int)) : (ins x bs).length ≤ bs.length + 1 := by
  unfold ins
  split
  · exact (st_len x bs bs.length).1
  · rename_i h
    rw [List.length_append, (st_len x bs bs.length).2 (by simpa using h)]
    exact Nat.le_refl _
attribute [local go_sem ↓] fload_shut bload_shut hload_shut
set_option maxRecDepth 100000 in
set_option maxHeartbeats 2000000 in
theorem rmake_flow (B P BW BT n : Nat) (ws : Nat → List Int) (ts : Nat → Bool) (v : Value) (bs : List (List Int)) (f : List Int) (back far now : Int) (w : World) (h : RT B P BW BT n ws ts v bs w) (hf : okf f = false) :
    Calls Tryd.prog 10 #[.pointer (some ⟨B, 0, none⟩), .agg (flC f), .int .i64 back, .int .i64 far, .int .i64 now] w fun e w' => e = .returned (.tuple #[.agg (bdC []), .int .i64 1]) ∧ Below w.heap.size w w' := by
  have HK := hide (km_new f h)
  have HB := hide (bt (al_below w (.cells (flC f) 35)) (al_below _ (.cells zero23 41)))
  have HF := hide (fun W => rff_any f W)
  rw [hf, show fe false = 1 from rfl] at HF
  unfold zero23 at HK HB
  clear h hf
  go_enter Tryd.func10, Tryd.ntmps10
  go_upto_region 1 with fail
  generalize (w.alloc _).alloc _ = W at HK HB ⊢
  have g1 := HK.out.2.1.fl
  go_wp2_with (first
    | (go_at_call 8; (with_reducible refine (HF.out _).mono ?_); rintro e w1 ⟨rfl, hb1⟩; replace HK := hide (HK.out.kept hb1); replace HB := hide (bt HB.out hb1); clear hb1)
    | (refine at_storeb rfl (.tmp 10) (.tmp 25) rfl rfl HK.out.2.2.1 [] rfl ?_; intro w5 p5 on5; have HB5 := hide (on5.below HB.out (Nat.le_succ _)); replace p5 := hide p5; clear on5))
  try simp only [Exit.inBlock, Exit.then]
  refine bodyPost_ret (results_bd rfl _ _ (w.heap.size + 1) [] rfl p5.out) rfl ?_
  exact ⟨rfl, HB5.out⟩
set_option maxRecDepth 100000 in
set_option maxHeartbeats 2000000 in
theorem rmake_range (B P BW BT n : Nat) (ws : Nat → List Int) (ts : Nat → Bool) (v : Value) (bs : List (List Int)) (f : List Int) (back far now : Int) (w : World) (h : RT B P BW BT n ws ts v bs w) (hf : okf f = true) (hr : (fr back && wd far && tc now) = false) :
    Calls Tryd.prog 10 #[.pointer (some ⟨B, 0, none⟩), .agg (flC f), .int .i64 back, .int .i64 far, .int .i64 now] w fun e w' => e = .returned (.tuple #[.agg (bdC []), .int .i64 1]) ∧ Below w.heap.size w w' := by
  have HK := hide (km_new f h)
  have HB := hide (bt (al_below w (.cells (flC f) 35)) (al_below _ (.cells zero23 41)))
  have HF := hide (fun W => rff_any f W)
  rw [hf, show fe true = 0 from rfl] at HF
  have H1 := hide (fun W => four_any back W)
  have H2 := hide (fun W => word_any far W)
  have H3 := hide (fun W => tick_any now W)
  generalize fr back = b1 at H1 hr
  generalize wd far = b2 at H2 hr
  generalize tc now = b3 at H3 hr
  unfold zero23 at HK HB
  clear h hf
  go_enter Tryd.func10, Tryd.ntmps10
  go_upto_region 1 with fail
  generalize (w.alloc _).alloc _ = W at HK HB ⊢
  have g1 := HK.out.2.1.fl
  go_upto_region 7 with (first
    | (go_at_call 8; (with_reducible refine (HF.out _).mono ?_); rintro e w1 ⟨rfl, hb1⟩; replace HK := hide (HK.out.kept hb1); replace HB := hide (bt HB.out hb1); clear hb1)
    | (go_at_call 30; (with_reducible refine (H1.out _).mono ?_); rintro e w' ⟨rfl, rfl⟩)
    | (go_at_call 26; (with_reducible refine (H2.out _).mono ?_); rintro e w' ⟨rfl, rfl⟩)
    | (go_at_call 14; (with_reducible refine (H3.out _).mono ?_); rintro e w' ⟨rfl, rfl⟩))
  clear g1
  have hc : b1 = false ∨ (b1 = true ∧ b2 = false) ∨ (b1 = true ∧ b2 = true ∧ b3 = false) := by cases b1 <;> cases b2 <;> cases b3 <;> simp_all
  clear hr
  rcases hc with rfl | ⟨rfl, rfl⟩ | ⟨rfl, rfl, rfl⟩
  all_goals
    go_wp2_with (refine at_storeb rfl (.tmp 10) (.tmp 43) rfl rfl HK.out.2.2.1 [] rfl ?_; intro w5 p5 on5; have HB5 := hide (on5.below HB.out (Nat.le_succ _)); replace p5 := hide p5; clear on5)
    try simp only [Exit.inBlock, Exit.then]
    refine bodyPost_ret (results_bd rfl _ _ (w.heap.size + 1) [] rfl p5.out) rfl ?_
    exact ⟨rfl, HB5.out⟩
set_option maxRecDepth 100000 in
set_option maxHeartbeats 2000000 in
theorem rmake_clash (B P BW BT n : Nat) (ws : Nat → List Int) (ts : Nat → Bool) (v : Value) (bs : List (List Int)) (f : List Int) (back far now : Int) (w : World) (h : RT B P BW BT n ws ts v bs w) (hl : bs.length ≤ 1000) (hf : okf f = true) (hr : (fr back && wd far && tc now) = true) (i : Nat) (hi : fnd bs f = some i) :
    Calls Tryd.prog 10 #[.pointer (some ⟨B, 0, none⟩), .agg (flC f), .int .i64 back, .int .i64 far, .int .i64 now] w fun e w' => e = .returned (.tuple #[.agg (bdC []), .int .i64 8]) ∧ Below w.heap.size w w' := by
  have HK := hide (km_new f h)
  have HB := hide (bt (al_below w (.cells (flC f) 35)) (al_below _ (.cells zero23 41)))
  have HF := hide (fun W => rff_any f W)
  rw [hf, show fe true = 0 from rfl] at HF
  rw [Bool.and_eq_true, Bool.and_eq_true] at hr
  have H1 := hide (fun W => four_any back W)
  have H2 := hide (fun W => word_any far W)
  have H3 := hide (fun W => tick_any now W)
  rw [hr.1.1] at H1
  rw [hr.1.2] at H2
  rw [hr.2] at H3
  have HN := hide (fun W (hW : RT B P BW BT n ws ts v bs W) => rfind_any B P BW BT n ws ts v bs f W hW hl)
  rw [hi, show ix (some i) = (i : Int) from rfl] at HN
  have j1 : (0 : Int) ≤ (i : Int) := by omega
  unfold zero23 at HK HB
  clear h hf hr hi
  go_enter Tryd.func10, Tryd.ntmps10
  go_upto_region 1 with fail
  generalize (w.alloc _).alloc _ = W at HK HB ⊢
  have g1 := HK.out.2.1.fl
  go_wp2_with (first
    | (go_at_call 8; (with_reducible refine (HF.out _).mono ?_); rintro e w1 ⟨rfl, hb1⟩; replace HK := hide (HK.out.kept hb1); replace HB := hide (bt HB.out hb1); clear hb1 g1; have g1 := HK.out.2.1.fl)
    | (go_at_call 30; (with_reducible refine (H1.out _).mono ?_); rintro e w' ⟨rfl, rfl⟩)
    | (go_at_call 26; (with_reducible refine (H2.out _).mono ?_); rintro e w' ⟨rfl, rfl⟩)
    | (go_at_call 14; (with_reducible refine (H3.out _).mono ?_); rintro e w' ⟨rfl, rfl⟩)
    | (go_at_call 20; refine (HN.out _ HK.out.1).mono ?_; rintro e w2 ⟨rfl, hb2⟩; replace HK := hide (HK.out.kept hb2); replace HB := hide (bt HB.out hb2); clear hb2)
    | (refine at_storeb rfl (.tmp 10) (.tmp 48) rfl rfl HK.out.2.2.1 [] rfl ?_; intro w5 p5 on5; have HB5 := hide (on5.below HB.out (Nat.le_succ _)); replace p5 := hide p5; clear on5))
  try simp only [Exit.inBlock, Exit.then]
  refine bodyPost_ret (results_bd rfl _ _ (w.heap.size + 1) [] rfl p5.out) rfl ?_
  exact ⟨rfl, HB5.out⟩
end Go.Proofs.YtjkkonpangcnjaaDoor
