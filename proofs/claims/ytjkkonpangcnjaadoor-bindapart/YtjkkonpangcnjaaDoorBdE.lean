/- The document's own Make of a bind that may be made, by contracts. -/
import Derived.Test.YtjkkonpangcnjaaDoorBdD
namespace Go.Proofs.YtjkkonpangcnjaaDoor
open Go.RowKit

theorem rtake_none (P BW BT m : Nat) (ws : Nat → List Int) (ts : Nat → Bool) (z : List Int) (w : World) (h : RP P BW BT (8 * m) ws ts w) (hm : m ≤ 16) (hz : Ok6 z) (ht : tk ws ts z (8 * m) = none) :
    Calls Tryd.prog 31 #[.pointer (some ⟨P, 0, none⟩), .agg (sixC z)] w fun e w' => e = .returned (.tuple #[.int .i64 0, .int .i64 3]) ∧ Below w.heap.size w w' := by
  refine (rtake_any P BW BT (8 * m) m ws ts z w h (by omega) rfl hz _ ht).mono ?_
  rintro e w' (⟨_, h1, _, h3⟩ | ⟨i, h1, _⟩)
  · exact ⟨h1, h3⟩
  · cases h1
theorem rtake_some (P BW BT m : Nat) (ws : Nat → List Int) (ts : Nat → Bool) (z : List Int) (i : Nat) (w : World) (h : RP P BW BT (8 * m) ws ts w) (hm : m ≤ 16) (hz : Ok6 z) (ht : tk ws ts z (8 * m) = some i) :
    Calls Tryd.prog 31 #[.pointer (some ⟨P, 0, none⟩), .agg (sixC z)] w fun e w' => e = .returned (.tuple #[.int .i64 (1024 + (i : Int)), .int .i64 0]) ∧ RP P BW BT (8 * m) (upd ws i z) (upd ts i true) w' ∧ Fr (fun g => g = BW ∨ g = BT) w w' := by
  refine (rtake_any P BW BT (8 * m) m ws ts z w h (by omega) rfl hz _ ht).mono ?_
  rintro e w' (⟨h1, _⟩ | ⟨j, h1, _, h3, h4, h5⟩)
  · cases h1
  · obtain rfl : i = j := Option.some.inj h1
    exact ⟨h3, h4, h5⟩
theorem tk_lt {ws : Nat → List Int} {ts : Nat → Bool} {z : List Int} {n i : Nat} (ht : tk ws ts z n = some i) : i < n := by
  unfold tk at ht
  rcases Option.or_eq_some_iff.1 ht with h | ⟨_, h⟩
  · exact List.mem_range.1 (List.mem_of_find?_eq_some h)
  · exact List.mem_range.1 (List.mem_of_find?_eq_some h)
theorem okf_cli {f : List Int} (h : okf f = true) : Ok6 (cli f) := by
  unfold okf at h
  simp only [Bool.and_eq_true] at h
  exact (s6_iff _).1 h.1.1.1.2
theorem RT.setAll {B P BW BT n : Nat} {ws : Nat → List Int} {ts : Nat → Bool} {v v' : Value} {bs bs' : List (List Int)} {W : World} (h : RT B P BW BT n ws ts v bs W) (ho : OwB 0 W v' bs') : RT B P BW BT n ws ts v' bs' (W.setCell ⟨B, 1, none⟩ v') := by
  obtain ⟨n1, n2, n3, -, -, -, -⟩ := h.ne
  have hk : ∀ g, g ≠ B → (W.setCell ⟨B, 1, none⟩ v').heap[g]? = W.heap[g]? := fun g hg => Below.heap_setCell W ⟨B, 1, none⟩ v' g hg
  refine ⟨?_, ⟨(hk P (fun e => n1 e.symm)).trans h.2.1.1, h.2.1.2.1.same (hk BW (fun e => n2 e.symm)), h.2.1.2.2.same (hk BT (fun e => n3 e.symm))⟩, owns_same ho (fun g e => hk g (fun e' => ?_))⟩
  · rw [setCell_eq_setRow W B 1 _ _ (0, 0) v' h.1, setRow_heap W B _ _ _ (0, 0) h.1]
    rfl
  · obtain ⟨c, hc⟩ := owns_type ho g e
    rw [e', h.1] at hc
    cases hc
theorem Km.answer {w : World} {B P BW BT n : Nat} {ws : Nat → List Int} {ts : Nat → Bool} {v : Value} {bs : List (List Int)} {f : List Int} {W W' : World} (h : Km w B P BW BT n ws ts v bs f W) (on : Only (w.heap.size + 1) W W') : RT B P BW BT n ws ts v bs W' ∧ Fr (fun g => g = B ∨ g = BW ∨ g = BT) w W' := by
  obtain ⟨k1, k2, k3, k4, k5, k6, k7, k8⟩ := h
  have kP : P ≠ w.heap.size + 1 := by
    rintro rfl
    have := k1.2.1.1
    unfold BdIn at k3
    rw [this] at k3
    cases k3
  have hk : ∀ g, g ≠ w.heap.size + 1 → W'.heap[g]? = W.heap[g]? := on.2.2.2.2
  refine ⟨⟨(hk B (by omega)).trans k1.1, ⟨(hk P kP).trans k1.2.1.1, k1.2.1.2.1.same (hk BW (by omega)), k1.2.1.2.2.same (hk BT (by omega))⟩, owns_same k1.2.2 (fun g e => hk g (fun e' => ?_))⟩, ?_⟩
  · rw [e'] at e
    exact k8 e
  · exact ⟨on.1.trans k4.1, on.2.1.trans k4.2.1, on.2.2.1.trans k4.2.2.1, by rw [on.2.2.2.1]; exact k4.2.2.2.1, fun g hg hO => (hk g (by omega)).trans (k4.2.2.2.2 g hg hO)⟩
attribute [local go_sem ↓] fload_shut bload_shut hload_shut
set_option maxRecDepth 100000 in
set_option maxHeartbeats 2000000 in
theorem rmake_full (B P BW BT m : Nat) (ws : Nat → List Int) (ts : Nat → Bool) (v : Value) (bs : List (List Int)) (f : List Int) (back far now : Int) (w : World) (h : RT B P BW BT (8 * m) ws ts v bs w) (hm : m ≤ 16) (hl : bs.length ≤ 1000) (hf : okf f = true) (hr : (fr back && wd far && tc now) = true) (hi : fnd bs f = none) (ht : tk ws ts (cli f) (8 * m) = none) :
    Calls Tryd.prog 10 #[.pointer (some ⟨B, 0, none⟩), .agg (flC f), .int .i64 back, .int .i64 far, .int .i64 now] w fun e w' => e = .returned (.tuple #[.agg (bdC []), .int .i64 3]) ∧ RT B P BW BT (8 * m) ws ts v bs w' ∧ Fr (fun g => g = B ∨ g = BW ∨ g = BT) w w' := by
  have HK := hide (km_new f h)
  have HF := hide (fun W => rff_any f W)
  rw [hf, show fe true = 0 from rfl] at HF
  rw [Bool.and_eq_true, Bool.and_eq_true] at hr
  have H1 := hide (fun W => four_any back W)
  have H2 := hide (fun W => word_any far W)
  have H3 := hide (fun W => tick_any now W)
  rw [hr.1.1] at H1
  rw [hr.1.2] at H2
  rw [hr.2] at H3
  have HN := hide (fun W (hW : RT B P BW BT (8 * m) ws ts v bs W) => rfind_any B P BW BT (8 * m) ws ts v bs f W hW hl)
  rw [hi, show ix none = (-1 : Int) from rfl] at HN
  have HT := hide (fun W hW => rtake_none P BW BT m ws ts (cli f) W hW hm (okf_cli hf) ht)
  unfold zero23 at HK
  clear h hf hr hi ht
  go_enter Tryd.func10, Tryd.ntmps10
  go_upto_region 1 with fail
  generalize (w.alloc _).alloc _ = W at HK ⊢
  have g1 := HK.out.2.1.fl
  go_upto_region 11 with (first
    | (go_at_call 8; (with_reducible refine (HF.out _).mono ?_); rintro e w1 ⟨rfl, hb1⟩; replace HK := hide (HK.out.kept hb1); clear hb1 g1; have g1 := HK.out.2.1.fl)
    | (go_at_call 30; (with_reducible refine (H1.out _).mono ?_); rintro e w' ⟨rfl, rfl⟩)
    | (go_at_call 26; (with_reducible refine (H2.out _).mono ?_); rintro e w' ⟨rfl, rfl⟩)
    | (go_at_call 14; (with_reducible refine (H3.out _).mono ?_); rintro e w' ⟨rfl, rfl⟩)
    | (go_at_call 20; refine (HN.out _ HK.out.1).mono ?_; rintro e w2 ⟨rfl, hb2⟩; replace HK := hide (HK.out.kept hb2); clear hb2))
  clear g1
  replace HK := hide (HK.out.kept (Below.refl _ _).drew)
  have l0 := HK.out.1.ports
  have gc := HK.out.2.1.hc
  go_region_held3 (fun w' => w'.cell? ⟨B, 0, none⟩ = some (.pointer (some ⟨P, 0, none⟩)) ∧ (hload (.pointer (some ⟨w.heap.size, 1, none⟩))).run Tryd.prog w' = .ok (.agg (sixC (cli f))) w')
    (first
      | go_keep
      | exact ⟨HK.out.1.ports, HK.out.2.1.hc⟩)
    (first | (go_at_call 31; refine (HT.out _ HK.out.1.2.1).mono ?_; rintro e w6 ⟨rfl, hb6⟩; replace HK := hide (HK.out.kept hb6); clear hb6 l0 gc; have l0 := HK.out.1.ports; have gc := HK.out.2.1.hc))
  clear l0 gc
  go_wp2_with (refine at_storeb rfl (.tmp 10) (.tmp 61) rfl rfl HK.out.2.2.1 [] rfl ?_; intro w5 p5 on5; have HK5 := hide (HK.out.answer on5); replace p5 := hide p5; clear on5)
  try simp only [Exit.inBlock, Exit.then]
  refine bodyPost_ret (results_bd rfl _ _ (w.heap.size + 1) [] rfl p5.out) rfl ?_
  exact ⟨rfl, HK5.out.1, HK5.out.2⟩
theorem Km.setAll {w : World} {B P BW BT n : Nat} {ws : Nat → List Int} {ts : Nat → Bool} {v v' : Value} {bs bs' : List (List Int)} {f : List Int} {W : World} (h : Km w B P BW BT n ws ts v bs f W) {base : Nat} (ho : OwB base W v' bs') (hb : w.heap.size + 1 < base) : Km w B P BW BT n ws ts v' bs' f (W.setCell ⟨B, 1, none⟩ v') := by
  obtain ⟨k1, k2, k3, k4, k5, k6, k7, k8⟩ := h
  have ho0 : OwB 0 W v' bs' := by
    refine ⟨ho.1, ?_⟩
    rcases ho.2 with h2 | ⟨g, cap, cur, e, _, rest⟩
    · exact .inl h2
    · exact .inr ⟨g, cap, cur, e, Nat.zero_le _, rest⟩
  have hk : ∀ g, g ≠ B → (W.setCell ⟨B, 1, none⟩ v').heap[g]? = W.heap[g]? := fun g hg => Below.heap_setCell W ⟨B, 1, none⟩ v' g hg
  exact ⟨k1.setAll ho0, (hk _ (by omega)).trans k2, (hk _ (by omega)).trans k3, k4.trans ((setCell_fr W B 1 v').mono (fun _ e => .inl e)), k5, k6, k7, fun e => by have := (owns_lt ho _ e).2; omega⟩
end Go.Proofs.YtjkkonpangcnjaaDoor
