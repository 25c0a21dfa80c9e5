/- Flows looked at, by contracts. -/
import Derived.Test.YtdeofopandobhaaDoorPkErr
namespace Go.Proofs.YtdeofopandobhaaDoor
open Go.RowKit
theorem pcheck_ok (z : List Int) (W : World) (hz : Ok6 z) : Calls Tryd.prog 22 #[.agg (sixC z)] W fun e w' => e = .returned .nilIface ∧ Below W.heap.size W w' :=
  (check_ok z W hz).mono fun e w' ⟨h1, h2⟩ => ⟨h1, by rw [h2]; exact al_below _ _⟩
theorem pcheck_bad (z : List Int) (W : World) (hz : ¬ Ok6 z) : Calls Tryd.prog 22 #[.agg (sixC z)] W fun e w' => e = .returned (.iface 27 (.int .i64 1)) ∧ Below W.heap.size W w' :=
  (check_bad z W hz).mono fun e w' ⟨h1, h2⟩ => ⟨h1, by rw [h2]; exact al_below _ _⟩
/-- a block of ints, all of it. -/
def Ints (B : Nat) (l : List Int) (w : World) : Prop := w.heap[B]? = some (.cells (l.map (Value.int .i64)).toArray 3 (0, 0))
theorem ints_new (w : World) (l : List Int) : Ints w.heap.size l (w.alloc (.cells (l.map (Value.int .i64)).toArray 3)) := heap_alloc_new w _
theorem Ints.cell {B : Nat} {l : List Int} {w : World} (h : Ints B l w) (j : Nat) (hj : j < l.length) : w.cell? ⟨B, j, none⟩ = some (.int .i64 (l.getD j 0)) := by
  unfold Ints at h
  simp [World.cell?, h, hj]
/-- from 0 up to m. -/
def um (m x : Int) : Bool := decide (0 ≤ x) && decide (x ≤ m)
theorem um_iff (m x : Int) : um m x = true ↔ 0 ≤ x ∧ x ≤ m := by unfold um; rw [Bool.and_eq_true, decide_eq_true_eq, decide_eq_true_eq]
def ups (m : Int) (l : List Int) : Bool := l.all (um m)
theorem ups_iff (m : Int) (l : List Int) : ups m l = true ↔ ∀ i, i < l.length → um m (l.getD i 0) = true := by
  unfold ups
  rw [List.all_eq_true]
  constructor
  · intro h i hi
    exact h _ (by simp [List.getD_eq_getElem?_getD, hi])
  · intro h x hx
    obtain ⟨i, hi, rfl⟩ := List.mem_iff_getElem.1 hx
    have := h i hi
    simpa [List.getD_eq_getElem?_getD, hi] using this
set_option maxHeartbeats 400000 in
theorem upto_any (m : Int) (B n : Nat) (l : List Int) (w : World) (hn : l.length = n) (hm : n ≤ 1000) (hc : Ints B l w) :
    Calls Tryd.prog 23 #[.int .i64 m, .slice (some ⟨B, 0, none⟩) n n] w fun e w' => e = .returned (.bool (ups m l)) ∧ w' = w := by
  have HU := hide (ups_iff m l)
  have HC := hide hc
  have HN := hide hn
  clear hc
  generalize ups m l = u at HU ⊢
  go_enter Tryd.func23, Tryd.ntmps23
  go_wp2
  go_loop [9] (fun t => ∃ k : Nat, k ≤ n ∧ Hid (∀ i, i < k → um m (l.getD i 0) = true) ∧ t = .int .i64 k) (fun t => n - (intOf t).toNat)
  case atStart => exact ⟨0, by omega, fun i hi => absurd hi (by omega), rfl⟩
  case round =>
    obtain ⟨k, hk, HI, rfl⟩ := hrel
    by_cases hlt : k < n
    · have hck := HC.out.cell k (by omega)
      generalize hzk : l.getD k 0 = z at hck
      have HZ := hide hzk
      clear hzk hn
      by_cases hz0 : z < 0
      · go_wp2
        go_ret
        exact ⟨congrArg (fun b => Ending.returned (.bool b)) (Eq.symm (Bool.eq_false_iff.2 fun h => by have := (um_iff _ _).1 (HU.out.1 h k (by rw [HN.out]; exact hlt)); rw [HZ.out] at this; omega)), rfl⟩
      · by_cases hz1 : m < z
        · go_wp2
          go_ret
          exact ⟨congrArg (fun b => Ending.returned (.bool b)) (Eq.symm (Bool.eq_false_iff.2 fun h => by have := (um_iff _ _).1 (HU.out.1 h k (by rw [HN.out]; exact hlt)); rw [HZ.out] at this; omega)), rfl⟩
        · go_wp2
          go_round
          case rel => exact ⟨k + 1, by omega, fun i hi => if h : i = k then by subst h; rw [HZ.out]; exact (um_iff _ _).2 ⟨by omega, by omega⟩ else HI.out i (by omega), by go_num⟩
          case measure => simp [intOf]; omega
    · go_wp2
      go_ret
      obtain rfl : k = n := by omega
      exact ⟨congrArg (fun b => Ending.returned (.bool b)) (Eq.symm (HU.out.2 fun i hi => HI.out i (by rw [← HN.out]; exact hi))), rfl⟩
theorem uptoWW (x y : Int) (W : World) : Calls Tryd.prog 23 #[.int .i64 65535, .slice (some ⟨W.heap.size, 0, none⟩) 2 2] (W.alloc (.cells #[.int .i64 x, .int .i64 y] 3)) fun e w' => e = .returned (.bool (wd x && wd y)) ∧ Below W.heap.size W w' :=
  (upto_any 65535 W.heap.size 2 [x, y] _ rfl (by omega) (ints_new W [x, y])).mono fun e w' ⟨h1, h2⟩ => ⟨h1.trans (by rw [show ups 65535 [x, y] = (wd x && wd y) by unfold ups um wd; simp]), by rw [h2]; exact al_below _ _⟩
theorem pck (z : List Int) (W : World) : Calls Tryd.prog 22 #[.agg (sixC z)] W fun e w' => e = .returned (ev (fe (s6 z))) ∧ Below W.heap.size W w' := by
  cases h : s6 z
  · exact pcheck_bad z W (fun h' => by rw [(s6_iff z).2 h'] at h; cases h)
  · exact pcheck_ok z W ((s6_iff z).1 h)
attribute [local go_sem ↓] hload_shut
set_option maxRecDepth 100000 in
set_option maxHeartbeats 2000000 in
theorem bcheck (f : List Int) (w : World) : Calls Tryd.prog 15 #[.agg (flC f)] w fun e w' => e = .returned (ev (fe (okf f))) ∧ Below w.heap.size w w' := by
  have HB := hide (al_below w (.cells (flC f) 25))
  have HP := hide (fl_new f w)
  have HU := hide (fun W => uptoWW (el f 9) (el f 18) W)
  have HC := hide (fun W => pck (cli f) W)
  have HD := hide (fun W => pck (dst f) W)
  have HO := hide (show okf f = (((el f 0 == 6) || (el f 0 == 17)) && s6 (cli f) && s6 (dst f) && (wd (el f 9) && wd (el f 18))) by unfold okf; rw [Bool.and_assoc (_ && _)])
  generalize okf f = ok at HO ⊢
  generalize (wd (el f 9) && wd (el f 18)) = pp at HU HO
  generalize s6 (cli f) = sc at HC HO
  generalize s6 (dst f) = sd at HD HO
  obtain ⟨k, hk⟩ : ∃ x, el f 0 = x := ⟨_, rfl⟩
  rw [hk] at HO
  have HKd := hide hk
  clear hk
  go_enter Tryd.func15, Tryd.ntmps15
  go_upto_region 1 with fail
  generalize w.alloc _ = W at HB HP ⊢
  have c0 := HP.out.cell 0 (by omega)
  have g1 := HP.out.hc
  rw [HKd.out] at c0
  clear HKd
  by_cases kk : k = 6 ∨ k = 17
  · have hkb : ((k == 6) || (k == 17)) = true := by simpa using kk
    rw [hkb] at HO
    clear hkb
    rcases kk with rfl | rfl
    all_goals
      cases sc
      · rw [show ev (fe false) = err 1 from rfl] at HC
        unfold err at HC
        go_wp2_with (go_at_call 22; (with_reducible refine (HC.out _).mono ?_); rintro e w2 ⟨rfl, hb2⟩; replace HB := hide (bt HB.out hb2); clear hb2)
        go_ret
        exact ⟨by rw [HO.out]; rfl, HB.out⟩
      · rw [show ev (fe true) = .nilIface from rfl] at HC
        cases sd
        · rw [show ev (fe false) = err 1 from rfl] at HD
          unfold err at HD
          go_wp2_with (first
            | (go_at_call 22; (with_reducible refine (HC.out _).mono ?_); rintro e w2 ⟨rfl, hb2⟩; replace HB := hide (bt HB.out hb2); replace HP := hide (HP.out.kept hb2); have g2 := HP.out.hd; clear hb2)
            | (go_at_call 22; (with_reducible refine (HD.out _).mono ?_); rintro e w3 ⟨rfl, hb3⟩; replace HB := hide (bt HB.out hb3); clear hb3))
          go_ret
          exact ⟨by rw [HO.out]; rfl, HB.out⟩
        · rw [show ev (fe true) = .nilIface from rfl] at HD
          cases pp
          all_goals
            go_wp2_with (first
              | (go_at_call 22; (with_reducible refine (HC.out _).mono ?_); rintro e w2 ⟨rfl, hb2⟩; replace HB := hide (bt HB.out hb2); replace HP := hide (HP.out.kept hb2); have g2 := HP.out.hd; clear hb2)
              | (go_at_call 22; (with_reducible refine (HD.out _).mono ?_); rintro e w3 ⟨rfl, hb3⟩; replace HB := hide (bt HB.out hb3); replace HP := hide (HP.out.kept hb3); clear hb3; have c9 := HP.out.cell 9 (by omega); have c18 := HP.out.cell 18 (by omega))
              | (go_at_call 23; (with_reducible refine (HU.out _).mono ?_); rintro e w4 ⟨rfl, hb4⟩; replace HB := hide (bt HB.out hb4); clear hb4))
            go_ret
            exact ⟨by rw [HO.out]; rfl, HB.out⟩
  · have n6 : (k != 6) = true := by simpa using fun e => kk (.inl e)
    have n17 : (k != 17) = true := by simpa using fun e => kk (.inr e)
    have HM := hide (show ok = false by rw [HO.out, show (k == 6) = false by simpa using n6, show (k == 17) = false by simpa using n17]; rfl)
    clear kk
    go_wp2
    go_ret
    exact ⟨by rw [HM.out]; rfl, HB.out⟩
end Go.Proofs.YtdeofopandobhaaDoor
