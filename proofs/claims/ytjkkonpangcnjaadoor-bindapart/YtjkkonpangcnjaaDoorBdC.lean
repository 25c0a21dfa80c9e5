/- The document's own table of binds as it lies in the heap; its small functions, FlowFault, Find and Port, by contracts. -/
import Derived.Test.YtjkkonpangcnjaaDoorBdB
namespace Go.Proofs.YtjkkonpangcnjaaDoor
open Go.RowKit

/-- the document's own table: its ports, its binds. -/
def RT (B P BW BT n : Nat) (ws : Nat → List Int) (ts : Nat → Bool) (v : Value) (bs : List (List Int)) (w : World) : Prop :=
  w.heap[B]? = some (.cells #[.pointer (some ⟨P, 0, none⟩), v] 57 (0, 0)) ∧ RP P BW BT n ws ts w ∧ OwB 0 w v bs
theorem RT.lt {B P BW BT n : Nat} {ws : Nat → List Int} {ts : Nat → Bool} {v : Value} {bs : List (List Int)} {w : World} (h : RT B P BW BT n ws ts v bs w) : B < w.heap.size := (Array.getElem?_eq_some_iff.1 h.1).1
theorem RT.kept {B P BW BT n : Nat} {ws : Nat → List Int} {ts : Nat → Bool} {v : Value} {bs : List (List Int)} {w w' : World} (h : RT B P BW BT n ws ts v bs w) (hb : Below w.heap.size w w') : RT B P BW BT n ws ts v bs w' :=
  ⟨(hb.block B h.lt).trans h.1, h.2.1.kept hb, owns_same h.2.2 (fun g e => hb.block g (owns_lt h.2.2 g e).1)⟩
theorem RT.ports {B P BW BT n : Nat} {ws : Nat → List Int} {ts : Nat → Bool} {v : Value} {bs : List (List Int)} {w : World} (h : RT B P BW BT n ws ts v bs w) : w.cell? ⟨B, 0, none⟩ = some (.pointer (some ⟨P, 0, none⟩)) := cell_of_row w B 0 _ _ _ h.1
theorem RT.all {B P BW BT n : Nat} {ws : Nat → List Int} {ts : Nat → Bool} {v : Value} {bs : List (List Int)} {w : World} (h : RT B P BW BT n ws ts v bs w) : w.cell? ⟨B, 1, none⟩ = some v := cell_of_row w B 1 _ _ _ h.1
theorem RT.ne {B P BW BT n : Nat} {ws : Nat → List Int} {ts : Nat → Bool} {v : Value} {bs : List (List Int)} {w : World} (h : RT B P BW BT n ws ts v bs w) : B ≠ P ∧ B ≠ BW ∧ B ≠ BT ∧ v.ownBlock ≠ some B ∧ v.ownBlock ≠ some P ∧ v.ownBlock ≠ some BW ∧ v.ownBlock ≠ some BT := by
  obtain ⟨h1, ⟨h2, ⟨c3, h3, _⟩, ⟨c4, h4, _⟩⟩, h5⟩ := h
  refine ⟨?_, ?_, ?_, ?_, ?_, ?_, ?_⟩
  · rintro rfl; rw [h1] at h2; cases h2
  · rintro rfl; rw [h1] at h3; cases h3
  · rintro rfl; rw [h1] at h4; cases h4
  · intro e; obtain ⟨c, hc⟩ := owns_type h5 _ e; rw [h1] at hc; cases hc
  · intro e; obtain ⟨c, hc⟩ := owns_type h5 _ e; rw [h2] at hc; cases hc
  · intro e; obtain ⟨c, hc⟩ := owns_type h5 _ e; rw [h3] at hc; cases hc
  · intro e; obtain ⟨c, hc⟩ := owns_type h5 _ e; rw [h4] at hc; cases hc
/-- may a number be a port, a four, a tick? -/
def wd (n : Int) : Bool := decide (0 ≤ n) && decide (n ≤ 65535)
def fr (n : Int) : Bool := decide (0 ≤ n) && decide (n ≤ 4294967295)
def tc (n : Int) : Bool := decide (0 ≤ n) && decide (n ≤ 1099511627776)
theorem wd_iff (n : Int) : wd n = true ↔ Word n := by unfold wd Word; rw [Bool.and_eq_true, decide_eq_true_eq, decide_eq_true_eq]
def s6 (z : List Int) : Bool := wd (el z 0) && wd (el z 1) && wd (el z 2) && wd (el z 3) && wd (el z 4) && wd (el z 5) && wd (el z 6) && wd (el z 7)
theorem s6_iff (z : List Int) : s6 z = true ↔ Ok6 z := by
  unfold s6 Ok6
  simp only [Bool.and_eq_true, wd_iff]
  refine ⟨fun ⟨⟨⟨⟨⟨⟨⟨h0, h1⟩, h2⟩, h3⟩, h4⟩, h5⟩, h6⟩, h7⟩ j hj => ?_, fun h => ⟨⟨⟨⟨⟨⟨⟨h 0 (by omega), h 1 (by omega)⟩, h 2 (by omega)⟩, h 3 (by omega)⟩, h 4 (by omega)⟩, h 5 (by omega)⟩, h 6 (by omega)⟩, h 7 (by omega)⟩⟩
  rcases (by omega : j = 0 ∨ j = 1 ∨ j = 2 ∨ j = 3 ∨ j = 4 ∨ j = 5 ∨ j = 6 ∨ j = 7) with rfl | rfl | rfl | rfl | rfl | rfl | rfl | rfl <;> assumption
theorem word_any (n : Int) (w : World) : Calls Tryd.prog 26 #[.int .i64 n] w fun e w' => e = .returned (.bool (wd n)) ∧ w' = w := by
  cases h : wd n
  · exact word_no n w (fun h' => by rw [(wd_iff n).2 h'] at h; cases h)
  · exact word_yes n w ((wd_iff n).1 h)
/-- a fault's number. -/
def fe (b : Bool) : Int := if b = true then 0 else 1
theorem six_any (z : List Int) (w : World) : Calls Tryd.prog 27 #[.agg (sixC z)] w fun e w' => e = .returned (.int .i64 (fe (s6 z))) ∧ Below w.heap.size w w' := by
  cases h : s6 z
  · exact fault_bad z w (fun h' => by rw [(s6_iff z).2 h'] at h; cases h)
  · exact fault_ok z w ((s6_iff z).1 h)
set_option maxRecDepth 100000 in
theorem four_any (n : Int) (w : World) : Calls Tryd.prog 30 #[.int .i64 n] w fun e w' => e = .returned (.bool (fr n)) ∧ w' = w := by
  unfold fr
  by_cases h : 0 ≤ n
  · have hd : decide (0 ≤ n) = true := decide_eq_true h
    rw [hd]
    go_enter Tryd.func30, Tryd.ntmps30
    go_wp2
    go_ret
    exact ⟨by simp, rfl⟩
  · have hd : decide (0 ≤ n) = false := decide_eq_false h
    rw [hd]
    go_enter Tryd.func30, Tryd.ntmps30
    go_wp2
    go_ret
    exact ⟨rfl, rfl⟩
set_option maxRecDepth 100000 in
theorem tick_any (n : Int) (w : World) : Calls Tryd.prog 14 #[.int .i64 n] w fun e w' => e = .returned (.bool (tc n)) ∧ w' = w := by
  unfold tc
  by_cases h : 0 ≤ n
  · have hd : decide (0 ≤ n) = true := decide_eq_true h
    rw [hd]
    go_enter Tryd.func14, Tryd.ntmps14
    go_wp2
    go_ret
    exact ⟨by simp, rfl⟩
  · have hd : decide (0 ≤ n) = false := decide_eq_false h
    rw [hd]
    go_enter Tryd.func14, Tryd.ntmps14
    go_wp2
    go_ret
    exact ⟨rfl, rfl⟩
/-- may a flow be? -/
def okf (f : List Int) : Bool := ((el f 0 == 6) || (el f 0 == 17)) && s6 (cli f) && s6 (dst f) && wd (el f 9) && wd (el f 18)
attribute [local go_sem ↓] hload_shut
set_option maxRecDepth 100000 in
set_option maxHeartbeats 2000000 in
theorem rff_any (f : List Int) (w : World) : Calls Tryd.prog 8 #[.agg (flC f)] w fun e w' => e = .returned (.int .i64 (fe (okf f))) ∧ Below w.heap.size w w' := by
  have HB := hide (al_below w (.cells (flC f) 35))
  have HP := hide (fl_new f w)
  have H9 := hide (fun W => word_any (el f 9) W)
  have H18 := hide (fun W => word_any (el f 18) W)
  have HC := hide (fun W => six_any (cli f) W)
  have HD := hide (fun W => six_any (dst f) W)
  unfold okf
  generalize wd (el f 9) = p9 at H9 ⊢
  generalize wd (el f 18) = p18 at H18 ⊢
  generalize s6 (cli f) = sc at HC ⊢
  generalize s6 (dst f) = sd at HD ⊢
  obtain ⟨k, hk⟩ : ∃ x, el f 0 = x := ⟨_, rfl⟩
  rw [hk]
  have HKd := hide hk
  clear hk
  go_enter Tryd.func8, Tryd.ntmps8
  go_upto_region 1 with fail
  generalize w.alloc _ = W at HB HP ⊢
  have c0 := HP.out.cell 0 (by omega)
  have c9 := HP.out.cell 9 (by omega)
  have c18 := HP.out.cell 18 (by omega)
  have g1 := HP.out.hc
  generalize el f 9 = x9 at c9 H9
  generalize el f 18 = x18 at c18 H18
  rw [HKd.out] at c0
  clear HKd
  go_upto_region 3 with (first
    | (go_at_call 26; (with_reducible refine (H9.out _).mono ?_); rintro e w1 ⟨rfl, rfl⟩)
    | (go_at_call 26; refine (H18.out _).mono ?_; rintro e w1 ⟨rfl, rfl⟩))
  by_cases k6 : k = 6
  · subst k6
    cases sc
    · rw [show fe false = 1 from rfl] at HC
      go_wp2_with (first
      | (go_at_call 27; (with_reducible refine (HC.out _).mono ?_); rintro e w2 ⟨rfl, hb2⟩; replace HB := hide (bt HB.out hb2); replace HP := hide (HP.out.kept hb2); have g2 := HP.out.hd; clear hb2)
      | (go_at_call 27; (with_reducible refine (HD.out _).mono ?_); rintro e w3 ⟨rfl, hb3⟩; replace HB := hide (bt HB.out hb3); clear hb3))
      go_ret
      exact ⟨rfl, HB.out⟩
    · rw [show fe true = 0 from rfl] at HC
      cases sd
      · rw [show fe false = 1 from rfl] at HD
        go_wp2_with (first
      | (go_at_call 27; (with_reducible refine (HC.out _).mono ?_); rintro e w2 ⟨rfl, hb2⟩; replace HB := hide (bt HB.out hb2); replace HP := hide (HP.out.kept hb2); have g2 := HP.out.hd; clear hb2)
      | (go_at_call 27; (with_reducible refine (HD.out _).mono ?_); rintro e w3 ⟨rfl, hb3⟩; replace HB := hide (bt HB.out hb3); clear hb3))
        go_ret
        exact ⟨rfl, HB.out⟩
      · rw [show fe true = 0 from rfl] at HD
        cases p9
        · go_wp2_with (first
      | (go_at_call 27; (with_reducible refine (HC.out _).mono ?_); rintro e w2 ⟨rfl, hb2⟩; replace HB := hide (bt HB.out hb2); replace HP := hide (HP.out.kept hb2); have g2 := HP.out.hd; clear hb2)
      | (go_at_call 27; (with_reducible refine (HD.out _).mono ?_); rintro e w3 ⟨rfl, hb3⟩; replace HB := hide (bt HB.out hb3); clear hb3))
          go_ret
          exact ⟨rfl, HB.out⟩
        · cases p18
          · go_wp2_with (first
      | (go_at_call 27; (with_reducible refine (HC.out _).mono ?_); rintro e w2 ⟨rfl, hb2⟩; replace HB := hide (bt HB.out hb2); replace HP := hide (HP.out.kept hb2); have g2 := HP.out.hd; clear hb2)
      | (go_at_call 27; (with_reducible refine (HD.out _).mono ?_); rintro e w3 ⟨rfl, hb3⟩; replace HB := hide (bt HB.out hb3); clear hb3))
            go_ret
            exact ⟨rfl, HB.out⟩
          · go_wp2_with (first
      | (go_at_call 27; (with_reducible refine (HC.out _).mono ?_); rintro e w2 ⟨rfl, hb2⟩; replace HB := hide (bt HB.out hb2); replace HP := hide (HP.out.kept hb2); have g2 := HP.out.hd; clear hb2)
      | (go_at_call 27; (with_reducible refine (HD.out _).mono ?_); rintro e w3 ⟨rfl, hb3⟩; replace HB := hide (bt HB.out hb3); clear hb3))
            go_ret
            exact ⟨rfl, HB.out⟩
  · by_cases k17 : k = 17
    · subst k17
      cases sc
      · rw [show fe false = 1 from rfl] at HC
        go_wp2_with (first
      | (go_at_call 27; (with_reducible refine (HC.out _).mono ?_); rintro e w2 ⟨rfl, hb2⟩; replace HB := hide (bt HB.out hb2); replace HP := hide (HP.out.kept hb2); have g2 := HP.out.hd; clear hb2)
      | (go_at_call 27; (with_reducible refine (HD.out _).mono ?_); rintro e w3 ⟨rfl, hb3⟩; replace HB := hide (bt HB.out hb3); clear hb3))
        go_ret
        exact ⟨rfl, HB.out⟩
      · rw [show fe true = 0 from rfl] at HC
        cases sd
        · rw [show fe false = 1 from rfl] at HD
          go_wp2_with (first
      | (go_at_call 27; (with_reducible refine (HC.out _).mono ?_); rintro e w2 ⟨rfl, hb2⟩; replace HB := hide (bt HB.out hb2); replace HP := hide (HP.out.kept hb2); have g2 := HP.out.hd; clear hb2)
      | (go_at_call 27; (with_reducible refine (HD.out _).mono ?_); rintro e w3 ⟨rfl, hb3⟩; replace HB := hide (bt HB.out hb3); clear hb3))
          go_ret
          exact ⟨rfl, HB.out⟩
        · rw [show fe true = 0 from rfl] at HD
          cases p9
          · go_wp2_with (first
      | (go_at_call 27; (with_reducible refine (HC.out _).mono ?_); rintro e w2 ⟨rfl, hb2⟩; replace HB := hide (bt HB.out hb2); replace HP := hide (HP.out.kept hb2); have g2 := HP.out.hd; clear hb2)
      | (go_at_call 27; (with_reducible refine (HD.out _).mono ?_); rintro e w3 ⟨rfl, hb3⟩; replace HB := hide (bt HB.out hb3); clear hb3))
            go_ret
            exact ⟨rfl, HB.out⟩
          · cases p18
            · go_wp2_with (first
      | (go_at_call 27; (with_reducible refine (HC.out _).mono ?_); rintro e w2 ⟨rfl, hb2⟩; replace HB := hide (bt HB.out hb2); replace HP := hide (HP.out.kept hb2); have g2 := HP.out.hd; clear hb2)
      | (go_at_call 27; (with_reducible refine (HD.out _).mono ?_); rintro e w3 ⟨rfl, hb3⟩; replace HB := hide (bt HB.out hb3); clear hb3))
              go_ret
              exact ⟨rfl, HB.out⟩
            · go_wp2_with (first
      | (go_at_call 27; (with_reducible refine (HC.out _).mono ?_); rintro e w2 ⟨rfl, hb2⟩; replace HB := hide (bt HB.out hb2); replace HP := hide (HP.out.kept hb2); have g2 := HP.out.hd; clear hb2)
      | (go_at_call 27; (with_reducible refine (HD.out _).mono ?_); rintro e w3 ⟨rfl, hb3⟩; replace HB := hide (bt HB.out hb3); clear hb3))
              go_ret
              exact ⟨rfl, HB.out⟩
    · have n6 : (k != 6) = true := by simpa using k6
      have n17 : (k != 17) = true := by simpa using k17
      have m6 : (k == 6) = false := by simpa using k6
      have m17 : (k == 17) = false := by simpa using k17
      have HM := hide (And.intro m6 m17)
      clear k6 k17 m6 m17
      go_wp2
      go_ret
      refine ⟨?_, HB.out⟩
      rw [HM.out.1, HM.out.2]
      rfl
/-- the place of a flow, of a port. -/
def fnd (bs : List (List Int)) (f : List Int) : Option Nat := (List.range bs.length).find? fun i => eqf (bs.getD i []) f
def prt (bs : List (List Int)) (p : Int) : Option Nat := (List.range bs.length).find? fun i => el (bs.getD i []) 19 == p
def ix (o : Option Nat) : Int := match o with | some i => i | none => -1
attribute [local go_sem ↓] fload_shut feq_shut
set_option maxRecDepth 100000 in
set_option maxHeartbeats 2000000 in
theorem rfind_any (B P BW BT n : Nat) (ws : Nat → List Int) (ts : Nat → Bool) (v : Value) (bs : List (List Int)) (f : List Int) (w : World) (h : RT B P BW BT n ws ts v bs w) (hl : bs.length ≤ 1000) :
    Calls Tryd.prog 20 #[.pointer (some ⟨B, 0, none⟩), .agg (flC f)] w fun e w' => e = .returned (.int .i64 (ix (fnd bs f))) ∧ Below w.heap.size w w' := by
  obtain ⟨ao, cap, rfl, -, -, hg⟩ := h.2.2.shape
  have HB := hide (al_below w (.cells (flC f) 35))
  have HK := hide (show RT B P BW BT n ws ts (.slice ao bs.length cap) bs (w.alloc (.cells (flC f) 35)) ∧ FlIn w.heap.size f (w.alloc (.cells (flC f) 35)) from ⟨h.kept HB.out, fl_new f w⟩)
  have HN := hide (show bs.length = bs.length from rfl)
  have HG := hide hg
  clear h hg
  have hl' : (bs.length : Int) ≤ 1000 := by omega
  go_enter Tryd.func20, Tryd.ntmps20
  go_upto_region 1 with fail
  generalize w.alloc _ = W at HB HK ⊢
  go_wp2
  go_loopw [5] (fun t wr => ∃ k : Nat, k ≤ bs.length ∧ t = .int .i64 k ∧ Hid (∀ j, j < k → eqf (bs.getD j []) f = false) ∧ Hid (Below w.heap.size w wr) ∧ Hid (RT B P BW BT n ws ts (.slice ao bs.length cap) bs wr ∧ FlIn w.heap.size f wr)) (fun t _ => bs.length - (intOf t).toNat)
  case atStart => exact ⟨0, by omega, rfl, fun j h => absurd h (by omega), HB, HK⟩
  case round =>
    clear HB HK
    obtain ⟨k, hk, rfl, HI, HB, HK⟩ := hrel
    have l1 := HK.out.1.all
    by_cases hlt : k < bs.length
    · obtain ⟨g, rfl⟩ := HG.out (by omega)
      have j1 : (k : Int) < (bs.length : Int) := by omega
      obtain ⟨bk, hbk⟩ : ∃ x, bs.getD k [] = x := ⟨_, rfl⟩
      have HBK := hide hbk
      clear hbk
      have q := feq_run bk f
      cases hq : eqf bk f
      · rw [hq] at q
        have HQ := hide (show eqf (bs.getD k []) f = false by rw [HBK.out]; exact hq)
        clear hq
        go_upto_region 4 with fail
        clear l1
        replace HB := hide (bt HB.out (show Below wr.heap.size wr wr.drew from (Below.refl _ _).drew))
        replace HK := hide (show RT B P BW BT n ws ts (.slice (some ⟨g, 0, none⟩) bs.length cap) bs wr.drew ∧ FlIn w.heap.size f wr.drew from ⟨HK.out.1.kept (Below.refl _ _).drew, HK.out.2.kept (Below.refl _ _).drew⟩)
        have HLd := hide (show wr.drew.cell? ⟨B, 1, none⟩ = some (.slice (some ⟨g, 0, none⟩) bs.length cap) ∧ (fload (.pointer (some ⟨g, k * 23, none⟩))).run Tryd.prog wr.drew = .ok (.agg (flC bk)) wr.drew ∧ (fload (.pointer (some ⟨w.heap.size, 0, none⟩))).run Tryd.prog wr.drew = .ok (.agg (flC f)) wr.drew from ⟨HK.out.1.all, by have := HK.out.1.2.2.fl k hlt; rw [HBK.out] at this; exact this, HK.out.2.fl⟩)
        obtain ⟨l1, g1, g2⟩ := HLd.out
        go_region_held3 (fun w' => w'.cell? ⟨B, 1, none⟩ = some (.slice (some ⟨g, 0, none⟩) bs.length cap) ∧ (fload (.pointer (some ⟨g, k * 23, none⟩))).run Tryd.prog w' = .ok (.agg (flC bk)) w' ∧ (fload (.pointer (some ⟨w.heap.size, 0, none⟩))).run Tryd.prog w' = .ok (.agg (flC f)) w')
          (first
            | go_keep
            | exact HLd.out)
          (fail)
        clear l1 g1 g2 HLd
        generalize wr.drew = w2 at HB HK ⊢
        go_wp2_with fail
        go_roundw
        case rel => exact ⟨k + 1, by omega, by go_num, fun j hj => if e : j = k then by rw [e]; exact HQ.out else HI.out j (by omega), HB, HK⟩
        case measure => simp [intOf]; omega
      · rw [hq] at q
        have HQ := hide (show eqf (bs.getD k []) f = true by rw [HBK.out]; exact hq)
        clear hq
        go_upto_region 4 with fail
        clear l1
        replace HB := hide (bt HB.out (show Below wr.heap.size wr wr.drew from (Below.refl _ _).drew))
        replace HK := hide (show RT B P BW BT n ws ts (.slice (some ⟨g, 0, none⟩) bs.length cap) bs wr.drew ∧ FlIn w.heap.size f wr.drew from ⟨HK.out.1.kept (Below.refl _ _).drew, HK.out.2.kept (Below.refl _ _).drew⟩)
        have HLd := hide (show wr.drew.cell? ⟨B, 1, none⟩ = some (.slice (some ⟨g, 0, none⟩) bs.length cap) ∧ (fload (.pointer (some ⟨g, k * 23, none⟩))).run Tryd.prog wr.drew = .ok (.agg (flC bk)) wr.drew ∧ (fload (.pointer (some ⟨w.heap.size, 0, none⟩))).run Tryd.prog wr.drew = .ok (.agg (flC f)) wr.drew from ⟨HK.out.1.all, by have := HK.out.1.2.2.fl k hlt; rw [HBK.out] at this; exact this, HK.out.2.fl⟩)
        obtain ⟨l1, g1, g2⟩ := HLd.out
        go_region_held3 (fun w' => w'.cell? ⟨B, 1, none⟩ = some (.slice (some ⟨g, 0, none⟩) bs.length cap) ∧ (fload (.pointer (some ⟨g, k * 23, none⟩))).run Tryd.prog w' = .ok (.agg (flC bk)) w' ∧ (fload (.pointer (some ⟨w.heap.size, 0, none⟩))).run Tryd.prog w' = .ok (.agg (flC f)) w')
          (first
            | go_keep
            | exact HLd.out)
          (fail)
        clear l1 g1 g2 HLd
        generalize wr.drew = w2 at HB HK ⊢
        go_wp2_with fail
        go_ret
        refine ⟨?_, HB.out⟩
        unfold fnd
        rw [find_some hlt HQ.out HI.out]
        rfl
    · obtain rfl : bs.length = k := by omega
      go_wp2
      go_ret
      refine ⟨?_, HB.out⟩
      unfold fnd
      rw [find_none HI.out]
      rfl
set_option maxRecDepth 100000 in
set_option maxHeartbeats 2000000 in
theorem rport_any (B P BW BT n : Nat) (ws : Nat → List Int) (ts : Nat → Bool) (v : Value) (bs : List (List Int)) (p : Int) (w : World) (h : RT B P BW BT n ws ts v bs w) (hl : bs.length ≤ 1000) :
    Calls Tryd.prog 18 #[.pointer (some ⟨B, 0, none⟩), .int .i64 p] w fun e w' => e = .returned (.int .i64 (ix (prt bs p))) ∧ w' = w := by
  obtain ⟨ao, cap, rfl, -, -, hg⟩ := h.2.2.shape
  have HK := hide h
  have HG := hide hg
  have l1 := h.all
  clear h hg
  have hl' : (bs.length : Int) ≤ 1000 := by omega
  go_enter Tryd.func18, Tryd.ntmps18
  go_wp2
  go_loop [5] (fun t => ∃ k : Nat, k ≤ bs.length ∧ t = .int .i64 k ∧ Hid (∀ j, j < k → (el (bs.getD j []) 19 == p) = false)) (fun t => bs.length - (intOf t).toNat)
  case atStart => exact ⟨0, by omega, rfl, fun j h => absurd h (by omega)⟩
  case round =>
    obtain ⟨k, hk, rfl, HI⟩ := hrel
    by_cases hlt : k < bs.length
    · obtain ⟨g, rfl⟩ := HG.out (by omega)
      have j1 : (k : Int) < (bs.length : Int) := by omega
      have c1 := HK.out.2.2.cell k 19 hlt (by omega)
      obtain ⟨x, hx⟩ : ∃ x, el (bs.getD k []) 19 = x := ⟨_, rfl⟩
      rw [hx] at c1
      have HX := hide hx
      clear hx
      cases hq : x == p
      · have HQ := hide (show (el (bs.getD k []) 19 == p) = false by rw [HX.out]; exact hq)
        go_wp2
        go_round
        case rel => exact ⟨k + 1, by omega, by go_num, fun j hj => if e : j = k then by rw [e]; exact HQ.out else HI.out j (by omega)⟩
        case measure => simp [intOf]; omega
      · have HQ := hide (show (el (bs.getD k []) 19 == p) = true by rw [HX.out]; exact hq)
        go_wp2
        go_ret
        refine ⟨?_, rfl⟩
        unfold prt
        rw [find_some hlt HQ.out HI.out]
        rfl
    · obtain rfl : bs.length = k := by omega
      go_wp2
      go_ret
      refine ⟨?_, rfl⟩
      unfold prt
      rw [find_none HI.out]
      rfl
end Go.Proofs.YtjkkonpangcnjaaDoor
