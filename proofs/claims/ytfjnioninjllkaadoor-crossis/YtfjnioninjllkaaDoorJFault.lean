/- The document's own Fault6. The document's own Fault4. -/
import Derived.Test.YtfjnioninjllkaaDoorJV6
import Derived.Test.YtfjnioninjllkaaDoorV6a
import Derived.Test.YtfjnioninjllkaaDoorSgRef
import Derived.Deep.QuietTactic
import Derived.Test.YtfjnioninjllkaaDoorJV4c
namespace Go.Proofs.YtfjnioninjllkaaDoor.V6
open Go.RowKit
attribute [local go_sem ↓] hload_shut
set_option maxRecDepth 100000 in
set_option maxHeartbeats 1000000 in
theorem rfault_ok (s d : List Int) (h k : Int) (a : Option Addr) (len cap : Nat) (w : World) (ho : Okp s d h k) (hl : len ≤ 320) :
    Calls Tryd.prog 16 #[pk s d h k a len cap] w fun e w' => e = .returned (.int .i64 0) ∧ Below w.heap.size w w' := by
  obtain ⟨hs, hd, hh, hk⟩ := ho
  have HS := hide (fun w => fault_ok s w hs)
  have HD := hide (fun w => fault_ok d w hd)
  replace hh : up 255 h = true := decide_eq_true hh
  replace hk : up 255 k = true := decide_eq_true hk
  clear hs hd
  have HB := hide (al_below w (.cells (pkC s d h k a len cap) 26))
  have HP := hide (pk_new w s d h k a len cap)
  unfold pk
  go_enter Tryd.func16, Tryd.ntmps16
  go_upto_region 1 with fail
  generalize w.alloc (.cells (pkC s d h k a len cap) 26) = W at HB HP ⊢
  have l3 := HP.out.hop
  have l4 := HP.out.kind
  go_upto_region 3 with (go_at_call 41; refine (risbyte_any _ _).mono ?_; rintro e w' ⟨rfl, rfl⟩)
  clear l3 l4
  have l1 := HP.out.hsrc
  have l2 := HP.out.hdst
  go_upto_region 5 with (first
    | (go_at_call 25; with_reducible refine (HS.out _).mono ?_; rintro e w1 ⟨rfl, hb1⟩; replace HB := hide (bt HB.out hb1); replace HP := hide (HP.out.kept hb1); clear hb1 l1 l2; have l2 := HP.out.hdst)
    | (go_at_call 25; with_reducible refine (HD.out _).mono ?_; rintro e w2 ⟨rfl, hb2⟩; replace HB := hide (bt HB.out hb2); replace HP := hide (HP.out.kept hb2); clear hb2 l2))
  have l5 := HP.out.body
  go_wp2
  go_ret
  exact ⟨rfl, HB.out⟩
set_option maxRecDepth 100000 in
set_option maxHeartbeats 1000000 in
theorem rfault_full (s d : List Int) (h k : Int) (a : Option Addr) (len cap : Nat) (w : World) (ho : Okp s d h k) (hl : 320 < len) (hm : len ≤ maxLen) :
    Calls Tryd.prog 16 #[pk s d h k a len cap] w fun e w' => e = .returned (.int .i64 3) ∧ Below w.heap.size w w' := by
  obtain ⟨hs, hd, hh, hk⟩ := ho
  have HS := hide (fun w => fault_ok s w hs)
  have HD := hide (fun w => fault_ok d w hd)
  replace hh : up 255 h = true := decide_eq_true hh
  replace hk : up 255 k = true := decide_eq_true hk
  clear hs hd
  unfold maxLen at hm
  have HB := hide (al_below w (.cells (pkC s d h k a len cap) 26))
  have HP := hide (pk_new w s d h k a len cap)
  unfold pk
  go_enter Tryd.func16, Tryd.ntmps16
  go_upto_region 1 with fail
  generalize w.alloc (.cells (pkC s d h k a len cap) 26) = W at HB HP ⊢
  have l3 := HP.out.hop
  have l4 := HP.out.kind
  go_upto_region 3 with (go_at_call 41; refine (risbyte_any _ _).mono ?_; rintro e w' ⟨rfl, rfl⟩)
  clear l3 l4
  have l1 := HP.out.hsrc
  have l2 := HP.out.hdst
  go_upto_region 5 with (first
    | (go_at_call 25; with_reducible refine (HS.out _).mono ?_; rintro e w1 ⟨rfl, hb1⟩; replace HB := hide (bt HB.out hb1); replace HP := hide (HP.out.kept hb1); clear hb1 l1 l2; have l2 := HP.out.hdst)
    | (go_at_call 25; with_reducible refine (HD.out _).mono ?_; rintro e w2 ⟨rfl, hb2⟩; replace HB := hide (bt HB.out hb2); replace HP := hide (HP.out.kept hb2); clear hb2 l2))
  have l5 := HP.out.body
  go_wp2
  go_ret
  exact ⟨rfl, HB.out⟩
set_option maxRecDepth 100000 in
set_option maxHeartbeats 1000000 in
theorem rfault_bad (s d : List Int) (h k : Int) (a : Option Addr) (len cap : Nat) (w : World) (ho : ¬ Okp s d h k) :
    Calls Tryd.prog 16 #[pk s d h k a len cap] w fun e w' => e = .returned (.int .i64 1) ∧ Below w.heap.size w w' := by
  by_cases hs : Ok6 s
  · have HS := hide (fun w => fault_ok s w hs)
    by_cases hd : Ok6 d
    · have HD := hide (fun w => fault_ok d w hd)
      by_cases hh : 0 ≤ h ∧ h ≤ 255
      · have hk : ¬ (0 ≤ k ∧ k ≤ 255) := fun hk => ho ⟨hs, hd, hh, hk⟩
        replace hh : up 255 h = true := decide_eq_true hh
        replace hk : up 255 k = false := decide_eq_false hk
        clear hs hd ho
        have HB := hide (al_below w (.cells (pkC s d h k a len cap) 26))
        have HP := hide (pk_new w s d h k a len cap)
        unfold pk
        go_enter Tryd.func16, Tryd.ntmps16
        go_upto_region 1 with fail
        generalize w.alloc (.cells (pkC s d h k a len cap) 26) = W at HB HP ⊢
        have l3 := HP.out.hop
        have l4 := HP.out.kind
        go_upto_region 3 with (go_at_call 41; refine (risbyte_any _ _).mono ?_; rintro e w' ⟨rfl, rfl⟩)
        clear l3 l4
        have l1 := HP.out.hsrc
        have l2 := HP.out.hdst
        go_wp2_with (first
          | (go_at_call 25; with_reducible refine (HS.out _).mono ?_; rintro e w1 ⟨rfl, hb1⟩; replace HB := hide (bt HB.out hb1); replace HP := hide (HP.out.kept hb1); clear hb1 l1 l2; have l2 := HP.out.hdst)
          | (go_at_call 25; with_reducible refine (HD.out _).mono ?_; rintro e w2 ⟨rfl, hb2⟩; replace HB := hide (bt HB.out hb2); replace HP := hide (HP.out.kept hb2); clear hb2 l2))
        go_ret
        exact ⟨rfl, HB.out⟩
      · replace hh : up 255 h = false := decide_eq_false hh
        clear hs hd ho
        have HB := hide (al_below w (.cells (pkC s d h k a len cap) 26))
        have HP := hide (pk_new w s d h k a len cap)
        unfold pk
        go_enter Tryd.func16, Tryd.ntmps16
        go_upto_region 1 with fail
        generalize w.alloc (.cells (pkC s d h k a len cap) 26) = W at HB HP ⊢
        have l3 := HP.out.hop
        have l4 := HP.out.kind
        go_upto_region 3 with (go_at_call 41; refine (risbyte_any _ _).mono ?_; rintro e w' ⟨rfl, rfl⟩)
        clear l3 l4
        have l1 := HP.out.hsrc
        have l2 := HP.out.hdst
        go_wp2_with (first
          | (go_at_call 25; with_reducible refine (HS.out _).mono ?_; rintro e w1 ⟨rfl, hb1⟩; replace HB := hide (bt HB.out hb1); replace HP := hide (HP.out.kept hb1); clear hb1 l1 l2; have l2 := HP.out.hdst)
          | (go_at_call 25; with_reducible refine (HD.out _).mono ?_; rintro e w2 ⟨rfl, hb2⟩; replace HB := hide (bt HB.out hb2); replace HP := hide (HP.out.kept hb2); clear hb2 l2))
        go_ret
        exact ⟨rfl, HB.out⟩
    · have HD := hide (fun w => fault_bad d w hd)
      clear hs hd ho
      have HB := hide (al_below w (.cells (pkC s d h k a len cap) 26))
      have HP := hide (pk_new w s d h k a len cap)
      unfold pk
      go_enter Tryd.func16, Tryd.ntmps16
      go_upto_region 1 with fail
      generalize w.alloc (.cells (pkC s d h k a len cap) 26) = W at HB HP ⊢
      have l3 := HP.out.hop
      have l4 := HP.out.kind
      go_upto_region 3 with (go_at_call 41; refine (risbyte_any _ _).mono ?_; rintro e w' ⟨rfl, rfl⟩)
      clear l3 l4
      have l1 := HP.out.hsrc
      have l2 := HP.out.hdst
      go_wp2_with (first
        | (go_at_call 25; with_reducible refine (HS.out _).mono ?_; rintro e w1 ⟨rfl, hb1⟩; replace HB := hide (bt HB.out hb1); replace HP := hide (HP.out.kept hb1); clear hb1 l1 l2; have l2 := HP.out.hdst)
        | (go_at_call 25; with_reducible refine (HD.out _).mono ?_; rintro e w2 ⟨rfl, hb2⟩; replace HB := hide (bt HB.out hb2); replace HP := hide (HP.out.kept hb2); clear hb2 l2))
      go_ret
      exact ⟨rfl, HB.out⟩
  · have HS := hide (fun w => fault_bad s w hs)
    have HD := HS
    clear hs ho
    have HB := hide (al_below w (.cells (pkC s d h k a len cap) 26))
    have HP := hide (pk_new w s d h k a len cap)
    unfold pk
    go_enter Tryd.func16, Tryd.ntmps16
    go_upto_region 1 with fail
    generalize w.alloc (.cells (pkC s d h k a len cap) 26) = W at HB HP ⊢
    have l3 := HP.out.hop
    have l4 := HP.out.kind
    go_upto_region 3 with (go_at_call 41; refine (risbyte_any _ _).mono ?_; rintro e w' ⟨rfl, rfl⟩)
    clear l3 l4
    have l1 := HP.out.hsrc
    have l2 := HP.out.hdst
    go_wp2_with (first
      | (go_at_call 25; with_reducible refine (HS.out _).mono ?_; rintro e w1 ⟨rfl, hb1⟩; replace HB := hide (bt HB.out hb1); replace HP := hide (HP.out.kept hb1); clear hb1 l1 l2; have l2 := HP.out.hdst)
      | (go_at_call 25; with_reducible refine (HD.out _).mono ?_; rintro e w2 ⟨rfl, hb2⟩; replace HB := hide (bt HB.out hb2); replace HP := hide (HP.out.kept hb2); clear hb2 l2))
    go_ret
    exact ⟨rfl, HB.out⟩
end Go.Proofs.YtfjnioninjllkaaDoor.V6

namespace Go.Proofs.YtfjnioninjllkaaDoor.V4
open Go.RowKit
theorem word_yes (n : Int) (w : World) (h : Word n) : Calls Tryd.prog 54 #[.int .i64 n] w fun e w' => e = .returned (.bool true) ∧ w' = w := by
  obtain ⟨h1, h2⟩ := h
  go_enter Tryd.func54, Tryd.ntmps54
  go_wp2
  go_ret
  exact ⟨rfl, rfl⟩
theorem word_no (n : Int) (w : World) (h : ¬ Word n) : Calls Tryd.prog 54 #[.int .i64 n] w fun e w' => e = .returned (.bool false) ∧ w' = w := by
  by_cases h1 : 0 ≤ n
  · have h2 : ¬ n ≤ 65535 := fun h2 => h ⟨h1, h2⟩
    clear h
    go_enter Tryd.func54, Tryd.ntmps54
    go_wp2
    go_ret
    exact ⟨rfl, rfl⟩
  · clear h
    go_enter Tryd.func54, Tryd.ntmps54
    go_wp2
    go_ret
    exact ⟨rfl, rfl⟩
theorem isfour_yes (n : Int) (w : World) (h : 0 ≤ n ∧ n ≤ 4294967295) : Calls Tryd.prog 17 #[.int .i64 n] w fun e w' => e = .returned (.bool true) ∧ w' = w := by
  obtain ⟨h1, h2⟩ := h
  go_enter Tryd.func17, Tryd.ntmps17
  go_wp2
  go_ret
  exact ⟨rfl, rfl⟩
theorem isfour_no (n : Int) (w : World) (h : n < 0 ∨ 4294967295 < n) : Calls Tryd.prog 17 #[.int .i64 n] w fun e w' => e = .returned (.bool false) ∧ w' = w := by
  by_cases h0 : n < 0
  · clear h
    go_enter Tryd.func17, Tryd.ntmps17
    go_wp2
    go_ret
    exact ⟨rfl, rfl⟩
  · have h1 : 4294967295 < n := by omega
    have h2 : 0 ≤ n := by omega
    clear h h0
    go_enter Tryd.func17, Tryd.ntmps17
    go_wp2
    go_ret
    refine ⟨?_, rfl⟩
    first
    | rfl
    | (show Ending.returned (.bool (decide (n ≤ 4294967295))) = _; rw [decide_eq_false (by omega)])
theorem isbyte_yes (n : Int) (w : World) (h : 0 ≤ n ∧ n ≤ 255) : Calls Tryd.prog 41 #[.int .i64 n] w fun e w' => e = .returned (.bool true) ∧ w' = w := by
  obtain ⟨h1, h2⟩ := h
  go_enter Tryd.func41, Tryd.ntmps41
  go_wp2
  go_ret
  exact ⟨rfl, rfl⟩
theorem isbyte_no (n : Int) (w : World) (h : ¬ (0 ≤ n ∧ n ≤ 255)) : Calls Tryd.prog 41 #[.int .i64 n] w fun e w' => e = .returned (.bool false) ∧ w' = w := by
  by_cases h1 : 0 ≤ n
  · have h2 : ¬ n ≤ 255 := fun h2 => h ⟨h1, h2⟩
    clear h
    go_enter Tryd.func41, Tryd.ntmps41
    go_wp2
    go_ret
    exact ⟨rfl, rfl⟩
  · clear h
    go_enter Tryd.func41, Tryd.ntmps41
    go_wp2
    go_ret
    exact ⟨rfl, rfl⟩
theorem isbyte_any (n : Int) (w : World) : Calls Tryd.prog 41 #[.int .i64 n] w fun e w' => e = .returned (.bool (up 255 n)) ∧ w' = w := by
  by_cases h : 0 ≤ n ∧ n ≤ 255
  · rw [show up 255 n = true from decide_eq_true h]; exact isbyte_yes n w h
  · rw [show up 255 n = false from decide_eq_false h]; exact isbyte_no n w h
theorem isfour_any (n : Int) (w : World) : Calls Tryd.prog 17 #[.int .i64 n] w fun e w' => e = .returned (.bool (up 4294967295 n)) ∧ w' = w := by
  by_cases h : 0 ≤ n ∧ n ≤ 4294967295
  · rw [show up 4294967295 n = true from decide_eq_true h]; exact isfour_yes n w h
  · rw [show up 4294967295 n = false from decide_eq_false h]; exact isfour_no n w (by omega)
theorem word_any (n : Int) (w : World) : Calls Tryd.prog 54 #[.int .i64 n] w fun e w' => e = .returned (.bool (up 65535 n)) ∧ w' = w := by
  by_cases h : 0 ≤ n ∧ n ≤ 65535
  · rw [show up 65535 n = true from decide_eq_true h]; exact word_yes n w h
  · rw [show up 65535 n = false from decide_eq_false h]; exact word_no n w h
set_option maxHeartbeats 1000000 in
theorem rfault_ok (s d t k i : Int) (a : Option Addr) (len cap : Nat) (w : World) (h : Okp s d t k i) (hl : len ≤ 320) :
    Calls Tryd.prog 24 #[pk s d t k i a len cap] w fun e w' => e = .returned (.int .i64 0) ∧ Below w.heap.size w w' := by
  obtain ⟨hs, hd, ht, hk, hi⟩ := h
  replace hs : up 4294967295 s = true := decide_eq_true hs
  replace hd : up 4294967295 d = true := decide_eq_true hd
  replace ht : up 255 t = true := decide_eq_true ht
  replace hk : up 255 k = true := decide_eq_true hk
  replace hi : up 65535 i = true := decide_eq_true hi
  have HB := hide (bx_below w s d t k i a len cap)
  unfold bx at HB
  unfold pk
  go_enter Tryd.func24, Tryd.ntmps24
  go_wp2_with (first
    | (go_at_call 17; refine (isfour_any _ _).mono ?_; rintro e w' ⟨rfl, rfl⟩)
    | (go_at_call 41; refine (isbyte_any _ _).mono ?_; rintro e w' ⟨rfl, rfl⟩)
    | (go_at_call 54; refine (word_any _ _).mono ?_; rintro e w' ⟨rfl, rfl⟩))
  go_ret
  exact ⟨rfl, HB.out⟩
set_option maxHeartbeats 1000000 in
theorem rfault_full (s d t k i : Int) (a : Option Addr) (len cap : Nat) (w : World) (h : Okp s d t k i) (hl : 320 < len) (hm : len ≤ maxLen) :
    Calls Tryd.prog 24 #[pk s d t k i a len cap] w fun e w' => e = .returned (.int .i64 3) ∧ Below w.heap.size w w' := by
  obtain ⟨hs, hd, ht, hk, hi⟩ := h
  replace hs : up 4294967295 s = true := decide_eq_true hs
  replace hd : up 4294967295 d = true := decide_eq_true hd
  replace ht : up 255 t = true := decide_eq_true ht
  replace hk : up 255 k = true := decide_eq_true hk
  replace hi : up 65535 i = true := decide_eq_true hi
  unfold maxLen at hm
  have HB := hide (bx_below w s d t k i a len cap)
  unfold bx at HB
  unfold pk
  go_enter Tryd.func24, Tryd.ntmps24
  go_wp2_with (first
    | (go_at_call 17; refine (isfour_any _ _).mono ?_; rintro e w' ⟨rfl, rfl⟩)
    | (go_at_call 41; refine (isbyte_any _ _).mono ?_; rintro e w' ⟨rfl, rfl⟩)
    | (go_at_call 54; refine (word_any _ _).mono ?_; rintro e w' ⟨rfl, rfl⟩))
  go_ret
  exact ⟨rfl, HB.out⟩
set_option maxHeartbeats 1000000 in
theorem rfault_bad (s d t k i : Int) (a : Option Addr) (len cap : Nat) (w : World) (h : ¬ Okp s d t k i) :
    Calls Tryd.prog 24 #[pk s d t k i a len cap] w fun e w' => e = .returned (.int .i64 1) ∧ Below w.heap.size w w' := by
  have HB := hide (bx_below w s d t k i a len cap)
  unfold bx at HB
  unfold pk
  have hu : ¬ (up 4294967295 s = true ∧ up 4294967295 d = true ∧ up 255 t = true ∧ up 255 k = true ∧ up 65535 i = true) := fun ⟨h1, h2, h3, h4, h5⟩ => h ⟨up_true h1, up_true h2, up_true h3, up_true h4, up_true h5⟩
  clear h
  generalize hs : up 4294967295 s = us at hu
  generalize hd : up 4294967295 d = ud at hu
  generalize ht : up 255 t = ut at hu
  generalize hk : up 255 k = uk at hu
  generalize hi : up 65535 i = ui at hu
  cases us
  · clear hu
    go_enter Tryd.func24, Tryd.ntmps24
    go_wp2_with (first
      | (go_at_call 17; refine (isfour_any _ _).mono ?_; rintro e w' ⟨rfl, rfl⟩)
      | (go_at_call 41; refine (isbyte_any _ _).mono ?_; rintro e w' ⟨rfl, rfl⟩)
      | (go_at_call 54; refine (word_any _ _).mono ?_; rintro e w' ⟨rfl, rfl⟩))
    go_ret
    exact ⟨rfl, HB.out⟩
  · cases ud
    · clear hu
      go_enter Tryd.func24, Tryd.ntmps24
      go_wp2_with (first
        | (go_at_call 17; refine (isfour_any _ _).mono ?_; rintro e w' ⟨rfl, rfl⟩)
        | (go_at_call 41; refine (isbyte_any _ _).mono ?_; rintro e w' ⟨rfl, rfl⟩)
        | (go_at_call 54; refine (word_any _ _).mono ?_; rintro e w' ⟨rfl, rfl⟩))
      go_ret
      exact ⟨rfl, HB.out⟩
    · cases ut
      · clear hu
        go_enter Tryd.func24, Tryd.ntmps24
        go_wp2_with (first
          | (go_at_call 17; refine (isfour_any _ _).mono ?_; rintro e w' ⟨rfl, rfl⟩)
          | (go_at_call 41; refine (isbyte_any _ _).mono ?_; rintro e w' ⟨rfl, rfl⟩)
          | (go_at_call 54; refine (word_any _ _).mono ?_; rintro e w' ⟨rfl, rfl⟩))
        go_ret
        exact ⟨rfl, HB.out⟩
      · cases uk
        · clear hu
          go_enter Tryd.func24, Tryd.ntmps24
          go_wp2_with (first
            | (go_at_call 17; refine (isfour_any _ _).mono ?_; rintro e w' ⟨rfl, rfl⟩)
            | (go_at_call 41; refine (isbyte_any _ _).mono ?_; rintro e w' ⟨rfl, rfl⟩)
            | (go_at_call 54; refine (word_any _ _).mono ?_; rintro e w' ⟨rfl, rfl⟩))
          go_ret
          exact ⟨rfl, HB.out⟩
        · cases ui
          · clear hu
            go_enter Tryd.func24, Tryd.ntmps24
            go_wp2_with (first
              | (go_at_call 17; refine (isfour_any _ _).mono ?_; rintro e w' ⟨rfl, rfl⟩)
              | (go_at_call 41; refine (isbyte_any _ _).mono ?_; rintro e w' ⟨rfl, rfl⟩)
              | (go_at_call 54; refine (word_any _ _).mono ?_; rintro e w' ⟨rfl, rfl⟩))
            go_ret
            exact ⟨rfl, HB.out⟩
          · exact absurd ⟨rfl, rfl, rfl, rfl, rfl⟩ hu
end Go.Proofs.YtfjnioninjllkaaDoor.V4
