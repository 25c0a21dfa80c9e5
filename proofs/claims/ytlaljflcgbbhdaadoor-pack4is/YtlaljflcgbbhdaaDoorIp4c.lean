/- Package ip4: Check and header, by contracts. -/
import Derived.Test.YtlaljflcgbbhdaaDoorIp4b
namespace Go.Proofs.YtlaljflcgbbhdaaDoor
open Go.RowKit

/-- the numbers of a packet that may be. -/
def Okp (s d t k i : Int) : Prop := IsF s ∧ IsF d ∧ IsB t ∧ IsB k ∧ Word i
/-- a packet in a block of its own. -/
def bx (w : World) (s d t k i : Int) (a : Option Addr) (len cap : Nat) : World := w.alloc (.cells #[.int .i64 s, .int .i64 d, .int .i64 t, .int .i64 k, .int .i64 i, .slice a len cap] 24)
theorem bx_below (w : World) (s d t k i : Int) (a : Option Addr) (len cap : Nat) : Below w.heap.size w (bx w s d t k i a len cap) := (Below.refl _ _).alloc (Nat.le_refl _) _

def c4v (x : Int) : Value := if 0 ≤ x ∧ x ≤ 4294967295 then .nilIface else .iface 25 (.int .i64 1)
def up (m n : Int) : Bool := decide (0 ≤ n ∧ n ≤ m)
theorem c4v_ok {x : Int} (h : IsF x) : c4v x = .nilIface := if_pos h
theorem c4v_bad {x : Int} (h : ¬ IsF x) : c4v x = .iface 25 (.int .i64 1) := if_neg h
theorem c4_any (x : Int) (w : World) : Calls Tryd.prog 16 #[.int .i64 x] w fun e w' => e = .returned (c4v x) ∧ w' = w := by
  by_cases h : IsF x
  · rw [c4v_ok h]; exact c4_ok x w h
  · rw [c4v_bad h]; exact c4_bad x w h
theorem upto_any (m n : Int) (w : World) : Calls Tryd.prog 17 #[.int .i64 m, .int .i64 n] w fun e w' => e = .returned (.bool (up m n)) ∧ w' = w := by
  by_cases h : 0 ≤ n ∧ n ≤ m
  · rw [show up m n = true from decide_eq_true h]; exact upto_yes m n w h.1 h.2
  · rw [show up m n = false from decide_eq_false h]; exact upto_no m n w h

set_option maxHeartbeats 1000000 in
theorem check_ok (s d t k i : Int) (a : Option Addr) (len cap : Nat) (w : World) (h : Okp s d t k i) (hl : len ≤ 320) :
    Calls Tryd.prog 6 #[pk s d t k i a len cap] w fun e w' => e = .returned .nilIface ∧ Below w.heap.size w w' := by
  obtain ⟨hs, hd, ht, hk, hi⟩ := h
  replace hs := c4v_ok hs
  replace hd := c4v_ok hd
  replace ht : up 255 t = true := decide_eq_true ht
  replace hk : up 255 k = true := decide_eq_true hk
  replace hi : up 65535 i = true := decide_eq_true hi
  have HB := hide (bx_below w s d t k i a len cap)
  unfold bx at HB
  unfold pk
  go_enter Tryd.func6, Tryd.ntmps6
  go_wp2_with (first
    | (go_at_call 16; refine (c4_any _ _).mono ?_; rintro e w' ⟨rfl, rfl⟩)
    | (go_at_call 17; refine (upto_any _ _ _).mono ?_; rintro e w' ⟨rfl, rfl⟩))
  go_ret
  exact ⟨rfl, HB.out⟩
set_option maxHeartbeats 1000000 in
theorem check_full (s d t k i : Int) (a : Option Addr) (len cap : Nat) (w : World) (h : Okp s d t k i) (hl : 320 < len) (hm : len ≤ maxLen) :
    Calls Tryd.prog 6 #[pk s d t k i a len cap] w fun e w' => e = .returned (.iface 25 (.int .i64 3)) ∧ Below w.heap.size w w' := by
  obtain ⟨hs, hd, ht, hk, hi⟩ := h
  replace hs := c4v_ok hs
  replace hd := c4v_ok hd
  replace ht : up 255 t = true := decide_eq_true ht
  replace hk : up 255 k = true := decide_eq_true hk
  replace hi : up 65535 i = true := decide_eq_true hi
  unfold maxLen at hm
  have HB := hide (bx_below w s d t k i a len cap)
  unfold bx at HB
  unfold pk
  go_enter Tryd.func6, Tryd.ntmps6
  go_wp2_with (first
    | (go_at_call 16; refine (c4_any _ _).mono ?_; rintro e w' ⟨rfl, rfl⟩)
    | (go_at_call 17; refine (upto_any _ _ _).mono ?_; rintro e w' ⟨rfl, rfl⟩))
  go_ret
  exact ⟨rfl, HB.out⟩
set_option maxHeartbeats 1000000 in
theorem check_bad (s d t k i : Int) (a : Option Addr) (len cap : Nat) (w : World) (h : ¬ Okp s d t k i) :
    Calls Tryd.prog 6 #[pk s d t k i a len cap] w fun e w' => e = .returned (.iface 25 (.int .i64 1)) ∧ Below w.heap.size w w' := by
  have HB := hide (bx_below w s d t k i a len cap)
  unfold bx at HB
  unfold pk
  by_cases hs : IsF s
  · by_cases hd : IsF d
    · by_cases ht : IsB t
      · by_cases hk : IsB k
        · have hi : ¬ Word i := fun hi => h ⟨hs, hd, ht, hk, hi⟩
          clear h
          replace hs := c4v_ok hs
          replace hd := c4v_ok hd
          replace ht : up 255 t = true := decide_eq_true ht
          replace hk : up 255 k = true := decide_eq_true hk
          replace hi : up 65535 i = false := decide_eq_false hi
          go_enter Tryd.func6, Tryd.ntmps6
          go_wp2_with (first
            | (go_at_call 16; refine (c4_any _ _).mono ?_; rintro e w' ⟨rfl, rfl⟩)
            | (go_at_call 17; refine (upto_any _ _ _).mono ?_; rintro e w' ⟨rfl, rfl⟩))
          go_ret
          exact ⟨rfl, HB.out⟩
        · clear h
          replace hs := c4v_ok hs
          replace hd := c4v_ok hd
          replace ht : up 255 t = true := decide_eq_true ht
          replace hk : up 255 k = false := decide_eq_false hk
          go_enter Tryd.func6, Tryd.ntmps6
          go_wp2_with (first
            | (go_at_call 16; refine (c4_any _ _).mono ?_; rintro e w' ⟨rfl, rfl⟩)
            | (go_at_call 17; refine (upto_any _ _ _).mono ?_; rintro e w' ⟨rfl, rfl⟩))
          go_ret
          exact ⟨rfl, HB.out⟩
      · clear h
        replace hs := c4v_ok hs
        replace hd := c4v_ok hd
        replace ht : up 255 t = false := decide_eq_false ht
        go_enter Tryd.func6, Tryd.ntmps6
        go_wp2_with (first
          | (go_at_call 16; refine (c4_any _ _).mono ?_; rintro e w' ⟨rfl, rfl⟩)
          | (go_at_call 17; refine (upto_any _ _ _).mono ?_; rintro e w' ⟨rfl, rfl⟩))
        go_ret
        exact ⟨rfl, HB.out⟩
    · clear h
      replace hs := c4v_ok hs
      replace hd := c4v_bad hd
      go_enter Tryd.func6, Tryd.ntmps6
      go_wp2_with (first
        | (go_at_call 16; refine (c4_any _ _).mono ?_; rintro e w' ⟨rfl, rfl⟩)
        | (go_at_call 17; refine (upto_any _ _ _).mono ?_; rintro e w' ⟨rfl, rfl⟩))
      go_ret
      exact ⟨rfl, HB.out⟩
  · clear h
    replace hs := c4v_bad hs
    go_enter Tryd.func6, Tryd.ntmps6
    go_wp2_with (first
      | (go_at_call 16; refine (c4_any _ _).mono ?_; rintro e w' ⟨rfl, rfl⟩)
      | (go_at_call 17; refine (upto_any _ _ _).mono ?_; rintro e w' ⟨rfl, rfl⟩))
    go_ret
    exact ⟨rfl, HB.out⟩
end Go.Proofs.YtlaljflcgbbhdaaDoor
