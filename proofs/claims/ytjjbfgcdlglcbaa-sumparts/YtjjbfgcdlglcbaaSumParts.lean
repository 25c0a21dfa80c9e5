/- The walk of the statement SumParts: whatever the two slices of bytes, the Go text returns true and writes nothing that was there. -/
import Derived.Test.YtjjbfgcdlglcbaaOwn
import Derived.Deep.RegionWith
namespace Go.Proofs.Ytjjbfgcdlglcbaa
open Go.RowKit
namespace PartsW

theorem bt {a b c : World} (h1 : Below a.heap.size a b) (h2 : Below b.heap.size b c) : Below a.heap.size a c := h1.trans (h2.mono h1.size)

theorem row_one (w : World) : Row8 (w.alloc (.cells #[.int .u8 1] 5)) (some ⟨w.heap.size, 0, none⟩) 1 1 [1] := by
  refine ⟨rfl, by simp [maxLen], ?_, (fun h => by cases h), fun _ => ⟨w.heap.size, 0, rfl, fun i hi => ?_⟩⟩
  · intro k
    match k with
    | 0 => simp
    | k + 1 => simp
  · obtain rfl : i = 0 := by omega
    simp
theorem row_two (w : World) (x y : Int) (hx : 0 ≤ x ∧ x ≤ 255) (hy : 0 ≤ y ∧ y ≤ 255) : Row8 (w.alloc (.cells #[.int .u8 x, .int .u8 y] 5)) (some ⟨w.heap.size, 0, none⟩) 2 2 [x, y] := by
  refine ⟨rfl, by simp [maxLen], ?_, (fun h => by cases h), fun _ => ⟨w.heap.size, 0, rfl, fun i hi => ?_⟩⟩
  · intro k
    match k with
    | 0 => simpa using hx
    | 1 => simpa using hy
    | k + 2 => simp
  · rcases (by omega : i = 0 ∨ i = 1) with rfl | rfl <;> simp
theorem of_one (w : World) : Calls Try.prog 5 #[.slice (some ⟨w.heap.size, 0, none⟩) 1 1] (w.alloc (.cells #[.int .u8 1] 5)) fun e w' => e = .returned (.tuple #[.int .i64 256, .nilIface]) ∧ w' = w.alloc (.cells #[.int .u8 1] 5) := by
  have h := of_ok _ 1 1 _ _ (row_one w) (by omega)
  have e : SM.fold (SM.tot [1] 1) = 256 := by decide
  rw [e] at h
  exact h
theorem of_own {base : Nat} {w : World} {v : Value} {zs : List Int} (h : Own base w v zs) (hl : zs.length ≤ 2000) (r : Int) (hr : SM.fold (SM.tot zs zs.length) = r) :
    Calls Try.prog 5 #[v] w fun e w' => e = .returned (.tuple #[.int .i64 r, .nilIface]) ∧ w' = w := by
  obtain ⟨a, cap, rfl, hrow, _⟩ := h.row8
  have := of_ok a zs.length cap zs w hrow hl
  rw [hr] at this
  exact this
theorem add_r (x y : Int) (w : World) (h : Word x ∧ Word y) (r : Int) (hr : SM.fold (x + y) = r) : Calls Try.prog 8 #[.int .i64 x, .int .i64 y] w fun e w' => e = .returned (.tuple #[.int .i64 r, .nilIface]) ∧ Below w.heap.size w w' := by
  have := add_ok x y w h
  rw [hr] at this
  exact this

set_option maxHeartbeats 1000000 in
theorem parts_out (a b : Option Addr) (la lb ca cb : Nat) (w : World) (hma : la ≤ maxLen) (hmb : lb ≤ maxLen) (h : la % 2 = 1 ∨ lb % 2 = 1 ∨ 500 < la ∨ 500 < lb) :
    Calls Try.prog 4 #[.slice a la ca, .slice b lb cb] w fun e w' => e = .returned (.bool true) ∧ Below w.heap.size w w' := by
  unfold maxLen at hma hmb
  by_cases h1 : la % 2 = 1
  · go_enter Try.func4, Try.ntmps4
    go_wp2_with (go_at_call 5; refine (of_one w).mono ?_; rintro e w' ⟨rfl, rfl⟩)
    go_ret
    exact ⟨rfl, (Below.refl _ _).alloc (Nat.le_refl _) _⟩
  · by_cases h2 : lb % 2 = 1
    · go_enter Try.func4, Try.ntmps4
      go_wp2_with (go_at_call 5; refine (of_one w).mono ?_; rintro e w' ⟨rfl, rfl⟩)
      go_ret
      exact ⟨rfl, (Below.refl _ _).alloc (Nat.le_refl _) _⟩
    · by_cases h3 : 500 < la
      · go_enter Try.func4, Try.ntmps4
        go_wp2_with (go_at_call 5; refine (of_one w).mono ?_; rintro e w' ⟨rfl, rfl⟩)
        go_ret
        exact ⟨rfl, (Below.refl _ _).alloc (Nat.le_refl _) _⟩
      · have h4 : 500 < lb := by omega
        go_enter Try.func4, Try.ntmps4
        go_wp2_with (go_at_call 5; refine (of_one w).mono ?_; rintro e w' ⟨rfl, rfl⟩)
        go_ret
        exact ⟨rfl, (Below.refl _ _).alloc (Nat.le_refl _) _⟩

set_option maxHeartbeats 2000000 in
theorem parts_in (a b : Option Addr) (la lb ca cb : Nat) (xs ys : List Int) (w : World) (ra0 : Row8 w a la ca xs) (rb0 : Row8 w b lb cb ys) (h1 : la % 2 = 0) (h2 : lb % 2 = 0) (h3 : la ≤ 500) (h4 : lb ≤ 500) :
    Calls Try.prog 4 #[.slice a la ca, .slice b lb cb] w fun e w' => e = .returned (.bool true) ∧ Below w.heap.size w w' := by
  have HA := hide ra0.1
  have HB := hide rb0.1
  have hA0 : Below w.heap.size w (w.alloc (.cells #[.int .u8 1] 5)) := (Below.refl _ _).alloc (Nat.le_refl _) _
  have ra := ra0.below hA0
  have rb := rb0.below hA0
  have bx := SM.tot_bd xs ra0.2.2.1 la
  have by' := SM.tot_bd ys rb0.2.2.1 lb
  have fx := SM.fold_bd _ bx.1
  have fy := SM.fold_bd _ by'.1
  have fz := SM.fold_bd (SM.tot xs la + SM.tot ys lb) (by omega)
  have EZ := hide (show SM.fold (SM.tot (xs ++ ys) (xs ++ ys).length) = SM.fold (SM.tot xs la + SM.tot ys lb) by
    rw [List.length_append, SM.tot_append xs ys (by rw [HA.out]; exact h1), HA.out, HB.out])
  have EW := hide (show SM.fold (SM.tot (ys ++ xs) (ys ++ xs).length) = SM.fold (SM.tot xs la + SM.tot ys lb) by
    rw [List.length_append, SM.tot_append ys xs (by rw [HB.out]; exact h2), HA.out, HB.out, Int.add_comm])
  have EB := hide (SM.fold_add _ _ bx.1 by'.1)
  have EC := hide (show ∀ c : Int, c = 65535 - SM.fold (SM.tot xs la + SM.tot ys lb) → SM.fold (SM.tot (xs ++ ys ++ [c / 256, c % 256]) (xs ++ ys ++ [c / 256, c % 256]).length) = 65535 by
    intro c hc
    have hl : (xs ++ ys ++ [c / 256, c % 256]).length = (xs ++ ys).length + 2 := by simp; omega
    rw [hl, SM.tot_append (xs ++ ys) _ (by rw [List.length_append, HA.out, HB.out]; omega), List.length_append, SM.tot_append xs ys (by rw [HA.out]; exact h1), HA.out, HB.out]
    have e : SM.tot [c / 256, c % 256] 2 = c := by simp [SM.tot]; omega
    rw [e, hc]
    exact SM.fold_not _ (by omega))
  have LZ : (xs ++ ys).length ≤ 2000 := by rw [List.length_append, HA.out, HB.out]; omega
  have LW : (ys ++ xs).length ≤ 2000 := by rw [List.length_append, HA.out, HB.out]; omega
  generalize SM.fold (SM.tot xs la + SM.tot ys lb) = z at fz EZ EW EB EC
  have hwx : Word (SM.fold (SM.tot xs la)) := fx
  have hwy : Word (SM.fold (SM.tot ys lb)) := fy
  have hwz : Word z := fz
  have HLF := hide (show (xs ++ ys ++ [(65535 - z) / 256, (65535 - z) % 256]).length ≤ 2000 by simp [HA.out, HB.out]; omega)
  have hq1 : ((la : Int) % 2 == 1) = false := by simp; omega
  have hq2 : ((lb : Int) % 2 == 1) = false := by simp; omega
  have HLZ := hide LZ
  have HLW := hide LW
  clear LZ LW
  go_enter Try.func4, Try.ntmps4
  go_wp2_with (first
    | (go_at_call_of 5 (Value.slice (some ⟨w.heap.size, 0, none⟩) 1 1); refine (of_one w).mono ?_; rintro e w' ⟨rfl, rfl⟩)
    | (at_builtin; refine wpList_app rfl (.tmp 54) (.tmp 55) rfl _ _ [] rfl (Own.nil _ _) a la ca xs rfl ra (by simp; omega) (Nat.le_refl _) ?_; intro v1 w1 o1 g1; have B1 := (Below.refl _ _).grown g1 (Nat.le_refl _) (fun k h => by cases h); replace o1 : Own _ w1 v1 xs := o1)
    | (at_builtin; refine wpList_app rfl (.tmp 57) (.tmp 58) rfl _ v1 xs rfl o1 b lb cb ys rfl (rb.below B1) (by rw [HA.out]; omega) B1.size ?_; intro v2 w2 o2 g2; have B2 := B1.grown g2 B1.size (fun k h => (o1.2.lt k h).1))
    | (at_builtin; refine wpList_app rfl (.tmp 60) (.tmp 61) rfl _ _ [] rfl (Own.nil _ _) b lb cb ys rfl (rb.below B2) (by simp; omega) (Nat.le_refl _) ?_; intro v3 w3 o3 g3; have C3 := (Below.refl _ _).grown g3 (Nat.le_refl _) (fun k h => by cases h); replace o3 : Own _ w3 v3 ys := o3)
    | (at_builtin; refine wpList_app rfl (.tmp 63) (.tmp 64) rfl _ v3 ys rfl o3 a la ca xs rfl (ra.below (bt B2 C3)) (by rw [HB.out]; omega) C3.size ?_; intro v4 w4 o4 g4; have C4 := C3.grown g4 C3.size (fun k h => (o3.2.lt k h).1); replace o2 := o2.kept C4; have B4 := bt B2 C4)
    | (go_at_call_of 5 (Value.slice a la ca); refine (of_ok _ _ _ xs _ (ra.below B4) (by omega)).mono ?_; rintro e w' ⟨rfl, rfl⟩)
    | (go_at_call_of 5 (Value.slice b lb cb); refine (of_ok _ _ _ ys _ (rb.below B4) (by omega)).mono ?_; rintro e w' ⟨rfl, rfl⟩)
    | (go_at_call_of 5 v2; refine (of_own o2 (unhide HLZ) z (unhide EZ)).mono ?_; rintro e w' ⟨rfl, rfl⟩)
    | (go_at_call_of 5 v4; refine (of_own o4 (unhide HLW) z (unhide EW)).mono ?_; rintro e w' ⟨rfl, rfl⟩)
    | (go_at_call 8; refine (add_r _ _ _ ⟨hwx, hwy⟩ z (unhide EB)).mono ?_; rintro e w5 ⟨rfl, hb⟩; replace o2 := o2.kept hb; replace B4 := bt B4 hb; clear hb)
    | (go_at_call 6; refine (not_ok _ _ hwz).mono ?_; rintro e w6 ⟨rfl, hb⟩; replace o2 := o2.kept hb; replace B4 := bt B4 hb; clear hb)
    | (at_builtin; refine wpList_app rfl (.tmp 97) (.tmp 104) rfl _ v2 (xs ++ ys) rfl (o2.kept ((Below.refl _ _).alloc (Nat.le_refl _) _)) _ 2 2 [(65535 - z) / 256, (65535 - z) % 256] rfl (row_two _ _ _ ⟨by omega, by omega⟩ ⟨by omega, by omega⟩) ?c1 ?c2 ?_))
  case c1 => have := HLZ.out; omega
  case c2 => have := B4.size; simp at this ⊢; omega
  intro v7 w7 o7 g7
  rw [← List.append_assoc] at o7
  have B7 := (B4.alloc B4.size _).grown g7 (by have := B4.size; simp at this ⊢; omega) (fun k h => (o2.2.lt k h).1)
  have c7 := hide (of_own o7 (unhide HLF) 65535 (unhide EC _ rfl))
  go_wp2_with (go_at_call_of 5 v7; refine (unhide c7).mono ?_; rintro e w9 ⟨rfl, rfl⟩)
  go_ret
  exact ⟨rfl, bt hA0 B7⟩

theorem parts_walk (a : Option Addr) (la ca : Nat) (xs : List Int) (b : Option Addr) (lb cb : Nat) (ys : List Int) (w : World) (ra : Row8 w a la ca xs) (rb : Row8 w b lb cb ys) :
    Calls Try.prog 4 #[.slice a la ca, .slice b lb cb] w fun e w' => e = .returned (.bool true) ∧ Below w.heap.size w w' := by
  by_cases h : la % 2 = 1 ∨ lb % 2 = 1 ∨ 500 < la ∨ 500 < lb
  · exact parts_out a b la lb ca cb w ra.2.1 rb.2.1 h
  · exact parts_in a b la lb ca cb xs ys w ra rb (by omega) (by omega) (by omega) (by omega)
end PartsW
end Go.Proofs.Ytjjbfgcdlglcbaa
