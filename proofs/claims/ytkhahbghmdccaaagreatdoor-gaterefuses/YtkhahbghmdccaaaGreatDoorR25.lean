/- The document's own words and Encoded6, by contracts. The document's own words and FourBytes of a packet's head, by contracts. The document's own FourBytes and Bytes4, by contracts. The document's own Encoded4, by a contract. -/
import Derived.Test.YtkhahbghmdccaaaGreatDoorR05
import Derived.Test.YtkhahbghmdccaaaGreatDoorR22
import Derived.Test.YtkhahbghmdccaaaGreatDoorR23
import Derived.Test.YtkhahbghmdccaaaGreatDoorProg
import Derived.WalkKit
import Derived.LaidEql
import Derived.BigQuiet
import Derived.Below
import Derived.Laws.AppendOwnNone
import Derived.Laws.MakeOwn
import Derived.Deep.RegionLaw
import Derived.Test.YtkhahbghmdccaaaGreatDoorR07
import Derived.Test.YtkhahbghmdccaaaGreatDoorR09
namespace Go.Proofs.YtkhahbghmdccaaaGreatDoor.V6
open Go.RowKit
attribute [local go_sem ↓] Go.wp_at_zero Go.wp_at_succ
def wb (l : List Int) : Nat → List Int
  | 0 => []
  | k + 1 => wb l k ++ [l.getD k 0 / 256, l.getD k 0 % 256]
theorem wb_len (l : List Int) (k : Nat) : (wb l k).length = 2 * k := by
  induction k with
  | zero => rfl
  | succ k ih => simp only [wb, List.length_append, List.length_cons, List.length_nil, ih]; omega
theorem row_pair (w : World) (x y : Int) (hx : 0 ≤ x ∧ x ≤ 255) (hy : 0 ≤ y ∧ y ≤ 255) : Row8 (w.alloc (.cells #[.int .u8 x, .int .u8 y] 5)) (some ⟨w.heap.size, 0, none⟩) 2 2 [x, y] := by
  refine ⟨rfl, by simp [maxLen], ?_, (fun h => by cases h), fun _ => ⟨w.heap.size, 0, rfl, fun i hi => ?_⟩⟩
  · intro k
    match k with
    | 0 => simpa using hx
    | 1 => simpa using hy
    | k + 2 => simp
  · rcases (by omega : i = 0 ∨ i = 1) with rfl | rfl <;> simp
def Ws (B n : Nat) (l : List Int) (w : World) : Prop := ∀ k, k < n → w.cell? ⟨B, k, none⟩ = some (.int .i64 (l.getD k 0))
theorem Ws.lt {B n : Nat} {l : List Int} {w : World} (h : Ws B n l w) (hn : 0 < n) : B < w.heap.size := World.block_lt_of_cell? w _ (h 0 hn)
theorem Ws.kept {B n : Nat} {l : List Int} {w w' : World} (h : Ws B n l w) (hb : Below w.heap.size w w') : Ws B n l w' := fun k hk => by rw [hb.cell (p := ⟨B, k, none⟩) (h.lt (by omega))]; exact h k hk
set_option maxHeartbeats 4000000 in
set_option maxRecDepth 100000 in
theorem words_any (B n : Nat) (hn : n ≤ 100) (l : List Int) (w : World) (hl : Ws B n l w) (hw : ∀ k, k < n → 0 ≤ l.getD k 0 ∧ l.getD k 0 ≤ 65535) :
    Calls Tryz.prog 110 #[.slice none 0 0, .slice (some ⟨B, 0, none⟩) n n] w fun e w' => ∃ v, e = .returned v ∧ Own w.heap.size w' v (wb l n) ∧ Below w.heap.size w w' := by
  go_enter Tryz.func110, Tryz.ntmps110
  go_wp2
  go_loopw [0, 5] (fun v i wr => ∃ k : Nat, k ≤ n ∧ i = .int .i64 k ∧ Hid (Own w.heap.size wr v (wb l k)) ∧ Hid (Below w.heap.size w wr)) (fun _ i _ => n - (intOf i).toNat)
  case atStart => exact ⟨0, by omega, rfl, Own.nil _ _, Below.refl _ _⟩
  case round =>
    obtain ⟨k, hk, rfl, HO, HB⟩ := hrel
    by_cases hlt : k < n
    · have hcx := (hl.kept HB.out) k hlt
      have hx := hw k hlt
      have HS := hide (show wb l (k + 1) = wb l k ++ [l.getD k 0 / 256, l.getD k 0 % 256] from rfl)
      have HLN := hide (show (wb l k).length + 2 ≤ 1000000000 by rw [wb_len]; omega)
      generalize l.getD k 0 = x at hcx hx HS
      obtain ⟨hx0, hx1⟩ := hx
      have hsz := HB.out.size
      have i0 : (0 : Int) ≤ (k : Int) := by omega
      have i1 : (k : Int) < (n : Int) := by omega
      have q1 : IntKind.i64.wrap (x.tdiv 256) = x / 256 := by rw [Int.tdiv_eq_ediv_of_nonneg hx0, IntKind.wrap_i64]; omega
      have q2 : IntKind.u8.wrap (x / 256) = x / 256 := by rw [IntKind.wrap_u8]; omega
      have q3 : x.tmod 256 = x % 256 := Int.tmod_eq_emod_of_nonneg hx0
      have q4 : IntKind.u8.wrap (x % 256) = x % 256 := by rw [IntKind.wrap_u8]; omega
      have hb1 : Below wr.heap.size wr (wr.alloc (.cells #[.int .u8 (x / 256), .int .u8 (x % 256)] 5)).drew := ((Below.refl _ _).alloc (Nat.le_refl _) _).drew
      have HO2 := hide (HO.out.kept hb1)
      have HB2 := hide (HB.out.trans (hb1.mono hsz))
      have HC := hide (show Row8 (wr.alloc (.cells #[.int .u8 (x / 256), .int .u8 (x % 256)] 5)).drew (some ⟨wr.heap.size, 0, none⟩) 2 2 [x / 256, x % 256] from row_pair wr (x / 256) (x % 256) (by omega) (by omega))
      have HN := hide (show (wb l k ++ [x / 256, x % 256]).length = 2 * k + 2 by rw [List.length_append, wb_len]; rfl)
      have HSZ := hide (show w.heap.size ≤ (wr.alloc (.cells #[.int .u8 (x / 256), .int .u8 (x % 256)] 5)).drew.heap.size from Nat.le_trans hsz hb1.size)
      have hne : wr.heap.size ≠ B := World.new_ne wr _ hcx
      have HN2 := hide (show ∀ r, (∀ g, r = some g → w.heap.size ≤ g) → some B ≠ r from fun r hr e => by have := hr B e.symm; have := hl.lt (by omega); omega)
      have HN3 := hide (fun g h => (HO.out.2.lt g h).1)
      clear hl hw hb1
      go_wp2
      go_region_held3 (fun w' => w'.cell? ⟨B, k, none⟩ = some (.int .i64 x))
        (first
          | go_keep
          | (go_split_ands; exact g5.cell (by simp [*]) (HN2.out _ HN3.out)))
        (first | (refine step_app rfl (.tmp 12) (.tmp 25) rfl w.heap.size _ (wb l k) (by rfl) HO2.out _ ⟨_, rfl⟩ 2 2 [x / 256, x % 256] (2 * k + 2) HN.out (by rfl) HC.out HLN.out HSZ.out ?_; intro a5 c5 w5 o5 g5))
      have HB3 := hide (HB2.out.grown g5 HSZ.out (fun g h => HN3.out g h))
      replace o5 := hide o5
      go_wp2_with fail
      go_roundw
      case rel => exact ⟨k + 1, by omega, by go_num, HS.out ▸ o5.out, HB3⟩
      case measure => simp [intOf]; omega
    · obtain rfl : k = n := by omega
      go_wp2
      go_ret
      exact ⟨_, rfl, HO.out, HB.out⟩
theorem rbytes_ok (z : List Int) (w : World) (hz : Ok6 z) : Calls Tryz.prog 94 #[.agg (sixC z)] w fun e w' => ∃ a c, e = .returned (.slice a 16 c) ∧ Row8 w' a 16 c (by16 z 8) ∧ Below w.heap.size w w' := by
  refine (bytesof_any z w hz).mono ?_
  rintro e w' ⟨v, rfl, ho, hb⟩
  have ho' : Own (w.heap.size + 1) w' v (by16 z 8) := ⟨oct_by16 z hz 8 (by omega), by
    unfold OwnG u8s at ho
    rw [List.length_map] at ho
    exact ho⟩
  obtain ⟨a, c, rfl, hr, _⟩ := ho'.row8
  rw [by16_len] at hr
  exact ⟨a, c, by rw [by16_len], hr, hb⟩
theorem wb4 (n k h : Int) (hh : 0 ≤ h ∧ h ≤ 255) : wb [24576, 0, n, k * 256 + h] 4 = h8 n k h := by
  have e1 : (k * 256 + h) / 256 = k := by omega
  have e2 : (k * 256 + h) % 256 = h := by omega
  show ((([] ++ [(24576 : Int) / 256, 24576 % 256]) ++ [(0 : Int) / 256, 0 % 256]) ++ [n / 256, n % 256]) ++ [(k * 256 + h) / 256, (k * 256 + h) % 256] = h8 n k h
  rw [e1, e2]
  rfl
theorem ws4 (w : World) (x0 x1 x2 x3 : Int) : Ws w.heap.size 4 [x0, x1, x2, x3] (w.alloc (.cells #[.int .i64 x0, .int .i64 x1, .int .i64 x2, .int .i64 x3] 3)) := by
  intro k hk
  rcases (by omega : k = 0 ∨ k = 1 ∨ k = 2 ∨ k = 3) with rfl | rfl | rfl | rfl <;> simp
set_option maxRecDepth 100000 in
set_option maxHeartbeats 4000000 in
theorem encoded_any (s d : List Int) (h k : Int) (a : Option Addr) (len cap : Nat) (body : List Int) (w : World) (ho : Okp s d h k) (hl : len ≤ 320) (hr : Row8 w a len cap body) :
    Calls Tryz.prog 54 #[pk s d h k a len cap] w fun e w' => ∃ v, e = .returned v ∧ Own w.heap.size w' v (bys s d h k body) ∧ Below w.heap.size w w' := by
  have HB := hide (al_below w (.cells (pkC s d h k a len cap) 101))
  have HP := hide (pk_new w s d h k a len cap)
  have HS := hide (fun w => rbytes_ok s w ho.1)
  have HD := hide (fun w => rbytes_ok d w ho.2.1)
  have hlen := hr.1
  have HBY := hide (show bys s d h k body = ((h8 len k h ++ by16 s 8) ++ by16 d 8) ++ body by unfold bys; rw [hlen])
  have H4 := hide (wb4 len k h ho.2.2.1)
  obtain ⟨-, -, ⟨hh0, hh1⟩, ⟨hk0, hk1⟩⟩ := ho
  have HW := hide (fun B W h' => words_any B 4 (by omega) [24576, 0, (len : Int), k * 256 + h] W h' (by
    intro j hj
    rcases (by omega : j = 0 ∨ j = 1 ∨ j = 2 ∨ j = 3) with rfl | rfl | rfl | rfl
    · simp
    · simp
    · simp; omega
    · simp; omega))
  rw [H4.out] at HW
  have HLs := hide (by16_len s 8)
  have HLd := hide (by16_len d 8)
  generalize by16 s 8 = S at HS HBY HLs
  generalize by16 d 8 = D at HD HBY HLd
  have HR := hide hr
  unfold pk
  clear hr H4
  go_enter Tryz.func54, Tryz.ntmps54
  go_upto_region 1 with fail
  generalize w.alloc (.cells (pkC s d h k a len cap) 101) = W at HB HP ⊢
  have l3 := HP.out.hop
  have l4 := HP.out.kind
  have l5 := HP.out.body
  go_upto_region 3 with (go_at_call 110; refine (HW.out _ _ (ws4 W 24576 0 len (k * 256 + h))).mono ?_; rintro e w1 ⟨v1, rfl, o1, hb1⟩; have hbw := bt (al_below W (.cells #[.int .i64 24576, .int .i64 0, .int .i64 (len : Int), .int .i64 (k * 256 + h)] 3)) hb1; rw [World.size_alloc] at o1; have hg1 := hide (show Gr W w1 v1 (h8 len k h) from ⟨o1.mono (Nat.le_succ _), hbw⟩); clear hb1 hbw o1 l3 l4 l5)
  have HP1 := hide (HP.out.kept hg1.out.2)
  go_upto_region 4 with (first
    | (refine at_src rfl (.tmp 17) rfl rfl HP1.out ?_)
    | (go_at_call 94; with_reducible refine (HS.out _).mono ?_; rintro e w2 ⟨a2, c2, rfl, hr2, hb2⟩; replace hg1 := hide (hg1.out.below hb2); replace hr2 := hide hr2; clear hb2)
    | (at_builtin; refine gr_app rfl (.tmp 16) (.tmp 19) rfl rfl hg1.out rfl hr2.out (by simp [h8]) ?_; intro v3 w3 hg3; replace hg3 := hide hg3))
  clear HP1 hg1 hr2
  have HP3 := hide (HP.out.kept hg3.out.2)
  go_upto_region 5 with (first
    | (refine at_dst rfl (.tmp 22) rfl rfl HP3.out ?_)
    | (go_at_call 94; with_reducible refine (HD.out _).mono ?_; rintro e w4 ⟨a4, c4, rfl, hr4, hb4⟩; replace hg3 := hide (hg3.out.below hb4); replace hr4 := hide hr4; clear hb4)
    | (at_builtin; refine gr_app rfl (.tmp 21) (.tmp 24) rfl rfl hg3.out rfl hr4.out (by simp [h8, HLs.out]) ?_; intro v5 w5 hg5; replace hg5 := hide hg5))
  clear HP3 hg3 hr4
  have l5 := (HP.out.kept hg5.out.2).body
  go_wp2_with (at_builtin; refine gr_app rfl (.tmp 26) (.tmp 28) rfl rfl hg5.out rfl ((HR.out.below HB.out).below hg5.out.2) (by simp [h8, HLs.out, HLd.out]; omega) ?_; intro v8 w8 hg8; replace hg8 := hide hg8)
  go_ret
  exact ⟨v8, rfl, HBY.out ▸ hg8.out.1.mono HB.out.size, HB.out.trans (hg8.out.2.mono HB.out.size)⟩
end Go.Proofs.YtkhahbghmdccaaaGreatDoor.V6

namespace Go.Proofs.YtkhahbghmdccaaaGreatDoor.V4
open Go.RowKit
attribute [local go_sem ↓] Go.wp_at_zero Go.wp_at_succ
def wb (l : List Int) : Nat → List Int
  | 0 => []
  | k + 1 => wb l k ++ [l.getD k 0 / 256, l.getD k 0 % 256]
theorem wb_len (l : List Int) (k : Nat) : (wb l k).length = 2 * k := by
  induction k with
  | zero => rfl
  | succ k ih => simp only [wb, List.length_append, List.length_cons, List.length_nil, ih]; omega
theorem row_pair (w : World) (x y : Int) (hx : 0 ≤ x ∧ x ≤ 255) (hy : 0 ≤ y ∧ y ≤ 255) : Row8 (w.alloc (.cells #[.int .u8 x, .int .u8 y] 5)) (some ⟨w.heap.size, 0, none⟩) 2 2 [x, y] := by
  refine ⟨rfl, by simp [maxLen], ?_, (fun h => by cases h), fun _ => ⟨w.heap.size, 0, rfl, fun i hi => ?_⟩⟩
  · intro k
    match k with
    | 0 => simpa using hx
    | 1 => simpa using hy
    | k + 2 => simp
  · rcases (by omega : i = 0 ∨ i = 1) with rfl | rfl <;> simp
def Six0 (B : Nat) (l : List Int) (w : World) : Prop := ∀ k, k < 6 → w.cell? ⟨B, k, none⟩ = some (.int .i64 (l.getD k 0))
theorem Six0.lt {B : Nat} {l : List Int} {w : World} (h : Six0 B l w) : B < w.heap.size := World.block_lt_of_cell? w _ (h 0 (by omega))
theorem Six0.kept {B : Nat} {l : List Int} {w w' : World} (h : Six0 B l w) (hb : Below w.heap.size w w') : Six0 B l w' := fun k hk => by rw [hb.cell (p := ⟨B, k, none⟩) h.lt]; exact h k hk
set_option maxHeartbeats 4000000 in
set_option maxRecDepth 100000 in
theorem words_any (B : Nat) (l : List Int) (w : World) (hl : Six0 B l w) (hw : ∀ k, k < 6 → 0 ≤ l.getD k 0 ∧ l.getD k 0 ≤ 65535) :
    Calls Tryz.prog 110 #[.slice none 0 0, .slice (some ⟨B, 0, none⟩) 6 6] w fun e w' => ∃ v, e = .returned v ∧ Own w.heap.size w' v (wb l 6) ∧ Below w.heap.size w w' := by
  go_enter Tryz.func110, Tryz.ntmps110
  go_wp2
  go_loopw [0, 5] (fun v i wr => ∃ k : Nat, k ≤ 6 ∧ i = .int .i64 k ∧ Hid (Own w.heap.size wr v (wb l k)) ∧ Hid (Below w.heap.size w wr)) (fun _ i _ => 6 - (intOf i).toNat)
  case atStart => exact ⟨0, by omega, rfl, Own.nil _ _, Below.refl _ _⟩
  case round =>
    obtain ⟨k, hk, rfl, HO, HB⟩ := hrel
    by_cases hlt : k < 6
    · have hcx := (hl.kept HB.out) k hlt
      have hx := hw k hlt
      have HS := hide (show wb l (k + 1) = wb l k ++ [l.getD k 0 / 256, l.getD k 0 % 256] from rfl)
      have HLN := hide (show (wb l k).length + 2 ≤ 1000000000 by rw [wb_len]; omega)
      generalize l.getD k 0 = x at hcx hx HS
      obtain ⟨hx0, hx1⟩ := hx
      have hsz := HB.out.size
      have i0 : (0 : Int) ≤ (k : Int) := by omega
      have i1 : (k : Int) < 6 := by omega
      have q1 : IntKind.i64.wrap (x.tdiv 256) = x / 256 := by rw [Int.tdiv_eq_ediv_of_nonneg hx0, IntKind.wrap_i64]; omega
      have q2 : IntKind.u8.wrap (x / 256) = x / 256 := by rw [IntKind.wrap_u8]; omega
      have q3 : x.tmod 256 = x % 256 := Int.tmod_eq_emod_of_nonneg hx0
      have q4 : IntKind.u8.wrap (x % 256) = x % 256 := by rw [IntKind.wrap_u8]; omega
      have hb1 : Below wr.heap.size wr (wr.alloc (.cells #[.int .u8 (x / 256), .int .u8 (x % 256)] 5)).drew := ((Below.refl _ _).alloc (Nat.le_refl _) _).drew
      have HO2 := hide (HO.out.kept hb1)
      have HB2 := hide (HB.out.trans (hb1.mono hsz))
      have HC := hide (show Row8 (wr.alloc (.cells #[.int .u8 (x / 256), .int .u8 (x % 256)] 5)).drew (some ⟨wr.heap.size, 0, none⟩) 2 2 [x / 256, x % 256] from row_pair wr (x / 256) (x % 256) (by omega) (by omega))
      have HN := hide (show (wb l k ++ [x / 256, x % 256]).length = 2 * k + 2 by rw [List.length_append, wb_len]; rfl)
      have HSZ := hide (show w.heap.size ≤ (wr.alloc (.cells #[.int .u8 (x / 256), .int .u8 (x % 256)] 5)).drew.heap.size from Nat.le_trans hsz hb1.size)
      have hne : wr.heap.size ≠ B := World.new_ne wr _ hcx
      have HN2 := hide (show ∀ r, (∀ g, r = some g → w.heap.size ≤ g) → some B ≠ r from fun r hr e => by have := hr B e.symm; have := hl.lt; omega)
      have HN3 := hide (fun g h => (HO.out.2.lt g h).1)
      clear hl hw hb1
      go_wp2
      go_region_held3 (fun w' => w'.cell? ⟨B, k, none⟩ = some (.int .i64 x))
        (first
          | go_keep
          | (go_split_ands; exact g5.cell (by simp [*]) (HN2.out _ HN3.out)))
        (first | (refine step_app rfl (.tmp 12) (.tmp 25) rfl w.heap.size _ (wb l k) (by rfl) HO2.out _ ⟨_, rfl⟩ 2 2 [x / 256, x % 256] (2 * k + 2) HN.out (by rfl) HC.out HLN.out HSZ.out ?_; intro a5 c5 w5 o5 g5))
      have HB3 := hide (HB2.out.grown g5 HSZ.out (fun g h => HN3.out g h))
      replace o5 := hide o5
      go_wp2_with fail
      go_roundw
      case rel => exact ⟨k + 1, by omega, by go_num, HS.out ▸ o5.out, HB3⟩
      case measure => simp [intOf]; omega
    · obtain rfl : k = 6 := by omega
      go_wp2
      go_ret
      exact ⟨_, rfl, HO.out, HB.out⟩
end Go.Proofs.YtkhahbghmdccaaaGreatDoor.V4

namespace Go.Proofs.YtkhahbghmdccaaaGreatDoor.V4
open Go.RowKit
theorem al_below (w : World) (o : Obj) : Below w.heap.size w (w.alloc o) := (Below.refl _ _).alloc (Nat.le_refl _) _
theorem row_four (w : World) (x0 x1 x2 x3 : Int) (h0 : 0 ≤ x0 ∧ x0 ≤ 255) (h1 : 0 ≤ x1 ∧ x1 ≤ 255) (h2 : 0 ≤ x2 ∧ x2 ≤ 255) (h3 : 0 ≤ x3 ∧ x3 ≤ 255) : Row8 (w.alloc (.cells #[.int .u8 x0, .int .u8 x1, .int .u8 x2, .int .u8 x3] 5)) (some ⟨w.heap.size, 0, none⟩) 4 4 [x0, x1, x2, x3] := by
  refine ⟨rfl, by simp [maxLen], ?_, (fun h => by cases h), fun _ => ⟨w.heap.size, 0, rfl, fun i hi => ?_⟩⟩
  · intro k
    match k with
    | 0 => simpa using h0
    | 1 => simpa using h1
    | 2 => simpa using h2
    | 3 => simpa using h3
    | k + 4 => simp
  · rcases (by omega : i = 0 ∨ i = 1 ∨ i = 2 ∨ i = 3) with rfl | rfl | rfl | rfl <;> simp
def b4 (f : Int) : List Int := [f / 16777216, f / 65536 % 256, f / 256 % 256, f % 256]
theorem rfour_row (f : Int) (w : World) (h : IsF f) : Calls Tryz.prog 133 #[.int .i64 f] w fun e w' => ∃ B, e = .returned (.slice (some ⟨B, 0, none⟩) 4 4) ∧ Row8 w' (some ⟨B, 0, none⟩) 4 4 (b4 f) ∧ Below w.heap.size w w' := by
  obtain ⟨h0, h1⟩ := h
  have HR := hide (row_four w (f / 16777216) (f / 65536 % 256) (f / 256 % 256) (f % 256) (by omega) (by omega) (by omega) (by omega))
  have HB := hide ((Below.refl w.heap.size w).alloc (Nat.le_refl _) (.cells #[.int .u8 (f / 16777216), .int .u8 (f / 65536 % 256), .int .u8 (f / 256 % 256), .int .u8 (f % 256)] 5))
  go_enter Tryz.func133, Tryz.ntmps133
  go_wp2
  go_ret
  exact ⟨_, rfl, HR.out, HB.out⟩
theorem hd_wb (s d t k i n c : Int) (hk : 0 ≤ k ∧ k ≤ 255) : (wb [17664, n, i, 16384, t * 256 + k, c] 6 ++ b4 s) ++ b4 d = P4.hd s d t k i n c := by
  have e1 : (t * 256 + k) / 256 = t := by omega
  have e2 : (t * 256 + k) % 256 = k := by omega
  simp [wb, b4, P4.hd, e1, e2]
theorem six0_new (w : World) (x0 x1 x2 x3 x4 x5 : Int) : Six0 w.heap.size [x0, x1, x2, x3, x4, x5] (w.alloc (.cells #[.int .i64 x0, .int .i64 x1, .int .i64 x2, .int .i64 x3, .int .i64 x4, .int .i64 x5] 3)) := by
  intro k hk
  rcases (by omega : k = 0 ∨ k = 1 ∨ k = 2 ∨ k = 3 ∨ k = 4 ∨ k = 5) with rfl | rfl | rfl | rfl | rfl | rfl <;> simp
set_option maxHeartbeats 4000000 in
theorem bytes4_any (s d t k i : Int) (a : Option Addr) (len cap : Nat) (c : Int) (w : World) (h : Okp s d t k i) (hl : len ≤ 320) (hc : 0 ≤ c ∧ c ≤ 65535) :
    Calls Tryz.prog 80 #[pk s d t k i a len cap, .int .i64 c] w fun e w' => ∃ v, e = .returned v ∧ Own w.heap.size w' v (P4.hd s d t k i (20 + len) c) ∧ Below w.heap.size w w' := by
  obtain ⟨hs, hd, ht, hk, hi⟩ := h
  have HS := hide (fun W => rfour_row s W hs)
  have HD := hide (fun W => rfour_row d W hd)
  have HW := hide (fun B W h => words_any B [17664, 20 + (len : Int), i, 16384, t * 256 + k, c] W h (by
    intro j hj
    obtain ⟨ht0, ht1⟩ := ht
    obtain ⟨hk0, hk1⟩ := hk
    obtain ⟨hi0, hi1⟩ := hi
    rcases (by omega : j = 0 ∨ j = 1 ∨ j = 2 ∨ j = 3 ∨ j = 4 ∨ j = 5) with rfl | rfl | rfl | rfl | rfl | rfl <;> simp only [List.getD_cons_zero, List.getD_cons_succ] <;> omega))
  have HH := hide (hd_wb s d t k i (20 + (len : Int)) c hk)
  have HL1 := hide (show (wb [17664, 20 + (len : Int), i, 16384, t * 256 + k, c] 6).length + 4 ≤ 1000000000 by rw [wb_len]; omega)
  have HL2 := hide (show (wb [17664, 20 + (len : Int), i, 16384, t * 256 + k, c] 6 ++ b4 s).length + 4 ≤ 1000000000 by rw [List.length_append, wb_len]; simp [b4])
  have HB0 := hide (bx_below w s d t k i a len cap)
  have HP := hide (pk_new w s d t k i a len cap)
  unfold bx at HB0
  have hbs := al_below (w.alloc (.cells #[.int .i64 s, .int .i64 d, .int .i64 t, .int .i64 k, .int .i64 i, .slice a len cap] 65)) (.cells #[.int .i64 17664, .int .i64 (20 + (len : Int)), .int .i64 i, .int .i64 16384, .int .i64 (t * 256 + k), .int .i64 c] 3)
  have HX := hide (six0_new (w.alloc (.cells #[.int .i64 s, .int .i64 d, .int .i64 t, .int .i64 k, .int .i64 i, .slice a len cap] 65)) 17664 (20 + (len : Int)) i 16384 (t * 256 + k) c)
  rw [World.size_alloc] at HX
  replace HB0 := hide (bt HB0.out hbs)
  replace HP := hide (HP.out.kept hbs)
  generalize wb [17664, 20 + (len : Int), i, 16384, t * 256 + k, c] 6 = Z at HW HH HL1 HL2
  obtain ⟨ht0, ht1⟩ := ht
  obtain ⟨hk0, hk1⟩ := hk
  obtain ⟨hi0, hi1⟩ := hi
  have HPL := hide HP.out.lt
  clear hbs hs hd
  unfold pk
  go_enter Tryz.func80, Tryz.ntmps80
  go_upto_region 3 with (go_at_call 110; refine (HW.out _ _ HX.out).mono ?_; rintro e w1 ⟨v1, rfl, o1, hb1⟩; replace HP := hide (HP.out.kept hb1); replace o1 := hide (o1.mono (show w.heap.size + 1 ≤ _ from HPL.out)); replace HB0 := hide (bt HB0.out hb1); clear hb1)
  obtain ⟨p0, p1, -, -, -, -⟩ := HP.out.all
  go_upto_region 4 with (first
    | (go_at_call 133; refine (HS.out _).mono ?_; rintro e w2 ⟨B2, rfl, hr2, hb2⟩; replace HP := hide (HP.out.kept hb2); replace o1 := hide (o1.out.kept hb2); replace HB0 := hide (bt HB0.out hb2); replace hr2 := hide hr2; clear hb2 p0 p1)
    | (at_builtin; refine wpList_app rfl (.tmp 22) (.tmp 25) rfl (w.heap.size + 1) _ Z rfl o1.out _ 4 4 _ rfl hr2.out HL1.out HP.out.lt ?_; intro v3 w3 o3 g3; replace o3 := hide o3; replace HP := hide (show PkIn w.heap.size s d t k i a len cap w3 from (g3.block _ HP.out.lt (fun e => by have := (o1.out.2.lt _ e.symm).1; omega)).trans HP.out); replace HB0 := hide (HB0.out.grown g3 HB0.out.size (fun g h => Nat.le_of_succ_le (o1.out.2.lt g h).1))))
  clear hr2
  obtain ⟨-, p1, -, -, -, -⟩ := HP.out.all
  go_wp2_with (first
    | (go_at_call 133; refine (HD.out _).mono ?_; rintro e w4 ⟨B4, rfl, hr4, hb4⟩; replace HP := hide (HP.out.kept hb4); replace o3 := hide (o3.out.kept hb4); replace HB0 := hide (bt HB0.out hb4); replace hr4 := hide hr4; clear hb4 p1)
    | (at_builtin; refine wpList_app rfl (.tmp 27) (.tmp 30) rfl (w.heap.size + 1) _ (Z ++ b4 s) rfl o3.out _ 4 4 _ rfl hr4.out HL2.out HP.out.lt ?_; intro v5 w5 o5 g5; replace o5 := hide o5; replace HB0 := hide (HB0.out.grown g5 HB0.out.size (fun g h => Nat.le_of_succ_le (o3.out.2.lt g h).1))))
  go_ret
  rw [HH.out] at o5
  exact ⟨_, rfl, o5.out.mono (Nat.le_succ _), HB0.out⟩
end Go.Proofs.YtkhahbghmdccaaaGreatDoor.V4

namespace Go.Proofs.YtkhahbghmdccaaaGreatDoor.V4
open Go.RowKit
attribute [local go_sem ↓] Go.wp_at_zero Go.wp_at_succ
theorem bytes4_form (s d t k i : Int) (a : Option Addr) (len cap : Nat) (c : Int) (w : World) (h : Okp s d t k i) (hl : len ≤ 320) (hc : 0 ≤ c ∧ c ≤ 65535) :
    Calls Tryz.prog 80 #[pk s d t k i a len cap, .int .i64 c] w fun e w' => ∃ g c', e = .returned (.slice (some ⟨g, 0, none⟩) 20 c') ∧ Row8 w' (some ⟨g, 0, none⟩) 20 c' (P4.hd s d t k i (20 + len) c) ∧ Own w.heap.size w' (.slice (some ⟨g, 0, none⟩) 20 c') (P4.hd s d t k i (20 + len) c) ∧ Below w.heap.size w w' := by
  refine (bytes4_any s d t k i a len cap c w h hl hc).mono ?_
  rintro e w' ⟨v, rfl, ho, hb⟩
  obtain ⟨g, c', rfl, _, _, _, _, hr⟩ := ho.form (by rw [P4.hd_len]; omega)
  rw [P4.hd_len] at hr ho ⊢
  exact ⟨g, c', rfl, hr, ho, hb⟩
set_option maxRecDepth 100000 in
set_option maxHeartbeats 4000000 in
theorem encoded4_any (s d t k i : Int) (a : Option Addr) (len cap : Nat) (body : List Int) (w : World) (h : Okp s d t k i) (hl : len ≤ 320) (hr : Row8 w a len cap body) :
    Calls Tryz.prog 28 #[pk s d t k i a len cap] w fun e w' => ∃ v, e = .returned v ∧ Own w.heap.size w' v (bys s d t k i body) ∧ Below w.heap.size w w' := by
  have HO := hide (okp_okh h hl)
  have hck := P4.ck_in _ _ _ _ _ _ HO.out
  have hlen := hr.1
  have HB1 := hide (fun W => bytes4_form s d t k i a len cap 0 W h hl (by omega))
  have HB2 := hide (fun W => bytes4_form s d t k i a len cap _ W h hl hck)
  have HSum := hide (fun g c' W (h : Row8 W (some ⟨g, 0, none⟩) 20 c' (P4.hd s d t k i (20 + len) 0)) => rsumof_any _ 20 c' _ W h (by omega))
  have hq : 65535 - SM.fold (SM.tot (P4.hd s d t k i (20 + len) 0) 20) = P4.ck s d t k i (20 + len) := rfl
  have HBY := hide (show bys s d t k i body = P4.hd s d t k i (20 + len) (P4.ck s d t k i (20 + len)) ++ body by unfold bys; rw [hlen])
  have HLN := hide (show (P4.hd s d t k i (20 + len) (P4.ck s d t k i (20 + len))).length + len ≤ 1000000000 by rw [P4.hd_len]; omega)
  generalize P4.ck s d t k i (20 + (len : Int)) = c at hck HB2 hq HBY HLN
  generalize SM.fold (SM.tot (P4.hd s d t k i (20 + (len : Int)) 0) 20) = x at HSum hq
  have hq2 : IntKind.i64.wrap (65535 - x) = c := by rw [IntKind.wrap_i64]; omega
  have HQ := hide hq
  have HR := hide hr
  have HB0 := hide (show Below w.heap.size w (w.alloc (.cells #[.int .i64 s, .int .i64 d, .int .i64 t, .int .i64 k, .int .i64 i, .slice a len cap] 65)).drew from (bx_below w s d t k i a len cap).drew)
  have HP := hide (show PkIn w.heap.size s d t k i a len cap (w.alloc (.cells #[.int .i64 s, .int .i64 d, .int .i64 t, .int .i64 k, .int .i64 i, .slice a len cap] 65)).drew from pk_new w s d t k i a len cap)
  clear h hr hq
  unfold pk at HB1 HB2 ⊢
  go_enter Tryz.func28, Tryz.ntmps28
  go_upto_region 1 with fail
  go_region_held3 (fun w' => w'.cell? ⟨w.heap.size, 0, none⟩ = some (.int .i64 s) ∧ w'.cell? ⟨w.heap.size, 1, none⟩ = some (.int .i64 d) ∧ w'.cell? ⟨w.heap.size, 2, none⟩ = some (.int .i64 t) ∧ w'.cell? ⟨w.heap.size, 3, none⟩ = some (.int .i64 k) ∧ w'.cell? ⟨w.heap.size, 4, none⟩ = some (.int .i64 i) ∧ w'.cell? ⟨w.heap.size, 5, none⟩ = some (.slice a len cap))
    (first
      | exact HP.out.all
      | go_keep)
    (first
      | (go_at_call 80; with_reducible refine (HB1.out _).mono ?_; rintro e w1 ⟨g1, c1, rfl, hr1, -, hb1⟩; replace HP := hide (HP.out.kept hb1); replace HB0 := hide (bt HB0.out hb1); replace hr1 := hide hr1; clear hb1)
      | (go_at_call 81; refine (HSum.out _ _ _ hr1.out).mono ?_; rintro e w2 ⟨rfl, rfl⟩)
      | (go_at_call 80; with_reducible refine (HB2.out _).mono ?_; rintro e w3 ⟨g3, c3, rfl, -, o3, hb3⟩; replace o3 := hide (o3.mono HP.out.lt); replace HP := hide (HP.out.kept hb3); replace HB0 := hide (bt HB0.out hb3); clear hb3))
  obtain ⟨-, -, -, -, -, p5⟩ := HP.out.all
  go_wp2_with (at_builtin; refine wpList_app rfl (.tmp 10) (.tmp 12) rfl (w.heap.size + 1) _ _ rfl o3.out a len cap body rfl (HR.out.below HB0.out) HLN.out HP.out.lt ?_; intro v5 w5 o5 g5; replace o5 := hide o5; replace HB0 := hide (HB0.out.grown g5 HB0.out.size (fun g h => Nat.le_of_succ_le (o3.out.2.lt g h).1)))
  go_ret
  exact ⟨_, rfl, HBY.out ▸ o5.out.mono (Nat.le_succ _), HB0.out⟩
end Go.Proofs.YtkhahbghmdccaaaGreatDoor.V4
