/- The document's own words and Encoded6, by contracts. The document's own words and FourBytes of a packet's head, by contracts. The document's own FourBytes and Bytes4, by contracts. What the statement SegBack asks of Encode, Decode and Segs, in the forms in which its walk takes them. -/
import Derived.Test.YtkhahbghmdccaaaGreatQ08
import Derived.Test.YtkhahbghmdccaaaGreatQ09
import Derived.Test.YtkhahbghmdccaaaGreatQ31
import Derived.Test.YtkhahbghmdccaaaGreatQ32
import Derived.Test.YtkhahbghmdccaaaGreatProg
import Derived.WalkKit
import Derived.LaidEql
import Derived.BigQuiet
import Derived.Below
import Derived.Laws.AppendOwnNone
import Derived.Laws.MakeOwn
import Derived.Deep.RegionLaw
import Derived.Test.YtkhahbghmdccaaaGreatQ11
import Derived.Test.YtkhahbghmdccaaaGreatQ24
import Derived.OpenShut
import Derived.Lib.Bytes
import Derived.Deep.MidRow
import Derived.Laws.ResultCell
import Derived.Deep.CutBlock
import Derived.Deep.QuietTactic
import Derived.OwnWalk
import Derived.Deep.RegionHeld3
import Derived.Deep.DrawnRows
import Derived.Stop.Asserts
import Derived.RowKitTokens
namespace Go.Proofs.YtkhahbghmdccaaaGreat.V6
open Go.RowKit
attribute [local go_sem ↓] Go.wp_at_zero Go.wp_at_succ
/-- words as bytes. -/
def wb (l : List Int) : Nat → List Int
  | 0 => []
  | k + 1 => wb l k ++ [l.getD k 0 / 256, l.getD k 0 % 256]
theorem wb_len (l : List Int) (k : Nat) : (wb l k).length = 2 * k := by
  induction k with
  | zero => rfl
  | succ k ih => simp only [wb, List.length_append, List.length_cons, List.length_nil, ih]; omega
theorem row_pair (w : World) (x y : Int) (hx : 0 ≤ x ∧ x ≤ 255) (hy : 0 ≤ y ∧ y ≤ 255) : Row8 (w.alloc (.cells #[.int .u8 x, .int .u8 y] 5)) (some ⟨w.heap.size, 0, none⟩) 2 2 [x, y] := by
  refine ⟨rfl, by simp [maxLen], ?_, (fun h => by cases h), fun _ => ⟨w.heap.size, 0, rfl, fun i hi => ?_⟩⟩
  · intro k
    match k with
    | 0 => simpa using hx
    | 1 => simpa using hy
    | k + 2 => simp
  · rcases (by omega : i = 0 ∨ i = 1) with rfl | rfl <;> simp
/-- words in a block. -/
def Ws (B n : Nat) (l : List Int) (w : World) : Prop := ∀ k, k < n → w.cell? ⟨B, k, none⟩ = some (.int .i64 (l.getD k 0))
theorem Ws.lt {B n : Nat} {l : List Int} {w : World} (h : Ws B n l w) (hn : 0 < n) : B < w.heap.size := World.block_lt_of_cell? w _ (h 0 hn)
theorem Ws.kept {B n : Nat} {l : List Int} {w w' : World} (h : Ws B n l w) (hb : Below w.heap.size w w') : Ws B n l w' := fun k hk => by rw [hb.cell (p := ⟨B, k, none⟩) (h.lt (by omega))]; exact h k hk
set_option maxHeartbeats 4000000 in
set_option maxRecDepth 100000 in
theorem words_any (B n : Nat) (hn : n ≤ 100) (l : List Int) (w : World) (hl : Ws B n l w) (hw : ∀ k, k < n → 0 ≤ l.getD k 0 ∧ l.getD k 0 ≤ 65535) :
    Calls Tryz.prog 98 #[.slice none 0 0, .slice (some ⟨B, 0, none⟩) n n] w fun e w' => ∃ v, e = .returned v ∧ Own w.heap.size w' v (wb l n) ∧ Below w.heap.size w w' := by
  go_enter Tryz.func98, Tryz.ntmps98
  go_wp2
  go_loopw [0, 5] (fun v i wr => ∃ k : Nat, k ≤ n ∧ i = .int .i64 k ∧ Hid (Own w.heap.size wr v (wb l k)) ∧ Hid (Below w.heap.size w wr)) (fun _ i _ => n - (intOf i).toNat)
  case atStart => exact ⟨0, by omega, rfl, Own.nil _ _, Below.refl _ _⟩
  case round =>
    obtain ⟨k, hk, rfl, HO, HB⟩ := hrel
    by_cases hlt : k < n
    · have hcx := (hl.kept HB.out) k hlt
      have hx := hw k hlt
      have HS := hide (show wb l (k + 1) = wb l k ++ [l.getD k 0 / 256, l.getD k 0 % 256] from rfl)
      have HLN := hide (show (wb l k).length + 2 ≤ 1000000000 by rw [wb_len]; omega)
      generalize l.getD k 0 = x at hcx hx HS
      obtain ⟨hx0, hx1⟩ := hx
      have hsz := HB.out.size
      have i0 : (0 : Int) ≤ (k : Int) := by omega
      have i1 : (k : Int) < (n : Int) := by omega
      have q1 : IntKind.i64.wrap (x.tdiv 256) = x / 256 := by rw [Int.tdiv_eq_ediv_of_nonneg hx0, IntKind.wrap_i64]; omega
      have q2 : IntKind.u8.wrap (x / 256) = x / 256 := by rw [IntKind.wrap_u8]; omega
      have q3 : x.tmod 256 = x % 256 := Int.tmod_eq_emod_of_nonneg hx0
      have q4 : IntKind.u8.wrap (x % 256) = x % 256 := by rw [IntKind.wrap_u8]; omega
      have hb1 : Below wr.heap.size wr (wr.alloc (.cells #[.int .u8 (x / 256), .int .u8 (x % 256)] 5)).drew := ((Below.refl _ _).alloc (Nat.le_refl _) _).drew
      have HO2 := hide (HO.out.kept hb1)
      have HB2 := hide (HB.out.trans (hb1.mono hsz))
      have HC := hide (show Row8 (wr.alloc (.cells #[.int .u8 (x / 256), .int .u8 (x % 256)] 5)).drew (some ⟨wr.heap.size, 0, none⟩) 2 2 [x / 256, x % 256] from row_pair wr (x / 256) (x % 256) (by omega) (by omega))
      have HN := hide (show (wb l k ++ [x / 256, x % 256]).length = 2 * k + 2 by rw [List.length_append, wb_len]; rfl)
      have HSZ := hide (show w.heap.size ≤ (wr.alloc (.cells #[.int .u8 (x / 256), .int .u8 (x % 256)] 5)).drew.heap.size from Nat.le_trans hsz hb1.size)
      have hne : wr.heap.size ≠ B := World.new_ne wr _ hcx
      have HN2 := hide (show ∀ r, (∀ g, r = some g → w.heap.size ≤ g) → some B ≠ r from fun r hr e => by have := hr B e.symm; have := hl.lt (by omega); omega)
      have HN3 := hide (fun g h => (HO.out.2.lt g h).1)
      clear hl hw hb1
      go_wp2
      go_region_held3 (fun w' => w'.cell? ⟨B, k, none⟩ = some (.int .i64 x))
        (first
          | go_keep
          | (go_split_ands; exact g5.cell (by simp [*]) (HN2.out _ HN3.out)))
        (first | (refine step_app rfl (.tmp 12) (.tmp 25) rfl w.heap.size _ (wb l k) (by rfl) HO2.out _ ⟨_, rfl⟩ 2 2 [x / 256, x % 256] (2 * k + 2) HN.out (by rfl) HC.out HLN.out HSZ.out ?_; intro a5 c5 w5 o5 g5))
      have HB3 := hide (HB2.out.grown g5 HSZ.out (fun g h => HN3.out g h))
      replace o5 := hide o5
      go_wp2_with fail
      go_roundw
      case rel => exact ⟨k + 1, by omega, by go_num, HS.out ▸ o5.out, HB3⟩
      case measure => simp [intOf]; omega
    · obtain rfl : k = n := by omega
      go_wp2
      go_ret
      exact ⟨_, rfl, HO.out, HB.out⟩
theorem rbytes_ok (z : List Int) (w : World) (hz : Ok6 z) : Calls Tryz.prog 79 #[.agg (sixC z)] w fun e w' => ∃ a c, e = .returned (.slice a 16 c) ∧ Row8 w' a 16 c (by16 z 8) ∧ Below w.heap.size w w' := by
  refine (bytesof_any z w hz).mono ?_
  rintro e w' ⟨v, rfl, ho, hb⟩
  have ho' : Own (w.heap.size + 1) w' v (by16 z 8) := ⟨oct_by16 z hz 8 (by omega), by
    unfold OwnG u8s at ho
    rw [List.length_map] at ho
    exact ho⟩
  obtain ⟨a, c, rfl, hr, _⟩ := ho'.row8
  rw [by16_len] at hr
  exact ⟨a, c, by rw [by16_len], hr, hb⟩
theorem wb4 (n k h : Int) (hh : 0 ≤ h ∧ h ≤ 255) : wb [24576, 0, n, k * 256 + h] 4 = h8 n k h := by
  have e1 : (k * 256 + h) / 256 = k := by omega
  have e2 : (k * 256 + h) % 256 = h := by omega
  show ((([] ++ [(24576 : Int) / 256, 24576 % 256]) ++ [(0 : Int) / 256, 0 % 256]) ++ [n / 256, n % 256]) ++ [(k * 256 + h) / 256, (k * 256 + h) % 256] = h8 n k h
  rw [e1, e2]
  rfl
theorem ws4 (w : World) (x0 x1 x2 x3 : Int) : Ws w.heap.size 4 [x0, x1, x2, x3] (w.alloc (.cells #[.int .i64 x0, .int .i64 x1, .int .i64 x2, .int .i64 x3] 3)) := by
  intro k hk
  rcases (by omega : k = 0 ∨ k = 1 ∨ k = 2 ∨ k = 3) with rfl | rfl | rfl | rfl <;> simp
set_option maxRecDepth 100000 in
set_option maxHeartbeats 4000000 in
theorem encoded_any (s d : List Int) (h k : Int) (a : Option Addr) (len cap : Nat) (body : List Int) (w : World) (ho : Okp s d h k) (hl : len ≤ 320) (hr : Row8 w a len cap body) :
    Calls Tryz.prog 46 #[pk s d h k a len cap] w fun e w' => ∃ v, e = .returned v ∧ Own w.heap.size w' v (bys s d h k body) ∧ Below w.heap.size w w' := by
  have HB := hide (al_below w (.cells (pkC s d h k a len cap) 53))
  have HP := hide (pk_new w s d h k a len cap)
  have HS := hide (fun w => rbytes_ok s w ho.1)
  have HD := hide (fun w => rbytes_ok d w ho.2.1)
  have hlen := hr.1
  have HBY := hide (show bys s d h k body = ((h8 len k h ++ by16 s 8) ++ by16 d 8) ++ body by unfold bys; rw [hlen])
  have H4 := hide (wb4 len k h ho.2.2.1)
  obtain ⟨-, -, ⟨hh0, hh1⟩, ⟨hk0, hk1⟩⟩ := ho
  have HW := hide (fun B W h' => words_any B 4 (by omega) [24576, 0, (len : Int), k * 256 + h] W h' (by
    intro j hj
    rcases (by omega : j = 0 ∨ j = 1 ∨ j = 2 ∨ j = 3) with rfl | rfl | rfl | rfl
    · simp
    · simp
    · simp; omega
    · simp; omega))
  rw [H4.out] at HW
  have HLs := hide (by16_len s 8)
  have HLd := hide (by16_len d 8)
  generalize by16 s 8 = S at HS HBY HLs
  generalize by16 d 8 = D at HD HBY HLd
  have HR := hide hr
  unfold pk
  clear hr H4
  go_enter Tryz.func46, Tryz.ntmps46
  go_upto_region 1 with fail
  generalize w.alloc (.cells (pkC s d h k a len cap) 53) = W at HB HP ⊢
  have l3 := HP.out.hop
  have l4 := HP.out.kind
  have l5 := HP.out.body
  go_upto_region 3 with (go_at_call 98; refine (HW.out _ _ (ws4 W 24576 0 len (k * 256 + h))).mono ?_; rintro e w1 ⟨v1, rfl, o1, hb1⟩; have hbw := bt (al_below W (.cells #[.int .i64 24576, .int .i64 0, .int .i64 (len : Int), .int .i64 (k * 256 + h)] 3)) hb1; rw [World.size_alloc] at o1; have hg1 := hide (show Gr W w1 v1 (h8 len k h) from ⟨o1.mono (Nat.le_succ _), hbw⟩); clear hb1 hbw o1 l3 l4 l5)
  have HP1 := hide (HP.out.kept hg1.out.2)
  go_upto_region 4 with (first
    | (refine at_src rfl (.tmp 17) rfl rfl HP1.out ?_)
    | (go_at_call 79; with_reducible refine (HS.out _).mono ?_; rintro e w2 ⟨a2, c2, rfl, hr2, hb2⟩; replace hg1 := hide (hg1.out.below hb2); replace hr2 := hide hr2; clear hb2)
    | (at_builtin; refine gr_app rfl (.tmp 16) (.tmp 19) rfl rfl hg1.out rfl hr2.out (by simp [h8]) ?_; intro v3 w3 hg3; replace hg3 := hide hg3))
  clear HP1 hg1 hr2
  have HP3 := hide (HP.out.kept hg3.out.2)
  go_upto_region 5 with (first
    | (refine at_dst rfl (.tmp 22) rfl rfl HP3.out ?_)
    | (go_at_call 79; with_reducible refine (HD.out _).mono ?_; rintro e w4 ⟨a4, c4, rfl, hr4, hb4⟩; replace hg3 := hide (hg3.out.below hb4); replace hr4 := hide hr4; clear hb4)
    | (at_builtin; refine gr_app rfl (.tmp 21) (.tmp 24) rfl rfl hg3.out rfl hr4.out (by simp [h8, HLs.out]) ?_; intro v5 w5 hg5; replace hg5 := hide hg5))
  clear HP3 hg3 hr4
  have l5 := (HP.out.kept hg5.out.2).body
  go_wp2_with (at_builtin; refine gr_app rfl (.tmp 26) (.tmp 28) rfl rfl hg5.out rfl ((HR.out.below HB.out).below hg5.out.2) (by simp [h8, HLs.out, HLd.out]; omega) ?_; intro v8 w8 hg8; replace hg8 := hide hg8)
  go_ret
  exact ⟨v8, rfl, HBY.out ▸ hg8.out.1.mono HB.out.size, HB.out.trans (hg8.out.2.mono HB.out.size)⟩
end Go.Proofs.YtkhahbghmdccaaaGreat.V6

namespace Go.Proofs.YtkhahbghmdccaaaGreat.V4
open Go.RowKit
attribute [local go_sem ↓] Go.wp_at_zero Go.wp_at_succ
/-- words as bytes. -/
def wb (l : List Int) : Nat → List Int
  | 0 => []
  | k + 1 => wb l k ++ [l.getD k 0 / 256, l.getD k 0 % 256]
end Go.Proofs.YtkhahbghmdccaaaGreat.V4

namespace Go.Proofs.YtkhahbghmdccaaaGreat.V4
open Go.RowKit
theorem al_below (w : World) (o : Obj) : Below w.heap.size w (w.alloc o) := (Below.refl _ _).alloc (Nat.le_refl _) _
end Go.Proofs.YtkhahbghmdccaaaGreat.V4

namespace Go.Proofs.YtkhahbghmdccaaaGreat
open Go.RowKit
set_option maxRecDepth 100000 in
set_option maxHeartbeats 2000000 in
theorem segs_same (z : List Int) (a1 a2 : Option Addr) (l1 l2 c1 c2 : Nat) (data : List Int) (w : World) (r1 : Row8 w a1 l1 c1 data) (r2 : Row8 w a2 l2 c2 data) :
    Calls Tryz.prog 29 #[.agg (sgC z a1 l1 c1), .agg (sgC z a2 l2 c2)] w fun e w' => e = .returned (.bool true) ∧ Below w.heap.size w w' := by
  have b1 := al_below w (.cells (sgC z a1 l1 c1) 30)
  have b2 := al_below (w.alloc (.cells (sgC z a1 l1 c1) 30)) (.cells (sgC z a2 l2 c2) 30)
  have HB := hide (bt b1 b2)
  have P1 := hide ((sg_new w z a1 l1 c1).kept b2)
  have P2 := hide (sg_new (w.alloc (.cells (sgC z a1 l1 c1) 30)) z a2 l2 c2)
  rw [World.size_alloc] at P2
  have v1 := conv8 (r1.below HB.out)
  have v2 := conv8 (r2.below HB.out)
  have q := str8_eq r1.2.2.1 r2.2.2.1 true (by simp)
  have q0 : (el z 0 == el z 0) = true := by simp
  have q1 : (el z 1 == el z 1) = true := by simp
  have q2 : (el z 2 == el z 2) = true := by simp
  have q3 : (el z 3 == el z 3) = true := by simp
  have q4 : (el z 4 == el z 4) = true := by simp
  have q5 : (el z 5 == el z 5) = true := by simp
  have q6 : (el z 6 == el z 6) = true := by simp
  clear r1 r2 b1 b2
  go_enter Tryz.func29, Tryz.ntmps29
  go_upto_region 1 with fail
  generalize (w.alloc (.cells (sgC z a1 l1 c1) 30)).alloc (.cells (sgC z a2 l2 c2) 30) = W at HB P1 P2 v1 v2 ⊢
  have x0 := P1.out.c0; have x1 := P1.out.c1; have x2 := P1.out.c2; have x3 := P1.out.c3; have x4 := P1.out.c4; have x5 := P1.out.c5; have x6 := P1.out.c6; have x7 := P1.out.c7
  have y0 := P2.out.c0; have y1 := P2.out.c1; have y2 := P2.out.c2; have y3 := P2.out.c3; have y4 := P2.out.c4; have y5 := P2.out.c5; have y6 := P2.out.c6; have y7 := P2.out.c7
  go_wp2
  go_ret
  exact ⟨rfl, HB.out⟩
end Go.Proofs.YtkhahbghmdccaaaGreat
