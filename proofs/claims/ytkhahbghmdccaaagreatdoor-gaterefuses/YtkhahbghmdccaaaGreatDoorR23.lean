/- The document's own small ones (Word, Fold, SumOf, IsFour, isByte, SixFault, BytesOf, FourBytes), by contracts; loads of an address; append as a step of a region that draws. The document's own words, OverOf, Over4 and Over6, and the program's Over6, by contracts. The document's own OverOf, Over4 and Over6, and the program's Over6, by contracts. The document's own Over6. The document's own SegBytes and CheckOf, by contracts. -/
import Derived.Test.YtkhahbghmdccaaaGreatDoorR15
import Derived.Test.YtkhahbghmdccaaaGreatDoorR16
import Derived.Below
import Derived.OpenShut
import Derived.Test.YtkhahbghmdccaaaGreatDoorProg
import Derived.WalkKit
import Derived.LaidEql
import Derived.BigQuiet
import Derived.Laws.AppendOwnNone
import Derived.Laws.MakeOwn
import Derived.Deep.RegionLaw
import Derived.Lib.Bytes
import Derived.Deep.MidRow
import Derived.Laws.ResultCell
import Derived.Deep.CutBlock
import Derived.Deep.QuietTactic
import Derived.OwnWalk
import Derived.Deep.RegionHeld3
import Derived.Deep.DrawnRows
import Derived.Test.YtkhahbghmdccaaaGreatDoorR18
import Derived.Test.YtkhahbghmdccaaaGreatDoorR22
namespace Go.Proofs.YtkhahbghmdccaaaGreatDoor
open Go.RowKit
def IsF (f : Int) : Prop := 0 ≤ f ∧ f ≤ 4294967295
theorem step_byte {w : World} {ops : Array Oper} {o : Oper} {a : Act} {K : Act → World → Prop} {Q : Exit → Act → World → Prop} {E : Prop} (hgd : o.guard = none) (s x : Operand)
    (ho : o.op = .call { callee := .builtin .append, args := #[s, x], argTypes := #[37, 37] })
    (base : Nat) (v : Value) (xs : List Value) (hs : a.eval s = v) (hown : OwnG 5 base w v xs) (B m : Nat) (ys : List Value) (hx : a.eval x = .slice (some ⟨B, 0, none⟩) m m) (hm : ys.length = m)
    (hc : ∀ (j : Nat) u, ys[j]? = some u → w.cell? ⟨B, j, none⟩ = some u) (h1 : ∀ u ∈ ys, u.oneCell' = true) (hlen : xs.length + m ≤ 4000000) (hbase : base ≤ w.heap.size)
    (h : ∀ v' w', OwnG 5 base w' v' (xs ++ ys) → w.grownBy w' v.ownBlock → K (a.put o.dst v') w') : if Region.wanted o (yielded ops a.tmps) = true then Oper.wp Tryz.prog o a w K Q else E := by
  have hw : Region.wanted o (yielded ops a.tmps) = true := by simp [Region.wanted, hgd]
  rw [if_pos hw]
  obtain ⟨i0, hi, hz0, hz1, hz2⟩ := info_parts Tryz.infoByte
  refine wp_append_own w s x 37 ho base 5 i0 (.int .u8 0) 1 1 Tryz.underlying37 hi hz0 hz1 hz2 rfl (by decide) v xs.length xs hs hown ⟨B, 0, none⟩ m m ys hx (by omega) ?_ h1 (by unfold maxLen; omega) (by omega) hbase ?_
  · intro j u hu
    rw [add_pl, Nat.zero_add]
    exact hc j u hu
  · intro v' w' h2 h3 _
    refine h v' w' ?_ h3
    unfold OwnG
    rw [List.length_append, hm]
    exact h2
set_option maxHeartbeats 4000000 in
set_option maxRecDepth 100000 in
theorem bytesof_any (z : List Int) (w : World) (hz : Ok6 z) : Calls Tryz.prog 94 #[six z] w fun e w' => ∃ v, e = .returned v ∧ OwnG 5 (w.heap.size + 1) w' v (u8s (by16 z 8)) ∧ Below w.heap.size w w' := by
  have hS := six_new z w
  have hB : Below w.heap.size w (w.alloc (.cells #[.int .i64 (el z 0), .int .i64 (el z 1), .int .i64 (el z 2), .int .i64 (el z 3), .int .i64 (el z 4), .int .i64 (el z 5), .int .i64 (el z 6), .int .i64 (el z 7)] 23)) := (Below.refl _ _).alloc (Nat.le_refl _) _
  have hwz : w.heap.size + 1 ≤ (w.alloc (.cells #[.int .i64 (el z 0), .int .i64 (el z 1), .int .i64 (el z 2), .int .i64 (el z 3), .int .i64 (el z 4), .int .i64 (el z 5), .int .i64 (el z 6), .int .i64 (el z 7)] 23)).heap.size := by simp
  unfold six
  go_enter Tryz.func94, Tryz.ntmps94
  go_wp2
  generalize w.alloc (.cells #[.int .i64 (el z 0), .int .i64 (el z 1), .int .i64 (el z 2), .int .i64 (el z 3), .int .i64 (el z 4), .int .i64 (el z 5), .int .i64 (el z 6), .int .i64 (el z 7)] 23) = W at hS hB hwz ⊢
  go_loopw [3, 4] (fun v i wr => ∃ k : Nat, k ≤ 8 ∧ i = .int .i64 k ∧ Hid (OwnG 5 (w.heap.size + 1) wr v (u8s (by16 z k))) ∧ Hid (SixIn w.heap.size z wr) ∧ Hid (Below (w.heap.size + 1) W wr)) (fun _ i _ => 8 - (intOf i).toNat)
  case atStart => exact ⟨0, by omega, rfl, OwnG.nil _ _ _, hS, Below.refl _ _⟩
  case round =>
    obtain ⟨k, hk, rfl, HO, HS6, HB⟩ := hrel
    by_cases hlt : k < 8
    · have hcx := (HS6.out.facts k hlt).1
      have hx := hz k hlt
      have HS := hide (by16_succ z k)
      have HLN := hide (show (u8s (by16 z k)).length = 2 * k by unfold u8s; rw [List.length_map, by16_len z k])
      generalize el z k = x at hcx hx HS
      obtain ⟨hx0, hx1⟩ := hx
      have hsz : w.heap.size + 1 ≤ wr.heap.size := Nat.le_trans hwz HB.out.size
      have q1 : IntKind.i64.wrap (x.tdiv 256) = x / 256 := by rw [Int.tdiv_eq_ediv_of_nonneg hx0, IntKind.wrap_i64]; omega
      have q2 : IntKind.u8.wrap (x / 256) = x / 256 := by rw [IntKind.wrap_u8]; omega
      have q3 : x.tmod 256 = x % 256 := Int.tmod_eq_emod_of_nonneg hx0
      have q4 : IntKind.u8.wrap (x % 256) = x % 256 := by rw [IntKind.wrap_u8]; omega
      have hb1 : Below wr.heap.size wr (wr.alloc (.cells #[.int .u8 (x / 256), .int .u8 (x % 256)] 5)).drew := ((Below.refl _ _).alloc (Nat.le_refl _) _).drew
      have HO2 := hide (HO.out.kept hb1)
      have HB2 := hide (HB.out.trans (hb1.mono hsz))
      have HS62 := hide (HS6.out.kept hb1)
      have HC := hide (show ∀ (j : Nat) u, [Value.int .u8 (x / 256), Value.int .u8 (x % 256)][j]? = some u → (wr.alloc (.cells #[.int .u8 (x / 256), .int .u8 (x % 256)] 5)).drew.cell? ⟨wr.heap.size, j, none⟩ = some u from fun j u hu => by match j with | 0 => simp at hu; subst hu; simp | 1 => simp at hu; subst hu; simp | j + 2 => simp at hu)
      have HL2 := hide (show (u8s (by16 z k)).length + 2 ≤ 4000000 by rw [HLN.out]; omega)
      have HSZ := hide (show w.heap.size + 1 ≤ (wr.alloc (.cells #[.int .u8 (x / 256), .int .u8 (x % 256)] 5)).drew.heap.size from Nat.le_trans hsz hb1.size)
      have HOC := hide (show ∀ u ∈ [Value.int .u8 (x / 256), Value.int .u8 (x % 256)], u.oneCell' = true from fun u hu => by simp at hu; rcases hu with rfl | rfl <;> rfl)
      go_wp2
      go_region_law (refine step_byte rfl (.tmp 9) (.tmp 20) rfl (w.heap.size + 1) _ (u8s (by16 z k)) (by simp [Act.eval]) HO2.out wr.heap.size 2 [.int .u8 (x / 256), .int .u8 (x % 256)] (by simp [Act.eval]) rfl HC.out HOC.out HL2.out HSZ.out ?_; intro v' w' HO3 hg3)
      all_goals
        have HB3 := hide (HB2.out.grown hg3 (Nat.le_trans hsz hb1.size) (HO2.out.base))
        have HS63 := hide (show SixIn w.heap.size z w' from (hg3.block _ HS62.out.lt (fun e => by have := HO2.out.base _ e.symm; omega)).trans HS62.out)
        go_wp2_with fail
        go_roundw
        case rel =>
          refine ⟨k + 1, by omega, by go_num, ?_, HS63, HB3⟩
          rw [HS.out]
          unfold u8s
          rw [List.map_append]
          exact HO3
        case measure => simp [intOf]; omega
    · obtain rfl : k = 8 := by omega
      go_wp2
      go_ret
      exact ⟨_, rfl, HO.out, hB.trans (HB.out.mono (Nat.le_succ _))⟩
theorem risbyte_any (n : Int) (w : World) : Calls Tryz.prog 184 #[.int .i64 n] w fun e w' => e = .returned (.bool (up 255 n)) ∧ w' = w := by
  by_cases h0 : 0 ≤ n
  · by_cases h1 : n ≤ 255
    · rw [show up 255 n = true from decide_eq_true ⟨h0, h1⟩]
      go_enter Tryz.func184, Tryz.ntmps184
      go_wp2
      go_ret
      exact ⟨rfl, rfl⟩
    · rw [show up 255 n = false from decide_eq_false (fun h => h1 h.2)]
      go_enter Tryz.func184, Tryz.ntmps184
      go_wp2
      go_ret
      exact ⟨rfl, rfl⟩
  · rw [show up 255 n = false from decide_eq_false (fun h => h0 h.1)]
    go_enter Tryz.func184, Tryz.ntmps184
    go_wp2
    go_ret
    exact ⟨rfl, rfl⟩
theorem rfold_any (n : Int) (w : World) (h0 : 0 ≤ n) (h1 : n ≤ 1000000000000) : Calls Tryz.prog 136 #[.int .i64 n] w fun e w' => e = .returned (.int .i64 (SM.fold n)) ∧ w' = w := by
  by_cases h : n = 0
  · subst h
    go_enter Tryz.func136, Tryz.ntmps136
    go_wp2
    go_ret
    exact ⟨rfl, rfl⟩
  · have hb : (n == 0) = false := by simpa using h
    have hf : Hid (SM.fold n = (n - 1) % 65535 + 1) := by unfold SM.fold; rw [if_neg h]; exact rfl
    go_enter Tryz.func136, Tryz.ntmps136
    go_wp2
    go_ret
    exact ⟨ret_int hf.out.symm, rfl⟩
set_option maxHeartbeats 400000 in
theorem rsumof_any (a : Option Addr) (len cap : Nat) (zs : List Int) (w : World) (w0 : Row8 w a len cap zs) (h : len ≤ 2000) :
    Calls Tryz.prog 81 #[.slice a len cap] w fun e w' => e = .returned (.int .i64 (SM.fold (SM.tot zs len))) ∧ w' = w := by
  obtain ⟨hz, hm, hoct, _, hcs⟩ := w0
  by_cases hp : 0 < len
  · obtain ⟨b, off, rfl, hcell⟩ := hcs hp
    clear hcs
    go_enter Tryz.func81, Tryz.ntmps81
    go_wp2
    go_loop [3, 4] (fun t i => ∃ k : Nat, k ≤ len + 1 ∧ (k ≤ len ∨ len % 2 = 1) ∧ k % 2 = 0 ∧ t = .int .i64 (SM.tot zs (if k ≤ len then k else len)) ∧ i = .int .i64 k) (fun _ i => len + 1 - (intOf i).toNat)
    case atStart => exact ⟨0, by omega, by omega, rfl, by simp [SM.tot], rfl⟩
    case round =>
      obtain ⟨k, hk, hko, hpar, rfl, rfl⟩ := hrel
      by_cases hlt : k < len
      · have hb := SM.tot_bd zs hoct k
        have hck := hcell k (by omega)
        have hok := hoct k
        have HE := hide (SM.tot_even zs k hpar)
        rw [if_pos (by omega : k ≤ len)]
        by_cases hnx : k + 1 < len
        · have hck1 := hcell (k + 1) (by omega)
          have hok1 := hoct (k + 1)
          have HO := hide (SM.tot_odd zs (k + 1) (by omega))
          clear hcell hoct
          generalize zs.getD k 0 = z at hck hok HE
          generalize zs.getD (k + 1) 0 = z1 at hck1 hok1 HO
          generalize SM.tot zs k = t at hb HE ⊢
          go_wp2
          go_round
          case rel => exact ⟨k + 2, by omega, by omega, by omega, by rw [if_pos (by omega : k + 2 ≤ len), HO.out, HE.out]; exact congrArg _ (by omega), by go_num⟩
          case measure => simp [intOf]; omega
        · obtain rfl : len = k + 1 := by omega
          clear hcell hoct
          generalize zs.getD k 0 = z at hck hok HE
          generalize SM.tot zs k = t at hb HE ⊢
          go_wp2
          go_round
          case rel => exact ⟨k + 2, by omega, by omega, by omega, by rw [if_neg (by omega : ¬ k + 2 ≤ k + 1), HE.out]; exact congrArg _ (by omega), by go_num⟩
          case measure => simp [intOf]; omega
      · have hb := SM.tot_bd zs hoct len
        have e : (if k ≤ len then k else len) = len := by split <;> omega
        rw [e]
        clear e
        go_wp2_with (go_at_call 136; refine (rfold_any _ _ (by omega) (by omega)).mono ?_; rintro e w' ⟨rfl, rfl⟩)
        go_ret
        exact ⟨rfl, rfl⟩
  · obtain rfl : len = 0 := by omega
    go_enter Tryz.func81, Tryz.ntmps81
    go_wp2
    refine wp_loop_rounds 1 ?_
    rw [rounds_succ]
    go_wp2_with (go_at_call 136; refine (rfold_any _ _ (by omega) (by omega)).mono ?_; rintro e w' ⟨rfl, rfl⟩)
    go_ret
    exact ⟨rfl, rfl⟩
theorem isfour_yes (n : Int) (w : World) (h : 0 ≤ n ∧ n ≤ 4294967295) : Calls Tryz.prog 25 #[.int .i64 n] w fun e w' => e = .returned (.bool true) ∧ w' = w := by
  obtain ⟨h1, h2⟩ := h
  go_enter Tryz.func25, Tryz.ntmps25
  go_wp2
  go_ret
  exact ⟨rfl, rfl⟩
theorem isfour_no (n : Int) (w : World) (h : n < 0 ∨ 4294967295 < n) : Calls Tryz.prog 25 #[.int .i64 n] w fun e w' => e = .returned (.bool false) ∧ w' = w := by
  by_cases h0 : n < 0
  · clear h
    go_enter Tryz.func25, Tryz.ntmps25
    go_wp2
    go_ret
    exact ⟨rfl, rfl⟩
  · have h1 : 4294967295 < n := by omega
    have h2 : 0 ≤ n := by omega
    clear h h0
    go_enter Tryz.func25, Tryz.ntmps25
    go_wp2
    go_ret
    refine ⟨?_, rfl⟩
    first
    | rfl
    | (show Ending.returned (.bool (decide (n ≤ 4294967295))) = _; rw [decide_eq_false (by omega)])
theorem sgisfour_any (n : Int) (w : World) : Calls Tryz.prog 25 #[.int .i64 n] w fun e w' => e = .returned (.bool (up 4294967295 n)) ∧ w' = w := by
  by_cases h : 0 ≤ n ∧ n ≤ 4294967295
  · rw [show up 4294967295 n = true from decide_eq_true h]; exact isfour_yes n w h
  · rw [show up 4294967295 n = false from decide_eq_false h]; exact isfour_no n w (by omega)
theorem sgword_any (n : Int) (w : World) : Calls Tryz.prog 26 #[.int .i64 n] w fun e w' => e = .returned (.bool (up 65535 n)) ∧ w' = w := by
  by_cases h : 0 ≤ n ∧ n ≤ 65535
  · rw [show up 65535 n = true from decide_eq_true h]; exact word_yes n w h
  · rw [show up 65535 n = false from decide_eq_false h]; exact word_no n w h
theorem row_four (w : World) (x0 x1 x2 x3 : Int) (h0 : 0 ≤ x0 ∧ x0 ≤ 255) (h1 : 0 ≤ x1 ∧ x1 ≤ 255) (h2 : 0 ≤ x2 ∧ x2 ≤ 255) (h3 : 0 ≤ x3 ∧ x3 ≤ 255) : Row8 (w.alloc (.cells #[.int .u8 x0, .int .u8 x1, .int .u8 x2, .int .u8 x3] 5)) (some ⟨w.heap.size, 0, none⟩) 4 4 [x0, x1, x2, x3] := by
  refine ⟨rfl, by simp [maxLen], ?_, (fun h => by cases h), fun _ => ⟨w.heap.size, 0, rfl, fun i hi => ?_⟩⟩
  · intro k
    match k with
    | 0 => simpa using h0
    | 1 => simpa using h1
    | 2 => simpa using h2
    | 3 => simpa using h3
    | k + 4 => simp
  · rcases (by omega : i = 0 ∨ i = 1 ∨ i = 2 ∨ i = 3) with rfl | rfl | rfl | rfl <;> simp
def b4 (f : Int) : List Int := [f / 16777216, f / 65536 % 256, f / 256 % 256, f % 256]
theorem rfour_row (f : Int) (w : World) (h : IsF f) : Calls Tryz.prog 133 #[.int .i64 f] w fun e w' => ∃ B, e = .returned (.slice (some ⟨B, 0, none⟩) 4 4) ∧ Row8 w' (some ⟨B, 0, none⟩) 4 4 (b4 f) ∧ Below w.heap.size w w' := by
  obtain ⟨h0, h1⟩ := h
  have HR := hide (row_four w (f / 16777216) (f / 65536 % 256) (f / 256 % 256) (f % 256) (by omega) (by omega) (by omega) (by omega))
  have HB := hide ((Below.refl w.heap.size w).alloc (Nat.le_refl _) (.cells #[.int .u8 (f / 16777216), .int .u8 (f / 65536 % 256), .int .u8 (f / 256 % 256), .int .u8 (f % 256)] 5))
  go_enter Tryz.func133, Tryz.ntmps133
  go_wp2
  go_ret
  exact ⟨_, rfl, HR.out, HB.out⟩
theorem rbytes_ok (z : List Int) (w : World) (hz : Ok6 z) : Calls Tryz.prog 94 #[.agg (sixC z)] w fun e w' => ∃ a c, e = .returned (.slice a 16 c) ∧ Row8 w' a 16 c (by16 z 8) ∧ Below w.heap.size w w' := by
  refine (bytesof_any z w hz).mono ?_
  rintro e w' ⟨v, rfl, ho, hb⟩
  have ho' : Own (w.heap.size + 1) w' v (by16 z 8) := ⟨oct_by16 z hz 8 (by omega), by
    unfold OwnG u8s at ho
    rw [List.length_map] at ho
    exact ho⟩
  obtain ⟨a, c, rfl, hr, _⟩ := ho'.row8
  rw [by16_len] at hr
  exact ⟨a, c, by rw [by16_len], hr, hb⟩
theorem row_pair (w : World) (x y : Int) (hx : 0 ≤ x ∧ x ≤ 255) (hy : 0 ≤ y ∧ y ≤ 255) : Row8 (w.alloc (.cells #[.int .u8 x, .int .u8 y] 5)) (some ⟨w.heap.size, 0, none⟩) 2 2 [x, y] := by
  refine ⟨rfl, by simp [maxLen], ?_, (fun h => by cases h), fun _ => ⟨w.heap.size, 0, rfl, fun i hi => ?_⟩⟩
  · intro k
    match k with
    | 0 => simpa using hx
    | 1 => simpa using hy
    | k + 2 => simp
  · rcases (by omega : i = 0 ∨ i = 1) with rfl | rfl <;> simp
end Go.Proofs.YtkhahbghmdccaaaGreatDoor

namespace Go.Proofs.YtkhahbghmdccaaaGreatDoor
open Go.RowKit
attribute [local go_sem ↓] Go.wp_at_zero Go.wp_at_succ
set_option maxHeartbeats 4000000 in
set_option maxRecDepth 100000 in
theorem words_any (W0 : World) (v : Value) (zs : List Int) (B n : Nat) (l : List Int) (w : World) (hg : Gr W0 w v zs) (hl : Ints B l w) (hn : l.length = n) (hm : n ≤ 100) (hz : zs.length ≤ 1000000) (hw : ∀ k, k < n → 0 ≤ l.getD k 0 ∧ l.getD k 0 ≤ 65535) :
    Calls Tryz.prog 110 #[v, .slice (some ⟨B, 0, none⟩) n n] w fun e w' => ∃ v', e = .returned v' ∧ Gr W0 w' v' (zs ++ wsn 2 l n) := by
  have HG := hide hg
  have HL := hide hl
  have HN := hide hn
  have HW := hide hw
  have HZ := hide hz
  clear hg hl hn hw hz
  go_enter Tryz.func110, Tryz.ntmps110
  go_wp2
  go_loopw [0, 5] (fun v i wr => ∃ k : Nat, k ≤ n ∧ i = .int .i64 k ∧ Hid (Gr W0 wr v (zs ++ wsn 2 l k)) ∧ Hid (Ints B l wr)) (fun _ i _ => n - (intOf i).toNat)
  case atStart => exact ⟨0, by omega, rfl, by simpa [wsn] using HG, HL⟩
  case round =>
    obtain ⟨k, hk, rfl, HO, HI⟩ := hrel
    clear HG HL
    by_cases hlt : k < n
    · have hcx := HI.out.cell k (by rw [HN.out]; exact hlt)
      have hx := HW.out k hlt
      have HS := hide (show zs ++ wsn 2 l (k + 1) = (zs ++ wsn 2 l k) ++ [l.getD k 0 / 256, l.getD k 0 % 256] by rw [List.append_assoc, ← nb2 _ hx.1 hx.2]; rfl)
      have HLN := hide (show (zs ++ wsn 2 l k).length + 2 ≤ 1000000000 by rw [List.length_append, wsn_len]; have := HZ.out; omega)
      generalize l.getD k 0 = x at hcx hx HS
      obtain ⟨hx0, hx1⟩ := hx
      have hsz := HO.out.2.size
      have i0 : (0 : Int) ≤ (k : Int) := by omega
      have i1 : (k : Int) < (n : Int) := by omega
      have q1 : IntKind.i64.wrap (x.tdiv 256) = x / 256 := by rw [Int.tdiv_eq_ediv_of_nonneg hx0, IntKind.wrap_i64]; omega
      have q2 : IntKind.u8.wrap (x / 256) = x / 256 := by rw [IntKind.wrap_u8]; omega
      have q3 : x.tmod 256 = x % 256 := Int.tmod_eq_emod_of_nonneg hx0
      have q4 : IntKind.u8.wrap (x % 256) = x % 256 := by rw [IntKind.wrap_u8]; omega
      have hb1 : Below wr.heap.size wr (wr.alloc (.cells #[.int .u8 (x / 256), .int .u8 (x % 256)] 5)).drew := ((Below.refl _ _).alloc (Nat.le_refl _) _).drew
      have HO2 := hide (HO.out.below hb1)
      have HI2 := hide (HI.out.kept hb1)
      have HC := hide (show Row8 (wr.alloc (.cells #[.int .u8 (x / 256), .int .u8 (x % 256)] 5)).drew (some ⟨wr.heap.size, 0, none⟩) 2 2 [x / 256, x % 256] from row_pair wr (x / 256) (x % 256) (by omega) (by omega))
      generalize zs ++ wsn 2 l k = Z at HO HO2 HS HLN
      obtain ⟨N, hN⟩ : ∃ N, N = (Z ++ [x / 256, x % 256]).length := ⟨_, rfl⟩
      have HN1 := hide hN.symm
      have hne : wr.heap.size ≠ B := World.new_ne wr _ hcx
      clear hb1 hN HW
      go_wp2
      go_region_held3 (fun w' => w'.cell? ⟨B, k, none⟩ = some (.int .i64 x))
        (first
          | go_keep
          | (go_split_ands; exact g5.cell (by simp [*]) (HI2.out.ne HO2.out.1)))
        (first | (refine step_app rfl (.tmp 12) (.tmp 25) rfl W0.heap.size _ Z (by rfl) HO2.out.1 _ ⟨_, rfl⟩ 2 2 [x / 256, x % 256] N HN1.out (by rfl) HC.out HLN.out HO2.out.2.size ?_; intro a5 c5 w5 o5 g5))
      have HG5 := hide (show Gr W0 w5 (.slice a5 N c5) (Z ++ [x / 256, x % 256]) from ⟨o5, HO2.out.2.grown g5 HO2.out.2.size (fun k e => (HO2.out.1.2.lt k e).1)⟩)
      have HI5 := hide (HI2.out.grown HO2.out.1 g5)
      clear o5 g5
      go_wp2_with fail
      go_roundw
      case rel => exact ⟨k + 1, by omega, by go_num, HS.out ▸ HG5.out, HI5⟩
      case measure => simp [intOf]; omega
    · obtain rfl : k = n := by omega
      go_wp2
      go_ret
      exact ⟨_, rfl, HO.out⟩
end Go.Proofs.YtkhahbghmdccaaaGreatDoor

namespace Go.Proofs.YtkhahbghmdccaaaGreatDoor
open Go.RowKit
attribute [local go_sem ↓] Go.wp_at_zero Go.wp_at_succ
theorem up_bd {m n : Int} (h : up m n = true) : 0 ≤ n ∧ n ≤ m := up_true h
set_option maxHeartbeats 2000000 in
theorem roverof_ok (a1 : Option Addr) (l1 c1 : Nat) (xs : List Int) (a2 : Option Addr) (l2 c2 : Nat) (ys : List Int) (k n : Int) (w : World) (r1 : Row8 w a1 l1 c1 xs) (r2 : Row8 w a2 l2 c2 ys) (hz : (xs ++ ys).length ≤ 40) (hk : up 255 k = true) (hn : up 320 n = true) :
    Calls Tryz.prog 132 #[.slice a1 l1 c1, .slice a2 l2 c2, .int .i64 k, .int .i64 n] w fun e w' => e = .returned (.tuple #[.int .i64 (ovs (xs ++ ys) k n), .int .i64 0]) ∧ Below w.heap.size w w' := by
  obtain ⟨hk0, hk1⟩ := up_bd hk
  obtain ⟨hn0, hn1⟩ := up_bd hn
  have R1 := hide r1
  have R2 := hide r2
  have HL1 := hide (show ([] : List Int).length + l1 ≤ 1000000000 by have := r1.1; rw [List.length_append] at hz; simp; omega)
  have HL2 := hide (show xs.length + l2 ≤ 1000000000 by have := r2.1; rw [List.length_append] at hz; omega)
  obtain ⟨R, hR⟩ : ∃ R, R = ovs (xs ++ ys) k n := ⟨_, rfl⟩
  rw [← hR]
  have HO := hide (show R = SM.fold (SM.tot ((xs ++ ys) ++ wsn 2 [k, n] 2) ((xs ++ ys).length + 4)) from hR)
  have HL0 := hide (show ((xs ++ ys) ++ wsn 2 [k, n] 2).length = (xs ++ ys).length + 4 by rw [List.length_append, wsn_len])
  obtain ⟨N, hN⟩ : ∃ N, N = (xs ++ ys).length + 4 := ⟨_, rfl⟩
  have HL := hide (show ((xs ++ ys) ++ wsn 2 [k, n] 2).length = N by rw [hN]; exact HL0.out)
  have HN2 := hide (show N ≤ 2000 by omega)
  rw [← hN] at HO
  have HZ := hide hz
  have HG := hide (Gr.nil w)
  have HW := hide (fun W B v hg hi => words_any w v (xs ++ ys) B 2 [k, n] W hg hi rfl (by omega) (by have := HZ.out; omega) (fun j hj => by
    rcases (by omega : j = 0 ∨ j = 1) with rfl | rfl
    · show 0 ≤ k ∧ k ≤ 65535; omega
    · show 0 ≤ n ∧ n ≤ 65535; omega))
  clear r1 r2 hz hN HL0 hR
  go_enter Tryz.func132, Tryz.ntmps132
  go_upto_region 5 with (go_at_call 184; refine (risbyte_any _ _).mono ?_; rintro e w' ⟨rfl, hw⟩; rw [hw]; clear hw w')
  go_upto_region 6 with (at_builtin; refine gr_app rfl (.tmp 24) (.tmp 25) rfl rfl HG.out rfl R1.out HL1.out ?_; intro v1 w1 hg1; rw [List.nil_append] at hg1; replace hg1 := hide hg1)
  go_upto_region 7 with (at_builtin; refine gr_app rfl (.tmp 27) (.tmp 28) rfl rfl hg1.out rfl (R2.out.below hg1.out.2) HL2.out ?_; intro v2 w2 hg2; replace hg2 := hide hg2)
  generalize xs ++ ys = Z at HW HO HL hg2
  go_wp2_with (first
    | (go_at_call 110; refine (HW.out _ _ _ (hg2.out.below (al_below _ _)) (ints2 w2 k n)).mono ?_; rintro e w3 ⟨v3, rfl, hg3⟩; obtain ⟨a3, c3, hv3, hr3, -⟩ := hg3.1.row8; rw [HL.out] at hv3 hr3; subst hv3; replace hg3 := hide hg3; replace hr3 := hide hr3)
    | (go_at_call 81; refine (rsumof_any _ _ _ _ _ hr3.out HN2.out).mono ?_; rintro e w4 ⟨rfl, rfl⟩))
  go_ret2
  exact ⟨by rw [HO.out]; rfl, hg3.out.2⟩
theorem b4_nb (x : Int) (h0 : 0 ≤ x) (h1 : x ≤ 4294967295) : b4 x = nb 4 x := by
  show _ = [x / 256 ^ 3 % 256, x / 256 ^ 2 % 256, x / 256 ^ 1 % 256, x / 256 ^ 0 % 256]
  unfold b4
  rw [show x / 256 ^ 3 % 256 = x / 16777216 by omega, show x / 256 ^ 2 % 256 = x / 65536 % 256 by omega, show x / 256 ^ 1 % 256 = x / 256 % 256 by omega, show x / 256 ^ 0 % 256 = x % 256 by omega]
set_option maxHeartbeats 2000000 in
theorem rover4_ok (s d k n : Int) (w : World) (hs : up 4294967295 s = true) (hd : up 4294967295 d = true) (hk : up 255 k = true) (hn : up 320 n = true) :
    Calls Tryz.prog 73 #[.int .i64 s, .int .i64 d, .int .i64 k, .int .i64 n] w fun e w' => e = .returned (.tuple #[.int .i64 (ovs (wsn 4 [s, d] 2) k n), .int .i64 0]) ∧ Below w.heap.size w w' := by
  have HS := hide (fun W => rfour_row s W (up_true hs))
  have HD := hide (fun W => rfour_row d W (up_true hd))
  have e : b4 s ++ b4 d = wsn 4 [s, d] 2 := by rw [b4_nb s (up_true hs).1 (up_true hs).2, b4_nb d (up_true hd).1 (up_true hd).2]; rfl
  rw [← e]
  have HO := hide (fun W a1 a2 r1 r2 => roverof_ok a1 4 4 (b4 s) a2 4 4 (b4 d) k n W r1 r2 (by simp [b4]) hk hn)
  clear hk hn e
  generalize b4 s = S at HS HO ⊢
  generalize b4 d = D at HD HO ⊢
  go_enter Tryz.func73, Tryz.ntmps73
  go_upto_region 5 with (go_at_call 25; refine (sgisfour_any _ _).mono ?_; rintro e w' ⟨rfl, hw⟩; rw [hw]; clear hw w')
  go_wp2_with (first
    | (go_at_call 133; with_reducible refine (HS.out _).mono ?_; rintro e w1 ⟨B1, rfl, hr1, hb1⟩; replace hr1 := hide hr1; replace hb1 := hide hb1)
    | (go_at_call 133; with_reducible refine (HD.out _).mono ?_; rintro e w2 ⟨B2, rfl, hr2, hb2⟩; replace hr2 := hide hr2; replace hr1 := hide (hr1.out.below hb2); replace hb1 := hide (bt hb1.out hb2); clear hb2)
    | (go_at_call 132; refine (HO.out _ _ _ hr1.out hr2.out).mono ?_; rintro e w3 ⟨rfl, hb3⟩; replace hb1 := hide (bt hb1.out hb3); clear hb3))
  go_ret2
  exact ⟨rfl, hb1.out⟩
end Go.Proofs.YtkhahbghmdccaaaGreatDoor

namespace Go.Proofs.YtkhahbghmdccaaaGreatDoor
open Go.RowKit
attribute [local go_sem ↓] Go.wp_at_zero Go.wp_at_succ hload_shut
set_option maxRecDepth 100000 in
set_option maxHeartbeats 4000000 in
theorem rover6_any (s d : List Int) (k n : Int) (w : World) (hs : Ok6 s) (hd : Ok6 d) (R E : Int) (hO : ∀ W a1 c1 a2 c2, Row8 W a1 16 c1 (by16 s 8) → Row8 W a2 16 c2 (by16 d 8) → Calls Tryz.prog 132 #[.slice a1 16 c1, .slice a2 16 c2, .int .i64 k, .int .i64 n] W fun e w' => e = .returned (.tuple #[.int .i64 R, .int .i64 E]) ∧ Below W.heap.size W w') :
    Calls Tryz.prog 104 #[.agg (sixC s), .agg (sixC d), .int .i64 k, .int .i64 n] w fun e w' => e = .returned (.tuple #[.int .i64 R, .int .i64 E]) ∧ Below w.heap.size w w' := by
  have HF1 := hide (fun w => fault_ok s w hs)
  have HF2 := hide (fun w => fault_ok d w hd)
  have HS := hide (fun w => rbytes_ok s w hs)
  have HD := hide (fun w => rbytes_ok d w hd)
  have HO := hide hO
  clear hs hd hO
  generalize by16 s 8 = S at HS HO
  generalize by16 d 8 = D at HD HO
  have b1 := al_below w (.cells (sixC s) 23)
  have b2 := al_below (w.alloc (.cells (sixC s) 23)) (.cells (sixC d) 23)
  have HB := hide (bt b1 b2)
  have P1 := hide ((six_al s w).kept b2)
  have P2 := hide (six_al2 d w (.cells (sixC s) 23))
  clear b1 b2
  go_enter Tryz.func104, Tryz.ntmps104
  go_upto_region 1 with fail
  generalize (w.alloc (.cells (sixC s) 23)).alloc (.cells (sixC d) 23) = W at HB P1 P2 ⊢
  have l1 := P1.out.hl
  go_upto_region 3 with (first
    | (go_at_call 34; (with_reducible refine (HF1.out _).mono ?_); rintro e w1 ⟨rfl, hb1⟩; replace HB := hide (bt HB.out hb1); replace P1 := hide (P1.out.kept hb1); replace P2 := hide (P2.out.kept hb1); clear hb1 l1; have l1 := P2.out.hl)
    | (go_at_call 34; (with_reducible refine (HF2.out _).mono ?_); rintro e w2 ⟨rfl, hb2⟩; replace HB := hide (bt HB.out hb2); replace P1 := hide (P1.out.kept hb2); replace P2 := hide (P2.out.kept hb2); clear hb2 l1))
  replace HB := hide (bt HB.out (Below.refl w2.heap.size w2).drew)
  replace P1 := hide (P1.out.kept (Below.refl w2.heap.size w2).drew)
  replace P2 := hide (P2.out.kept (Below.refl w2.heap.size w2).drew)
  go_region_held3 (fun w' => (hload (.pointer (some ⟨w.heap.size, 0, none⟩))).run Tryz.prog w' = .ok (.agg (sixC s)) w' ∧ (hload (.pointer (some ⟨w.heap.size + 1, 0, none⟩))).run Tryz.prog w' = .ok (.agg (sixC d)) w')
    (first
      | exact ⟨P1.out.hl, P2.out.hl⟩
      | go_keep)
    (first
      | (go_at_call 94; (with_reducible refine (HS.out _).mono ?_); rintro e w3 ⟨a3, c3, rfl, hr3, hb3⟩; replace HB := hide (bt HB.out hb3); replace P1 := hide (P1.out.kept hb3); replace P2 := hide (P2.out.kept hb3); replace hr3 := hide hr3; clear hb3)
      | (go_at_call 94; (with_reducible refine (HD.out _).mono ?_); rintro e w4 ⟨a4, c4, rfl, hr4, hb4⟩; replace HB := hide (bt HB.out hb4); replace P1 := hide (P1.out.kept hb4); replace P2 := hide (P2.out.kept hb4); replace hr3 := hide (hr3.out.below hb4); replace hr4 := hide hr4; clear hb4)
      | (go_at_call 132; refine (HO.out _ _ _ _ _ hr3.out hr4.out).mono ?_; rintro e w5 ⟨rfl, hb5⟩; replace HB := hide (bt HB.out hb5); replace P1 := hide (P1.out.kept hb5); replace P2 := hide (P2.out.kept hb5); clear hb5))
  go_wp2
  go_ret2
  exact ⟨rfl, HB.out⟩
end Go.Proofs.YtkhahbghmdccaaaGreatDoor

namespace Go.Proofs.YtkhahbghmdccaaaGreatDoor
open Go.RowKit
def sbx (z : List Int) (C : Int) (data : List Int) : List Int := if el z 0 = 6 then hdT (el z 1) (el z 2) (el z 3) (el z 4) (el z 5) (el z 6) C ++ data else hdU (el z 1) (el z 2) (8 + data.length) C ++ data
theorem sbx_eb (z : List Int) (over : Int) (data : List Int) (h : Okg z data.length) : sbx z (sck z over data) data = eb z over data := by
  unfold sbx
  split
  · rename_i h6; exact (eb_tcp z over data h h6).symm
  · rename_i h6; exact (eb_udp z over data h h6).symm
theorem sbx_ub (z : List Int) (data : List Int) (h : Okg z data.length) : sbx z 0 data = ub z data := by
  unfold sbx
  split
  · rename_i h6; exact (ub_tcp z data h h6).symm
  · rename_i h6; exact (ub_udp z data h h6).symm
theorem wsn_tcp (f t q c g v C : Int) (hf : 0 ≤ f ∧ f ≤ 65535) (ht : 0 ≤ t ∧ t ≤ 65535) (hq : 0 ≤ q ∧ q ≤ 4294967295) (hc : 0 ≤ c ∧ c ≤ 4294967295) (hg : 0 ≤ g ∧ g ≤ 31) (hv : 0 ≤ v ∧ v ≤ 65535) (hC : 0 ≤ C ∧ C ≤ 65535) :
    wsn 2 [f, t, q / 65536, q % 65536, c / 65536, c % 65536, 20480 + g, v, C, 0] 10 = hdT f t q c g v C := by
  show (((((((((([] ++ nb 2 f) ++ nb 2 t) ++ nb 2 (q / 65536)) ++ nb 2 (q % 65536)) ++ nb 2 (c / 65536)) ++ nb 2 (c % 65536)) ++ nb 2 (20480 + g)) ++ nb 2 v) ++ nb 2 C) ++ nb 2 0) = _
  rw [nb2 f hf.1 hf.2, nb2 t ht.1 ht.2, nb2 (q / 65536) (by omega) (by omega), nb2 (q % 65536) (by omega) (by omega), nb2 (c / 65536) (by omega) (by omega), nb2 (c % 65536) (by omega) (by omega), nb2 (20480 + g) (by omega) (by omega), nb2 v hv.1 hv.2, nb2 C hC.1 hC.2, nb2 0 (by omega) (by omega)]
  show [f / 256, f % 256, t / 256, t % 256, q / 65536 / 256, q / 65536 % 256, q % 65536 / 256, q % 65536 % 256, c / 65536 / 256, c / 65536 % 256, c % 65536 / 256, c % 65536 % 256, (20480 + g) / 256, (20480 + g) % 256, v / 256, v % 256, C / 256, C % 256, 0, 0] = _
  unfold hdT
  rw [show q / 65536 / 256 = q / 16777216 by omega, show q % 65536 / 256 = q / 256 % 256 by omega, show q % 65536 % 256 = q % 256 by omega, show c / 65536 / 256 = c / 16777216 by omega, show c % 65536 / 256 = c / 256 % 256 by omega, show c % 65536 % 256 = c % 256 by omega, show (20480 + g) / 256 = 80 by omega, show (20480 + g) % 256 = g by omega]
theorem wsn_udp (f t n C : Int) (hf : 0 ≤ f ∧ f ≤ 65535) (ht : 0 ≤ t ∧ t ≤ 65535) (hn : 0 ≤ n ∧ n ≤ 65535) (hC : 0 ≤ C ∧ C ≤ 65535) : wsn 2 [f, t, n, C] 4 = hdU f t n C := by
  show (((([] ++ nb 2 f) ++ nb 2 t) ++ nb 2 n) ++ nb 2 C) = _
  rw [nb2 f hf.1 hf.2, nb2 t ht.1 ht.2, nb2 n hn.1 hn.2, nb2 C hC.1 hC.2]
  rfl
theorem ints4 (w : World) (x y u v : Int) : Ints w.heap.size [x, y, u, v] (w.alloc (.cells #[.int .i64 x, .int .i64 y, .int .i64 u, .int .i64 v] 3)) := ints_new w [x, y, u, v]
theorem ints10 (w : World) (x0 x1 x2 x3 x4 x5 x6 x7 x8 x9 : Int) : Ints w.heap.size [x0, x1, x2, x3, x4, x5, x6, x7, x8, x9] (w.alloc (.cells #[.int .i64 x0, .int .i64 x1, .int .i64 x2, .int .i64 x3, .int .i64 x4, .int .i64 x5, .int .i64 x6, .int .i64 x7, .int .i64 x8, .int .i64 x9] 3)) := ints_new w [x0, x1, x2, x3, x4, x5, x6, x7, x8, x9]
set_option maxRecDepth 100000 in
set_option maxHeartbeats 4000000 in
theorem rbytes_udp (z : List Int) (a : Option Addr) (len cap : Nat) (C : Int) (data : List Int) (w : World) (h : Okg z len) (h17 : el z 0 = 17) (hC : 0 ≤ C ∧ C ≤ 65535) (hr : Row8 w a len cap data) :
    Calls Tryz.prog 83 #[.agg (sgC z a len cap), .int .i64 C] w fun e w' => ∃ v, e = .returned v ∧ Own w.heap.size w' v (sbx z C data) ∧ Below w.heap.size w w' := by
  obtain ⟨hf, ht, hl, -⟩ := h
  have HB := hide (al_below w (.cells (sgC z a len cap) 39))
  have HP := hide (sg_new w z a len cap)
  have HU := hide (show sbx z C data = wsn 2 [el z 1, el z 2, 8 + (len : Int), C] 4 ++ data by
    rw [wsn_udp _ _ _ _ hf ht (by omega) hC, ← hr.1]
    exact if_neg (by omega))
  have HW := hide (fun W0 W B hg hi => words_any W0 (.slice none 0 0) [] B 4 [el z 1, el z 2, 8 + (len : Int), C] W hg hi rfl (by omega) (by simp) (fun j hj => by
    rcases (by omega : j = 0 ∨ j = 1 ∨ j = 2 ∨ j = 3) with rfl | rfl | rfl | rfl
    · exact hf
    · exact ht
    · show 0 ≤ 8 + (len : Int) ∧ 8 + (len : Int) ≤ 65535; omega
    · exact hC))
  simp only [List.nil_append] at HW
  have L1 := hide (wsn_len 2 [el z 1, el z 2, 8 + (len : Int), C] 4)
  generalize sbx z C data = U at HU ⊢
  generalize wsn 2 [el z 1, el z 2, 8 + (len : Int), C] 4 = Z1 at HU HW L1
  have e17 : (el z 0 == 17) = true := by simpa using h17
  have HR := hide hr
  have HM := hide (show Z1.length + len ≤ 1000000000 by have := L1.out; omega)
  clear h17 hr L1 hC
  go_enter Tryz.func83, Tryz.ntmps83
  go_upto_region 1 with fail
  generalize w.alloc (.cells (sgC z a len cap) 39) = W at HB HP ⊢
  have l0 := HP.out.c0
  have l1 := HP.out.c1
  have l2 := HP.out.c2
  have l7 := HP.out.c7
  go_upto_region 5 with (go_at_call 110; refine (HW.out W _ _ ((Gr.nil W).below (al_below _ _)) (ints4 W _ _ _ _)).mono ?_; rintro e w1 ⟨v1, rfl, hg1⟩; replace hg1 := hide hg1; clear l0 l1 l2 l7)
  have l7 := (HP.out.kept hg1.out.2).c7
  go_wp2_with (at_builtin; refine gr_app rfl (.tmp 46) (.tmp 48) rfl rfl hg1.out rfl ((HR.out.below HB.out).below hg1.out.2) HM.out ?_; intro v5 w5 hg5; replace hg5 := hide hg5; clear l7)
  go_ret
  exact ⟨v5, rfl, HU.out ▸ hg5.out.1.mono HB.out.size, HB.out.trans (hg5.out.2.mono HB.out.size)⟩
set_option maxRecDepth 100000 in
set_option maxHeartbeats 4000000 in
theorem rbytes_tcp (z : List Int) (a : Option Addr) (len cap : Nat) (C : Int) (data : List Int) (w : World) (h : Okg z len) (h6 : el z 0 = 6) (hC : 0 ≤ C ∧ C ≤ 65535) (hr : Row8 w a len cap data) :
    Calls Tryz.prog 83 #[.agg (sgC z a len cap), .int .i64 C] w fun e w' => ∃ v, e = .returned v ∧ Own w.heap.size w' v (sbx z C data) ∧ Below w.heap.size w w' := by
  obtain ⟨hf, ht, hl, h⟩ := h
  obtain ⟨-, hq, hc, hg, hv⟩ : el z 0 = 6 ∧ (0 ≤ el z 3 ∧ el z 3 ≤ 4294967295) ∧ (0 ≤ el z 4 ∧ el z 4 ≤ 4294967295) ∧ (0 ≤ el z 5 ∧ el z 5 ≤ 31) ∧ (0 ≤ el z 6 ∧ el z 6 ≤ 65535) := by
    rcases h with h | h
    · exact h
    · omega
  have HB := hide (al_below w (.cells (sgC z a len cap) 39))
  have HP := hide (sg_new w z a len cap)
  have HU := hide (show sbx z C data = wsn 2 [el z 1, el z 2, el z 3 / 65536, el z 3 % 65536, el z 4 / 65536, el z 4 % 65536, 20480 + el z 5, el z 6, C, 0] 10 ++ data by
    rw [wsn_tcp _ _ _ _ _ _ _ hf ht hq hc hg hv hC]
    exact if_pos h6)
  have HW := hide (fun W0 W B hg' hi => words_any W0 (.slice none 0 0) [] B 10 [el z 1, el z 2, el z 3 / 65536, el z 3 % 65536, el z 4 / 65536, el z 4 % 65536, 20480 + el z 5, el z 6, C, 0] W hg' hi rfl (by omega) (by simp) (fun j hj => by
    rcases (by omega : j = 0 ∨ j = 1 ∨ j = 2 ∨ j = 3 ∨ j = 4 ∨ j = 5 ∨ j = 6 ∨ j = 7 ∨ j = 8 ∨ j = 9) with rfl | rfl | rfl | rfl | rfl | rfl | rfl | rfl | rfl | rfl <;> simp only [List.getD_cons_zero, List.getD_cons_succ] <;> omega))
  simp only [List.nil_append] at HW
  have L1 := hide (wsn_len 2 [el z 1, el z 2, el z 3 / 65536, el z 3 % 65536, el z 4 / 65536, el z 4 % 65536, 20480 + el z 5, el z 6, C, 0] 10)
  generalize sbx z C data = U at HU ⊢
  generalize wsn 2 [el z 1, el z 2, el z 3 / 65536, el z 3 % 65536, el z 4 / 65536, el z 4 % 65536, 20480 + el z 5, el z 6, C, 0] 10 = Z1 at HU HW L1
  have e17 : (el z 0 == 17) = false := by rw [h6]; rfl
  have HR := hide hr
  have HM := hide (show Z1.length + len ≤ 1000000000 by have := L1.out; omega)
  clear h6 hr L1 hC h
  go_enter Tryz.func83, Tryz.ntmps83
  go_upto_region 1 with fail
  generalize w.alloc (.cells (sgC z a len cap) 39) = W at HB HP ⊢
  have l0 := HP.out.c0
  have l1 := HP.out.c1
  have l2 := HP.out.c2
  have l3 := HP.out.c3
  have l4 := HP.out.c4
  have l5 := HP.out.c5
  have l6 := HP.out.c6
  go_upto_region 5 with (go_at_call 110; refine (HW.out W _ _ ((Gr.nil W).below (al_below _ _)) (ints10 W _ _ _ _ _ _ _ _ _ _)).mono ?_; rintro e w1 ⟨v1, rfl, hg1⟩; replace hg1 := hide hg1; clear l0 l1 l2 l3 l4 l5 l6)
  have l7 := (HP.out.kept hg1.out.2).c7
  go_wp2_with (at_builtin; refine gr_app rfl (.tmp 46) (.tmp 48) rfl rfl hg1.out rfl ((HR.out.below HB.out).below hg1.out.2) HM.out ?_; intro v5 w5 hg5; replace hg5 := hide hg5; clear l7)
  go_ret
  exact ⟨v5, rfl, HU.out ▸ hg5.out.1.mono HB.out.size, HB.out.trans (hg5.out.2.mono HB.out.size)⟩
theorem rbytes_any (z : List Int) (a : Option Addr) (len cap : Nat) (C : Int) (data : List Int) (w : World) (h : Okg z len) (hC : 0 ≤ C ∧ C ≤ 65535) (hr : Row8 w a len cap data) :
    Calls Tryz.prog 83 #[.agg (sgC z a len cap), .int .i64 C] w fun e w' => ∃ v, e = .returned v ∧ Own w.heap.size w' v (sbx z C data) ∧ Below w.heap.size w w' := by
  by_cases h6 : el z 0 = 6
  · exact rbytes_tcp z a len cap C data w h h6 hC hr
  · exact rbytes_udp z a len cap C data w h (by obtain ⟨_, _, _, h | h⟩ := h <;> omega) hC hr
set_option maxRecDepth 100000 in
set_option maxHeartbeats 4000000 in
theorem rcheck_any (z : List Int) (a : Option Addr) (len cap : Nat) (over : Int) (data : List Int) (w : World) (h : Okg z len) (ho : up 65535 over = true) (hr : Row8 w a len cap data) :
    Calls Tryz.prog 84 #[.agg (sgC z a len cap), .int .i64 over] w fun e w' => e = .returned (.int .i64 (sck z over data)) ∧ Below w.heap.size w w' := by
  obtain ⟨ho0, ho1⟩ := up_true ho
  have HB := hide (al_below w (.cells (sgC z a len cap) 39))
  have HP := hide (sg_new w z a len cap)
  have hlen := hr.1
  have hl := h.2.2.1
  have hoct := hr.2.2.1
  have HS := hide (fun W hr' => rbytes_any z a len cap 0 data W h (by omega) hr')
  rw [sbx_ub z data (by rw [hlen]; exact h)] at HS
  have hck : sck z over data = ckg (el z 0) over (SM.fold (SM.tot (ub z data) (ub z data).length)) := rfl
  have hub := ub_len z data
  have hh := hn_le (el z 0)
  have hT := SM.fold_bd _ (SM.tot_bd _ (ub_oct z data hoct) (ub z data).length).1
  obtain ⟨N, hN⟩ : ∃ N, N = (ub z data).length := ⟨_, rfl⟩
  have HSum := hide (fun a' c' W (h' : Row8 W a' N c' (ub z data)) => rsumof_any a' N c' _ W h' (by omega))
  rw [← hN] at hck hT
  have HL := hide hN.symm
  generalize SM.fold (SM.tot (ub z data) N) = T at hck hT HSum
  have HF := hide (fun W => rfold_any (over + T) W (by omega) (by omega))
  have hS := SM.fold_bd (over + T) (by omega)
  unfold ckg at hck
  generalize SM.fold (over + T) = S at hck hS HF
  generalize ub z data = U at HS HSum HL
  generalize sck z over data = C at hck ⊢
  have HR := hide hr
  clear hr hN hub hh hoct h
  by_cases h17 : el z 0 = 17
  · have e17 : (el z 0 == 17) = true := by simpa using h17
    by_cases hs : S = 65535
    · have es : (65535 - S == 0) = true := by subst hs; rfl
      have HC := hide (show C = 65535 by rw [hck, if_pos ⟨h17, hs⟩])
      clear hck h17 hs
      go_enter Tryz.func84, Tryz.ntmps84
      go_upto_region 1 with fail
      generalize w.alloc (.cells (sgC z a len cap) 39) = W at HB HP ⊢
      go_upto_region 2 with (first
        | (refine at_load rfl (.tmp 2) rfl rfl HP.out ?_)
        | (go_at_call 83; refine (HS.out _ (HR.out.below HB.out)).mono ?_; rintro e w1 ⟨v1, rfl, o1, hb1⟩; obtain ⟨a1, c1, hv1, hr1, -⟩ := o1.row8; rw [HL.out] at hv1 hr1; subst hv1; replace HB := hide (bt HB.out hb1); replace HP := hide (HP.out.kept hb1); replace hr1 := hide hr1; clear hb1 o1)
        | (go_at_call 81; refine (HSum.out _ _ _ hr1.out).mono ?_; rintro e w2 ⟨rfl, rfl⟩)
        | (go_at_call 136; refine (HF.out _).mono ?_; rintro e w3 ⟨rfl, rfl⟩))
      have l0 := HP.out.c0
      go_wp2
      go_ret
      exact ⟨by rw [HC.out]; rfl, HB.out⟩
    · have es : (65535 - S == 0) = false := by simp; omega
      have HC := hide (show C = 65535 - S by rw [hck, if_neg (fun h => hs h.2)])
      clear hck h17 hs
      go_enter Tryz.func84, Tryz.ntmps84
      go_upto_region 1 with fail
      generalize w.alloc (.cells (sgC z a len cap) 39) = W at HB HP ⊢
      go_upto_region 2 with (first
        | (refine at_load rfl (.tmp 2) rfl rfl HP.out ?_)
        | (go_at_call 83; refine (HS.out _ (HR.out.below HB.out)).mono ?_; rintro e w1 ⟨v1, rfl, o1, hb1⟩; obtain ⟨a1, c1, hv1, hr1, -⟩ := o1.row8; rw [HL.out] at hv1 hr1; subst hv1; replace HB := hide (bt HB.out hb1); replace HP := hide (HP.out.kept hb1); replace hr1 := hide hr1; clear hb1 o1)
        | (go_at_call 81; refine (HSum.out _ _ _ hr1.out).mono ?_; rintro e w2 ⟨rfl, rfl⟩)
        | (go_at_call 136; refine (HF.out _).mono ?_; rintro e w3 ⟨rfl, rfl⟩))
      have l0 := HP.out.c0
      go_wp2
      go_ret
      exact ⟨by rw [HC.out]; rfl, HB.out⟩
  · have e17 : (el z 0 == 17) = false := by simpa using h17
    have HC := hide (show C = 65535 - S by rw [hck, if_neg (fun h => h17 h.1)])
    clear hck h17
    go_enter Tryz.func84, Tryz.ntmps84
    go_upto_region 1 with fail
    generalize w.alloc (.cells (sgC z a len cap) 39) = W at HB HP ⊢
    go_upto_region 2 with (first
      | (refine at_load rfl (.tmp 2) rfl rfl HP.out ?_)
      | (go_at_call 83; refine (HS.out _ (HR.out.below HB.out)).mono ?_; rintro e w1 ⟨v1, rfl, o1, hb1⟩; obtain ⟨a1, c1, hv1, hr1, -⟩ := o1.row8; rw [HL.out] at hv1 hr1; subst hv1; replace HB := hide (bt HB.out hb1); replace HP := hide (HP.out.kept hb1); replace hr1 := hide hr1; clear hb1 o1)
      | (go_at_call 81; refine (HSum.out _ _ _ hr1.out).mono ?_; rintro e w2 ⟨rfl, rfl⟩)
      | (go_at_call 136; refine (HF.out _).mono ?_; rintro e w3 ⟨rfl, rfl⟩))
    have l0 := HP.out.c0
    go_wp2
    go_ret
    exact ⟨by rw [HC.out]; rfl, HB.out⟩
end Go.Proofs.YtkhahbghmdccaaaGreatDoor
