/- The document's own small ones (Word, Fold, SumOf, IsFour, isByte, SixFault, BytesOf, FourBytes), by contracts; loads of an address; append as a step of a region that draws. -/
import Derived.Test.YtfjnioninjllkaaDoorXOver6
import Derived.Deep.RegionHeld3
import Derived.Deep.DrawnRows
namespace Go.Proofs.YtfjnioninjllkaaDoor
open Go.RowKit
def IsF (f : Int) : Prop := 0 ≤ f ∧ f ≤ 4294967295

theorem word_yes (n : Int) (w : World) (h : Word n) : Calls Tryd.prog 54 #[.int .i64 n] w fun e w' => e = .returned (.bool true) ∧ w' = w := by
  obtain ⟨h1, h2⟩ := h
  go_enter Tryd.func54, Tryd.ntmps54
  go_wp2
  go_ret
  exact ⟨rfl, rfl⟩
theorem word_no (n : Int) (w : World) (h : ¬ Word n) : Calls Tryd.prog 54 #[.int .i64 n] w fun e w' => e = .returned (.bool false) ∧ w' = w := by
  by_cases h1 : 0 ≤ n
  · have h2 : ¬ n ≤ 65535 := fun h2 => h ⟨h1, h2⟩
    clear h
    go_enter Tryd.func54, Tryd.ntmps54
    go_wp2
    go_ret
    exact ⟨rfl, rfl⟩
  · clear h
    go_enter Tryd.func54, Tryd.ntmps54
    go_wp2
    go_ret
    exact ⟨rfl, rfl⟩
set_option maxHeartbeats 1000000 in
theorem fault_any (z : List Int) (w : World) : Calls Tryd.prog 25 #[six z] w fun e w' => ((Ok6 z ∧ e = .returned (.int .i64 0)) ∨ (¬ Ok6 z ∧ e = .returned (.int .i64 1))) ∧ Below w.heap.size w w' := by
  have hS := six_new z w
  have hB : Below w.heap.size w (w.alloc (.cells #[.int .i64 (el z 0), .int .i64 (el z 1), .int .i64 (el z 2), .int .i64 (el z 3), .int .i64 (el z 4), .int .i64 (el z 5), .int .i64 (el z 6), .int .i64 (el z 7)] 23)) := (Below.refl _ _).alloc (Nat.le_refl _) _
  unfold six
  go_enter Tryd.func25, Tryd.ntmps25
  go_wp2
  generalize w.alloc (.cells #[.int .i64 (el z 0), .int .i64 (el z 1), .int .i64 (el z 2), .int .i64 (el z 3), .int .i64 (el z 4), .int .i64 (el z 5), .int .i64 (el z 6), .int .i64 (el z 7)] 23) = W at hS hB ⊢
  go_loop [3] (fun t => ∃ k : Nat, k ≤ 8 ∧ (∀ j, j < k → Word (el z j)) ∧ t = .int .i64 k) (fun t => 8 - (intOf t).toNat)
  case atStart => exact ⟨0, by omega, fun i hi => absurd hi (by omega), rfl⟩
  case round =>
    obtain ⟨k, hk, hin, rfl⟩ := hrel
    have HI := hide hin
    clear hin
    by_cases hlt : k < 8
    · have hc := (hS.facts k hlt).1
      by_cases hx : Word (el z k)
      · have HX := hide hx
        generalize el z k = x at hc hx
        go_wp2_with (go_at_call 54; refine (word_yes _ _ hx).mono ?_; rintro e w' ⟨rfl, rfl⟩)
        go_round
        case rel => exact ⟨k + 1, by omega, fun i hi => if h : i = k then by subst h; exact HX.out else HI.out i (by omega), by go_num⟩
        case measure => simp [intOf]; omega
      · have HX := hide hx
        generalize el z k = x at hc hx
        go_wp2_with (go_at_call 54; refine (word_no _ _ hx).mono ?_; rintro e w' ⟨rfl, rfl⟩)
        go_ret
        exact ⟨.inr ⟨fun h => HX.out (h k hlt), rfl⟩, hB⟩
    · go_wp2
      go_ret
      obtain rfl : k = 8 := by omega
      exact ⟨.inl ⟨HI.out, rfl⟩, hB⟩
/-- append onto a slice of bytes of the call's own, as a step of a region that draws its order. -/
theorem step_byte {w : World} {ops : Array Oper} {o : Oper} {a : Act} {K : Act → World → Prop} {Q : Exit → Act → World → Prop} {E : Prop} (hgd : o.guard = none) (s x : Operand)
    (ho : o.op = .call { callee := .builtin .append, args := #[s, x], argTypes := #[24, 24] })
    (base : Nat) (v : Value) (xs : List Value) (hs : a.eval s = v) (hown : OwnG 5 base w v xs) (B m : Nat) (ys : List Value) (hx : a.eval x = .slice (some ⟨B, 0, none⟩) m m) (hm : ys.length = m)
    (hc : ∀ (j : Nat) u, ys[j]? = some u → w.cell? ⟨B, j, none⟩ = some u) (h1 : ∀ u ∈ ys, u.oneCell' = true) (hlen : xs.length + m ≤ 4000000) (hbase : base ≤ w.heap.size)
    (h : ∀ v' w', OwnG 5 base w' v' (xs ++ ys) → w.grownBy w' v.ownBlock → K (a.put o.dst v') w') : if Region.wanted o (yielded ops a.tmps) = true then Oper.wp Tryd.prog o a w K Q else E := by
  have hw : Region.wanted o (yielded ops a.tmps) = true := by simp [Region.wanted, hgd]
  rw [if_pos hw]
  obtain ⟨i0, hi, hz0, hz1, hz2⟩ := info_parts Tryd.infoByte
  refine wp_append_own w s x 24 ho base 5 i0 (.int .u8 0) 1 1 Tryd.underlying24 hi hz0 hz1 hz2 rfl (by decide) v xs.length xs hs hown ⟨B, 0, none⟩ m m ys hx (by omega) ?_ h1 (by unfold maxLen; omega) (by omega) hbase ?_
  · intro j u hu
    rw [add_pl, Nat.zero_add]
    exact hc j u hu
  · intro v' w' h2 h3 _
    refine h v' w' ?_ h3
    unfold OwnG
    rw [List.length_append, hm]
    exact h2
set_option maxHeartbeats 4000000 in
set_option maxRecDepth 100000 in
theorem bytesof_any (z : List Int) (w : World) (hz : Ok6 z) : Calls Tryd.prog 64 #[six z] w fun e w' => ∃ v, e = .returned v ∧ OwnG 5 (w.heap.size + 1) w' v (u8s (by16 z 8)) ∧ Below w.heap.size w w' := by
  have hS := six_new z w
  have hB : Below w.heap.size w (w.alloc (.cells #[.int .i64 (el z 0), .int .i64 (el z 1), .int .i64 (el z 2), .int .i64 (el z 3), .int .i64 (el z 4), .int .i64 (el z 5), .int .i64 (el z 6), .int .i64 (el z 7)] 23)) := (Below.refl _ _).alloc (Nat.le_refl _) _
  have hwz : w.heap.size + 1 ≤ (w.alloc (.cells #[.int .i64 (el z 0), .int .i64 (el z 1), .int .i64 (el z 2), .int .i64 (el z 3), .int .i64 (el z 4), .int .i64 (el z 5), .int .i64 (el z 6), .int .i64 (el z 7)] 23)).heap.size := by simp
  unfold six
  go_enter Tryd.func64, Tryd.ntmps64
  go_wp2
  generalize w.alloc (.cells #[.int .i64 (el z 0), .int .i64 (el z 1), .int .i64 (el z 2), .int .i64 (el z 3), .int .i64 (el z 4), .int .i64 (el z 5), .int .i64 (el z 6), .int .i64 (el z 7)] 23) = W at hS hB hwz ⊢
  go_loopw [3, 4] (fun v i wr => ∃ k : Nat, k ≤ 8 ∧ i = .int .i64 k ∧ Hid (OwnG 5 (w.heap.size + 1) wr v (u8s (by16 z k))) ∧ Hid (SixIn w.heap.size z wr) ∧ Hid (Below (w.heap.size + 1) W wr)) (fun _ i _ => 8 - (intOf i).toNat)
  case atStart => exact ⟨0, by omega, rfl, OwnG.nil _ _ _, hS, Below.refl _ _⟩
  case round =>
    obtain ⟨k, hk, rfl, HO, HS6, HB⟩ := hrel
    by_cases hlt : k < 8
    · have hcx := (HS6.out.facts k hlt).1
      have hx := hz k hlt
      have HS := hide (by16_succ z k)
      have HLN := hide (show (u8s (by16 z k)).length = 2 * k by unfold u8s; rw [List.length_map, by16_len z k])
      generalize el z k = x at hcx hx HS
      obtain ⟨hx0, hx1⟩ := hx
      have hsz : w.heap.size + 1 ≤ wr.heap.size := Nat.le_trans hwz HB.out.size
      have q1 : IntKind.i64.wrap (x.tdiv 256) = x / 256 := by rw [Int.tdiv_eq_ediv_of_nonneg hx0, IntKind.wrap_i64]; omega
      have q2 : IntKind.u8.wrap (x / 256) = x / 256 := by rw [IntKind.wrap_u8]; omega
      have q3 : x.tmod 256 = x % 256 := Int.tmod_eq_emod_of_nonneg hx0
      have q4 : IntKind.u8.wrap (x % 256) = x % 256 := by rw [IntKind.wrap_u8]; omega
      have hb1 : Below wr.heap.size wr (wr.alloc (.cells #[.int .u8 (x / 256), .int .u8 (x % 256)] 5)).drew := ((Below.refl _ _).alloc (Nat.le_refl _) _).drew
      have HO2 := hide (HO.out.kept hb1)
      have HB2 := hide (HB.out.trans (hb1.mono hsz))
      have HS62 := hide (HS6.out.kept hb1)
      have HC := hide (show ∀ (j : Nat) u, [Value.int .u8 (x / 256), Value.int .u8 (x % 256)][j]? = some u → (wr.alloc (.cells #[.int .u8 (x / 256), .int .u8 (x % 256)] 5)).drew.cell? ⟨wr.heap.size, j, none⟩ = some u from fun j u hu => by match j with | 0 => simp at hu; subst hu; simp | 1 => simp at hu; subst hu; simp | j + 2 => simp at hu)
      have HL2 := hide (show (u8s (by16 z k)).length + 2 ≤ 4000000 by rw [HLN.out]; omega)
      have HSZ := hide (show w.heap.size + 1 ≤ (wr.alloc (.cells #[.int .u8 (x / 256), .int .u8 (x % 256)] 5)).drew.heap.size from Nat.le_trans hsz hb1.size)
      have HOC := hide (show ∀ u ∈ [Value.int .u8 (x / 256), Value.int .u8 (x % 256)], u.oneCell' = true from fun u hu => by simp at hu; rcases hu with rfl | rfl <;> rfl)
      go_wp2
      go_region_law (refine step_byte rfl (.tmp 9) (.tmp 20) rfl (w.heap.size + 1) _ (u8s (by16 z k)) (by simp [Act.eval]) HO2.out wr.heap.size 2 [.int .u8 (x / 256), .int .u8 (x % 256)] (by simp [Act.eval]) rfl HC.out HOC.out HL2.out HSZ.out ?_; intro v' w' HO3 hg3)
      all_goals
        have HB3 := hide (HB2.out.grown hg3 (Nat.le_trans hsz hb1.size) (HO2.out.base))
        have HS63 := hide (show SixIn w.heap.size z w' from (hg3.block _ HS62.out.lt (fun e => by have := HO2.out.base _ e.symm; omega)).trans HS62.out)
        go_wp2_with fail
        go_roundw
        case rel =>
          refine ⟨k + 1, by omega, by go_num, ?_, HS63, HB3⟩
          rw [HS.out]
          unfold u8s
          rw [List.map_append]
          exact HO3
        case measure => simp [intOf]; omega
    · obtain rfl : k = 8 := by omega
      go_wp2
      go_ret
      exact ⟨_, rfl, HO.out, hB.trans (HB.out.mono (Nat.le_succ _))⟩
theorem risbyte_any (n : Int) (w : World) : Calls Tryd.prog 41 #[.int .i64 n] w fun e w' => e = .returned (.bool (up 255 n)) ∧ w' = w := by
  by_cases h0 : 0 ≤ n
  · by_cases h1 : n ≤ 255
    · rw [show up 255 n = true from decide_eq_true ⟨h0, h1⟩]
      go_enter Tryd.func41, Tryd.ntmps41
      go_wp2
      go_ret
      exact ⟨rfl, rfl⟩
    · rw [show up 255 n = false from decide_eq_false (fun h => h1 h.2)]
      go_enter Tryd.func41, Tryd.ntmps41
      go_wp2
      go_ret
      exact ⟨rfl, rfl⟩
  · rw [show up 255 n = false from decide_eq_false (fun h => h0 h.1)]
    go_enter Tryd.func41, Tryd.ntmps41
    go_wp2
    go_ret
    exact ⟨rfl, rfl⟩
theorem fault_ok (z : List Int) (w : World) (h : Ok6 z) : Calls Tryd.prog 25 #[.agg (sixC z)] w fun e w' => e = .returned (.int .i64 0) ∧ Below w.heap.size w w' :=
  (fault_any z w).mono fun e w' ⟨hh, hb⟩ => by
    rcases hh with ⟨_, he⟩ | ⟨hn, _⟩
    · exact ⟨he, hb⟩
    · exact absurd h hn
theorem fault_bad (z : List Int) (w : World) (h : ¬ Ok6 z) : Calls Tryd.prog 25 #[.agg (sixC z)] w fun e w' => e = .returned (.int .i64 1) ∧ Below w.heap.size w w' :=
  (fault_any z w).mono fun e w' ⟨hh, hb⟩ => by
    rcases hh with ⟨hn, _⟩ | ⟨_, he⟩
    · exact absurd hn h
    · exact ⟨he, hb⟩
theorem rfold_any (n : Int) (w : World) (h0 : 0 ≤ n) (h1 : n ≤ 1000000000000) : Calls Tryd.prog 68 #[.int .i64 n] w fun e w' => e = .returned (.int .i64 (SM.fold n)) ∧ w' = w := by
  by_cases h : n = 0
  · subst h
    go_enter Tryd.func68, Tryd.ntmps68
    go_wp2
    go_ret
    exact ⟨rfl, rfl⟩
  · have hb : (n == 0) = false := by simpa using h
    have hf : Hid (SM.fold n = (n - 1) % 65535 + 1) := by unfold SM.fold; rw [if_neg h]; exact rfl
    go_enter Tryd.func68, Tryd.ntmps68
    go_wp2
    go_ret
    exact ⟨ret_int hf.out.symm, rfl⟩
set_option maxHeartbeats 400000 in
theorem rsumof_any (a : Option Addr) (len cap : Nat) (zs : List Int) (w : World) (w0 : Row8 w a len cap zs) (h : len ≤ 2000) :
    Calls Tryd.prog 69 #[.slice a len cap] w fun e w' => e = .returned (.int .i64 (SM.fold (SM.tot zs len))) ∧ w' = w := by
  obtain ⟨hz, hm, hoct, _, hcs⟩ := w0
  by_cases hp : 0 < len
  · obtain ⟨b, off, rfl, hcell⟩ := hcs hp
    clear hcs
    go_enter Tryd.func69, Tryd.ntmps69
    go_wp2
    go_loop [3, 4] (fun t i => ∃ k : Nat, k ≤ len + 1 ∧ (k ≤ len ∨ len % 2 = 1) ∧ k % 2 = 0 ∧ t = .int .i64 (SM.tot zs (if k ≤ len then k else len)) ∧ i = .int .i64 k) (fun _ i => len + 1 - (intOf i).toNat)
    case atStart => exact ⟨0, by omega, by omega, rfl, by simp [SM.tot], rfl⟩
    case round =>
      obtain ⟨k, hk, hko, hpar, rfl, rfl⟩ := hrel
      by_cases hlt : k < len
      · have hb := SM.tot_bd zs hoct k
        have hck := hcell k (by omega)
        have hok := hoct k
        have HE := hide (SM.tot_even zs k hpar)
        rw [if_pos (by omega : k ≤ len)]
        by_cases hnx : k + 1 < len
        · have hck1 := hcell (k + 1) (by omega)
          have hok1 := hoct (k + 1)
          have HO := hide (SM.tot_odd zs (k + 1) (by omega))
          clear hcell hoct
          generalize zs.getD k 0 = z at hck hok HE
          generalize zs.getD (k + 1) 0 = z1 at hck1 hok1 HO
          generalize SM.tot zs k = t at hb HE ⊢
          go_wp2
          go_round
          case rel => exact ⟨k + 2, by omega, by omega, by omega, by rw [if_pos (by omega : k + 2 ≤ len), HO.out, HE.out]; exact congrArg _ (by omega), by go_num⟩
          case measure => simp [intOf]; omega
        · obtain rfl : len = k + 1 := by omega
          clear hcell hoct
          generalize zs.getD k 0 = z at hck hok HE
          generalize SM.tot zs k = t at hb HE ⊢
          go_wp2
          go_round
          case rel => exact ⟨k + 2, by omega, by omega, by omega, by rw [if_neg (by omega : ¬ k + 2 ≤ k + 1), HE.out]; exact congrArg _ (by omega), by go_num⟩
          case measure => simp [intOf]; omega
      · have hb := SM.tot_bd zs hoct len
        have e : (if k ≤ len then k else len) = len := by split <;> omega
        rw [e]
        clear e
        go_wp2_with (go_at_call 68; refine (rfold_any _ _ (by omega) (by omega)).mono ?_; rintro e w' ⟨rfl, rfl⟩)
        go_ret
        exact ⟨rfl, rfl⟩
  · obtain rfl : len = 0 := by omega
    go_enter Tryd.func69, Tryd.ntmps69
    go_wp2
    refine wp_loop_rounds 1 ?_
    rw [rounds_succ]
    go_wp2_with (go_at_call 68; refine (rfold_any _ _ (by omega) (by omega)).mono ?_; rintro e w' ⟨rfl, rfl⟩)
    go_ret
    exact ⟨rfl, rfl⟩
theorem isfour_yes (n : Int) (w : World) (h : 0 ≤ n ∧ n ≤ 4294967295) : Calls Tryd.prog 17 #[.int .i64 n] w fun e w' => e = .returned (.bool true) ∧ w' = w := by
  obtain ⟨h1, h2⟩ := h
  go_enter Tryd.func17, Tryd.ntmps17
  go_wp2
  go_ret
  exact ⟨rfl, rfl⟩
theorem isfour_no (n : Int) (w : World) (h : n < 0 ∨ 4294967295 < n) : Calls Tryd.prog 17 #[.int .i64 n] w fun e w' => e = .returned (.bool false) ∧ w' = w := by
  by_cases h0 : n < 0
  · clear h
    go_enter Tryd.func17, Tryd.ntmps17
    go_wp2
    go_ret
    exact ⟨rfl, rfl⟩
  · have h1 : 4294967295 < n := by omega
    have h2 : 0 ≤ n := by omega
    clear h h0
    go_enter Tryd.func17, Tryd.ntmps17
    go_wp2
    go_ret
    refine ⟨?_, rfl⟩
    first
    | rfl
    | (show Ending.returned (.bool (decide (n ≤ 4294967295))) = _; rw [decide_eq_false (by omega)])
theorem isfour_any (n : Int) (w : World) : Calls Tryd.prog 17 #[.int .i64 n] w fun e w' => e = .returned (.bool (up 4294967295 n)) ∧ w' = w := by
  by_cases h : 0 ≤ n ∧ n ≤ 4294967295
  · rw [show up 4294967295 n = true from decide_eq_true h]; exact isfour_yes n w h
  · rw [show up 4294967295 n = false from decide_eq_false h]; exact isfour_no n w (by omega)
theorem word_any (n : Int) (w : World) : Calls Tryd.prog 54 #[.int .i64 n] w fun e w' => e = .returned (.bool (up 65535 n)) ∧ w' = w := by
  by_cases h : 0 ≤ n ∧ n ≤ 65535
  · rw [show up 65535 n = true from decide_eq_true h]; exact word_yes n w h
  · rw [show up 65535 n = false from decide_eq_false h]; exact word_no n w h
theorem row_four (w : World) (x0 x1 x2 x3 : Int) (h0 : 0 ≤ x0 ∧ x0 ≤ 255) (h1 : 0 ≤ x1 ∧ x1 ≤ 255) (h2 : 0 ≤ x2 ∧ x2 ≤ 255) (h3 : 0 ≤ x3 ∧ x3 ≤ 255) : Row8 (w.alloc (.cells #[.int .u8 x0, .int .u8 x1, .int .u8 x2, .int .u8 x3] 5)) (some ⟨w.heap.size, 0, none⟩) 4 4 [x0, x1, x2, x3] := by
  refine ⟨rfl, by simp [maxLen], ?_, (fun h => by cases h), fun _ => ⟨w.heap.size, 0, rfl, fun i hi => ?_⟩⟩
  · intro k
    match k with
    | 0 => simpa using h0
    | 1 => simpa using h1
    | 2 => simpa using h2
    | 3 => simpa using h3
    | k + 4 => simp
  · rcases (by omega : i = 0 ∨ i = 1 ∨ i = 2 ∨ i = 3) with rfl | rfl | rfl | rfl <;> simp
/-- the bytes of a number of 32 bits. -/
def b4 (f : Int) : List Int := [f / 16777216, f / 65536 % 256, f / 256 % 256, f % 256]
theorem rfour_row (f : Int) (w : World) (h : IsF f) : Calls Tryd.prog 66 #[.int .i64 f] w fun e w' => ∃ B, e = .returned (.slice (some ⟨B, 0, none⟩) 4 4) ∧ Row8 w' (some ⟨B, 0, none⟩) 4 4 (b4 f) ∧ Below w.heap.size w w' := by
  obtain ⟨h0, h1⟩ := h
  have HR := hide (row_four w (f / 16777216) (f / 65536 % 256) (f / 256 % 256) (f % 256) (by omega) (by omega) (by omega) (by omega))
  have HB := hide ((Below.refl w.heap.size w).alloc (Nat.le_refl _) (.cells #[.int .u8 (f / 16777216), .int .u8 (f / 65536 % 256), .int .u8 (f / 256 % 256), .int .u8 (f % 256)] 5))
  go_enter Tryd.func66, Tryd.ntmps66
  go_wp2
  go_ret
  exact ⟨_, rfl, HR.out, HB.out⟩
theorem rbytes_ok (z : List Int) (w : World) (hz : Ok6 z) : Calls Tryd.prog 64 #[.agg (sixC z)] w fun e w' => ∃ a c, e = .returned (.slice a 16 c) ∧ Row8 w' a 16 c (by16 z 8) ∧ Below w.heap.size w w' := by
  refine (bytesof_any z w hz).mono ?_
  rintro e w' ⟨v, rfl, ho, hb⟩
  have ho' : Own (w.heap.size + 1) w' v (by16 z 8) := ⟨oct_by16 z hz 8 (by omega), by
    unfold OwnG u8s at ho
    rw [List.length_map] at ho
    exact ho⟩
  obtain ⟨a, c, rfl, hr, _⟩ := ho'.row8
  rw [by16_len] at hr
  exact ⟨a, c, by rw [by16_len], hr, hb⟩
theorem row_pair (w : World) (x y : Int) (hx : 0 ≤ x ∧ x ≤ 255) (hy : 0 ≤ y ∧ y ≤ 255) : Row8 (w.alloc (.cells #[.int .u8 x, .int .u8 y] 5)) (some ⟨w.heap.size, 0, none⟩) 2 2 [x, y] := by
  refine ⟨rfl, by simp [maxLen], ?_, (fun h => by cases h), fun _ => ⟨w.heap.size, 0, rfl, fun i hi => ?_⟩⟩
  · intro k
    match k with
    | 0 => simpa using hx
    | 1 => simpa using hy
    | k + 2 => simp
  · rcases (by omega : i = 0 ∨ i = 1) with rfl | rfl <;> simp
end Go.Proofs.YtfjnioninjllkaaDoor
