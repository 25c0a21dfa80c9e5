/- The document's own SixFault, IsFour and BytesOf, as the statements call them, by contracts. -/
import Derived.Test.YtnhjabiciaoocaaDoorEmSixBytes
import Derived.Test.YtnhjabiciaoocaaDoorProg
import Derived.Deep.QuietTactic
namespace Go.Proofs.YtnhjabiciaoocaaDoor.Em
open Go.RowKit Go.Shelf
theorem word_yes (n : Int) (w : World) (h : Word n) : Calls Tryd.prog 11 #[.int .i64 n] w fun e w' => e = .returned (.bool true) ∧ w' = w := by
  obtain ⟨h1, h2⟩ := h
  go_enter Tryd.func11, Tryd.ntmps11
  go_wp2
  go_ret
  exact ⟨rfl, rfl⟩
theorem word_no (n : Int) (w : World) (h : ¬ Word n) : Calls Tryd.prog 11 #[.int .i64 n] w fun e w' => e = .returned (.bool false) ∧ w' = w := by
  by_cases h1 : 0 ≤ n
  · have h2 : ¬ n ≤ 65535 := fun h2 => h ⟨h1, h2⟩
    clear h
    go_enter Tryd.func11, Tryd.ntmps11
    go_wp2
    go_ret
    exact ⟨rfl, rfl⟩
  · clear h
    go_enter Tryd.func11, Tryd.ntmps11
    go_wp2
    go_ret
    exact ⟨rfl, rfl⟩
set_option maxHeartbeats 1000000 in
theorem fault_any (z : List Int) (w : World) : Calls Tryd.prog 10 #[six z] w fun e w' => ((Ok6 z ∧ e = .returned (.int .i64 0)) ∨ (¬ Ok6 z ∧ e = .returned (.int .i64 1))) ∧ Below w.heap.size w w' := by
  have hS := six_new z w
  have hB : Below w.heap.size w (w.alloc (.cells #[.int .i64 (el z 0), .int .i64 (el z 1), .int .i64 (el z 2), .int .i64 (el z 3), .int .i64 (el z 4), .int .i64 (el z 5), .int .i64 (el z 6), .int .i64 (el z 7)] 23)) := (Below.refl _ _).alloc (Nat.le_refl _) _
  unfold six
  go_enter Tryd.func10, Tryd.ntmps10
  go_wp2
  generalize w.alloc (.cells #[.int .i64 (el z 0), .int .i64 (el z 1), .int .i64 (el z 2), .int .i64 (el z 3), .int .i64 (el z 4), .int .i64 (el z 5), .int .i64 (el z 6), .int .i64 (el z 7)] 23) = W at hS hB ⊢
  go_loop [3] (fun t => ∃ k : Nat, k ≤ 8 ∧ (∀ j, j < k → Word (el z j)) ∧ t = .int .i64 k) (fun t => 8 - (intOf t).toNat)
  case atStart => exact ⟨0, by omega, fun i hi => absurd hi (by omega), rfl⟩
  case round =>
    obtain ⟨k, hk, hin, rfl⟩ := hrel
    have HI := hide hin
    clear hin
    by_cases hlt : k < 8
    · have hc := (hS.facts k hlt).1
      by_cases hx : Word (el z k)
      · have HX := hide hx
        generalize el z k = x at hc hx
        go_wp2_with (go_at_call 11; refine (word_yes _ _ hx).mono ?_; rintro e w' ⟨rfl, rfl⟩)
        go_round
        case rel => exact ⟨k + 1, by omega, fun i hi => if h : i = k then by subst h; exact HX.out else HI.out i (by omega), by go_num⟩
        case measure => simp [intOf]; omega
      · have HX := hide hx
        generalize el z k = x at hc hx
        go_wp2_with (go_at_call 11; refine (word_no _ _ hx).mono ?_; rintro e w' ⟨rfl, rfl⟩)
        go_ret
        exact ⟨.inr ⟨fun h => HX.out (h k hlt), rfl⟩, hB⟩
    · go_wp2
      go_ret
      obtain rfl : k = 8 := by omega
      exact ⟨.inl ⟨HI.out, rfl⟩, hB⟩
theorem fault_ok (z : List Int) (w : World) (h : Ok6 z) : Calls Tryd.prog 10 #[six z] w fun e w' => e = .returned (.int .i64 0) ∧ Below w.heap.size w w' :=
  (fault_any z w).mono fun e w' ⟨hh, hb⟩ => by
    rcases hh with ⟨_, he⟩ | ⟨hn, _⟩
    · exact ⟨he, hb⟩
    · exact absurd h hn
theorem fault_bad (z : List Int) (w : World) (h : ¬ Ok6 z) : Calls Tryd.prog 10 #[six z] w fun e w' => e = .returned (.int .i64 1) ∧ Below w.heap.size w w' :=
  (fault_any z w).mono fun e w' ⟨hh, hb⟩ => by
    rcases hh with ⟨hn, _⟩ | ⟨_, he⟩
    · exact absurd hn h
    · exact ⟨he, hb⟩
/-- append onto a slice of bytes of the call's own, as a step of a region that draws its order. -/
theorem step_byte {w : World} {ops : Array Oper} {o : Oper} {a : Act} {K : Act → World → Prop} {Q : Exit → Act → World → Prop} {E : Prop} (hgd : o.guard = none) (s x : Operand)
    (ho : o.op = .call { callee := .builtin .append, args := #[s, x], argTypes := #[64, 64] })
    (base : Nat) (v : Value) (xs : List Value) (hs : a.eval s = v) (hown : OwnG 5 base w v xs) (B m : Nat) (ys : List Value) (hx : a.eval x = .slice (some ⟨B, 0, none⟩) m m) (hm : ys.length = m)
    (hc : ∀ (j : Nat) u, ys[j]? = some u → w.cell? ⟨B, j, none⟩ = some u) (h1 : ∀ u ∈ ys, u.oneCell' = true) (hlen : xs.length + m ≤ 4000000) (hbase : base ≤ w.heap.size)
    (h : ∀ v' w', OwnG 5 base w' v' (xs ++ ys) → w.grownBy w' v.ownBlock → K (a.put o.dst v') w') : if Region.wanted o (yielded ops a.tmps) = true then Oper.wp Tryd.prog o a w K Q else E := by
  have hw : Region.wanted o (yielded ops a.tmps) = true := by simp [Region.wanted, hgd]
  rw [if_pos hw]
  obtain ⟨i0, hi, hz0, hz1, hz2⟩ := info_parts Tryd.infoByte
  refine wp_append_own w s x 64 ho base 5 i0 (.int .u8 0) 1 1 Tryd.underlying64 hi hz0 hz1 hz2 rfl (by decide) v xs.length xs hs hown ⟨B, 0, none⟩ m m ys hx (by omega) ?_ h1 (by unfold maxLen; omega) (by omega) hbase ?_
  · intro j u hu
    rw [add_pl, Nat.zero_add]
    exact hc j u hu
  · intro v' w' h2 h3 _
    refine h v' w' ?_ h3
    unfold OwnG
    rw [List.length_append, hm]
    exact h2
set_option maxHeartbeats 4000000 in
set_option maxRecDepth 100000 in
theorem bytesof_any (z : List Int) (w : World) (hz : Ok6 z) : Calls Tryd.prog 27 #[six z] w fun e w' => ∃ v, e = .returned v ∧ OwnG 5 (w.heap.size + 1) w' v (u8s (by16 z 8)) ∧ Below w.heap.size w w' := by
  have hS := six_new z w
  have hB : Below w.heap.size w (w.alloc (.cells #[.int .i64 (el z 0), .int .i64 (el z 1), .int .i64 (el z 2), .int .i64 (el z 3), .int .i64 (el z 4), .int .i64 (el z 5), .int .i64 (el z 6), .int .i64 (el z 7)] 23)) := (Below.refl _ _).alloc (Nat.le_refl _) _
  have hwz : w.heap.size + 1 ≤ (w.alloc (.cells #[.int .i64 (el z 0), .int .i64 (el z 1), .int .i64 (el z 2), .int .i64 (el z 3), .int .i64 (el z 4), .int .i64 (el z 5), .int .i64 (el z 6), .int .i64 (el z 7)] 23)).heap.size := by simp
  unfold six
  go_enter Tryd.func27, Tryd.ntmps27
  go_wp2
  generalize w.alloc (.cells #[.int .i64 (el z 0), .int .i64 (el z 1), .int .i64 (el z 2), .int .i64 (el z 3), .int .i64 (el z 4), .int .i64 (el z 5), .int .i64 (el z 6), .int .i64 (el z 7)] 23) = W at hS hB hwz ⊢
  go_loopw [3, 4] (fun v i wr => ∃ k : Nat, k ≤ 8 ∧ i = .int .i64 k ∧ Hid (OwnG 5 (w.heap.size + 1) wr v (u8s (by16 z k))) ∧ Hid (SixIn w.heap.size z wr) ∧ Hid (Below (w.heap.size + 1) W wr)) (fun _ i _ => 8 - (intOf i).toNat)
  case atStart => exact ⟨0, by omega, rfl, OwnG.nil _ _ _, hS, Below.refl _ _⟩
  case round =>
    obtain ⟨k, hk, rfl, HO, HS6, HB⟩ := hrel
    by_cases hlt : k < 8
    · have hcx := (HS6.out.facts k hlt).1
      have hx := hz k hlt
      have HS := hide (by16_succ z k)
      have HLN := hide (show (u8s (by16 z k)).length = 2 * k by unfold u8s; rw [List.length_map, by16_len z k])
      generalize el z k = x at hcx hx HS
      obtain ⟨hx0, hx1⟩ := hx
      have hsz : w.heap.size + 1 ≤ wr.heap.size := Nat.le_trans hwz HB.out.size
      have q1 : IntKind.i64.wrap (x.tdiv 256) = x / 256 := by rw [Int.tdiv_eq_ediv_of_nonneg hx0, IntKind.wrap_i64]; omega
      have q2 : IntKind.u8.wrap (x / 256) = x / 256 := by rw [IntKind.wrap_u8]; omega
      have q3 : x.tmod 256 = x % 256 := Int.tmod_eq_emod_of_nonneg hx0
      have q4 : IntKind.u8.wrap (x % 256) = x % 256 := by rw [IntKind.wrap_u8]; omega
      have hb1 : Below wr.heap.size wr (wr.alloc (.cells #[.int .u8 (x / 256), .int .u8 (x % 256)] 5)).drew := ((Below.refl _ _).alloc (Nat.le_refl _) _).drew
      have HO2 := hide (HO.out.kept hb1)
      have HB2 := hide (HB.out.trans (hb1.mono hsz))
      have HS62 := hide (HS6.out.kept hb1)
      have HC := hide (show ∀ (j : Nat) u, [Value.int .u8 (x / 256), Value.int .u8 (x % 256)][j]? = some u → (wr.alloc (.cells #[.int .u8 (x / 256), .int .u8 (x % 256)] 5)).drew.cell? ⟨wr.heap.size, j, none⟩ = some u from fun j u hu => by match j with | 0 => simp at hu; subst hu; simp | 1 => simp at hu; subst hu; simp | j + 2 => simp at hu)
      have HL2 := hide (show (u8s (by16 z k)).length + 2 ≤ 4000000 by rw [HLN.out]; omega)
      have HSZ := hide (show w.heap.size + 1 ≤ (wr.alloc (.cells #[.int .u8 (x / 256), .int .u8 (x % 256)] 5)).drew.heap.size from Nat.le_trans hsz hb1.size)
      have HOC := hide (show ∀ u ∈ [Value.int .u8 (x / 256), Value.int .u8 (x % 256)], u.oneCell' = true from fun u hu => by simp at hu; rcases hu with rfl | rfl <;> rfl)
      go_wp2
      go_region_law (refine step_byte rfl (.tmp 9) (.tmp 20) rfl (w.heap.size + 1) _ (u8s (by16 z k)) (by simp [Act.eval]) HO2.out wr.heap.size 2 [.int .u8 (x / 256), .int .u8 (x % 256)] (by simp [Act.eval]) rfl HC.out HOC.out HL2.out HSZ.out ?_; intro v' w' HO3 hg3)
      all_goals
        have HB3 := hide (HB2.out.grown hg3 (Nat.le_trans hsz hb1.size) (HO2.out.base))
        have HS63 := hide (show SixIn w.heap.size z w' from (hg3.block _ HS62.out.lt (fun e => by have := HO2.out.base _ e.symm; omega)).trans HS62.out)
        go_wp2_with fail
        go_roundw
        case rel =>
          refine ⟨k + 1, by omega, by go_num, ?_, HS63, HB3⟩
          rw [HS.out]
          unfold u8s
          rw [List.map_append]
          exact HO3
        case measure => simp [intOf]; omega
    · obtain rfl : k = 8 := by omega
      go_wp2
      go_ret
      exact ⟨_, rfl, HO.out, hB.trans (HB.out.mono (Nat.le_succ _))⟩
end Go.Proofs.YtnhjabiciaoocaaDoor.Em
