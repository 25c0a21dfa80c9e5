/- Bytes of an address, the program's and the document's own, by contracts. -/
import Derived.Test.YtdbhhlggddbehaaGreatDoorOwnG
import Derived.Deep.RegionLaw
namespace Go.Proofs.YtdbhhlggddbehaaGreatDoor
open Go.RowKit Go.Shelf

/-- the sixteen bytes, the first k numbers' ones. -/
def by16 (z : List Int) (k : Nat) : List Int := (List.range k).flatMap fun j => [el z j / 256, el z j % 256]
theorem by16_succ (z : List Int) (k : Nat) : by16 z (k + 1) = by16 z k ++ [el z k / 256, el z k % 256] := by
  simp [by16, List.range_succ]
theorem by16_len (z : List Int) (k : Nat) : (by16 z k).length = 2 * k := by
  induction k with
  | zero => rfl
  | succ k ih => rw [by16_succ]; simp [ih]; omega
def u8s (l : List Int) : List Value := l.map (Value.int .u8)

theorem bytes_bad (z : List Int) (w : World) (h : ¬ Ok6 z) : Calls Tryz.prog 10 #[six z] w fun e w' => e = .returned (.tuple #[.slice none 0 0, .iface 24 (.int .i64 1)]) ∧ Below w.heap.size w w' := by
  have hC := fun w => check_bad z w h
  unfold six sixC at hC
  unfold six
  go_enter Tryz.func10, Tryz.ntmps10
  go_wp2_with (go_at_call 8; refine (hC _).mono ?_; rintro e w1 ⟨rfl, rfl⟩)
  go_ret2
  exact ⟨rfl, ((Below.refl _ _).alloc (Nat.le_refl _) _).alloc (by simp) _⟩

set_option maxHeartbeats 4000000 in
set_option maxRecDepth 100000 in
theorem bytes_ok (z : List Int) (w : World) (hz : Ok6 z) : Calls Tryz.prog 10 #[six z] w fun e w' => ∃ v, e = .returned (.tuple #[v, .nilIface]) ∧ OwnG 5 w.heap.size w' v (u8s (by16 z 8)) ∧ Below w.heap.size w w' := by
  have hC := fun w => check_ok z w hz
  unfold six sixC at hC
  unfold six
  have hB0 : Below w.heap.size w ((w.alloc (.cells #[.int .i64 (el z 0), .int .i64 (el z 1), .int .i64 (el z 2), .int .i64 (el z 3), .int .i64 (el z 4), .int .i64 (el z 5), .int .i64 (el z 6), .int .i64 (el z 7)] 23)).alloc (.cells #[.int .i64 (el z 0), .int .i64 (el z 1), .int .i64 (el z 2), .int .i64 (el z 3), .int .i64 (el z 4), .int .i64 (el z 5), .int .i64 (el z 6), .int .i64 (el z 7)] 23)) := ((Below.refl _ _).alloc (Nat.le_refl _) _).alloc (by simp) _
  have hS0 := (six_new z w).kept ((Below.refl _ _).alloc (Nat.le_refl _) (.cells #[.int .i64 (el z 0), .int .i64 (el z 1), .int .i64 (el z 2), .int .i64 (el z 3), .int .i64 (el z 4), .int .i64 (el z 5), .int .i64 (el z 6), .int .i64 (el z 7)] 23))
  obtain ⟨W, hW⟩ : ∃ W, W = (w.alloc (.cells #[.int .i64 (el z 0), .int .i64 (el z 1), .int .i64 (el z 2), .int .i64 (el z 3), .int .i64 (el z 4), .int .i64 (el z 5), .int .i64 (el z 6), .int .i64 (el z 7)] 23)).alloc (.cells #[.int .i64 (el z 0), .int .i64 (el z 1), .int .i64 (el z 2), .int .i64 (el z 3), .int .i64 (el z 4), .int .i64 (el z 5), .int .i64 (el z 6), .int .i64 (el z 7)] 23) := ⟨_, rfl⟩
  rw [← hW] at hB0 hS0
  obtain ⟨i0, hi, hz0, hz1, hz2⟩ := info_parts Tryz.infoByte
  obtain ⟨W1, hmk, hown, hgr⟩ := run_make_own (P := Tryz.prog) W w.heap.size 27 5 i0 _ 1 Tryz.underlying27 hi hz0 hz1 .i64 .i64 16 (by rw [hz2]; omega) (by simp [maxLen]) hB0.size
  have hB1 := hB0.grown hgr hB0.size (fun k h => by cases h)
  have hS1 : SixIn w.heap.size z W1 := (hgr.block _ hS0.lt (by simp)).trans hS0
  have hmk' : (Instr.makeSlice 27 (.int .i64 0) (.int .i64 16)).run Tryz.prog W = .ok (.slice (some ⟨W.heap.size, 0, none⟩) 0 16) W1 := hmk
  have HW := hide hW
  have cz := fun j hj => (hS1.facts j hj).1
  clear hW hmk
  go_enter Tryz.func10, Tryz.ntmps10
  go_wp2_with (go_at_call 8; refine (hC _).mono ?_; rintro e w1 ⟨rfl, rfl⟩; rw [← HW.out])
  go_loopw [5, 15] (fun v i wr => ∃ k : Nat, k ≤ 8 ∧ i = .int .i64 k ∧ Hid (OwnG 5 w.heap.size wr v (u8s (by16 z k))) ∧ Hid (Below w.heap.size w wr)) (fun _ i _ => 8 - (intOf i).toNat)
  case atStart => exact ⟨0, by omega, rfl, hown, hB1⟩
  case round =>
    obtain ⟨k, hk, rfl, HO, HB⟩ := hrel
    clear cz
    by_cases hlt : k < 8
    · have hix := six_index z k hlt
      unfold six at hix
      have hx := hz k hlt
      have HS := hide (by16_succ z k)
      have hlen := by16_len z k
      have HLN := hide (show (u8s (by16 z k)).length = 2 * k by unfold u8s; rw [List.length_map, hlen])
      clear hlen
      generalize el z k = x at hix hx HS
      obtain ⟨hx0, hx1⟩ := hx
      have hb1 : Below wr.heap.size wr (wr.alloc (.cells #[.int .u8 (x / 256), .int .u8 (x % 256)] 5)) := (Below.refl _ _).alloc (Nat.le_refl _) _
      have HO2 := hide (HO.out.kept hb1)
      have HB2 := hide (bt HB.out hb1)
      go_wp2_with (at_builtin; refine app_byte rfl (.tmp 18) (.tmp 24) rfl w.heap.size _ (u8s (by16 z k)) rfl HO2.out wr.heap.size 2 [.int .u8 (x / 256), .int .u8 (x % 256)] rfl rfl (fun j u hu => by match j with | 0 => simp at hu; subst hu; simp | 1 => simp at hu; subst hu; simp | j + 2 => simp at hu) (fun u hu => by simp at hu; rcases hu with rfl | rfl <;> rfl) (by rw [HLN.out]; omega) HB2.out.size ?_; intro v' w' HO3 hg3)
      have HB3 := hide (HB2.out.grown hg3 HB2.out.size (HO2.out.base))
      go_roundw
      case rel =>
        refine ⟨k + 1, by omega, by go_num, ?_, HB3⟩
        rw [HS.out]
        unfold u8s
        rw [List.map_append]
        exact HO3
      case measure => simp [intOf]; omega
    · obtain rfl : k = 8 := by omega
      go_wp2
      go_ret2
      exact ⟨_, rfl, HO.out, HB.out⟩

/-- append onto a slice of bytes of the call's own, as a step of a region that draws its order. -/
theorem step_byte {w : World} {ops : Array Oper} {o : Oper} {a : Act} {K : Act → World → Prop} {Q : Exit → Act → World → Prop} {E : Prop} (hgd : o.guard = none) (s x : Operand)
    (ho : o.op = .call { callee := .builtin .append, args := #[s, x], argTypes := #[27, 27] })
    (base : Nat) (v : Value) (xs : List Value) (hs : a.eval s = v) (hown : OwnG 5 base w v xs) (B m : Nat) (ys : List Value) (hx : a.eval x = .slice (some ⟨B, 0, none⟩) m m) (hm : ys.length = m)
    (hc : ∀ (j : Nat) u, ys[j]? = some u → w.cell? ⟨B, j, none⟩ = some u) (h1 : ∀ u ∈ ys, u.oneCell' = true) (hlen : xs.length + m ≤ 4000000) (hbase : base ≤ w.heap.size)
    (h : ∀ v' w', OwnG 5 base w' v' (xs ++ ys) → w.grownBy w' v.ownBlock → K (a.put o.dst v') w') : if Region.wanted o (yielded ops a.tmps) = true then Oper.wp Tryz.prog o a w K Q else E := by
  have hw : Region.wanted o (yielded ops a.tmps) = true := by simp [Region.wanted, hgd]
  rw [if_pos hw]
  obtain ⟨i0, hi, hz0, hz1, hz2⟩ := info_parts Tryz.infoByte
  refine wp_append_own w s x 27 ho base 5 i0 (.int .u8 0) 1 1 Tryz.underlying27 hi hz0 hz1 hz2 rfl (by decide) v xs.length xs hs hown ⟨B, 0, none⟩ m m ys hx (by omega) ?_ h1 (by unfold maxLen; omega) (by omega) hbase ?_
  · intro j u hu
    rw [Lib.add_plain, Nat.zero_add]
    exact hc j u hu
  · intro v' w' h2 h3 _
    refine h v' w' ?_ h3
    unfold OwnG
    rw [List.length_append, hm]
    exact h2

set_option maxHeartbeats 4000000 in
set_option maxRecDepth 100000 in
theorem bytesof_any (z : List Int) (w : World) (hz : Ok6 z) : Calls Tryz.prog 6 #[six z] w fun e w' => ∃ v, e = .returned v ∧ OwnG 5 (w.heap.size + 1) w' v (u8s (by16 z 8)) ∧ Below w.heap.size w w' := by
  have hS := six_new z w
  have hB : Below w.heap.size w (w.alloc (.cells #[.int .i64 (el z 0), .int .i64 (el z 1), .int .i64 (el z 2), .int .i64 (el z 3), .int .i64 (el z 4), .int .i64 (el z 5), .int .i64 (el z 6), .int .i64 (el z 7)] 23)) := (Below.refl _ _).alloc (Nat.le_refl _) _
  have hwz : w.heap.size + 1 ≤ (w.alloc (.cells #[.int .i64 (el z 0), .int .i64 (el z 1), .int .i64 (el z 2), .int .i64 (el z 3), .int .i64 (el z 4), .int .i64 (el z 5), .int .i64 (el z 6), .int .i64 (el z 7)] 23)).heap.size := by simp
  unfold six
  go_enter Tryz.func6, Tryz.ntmps6
  go_wp2
  generalize w.alloc (.cells #[.int .i64 (el z 0), .int .i64 (el z 1), .int .i64 (el z 2), .int .i64 (el z 3), .int .i64 (el z 4), .int .i64 (el z 5), .int .i64 (el z 6), .int .i64 (el z 7)] 23) = W at hS hB hwz ⊢
  go_loopw [3, 4] (fun v i wr => ∃ k : Nat, k ≤ 8 ∧ i = .int .i64 k ∧ Hid (OwnG 5 (w.heap.size + 1) wr v (u8s (by16 z k))) ∧ Hid (SixIn w.heap.size z wr) ∧ Hid (Below (w.heap.size + 1) W wr)) (fun _ i _ => 8 - (intOf i).toNat)
  case atStart => exact ⟨0, by omega, rfl, OwnG.nil _ _ _, hS, Below.refl _ _⟩
  case round =>
    obtain ⟨k, hk, rfl, HO, HS6, HB⟩ := hrel
    by_cases hlt : k < 8
    · have hcx := (HS6.out.facts k hlt).1
      have hx := hz k hlt
      have HS := hide (by16_succ z k)
      have HLN := hide (show (u8s (by16 z k)).length = 2 * k by unfold u8s; rw [List.length_map, by16_len z k])
      generalize el z k = x at hcx hx HS
      obtain ⟨hx0, hx1⟩ := hx
      have hsz : w.heap.size + 1 ≤ wr.heap.size := Nat.le_trans hwz HB.out.size
      have q1 : IntKind.i64.wrap (x.tdiv 256) = x / 256 := by rw [Int.tdiv_eq_ediv_of_nonneg hx0, IntKind.wrap_i64]; omega
      have q2 : IntKind.u8.wrap (x / 256) = x / 256 := by rw [IntKind.wrap_u8]; omega
      have q3 : x.tmod 256 = x % 256 := Int.tmod_eq_emod_of_nonneg hx0
      have q4 : IntKind.u8.wrap (x % 256) = x % 256 := by rw [IntKind.wrap_u8]; omega
      have hb1 : Below wr.heap.size wr (wr.alloc (.cells #[.int .u8 (x / 256), .int .u8 (x % 256)] 5)).drew := ((Below.refl _ _).alloc (Nat.le_refl _) _).drew
      have HO2 := hide (HO.out.kept hb1)
      have HB2 := hide (HB.out.trans (hb1.mono hsz))
      have HS62 := hide (HS6.out.kept hb1)
      have HC := hide (show ∀ (j : Nat) u, [Value.int .u8 (x / 256), Value.int .u8 (x % 256)][j]? = some u → (wr.alloc (.cells #[.int .u8 (x / 256), .int .u8 (x % 256)] 5)).drew.cell? ⟨wr.heap.size, j, none⟩ = some u from fun j u hu => by match j with | 0 => simp at hu; subst hu; simp | 1 => simp at hu; subst hu; simp | j + 2 => simp at hu)
      have HL2 := hide (show (u8s (by16 z k)).length + 2 ≤ 4000000 by rw [HLN.out]; omega)
      have HSZ := hide (show w.heap.size + 1 ≤ (wr.alloc (.cells #[.int .u8 (x / 256), .int .u8 (x % 256)] 5)).drew.heap.size from Nat.le_trans hsz hb1.size)
      have HOC := hide (show ∀ u ∈ [Value.int .u8 (x / 256), Value.int .u8 (x % 256)], u.oneCell' = true from fun u hu => by simp at hu; rcases hu with rfl | rfl <;> rfl)
      go_wp2
      go_region_law (refine step_byte rfl (.tmp 9) (.tmp 20) rfl (w.heap.size + 1) _ (u8s (by16 z k)) (by simp [Act.eval]) HO2.out wr.heap.size 2 [.int .u8 (x / 256), .int .u8 (x % 256)] (by simp [Act.eval]) rfl HC.out HOC.out HL2.out HSZ.out ?_; intro v' w' HO3 hg3)
      all_goals
        have HB3 := hide (HB2.out.grown hg3 (Nat.le_trans hsz hb1.size) (HO2.out.base))
        have HS63 := hide (show SixIn w.heap.size z w' from (hg3.block _ HS62.out.lt (fun e => by have := HO2.out.base _ e.symm; omega)).trans HS62.out)
        go_wp2_with fail
        go_roundw
        case rel =>
          refine ⟨k + 1, by omega, by go_num, ?_, HS63, HB3⟩
          rw [HS.out]
          unfold u8s
          rw [List.map_append]
          exact HO3
        case measure => simp [intOf]; omega
    · obtain rfl : k = 8 := by omega
      go_wp2
      go_ret
      exact ⟨_, rfl, HO.out, hB.trans (HB.out.mono (Nat.le_succ _))⟩
end Go.Proofs.YtdbhhlggddbehaaGreatDoor
