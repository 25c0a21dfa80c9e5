/- The document's own SixFault, IsFour and BytesOf, as the statements call them, by contracts. The document's own FourBytes, SixAt and IntoOf, as the statement calls them, by contracts. The document's own OutOf, as the statement calls it, by a contract. -/
import Derived.Test.YtkhahbghmdccaaaGreatU16
import Derived.Test.YtkhahbghmdccaaaGreatProg
import Derived.Deep.QuietTactic
import Derived.Test.YtkhahbghmdccaaaGreatU18
import Derived.Deep.CutBlock
import Derived.BigRegion
namespace Go.Proofs.YtkhahbghmdccaaaGreat.Em
open Go.RowKit Go.Shelf
/-- append onto a slice of bytes of the call's own, as a step of a region that draws its order. -/
theorem step_byte {w : World} {ops : Array Oper} {o : Oper} {a : Act} {K : Act → World → Prop} {Q : Exit → Act → World → Prop} {E : Prop} (hgd : o.guard = none) (s x : Operand)
    (ho : o.op = .call { callee := .builtin .append, args := #[s, x], argTypes := #[28, 28] })
    (base : Nat) (v : Value) (xs : List Value) (hs : a.eval s = v) (hown : OwnG 5 base w v xs) (B m : Nat) (ys : List Value) (hx : a.eval x = .slice (some ⟨B, 0, none⟩) m m) (hm : ys.length = m)
    (hc : ∀ (j : Nat) u, ys[j]? = some u → w.cell? ⟨B, j, none⟩ = some u) (h1 : ∀ u ∈ ys, u.oneCell' = true) (hlen : xs.length + m ≤ 4000000) (hbase : base ≤ w.heap.size)
    (h : ∀ v' w', OwnG 5 base w' v' (xs ++ ys) → w.grownBy w' v.ownBlock → K (a.put o.dst v') w') : if Region.wanted o (yielded ops a.tmps) = true then Oper.wp Tryz.prog o a w K Q else E := by
  have hw : Region.wanted o (yielded ops a.tmps) = true := by simp [Region.wanted, hgd]
  rw [if_pos hw]
  obtain ⟨i0, hi, hz0, hz1, hz2⟩ := info_parts Tryz.infoByte
  refine wp_append_own w s x 28 ho base 5 i0 (.int .u8 0) 1 1 Tryz.underlying28 hi hz0 hz1 hz2 rfl (by decide) v xs.length xs hs hown ⟨B, 0, none⟩ m m ys hx (by omega) ?_ h1 (by unfold maxLen; omega) (by omega) hbase ?_
  · intro j u hu
    rw [add_pl, Nat.zero_add]
    exact hc j u hu
  · intro v' w' h2 h3 _
    refine h v' w' ?_ h3
    unfold OwnG
    rw [List.length_append, hm]
    exact h2
set_option maxHeartbeats 4000000 in
set_option maxRecDepth 100000 in
theorem bytesof_any (z : List Int) (w : World) (hz : Ok6 z) : Calls Tryz.prog 79 #[six z] w fun e w' => ∃ v, e = .returned v ∧ OwnG 5 (w.heap.size + 1) w' v (u8s (by16 z 8)) ∧ Below w.heap.size w w' := by
  have hS := six_new z w
  have hB : Below w.heap.size w (w.alloc (.cells #[.int .i64 (el z 0), .int .i64 (el z 1), .int .i64 (el z 2), .int .i64 (el z 3), .int .i64 (el z 4), .int .i64 (el z 5), .int .i64 (el z 6), .int .i64 (el z 7)] 23)) := (Below.refl _ _).alloc (Nat.le_refl _) _
  have hwz : w.heap.size + 1 ≤ (w.alloc (.cells #[.int .i64 (el z 0), .int .i64 (el z 1), .int .i64 (el z 2), .int .i64 (el z 3), .int .i64 (el z 4), .int .i64 (el z 5), .int .i64 (el z 6), .int .i64 (el z 7)] 23)).heap.size := by simp
  unfold six
  go_enter Tryz.func79, Tryz.ntmps79
  go_wp2
  generalize w.alloc (.cells #[.int .i64 (el z 0), .int .i64 (el z 1), .int .i64 (el z 2), .int .i64 (el z 3), .int .i64 (el z 4), .int .i64 (el z 5), .int .i64 (el z 6), .int .i64 (el z 7)] 23) = W at hS hB hwz ⊢
  go_loopw [3, 4] (fun v i wr => ∃ k : Nat, k ≤ 8 ∧ i = .int .i64 k ∧ Hid (OwnG 5 (w.heap.size + 1) wr v (u8s (by16 z k))) ∧ Hid (SixIn w.heap.size z wr) ∧ Hid (Below (w.heap.size + 1) W wr)) (fun _ i _ => 8 - (intOf i).toNat)
  case atStart => exact ⟨0, by omega, rfl, OwnG.nil _ _ _, hS, Below.refl _ _⟩
  case round =>
    obtain ⟨k, hk, rfl, HO, HS6, HB⟩ := hrel
    by_cases hlt : k < 8
    · have hcx := (HS6.out.facts k hlt).1
      have hx := hz k hlt
      have HS := hide (by16_succ z k)
      have HLN := hide (show (u8s (by16 z k)).length = 2 * k by unfold u8s; rw [List.length_map, by16_len z k])
      generalize el z k = x at hcx hx HS
      obtain ⟨hx0, hx1⟩ := hx
      have hsz : w.heap.size + 1 ≤ wr.heap.size := Nat.le_trans hwz HB.out.size
      have q1 : IntKind.i64.wrap (x.tdiv 256) = x / 256 := by rw [Int.tdiv_eq_ediv_of_nonneg hx0, IntKind.wrap_i64]; omega
      have q2 : IntKind.u8.wrap (x / 256) = x / 256 := by rw [IntKind.wrap_u8]; omega
      have q3 : x.tmod 256 = x % 256 := Int.tmod_eq_emod_of_nonneg hx0
      have q4 : IntKind.u8.wrap (x % 256) = x % 256 := by rw [IntKind.wrap_u8]; omega
      have hb1 : Below wr.heap.size wr (wr.alloc (.cells #[.int .u8 (x / 256), .int .u8 (x % 256)] 5)).drew := ((Below.refl _ _).alloc (Nat.le_refl _) _).drew
      have HO2 := hide (HO.out.kept hb1)
      have HB2 := hide (HB.out.trans (hb1.mono hsz))
      have HS62 := hide (HS6.out.kept hb1)
      have HC := hide (show ∀ (j : Nat) u, [Value.int .u8 (x / 256), Value.int .u8 (x % 256)][j]? = some u → (wr.alloc (.cells #[.int .u8 (x / 256), .int .u8 (x % 256)] 5)).drew.cell? ⟨wr.heap.size, j, none⟩ = some u from fun j u hu => by match j with | 0 => simp at hu; subst hu; simp | 1 => simp at hu; subst hu; simp | j + 2 => simp at hu)
      have HL2 := hide (show (u8s (by16 z k)).length + 2 ≤ 4000000 by rw [HLN.out]; omega)
      have HSZ := hide (show w.heap.size + 1 ≤ (wr.alloc (.cells #[.int .u8 (x / 256), .int .u8 (x % 256)] 5)).drew.heap.size from Nat.le_trans hsz hb1.size)
      have HOC := hide (show ∀ u ∈ [Value.int .u8 (x / 256), Value.int .u8 (x % 256)], u.oneCell' = true from fun u hu => by simp at hu; rcases hu with rfl | rfl <;> rfl)
      go_wp2
      go_region_law (refine step_byte rfl (.tmp 9) (.tmp 20) rfl (w.heap.size + 1) _ (u8s (by16 z k)) (by simp [Act.eval]) HO2.out wr.heap.size 2 [.int .u8 (x / 256), .int .u8 (x % 256)] (by simp [Act.eval]) rfl HC.out HOC.out HL2.out HSZ.out ?_; intro v' w' HO3 hg3)
      all_goals
        have HB3 := hide (HB2.out.grown hg3 (Nat.le_trans hsz hb1.size) (HO2.out.base))
        have HS63 := hide (show SixIn w.heap.size z w' from (hg3.block _ HS62.out.lt (fun e => by have := HO2.out.base _ e.symm; omega)).trans HS62.out)
        go_wp2_with fail
        go_roundw
        case rel =>
          refine ⟨k + 1, by omega, by go_num, ?_, HS63, HB3⟩
          rw [HS.out]
          unfold u8s
          rw [List.map_append]
          exact HO3
        case measure => simp [intOf]; omega
    · obtain rfl : k = 8 := by omega
      go_wp2
      go_ret
      exact ⟨_, rfl, HO.out, hB.trans (HB.out.mono (Nat.le_succ _))⟩
end Go.Proofs.YtkhahbghmdccaaaGreat.Em

namespace Go.Proofs.YtkhahbghmdccaaaGreat.Em
open Go.RowKit Go.Shelf
theorem pos_not8 (q k : Nat) : pos q k ≠ 8 := by have := pos_cases q k; omega
theorem top_cases (q k : Nat) : (q ≤ 8 ∧ 8 < q + k ∧ top q k = q + k + 1) ∨ ((8 < q ∨ q + k ≤ 8) ∧ top q k = q + k) := by
  unfold top
  split <;> omega
end Go.Proofs.YtkhahbghmdccaaaGreat.Em

namespace Go.Proofs.YtkhahbghmdccaaaGreat.Em
open Go.RowKit Go.Shelf
/-- what is gathered, one by one. -/
def gk (z : List Int) (q : Nat) : Nat → Int
  | 0 => 0
  | k + 1 => gk z q k * 256 + byt z (pos q k)
theorem gk_four (z : List Int) (q : Nat) : gk z q 4 = gat z q := by
  show ((((0 * 256 + byt z (pos q 0)) * 256 + byt z (pos q 1)) * 256 + byt z (pos q 2)) * 256 + byt z (pos q 3)) = _
  unfold gat
  omega
theorem gk_in (z : List Int) (q : Nat) (h : Ok6 z) (hq : q ≤ 12) (k : Nat) (hk : k < 4) : 0 ≤ gk z q k ∧ gk z q k < 16777216 := by
  have b0 := byt_in z h (pos q 0) (pos_lt hq (by omega))
  have b1 := byt_in z h (pos q 1) (pos_lt hq (by omega))
  have b2 := byt_in z h (pos q 2) (pos_lt hq (by omega))
  have g1 : gk z q 1 = 0 * 256 + byt z (pos q 0) := rfl
  have g2 : gk z q 2 = gk z q 1 * 256 + byt z (pos q 1) := rfl
  have g3 : gk z q 3 = gk z q 2 * 256 + byt z (pos q 2) := rfl
  have g0 : gk z q 0 = 0 := rfl
  rcases (by omega : k = 0 ∨ k = 1 ∨ k = 2 ∨ k = 3) with rfl | rfl | rfl | rfl <;> omega
set_option maxHeartbeats 4000000 in
set_option maxRecDepth 100000 in
theorem rout_any (z : List Int) (q : Nat) (w : World) (h : Ok6 z) (hn : LongP (8 * q)) : Calls Tryz.prog 26 #[six z, .int .i64 (8 * q)] w fun e w' => e = .returned (if shp z (pos q 3 + 1) then .tuple #[.int .i64 0, .int .i64 2] else .tuple #[.int .i64 (gat z q), .int .i64 0]) ∧ Below w.heap.size w w' := by
  have hD := fun w => bytesof_any z w h
  have hq : q ≤ 12 := by unfold LongP at hn; omega
  have hd : (8 * (q : Int)).tdiv 8 = q := by rw [Int.tdiv_eq_ediv_of_nonneg (by omega)]; omega
  obtain ⟨R, hR⟩ : ∃ R, R = (if shp z (pos q 3 + 1) then Value.tuple #[.int .i64 0, .int .i64 2] else .tuple #[.int .i64 (gat z q), .int .i64 0]) := ⟨_, rfl⟩
  rw [← hR]
  have HR := hide hR
  have HOK := hide h
  clear hR hn h
  unfold six at hD ⊢
  go_enter Tryz.func26, Tryz.ntmps26
  go_wp2_with (go_at_call 79; refine (hD _).mono ?_; rintro e w3 ⟨v, rfl, ho, hb3⟩; have HB3 := hide (bt ((Below.refl w.heap.size w).alloc (Nat.le_refl _) _) hb3); obtain ⟨g, cap, rfl, hcap, hg0, hg, hB⟩ := own_bys ho; have HY := hide hB; clear hb3 ho hg0 hB)
  clear hD hd
  go_loop [7, 8, 9] (fun a b c => ∃ (k i : Nat), k ≤ 4 ∧ i ≤ 16 ∧ a = .int .i64 (gk z q k) ∧ b = .int .i64 k ∧ c = .int .i64 i ∧ Hid (k < 4 → i = top q k ∨ i = pos q k) ∧ Hid (k = 4 → pos q 3 < i ∧ ∀ j, pos q 3 < j → j < i → j ≠ 8 → byt z j = 0)) (fun _ _ c => 17 - (intOf c).toNat)
  case atStart => exact ⟨0, q, by omega, by omega, rfl, rfl, rfl, hide (fun _ => .inl (by have := top_cases q 0; omega)), hide (fun e => absurd e (by omega))⟩
  case round =>
    obtain ⟨k, i, hk, hi, rfl, rfl, rfl, HI, HJ⟩ := hrel
    by_cases hi16 : i < 16
    · have cy := HY.out i hi16
      by_cases h8 : i = 8
      · subst h8
        have hn8 := pos_not8 q k
        have HI2 := hide (show k < 4 → 9 = top q k ∨ 9 = pos q k from fun h4 => .inr (by
          rcases HI.out h4 with e | e
          · exact (top_eight e.symm).1.symm
          · exact absurd e.symm hn8))
        have HJ2 := hide (show k = 4 → pos q 3 < 9 ∧ ∀ j, pos q 3 < j → j < 9 → j ≠ 8 → byt z j = 0 from fun h4 => ⟨by have := (HJ.out h4).1; omega, fun j h1 h2 h3 => (HJ.out h4).2 j h1 (by omega) h3⟩)
        clear hn8 cy
        obtain ⟨A, hA⟩ : ∃ A, A = gk z q k := ⟨_, rfl⟩
        rw [← hA]
        have HA := hide hA
        clear hA
        go_wp2
        go_round
        case rel => exact ⟨k, 9, by omega, by omega, by rw [HA.out], rfl, by go_num, HI2, HJ2⟩
        case measure => simp [intOf]
      · have h8b : ((i : Int) == 8) = false := by rw [beq_eq_false_iff_ne]; omega
        by_cases hk4 : k < 4
        · have hip : i = pos q k := by
            rcases HI.out hk4 with e | e
            · exact e.trans (top_other (fun h => h8 (e.trans h))).1.symm
            · exact e
          obtain ⟨ga0, ga1⟩ := gk_in z q HOK.out hq k hk4
          obtain ⟨hb0, hb1⟩ := byt_in z HOK.out i hi16
          have HG := hide (show gk z q k * 256 + byt z i = gk z q (k + 1) by rw [hip]; rfl)
          have HI2 := hide (show k + 1 < 4 → i + 1 = top q (k + 1) ∨ i + 1 = pos q (k + 1) from fun _ => .inl (by have := pos_cases q k; have := top_cases q (k + 1); omega))
          have HJ2 := hide (show k + 1 = 4 → pos q 3 < i + 1 ∧ ∀ j, pos q 3 < j → j < i + 1 → j ≠ 8 → byt z j = 0 from fun h4 => by
            obtain rfl : k = 3 := by omega
            exact ⟨by omega, fun j h1 h2 _ => absurd h2 (by omega)⟩)
          generalize gk z q k = A at ga0 ga1 HG ⊢
          generalize byt z i = b at hb0 hb1 HG cy
          clear hip HI HJ h8
          go_wp2
          go_round
          case rel => exact ⟨k + 1, i + 1, by omega, by omega, by rw [← HG.out], by go_num, by go_num, HI2, HJ2⟩
          case measure => simp [intOf]; omega
        · obtain rfl : k = 4 := by omega
          obtain ⟨hp, hall⟩ := HJ.out rfl
          obtain ⟨A, hA⟩ : ∃ A, A = gk z q 4 := ⟨_, rfl⟩
          rw [← hA]
          have HA := hide hA
          clear hA
          by_cases hz : byt z i = 0
          · have HJ2 := hide (show 4 = 4 → pos q 3 < i + 1 ∧ ∀ j, pos q 3 < j → j < i + 1 → j ≠ 8 → byt z j = 0 from fun _ => ⟨by omega, fun j h1 h2 h3 => if e : j = i then by rw [e]; exact hz else hall j h1 (by omega) h3⟩)
            rw [hz] at cy
            clear hz hall hp HI HJ h8
            go_wp2
            go_round
            case rel => exact ⟨4, i + 1, by omega, by omega, by rw [HA.out], rfl, by go_num, hide (fun h => absurd h (by omega)), HJ2⟩
            case measure => simp [intOf]; omega
          · have HS := hide (shp_yes (z := z) (q := pos q 3 + 1) i hi16 (.inr (by omega)) hz)
            have hzb : (byt z i == 0) = false := by simpa using hz
            generalize byt z i = x at cy hz hzb
            clear hall hp HI HJ h8
            go_wp2
            go_ret2
            exact ⟨by rw [HR.out, HS.out]; rfl, HB3.out⟩
    · obtain rfl : i = 16 := by omega
      obtain rfl : k = 4 := by
        rcases Nat.lt_or_ge k 4 with h4 | h4
        · have h1 := pos_lt hq h4
          have h2 := HI.out h4
          have h3 := pos_cases q k
          have h5 := top_cases q k
          omega
        · omega
      obtain ⟨hp, hall⟩ := HJ.out rfl
      have c8 := HY.out 8 (by omega)
      rw [gk_four]
      by_cases hz : byt z 8 = 0
      · have HS := hide (shape_no z (pos q 3 + 1) hz (fun j hj => if e : pos q 3 + 1 + j = 8 then by rw [e]; exact hz else hall (pos q 3 + 1 + j) (by omega) (by omega) e))
        rw [hz] at c8
        generalize hgt : gat z q = A
        have HG := hide hgt
        clear hall hp HI HJ hz hgt
        go_wp2
        go_ret2
        exact ⟨by rw [HR.out, HS.out, HG.out]; rfl, HB3.out⟩
      · have HS := hide (shp_yes (z := z) (q := pos q 3 + 1) 8 (by omega) (.inl rfl) hz)
        have hzb : (byt z 8 == 0) = false := by simpa using hz
        generalize byt z 8 = x at c8 hz hzb
        generalize gat z q = A
        clear hall hp HI HJ
        go_wp2
        go_ret2
        exact ⟨by rw [HR.out, HS.out]; rfl, HB3.out⟩
end Go.Proofs.YtkhahbghmdccaaaGreat.Em
