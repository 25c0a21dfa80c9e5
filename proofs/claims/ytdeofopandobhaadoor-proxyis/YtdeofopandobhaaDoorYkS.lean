/- The document's own BytesOf and SixAt. -/
import Derived.Test.YtdeofopandobhaaDoorPkF
namespace Go.Proofs.YtdeofopandobhaaDoor
open Go.RowKit
attribute [local go_sem ↓] Go.wp_at_zero Go.wp_at_succ
/-- append onto a slice of bytes of the call's own, as a step of a region that draws its order. -/
theorem step_byte {w : World} {ops : Array Oper} {o : Oper} {a : Act} {K : Act → World → Prop} {Q : Exit → Act → World → Prop} {E : Prop} (hgd : o.guard = none) (s x : Operand)
    (ho : o.op = .call { callee := .builtin .append, args := #[s, x], argTypes := #[26, 26] })
    (base : Nat) (v : Value) (xs : List Value) (hs : a.eval s = v) (hown : OwnG 5 base w v xs) (B m : Nat) (ys : List Value) (hx : a.eval x = .slice (some ⟨B, 0, none⟩) m m) (hm : ys.length = m)
    (hc : ∀ (j : Nat) u, ys[j]? = some u → w.cell? ⟨B, j, none⟩ = some u) (h1 : ∀ u ∈ ys, u.oneCell' = true) (hlen : xs.length + m ≤ 4000000) (hbase : base ≤ w.heap.size)
    (h : ∀ v' w', OwnG 5 base w' v' (xs ++ ys) → w.grownBy w' v.ownBlock → K (a.put o.dst v') w') : if Region.wanted o (yielded ops a.tmps) = true then Oper.wp Tryd.prog o a w K Q else E := by
  have hw : Region.wanted o (yielded ops a.tmps) = true := by simp [Region.wanted, hgd]
  rw [if_pos hw]
  obtain ⟨i0, hi, hz0, hz1, hz2⟩ := info_parts Tryd.infoByte
  refine wp_append_own w s x 26 ho base 5 i0 (.int .u8 0) 1 1 Tryd.underlying26 hi hz0 hz1 hz2 rfl (by decide) v xs.length xs hs hown ⟨B, 0, none⟩ m m ys hx (by omega) ?_ h1 (by unfold maxLen; omega) (by omega) hbase ?_
  · intro j u hu
    rw [add_pl, Nat.zero_add]
    exact hc j u hu
  · intro v' w' h2 h3 _
    refine h v' w' ?_ h3
    unfold OwnG
    rw [List.length_append, hm]
    exact h2
set_option maxHeartbeats 4000000 in
set_option maxRecDepth 100000 in
theorem bytesof_any (z : List Int) (w : World) (hz : Ok6 z) : Calls Tryd.prog 14 #[six z] w fun e w' => ∃ v, e = .returned v ∧ OwnG 5 (w.heap.size + 1) w' v (u8s (by16 z 8)) ∧ Below w.heap.size w w' := by
  have hS := six_new z w
  have hB : Below w.heap.size w (w.alloc (.cells #[.int .i64 (el z 0), .int .i64 (el z 1), .int .i64 (el z 2), .int .i64 (el z 3), .int .i64 (el z 4), .int .i64 (el z 5), .int .i64 (el z 6), .int .i64 (el z 7)] 23)) := (Below.refl _ _).alloc (Nat.le_refl _) _
  have hwz : w.heap.size + 1 ≤ (w.alloc (.cells #[.int .i64 (el z 0), .int .i64 (el z 1), .int .i64 (el z 2), .int .i64 (el z 3), .int .i64 (el z 4), .int .i64 (el z 5), .int .i64 (el z 6), .int .i64 (el z 7)] 23)).heap.size := by simp
  unfold six
  go_enter Tryd.func14, Tryd.ntmps14
  go_wp2
  generalize w.alloc (.cells #[.int .i64 (el z 0), .int .i64 (el z 1), .int .i64 (el z 2), .int .i64 (el z 3), .int .i64 (el z 4), .int .i64 (el z 5), .int .i64 (el z 6), .int .i64 (el z 7)] 23) = W at hS hB hwz ⊢
  go_loopw [3, 4] (fun v i wr => ∃ k : Nat, k ≤ 8 ∧ i = .int .i64 k ∧ Hid (OwnG 5 (w.heap.size + 1) wr v (u8s (by16 z k))) ∧ Hid (SixIn w.heap.size z wr) ∧ Hid (Below (w.heap.size + 1) W wr)) (fun _ i _ => 8 - (intOf i).toNat)
  case atStart => exact ⟨0, by omega, rfl, OwnG.nil _ _ _, hS, Below.refl _ _⟩
  case round =>
    obtain ⟨k, hk, rfl, HO, HS6, HB⟩ := hrel
    by_cases hlt : k < 8
    · have hcx := (HS6.out.facts k hlt).1
      have hx := hz k hlt
      have HS := hide (by16_succ z k)
      have HLN := hide (show (u8s (by16 z k)).length = 2 * k by unfold u8s; rw [List.length_map, by16_len z k])
      generalize el z k = x at hcx hx HS
      obtain ⟨hx0, hx1⟩ := hx
      have hsz : w.heap.size + 1 ≤ wr.heap.size := Nat.le_trans hwz HB.out.size
      have q1 : IntKind.i64.wrap (x.tdiv 256) = x / 256 := by rw [Int.tdiv_eq_ediv_of_nonneg hx0, IntKind.wrap_i64]; omega
      have q2 : IntKind.u8.wrap (x / 256) = x / 256 := by rw [IntKind.wrap_u8]; omega
      have q3 : x.tmod 256 = x % 256 := Int.tmod_eq_emod_of_nonneg hx0
      have q4 : IntKind.u8.wrap (x % 256) = x % 256 := by rw [IntKind.wrap_u8]; omega
      have hb1 : Below wr.heap.size wr (wr.alloc (.cells #[.int .u8 (x / 256), .int .u8 (x % 256)] 5)).drew := ((Below.refl _ _).alloc (Nat.le_refl _) _).drew
      have HO2 := hide (HO.out.kept hb1)
      have HB2 := hide (HB.out.trans (hb1.mono hsz))
      have HS62 := hide (HS6.out.kept hb1)
      have HC := hide (show ∀ (j : Nat) u, [Value.int .u8 (x / 256), Value.int .u8 (x % 256)][j]? = some u → (wr.alloc (.cells #[.int .u8 (x / 256), .int .u8 (x % 256)] 5)).drew.cell? ⟨wr.heap.size, j, none⟩ = some u from fun j u hu => by match j with | 0 => simp at hu; subst hu; simp | 1 => simp at hu; subst hu; simp | j + 2 => simp at hu)
      have HL2 := hide (show (u8s (by16 z k)).length + 2 ≤ 4000000 by rw [HLN.out]; omega)
      have HSZ := hide (show w.heap.size + 1 ≤ (wr.alloc (.cells #[.int .u8 (x / 256), .int .u8 (x % 256)] 5)).drew.heap.size from Nat.le_trans hsz hb1.size)
      have HOC := hide (show ∀ u ∈ [Value.int .u8 (x / 256), Value.int .u8 (x % 256)], u.oneCell' = true from fun u hu => by simp at hu; rcases hu with rfl | rfl <;> rfl)
      go_wp2
      go_region_law (refine step_byte rfl (.tmp 9) (.tmp 20) rfl (w.heap.size + 1) _ (u8s (by16 z k)) (by simp [Act.eval]) HO2.out wr.heap.size 2 [.int .u8 (x / 256), .int .u8 (x % 256)] (by simp [Act.eval]) rfl HC.out HOC.out HL2.out HSZ.out ?_; intro v' w' HO3 hg3)
      all_goals
        have HB3 := hide (HB2.out.grown hg3 (Nat.le_trans hsz hb1.size) (HO2.out.base))
        have HS63 := hide (show SixIn w.heap.size z w' from (hg3.block _ HS62.out.lt (fun e => by have := HO2.out.base _ e.symm; omega)).trans HS62.out)
        go_wp2_with fail
        go_roundw
        case rel =>
          refine ⟨k + 1, by omega, by go_num, ?_, HS63, HB3⟩
          rw [HS.out]
          unfold u8s
          rw [List.map_append]
          exact HO3
        case measure => simp [intOf]; omega
    · obtain rfl : k = 8 := by omega
      go_wp2
      go_ret
      exact ⟨_, rfl, HO.out, hB.trans (HB.out.mono (Nat.le_succ _))⟩
def mix (z z' : List Int) (k : Nat) : List Int := (List.range 8).map fun j => if j < k then el z j else el z' j
theorem el_mix (z z' : List Int) (k j : Nat) (hj : j < 8) : el (mix z z' k) j = if j < k then el z j else el z' j := by
  simp [el, mix, List.getD, hj]
theorem SixIn.put1 {B : Nat} {z z' : List Int} {w : World} (k : Nat) (hk : k < 8) (h : SixIn B (mix z z' k) w) : SixIn B (mix z z' (k + 1)) (w.setCell ⟨B, k, none⟩ (.int .i64 (el z k))) :=
  h.set k hk (el z k) (mix z z' (k + 1)) (fun j hj => by
    rw [el_mix z z' (k + 1) j hj, el_mix z z' k j hj]
    by_cases e : j = k
    · subst e; rw [if_pos (by omega), if_pos rfl]
    · rw [if_neg e]
      by_cases h : j < k
      · rw [if_pos (by omega), if_pos h]
      · rw [if_neg (by omega), if_neg h])
theorem sixC_congr {z z' : List Int} (h : ∀ j, j < 8 → el z j = el z' j) : sixC z = sixC z' := by
  unfold sixC
  rw [h 0 (by omega), h 1 (by omega), h 2 (by omega), h 3 (by omega), h 4 (by omega), h 5 (by omega), h 6 (by omega), h 7 (by omega)]
theorem SixIn.mix0 {B : Nat} {Z : List Int} {w : World} (h : SixIn B [] w) : SixIn B (mix Z [] 0) w := by
  unfold SixIn at h ⊢
  rw [sixC_congr (fun j hj => by rw [el_mix Z [] 0 j hj, if_neg (by omega)] : ∀ j, j < 8 → el (mix Z [] 0) j = el [] j)]
  exact h
theorem SixIn.mix8 {B : Nat} {Z : List Int} {w : World} (h : SixIn B (mix Z [] 8) w) : SixIn B Z w := by
  unfold SixIn at h ⊢
  rw [sixC_congr (fun j hj => by rw [el_mix Z [] 8 j hj, if_pos (by omega)] : ∀ j, j < 8 → el (mix Z [] 8) j = el Z j)] at h
  exact h
theorem at_load6 {ops : Array Oper} {rest : List Oper} {o : Oper} {f : Act} {w : World} {Q : Exit → Act → World → Prop} (hgd : o.guard = none) (x : Operand) (ho : o.op = .load 23 x)
    {B : Nat} {z : List Int} (hx : f.eval x = .pointer (some ⟨B, 0, none⟩)) (p : SixIn B z w)
    (hK : wpList Tryd.prog ops Q rest (f.put o.dst (.agg (sixC z))) w) : wpList Tryd.prog ops Q (o :: rest) f w :=
  wpList_load_row hgd 23 x ho B hx 23 _ (0, 0) _ p Tryd.underlying23 rfl (by kernel_rfl) hK
theorem at_store6 {ops : Array Oper} {rest : List Oper} {o : Oper} {f : Act} {w : World} {Q : Exit → Act → World → Prop} (hgd : o.guard = none) (x y : Operand) (ho : o.op = .store 23 x y)
    {B : Nat} {z0 : List Int} (hx : f.eval x = .pointer (some ⟨B, 0, none⟩)) (p : SixIn B z0 w) {z : List Int} (hy : f.eval y = .agg (sixC z))
    (hK : ∀ w', SixIn B z w' → Only B w w' → wpList Tryd.prog ops Q rest (f.put o.dst undef) w') : wpList Tryd.prog ops Q (o :: rest) f w :=
  wpList_store_row hgd 23 x y ho B _ hx hy 23 _ p (by kernel_rfl) rfl (by unfold sixC; simp [Value.oneCell']) (hK _ (setRow_heap w B _ _ _ (0, 0) p) (only_setRow _ _ _))
/-- the address that sixteen bytes are. -/
def adr (zs : List Int) (o : Nat) : List Int := (List.range 8).map fun j => zs.getD (o + 2 * j) 0 * 256 + zs.getD (o + (2 * j + 1)) 0
theorem el_adr (zs : List Int) (o k : Nat) (hk : k < 8) : el (adr zs o) k = zs.getD (o + 2 * k) 0 * 256 + zs.getD (o + (2 * k + 1)) 0 := by
  simp [el, adr, List.getD, hk]
/-- two new addresses of noughts. -/
def nn (w : World) : World := (w.alloc (.cells #[.int .i64 0, .int .i64 0, .int .i64 0, .int .i64 0, .int .i64 0, .int .i64 0, .int .i64 0, .int .i64 0] 23)).alloc (.cells #[.int .i64 0, .int .i64 0, .int .i64 0, .int .i64 0, .int .i64 0, .int .i64 0, .int .i64 0, .int .i64 0] 23)
theorem nn_facts (w : World) (Z : List Int) : Below w.heap.size w (nn w) ∧ SixIn w.heap.size [] (nn w) ∧ SixIn (w.heap.size + 1) (mix Z [] 0) (nn w) := by
  refine ⟨((Below.refl _ _).alloc (Nat.le_refl _) _).alloc (by simp) _, (noughts_in w).kept ((Below.refl _ _).alloc (Nat.le_refl _) _), ?_⟩
  have := noughts_in (w.alloc (.cells #[.int .i64 0, .int .i64 0, .int .i64 0, .int .i64 0, .int .i64 0, .int .i64 0, .int .i64 0, .int .i64 0] 23))
  unfold noughts at this
  simp only [World.size_alloc] at this
  exact this.mix0
theorem six_result {fn : Func} {p : Tmp} (h : fn.results = #[.cell p 23]) (tmps : Array Value) (w : World) (B : Nat) (z : List Int) (ht : tmps.getD p undef = .pointer (some ⟨B, 0, none⟩)) (hg : SixIn B z w) : (results fn tmps).run Tryd.prog w = .ok (.agg (sixC z)) w :=
  results_cell_row h tmps w B 23 _ (0, 0) _ ht hg Tryd.underlying23 rfl (by kernel_rfl)
set_option maxHeartbeats 4000000 in
set_option maxRecDepth 100000 in
theorem rsixat_any (g off cap : Nat) (zs : List Int) (w : World) (hr : Row8 w (some ⟨g, off, none⟩) 16 cap zs) :
    Calls Tryd.prog 19 #[.slice (some ⟨g, off, none⟩) 16 cap] w fun e w' => e = .returned (.agg (sixC (adr zs 0))) ∧ Below w.heap.size w w' := by
  have HEL := hide (el_adr zs 0)
  obtain ⟨hB0, hS0, hT0⟩ := nn_facts w (adr zs 0)
  unfold nn at hB0 hS0 hT0
  have hoct := hr.2.2.1
  have HRR := hide hr
  have hgl : g < w.heap.size := by
    obtain ⟨-, -, -, -, hcs⟩ := hr
    obtain ⟨b, o, e, hcell⟩ := hcs (by omega)
    cases e
    exact World.block_lt_of_cell? w _ (hcell 0 (by omega))
  have hne : w.heap.size + 1 ≠ g := by omega
  have hne' : g ≠ w.heap.size + 1 := by omega
  clear hr
  generalize adr zs 0 = Z at HEL hT0 ⊢
  go_enter Tryd.func19, Tryd.ntmps19
  go_wp2
  generalize (w.alloc (.cells #[.int .i64 0, .int .i64 0, .int .i64 0, .int .i64 0, .int .i64 0, .int .i64 0, .int .i64 0, .int .i64 0] 23)).alloc (.cells #[.int .i64 0, .int .i64 0, .int .i64 0, .int .i64 0, .int .i64 0, .int .i64 0, .int .i64 0, .int .i64 0] 23) = W at hB0 hS0 hT0 ⊢
  go_loopw [4] (fun t wr => ∃ k : Nat, k ≤ 8 ∧ t = .int .i64 k ∧ Hid (SixIn (w.heap.size + 1) (mix Z [] k) wr) ∧ Hid (SixIn w.heap.size [] wr) ∧ Hid (Below w.heap.size w wr)) (fun t _ => 8 - (intOf t).toNat)
  case atStart => exact ⟨0, by omega, rfl, hT0, hS0, hB0⟩
  case round =>
    obtain ⟨k, hk, rfl, HT, HS, HB⟩ := hrel
    clear hT0 hS0 hB0
    by_cases hlt : k < 8
    · have hrw := HRR.out.below HB.out
      obtain ⟨-, -, -, -, hcs⟩ := hrw
      obtain ⟨b, o, e, hcell⟩ := hcs (by omega)
      cases e
      have c1 := hcell (2 * k) (by omega)
      have c2 := hcell (2 * k + 1) (by omega)
      clear hcs hcell
      have ct := (HT.out.facts k hlt).1
      have ft := (HT.out.facts k hlt).2.1
      have HT2 := hide (HT.out.put1 k hlt)
      rw [HEL.out k hlt, Nat.zero_add, Nat.zero_add] at HT2
      obtain ⟨hx0, hx1⟩ := hoct (2 * k)
      obtain ⟨hy0, hy1⟩ := hoct (2 * k + 1)
      clear hoct
      generalize zs.getD (2 * k) 0 = x at c1 hx0 hx1 HT2
      generalize zs.getD (2 * k + 1) 0 = y at c2 hy0 hy1 HT2
      generalize el (mix Z [] k) k = q at ct
      rw [show x * 256 + y = 256 * x + y by omega] at HT2
      have HS2 := hide (HS.out.other ⟨w.heap.size + 1, k, none⟩ (by simp) (.int .i64 (256 * x + y)))
      have HB2 := hide ((HB.out.setCell (p := ⟨w.heap.size + 1, k, none⟩) (Nat.le_succ _) (.int .i64 (256 * x + y))).drew)
      have gx : IntKind.i64.wrap x = x := by rw [IntKind.wrap_i64]; omega
      have gy : IntKind.i64.wrap y = y := by rw [IntKind.wrap_i64]; omega
      have gs : IntKind.i64.wrap (256 * x) = 256 * x := by rw [IntKind.wrap_i64]; omega
      have ga : IntKind.i64.wrap (256 * x + y) = 256 * x + y := by rw [IntKind.wrap_i64]; omega
      have i0 : (0 : Int) ≤ (k : Int) := by omega
      have i1 : (k : Int) < 8 := by omega
      have i2 : (2 : Int) * (k : Int) < 16 := by omega
      have i3 : (2 : Int) * (k : Int) + 1 < 16 := by omega
      have g2 : IntKind.i64.wrap (2 * (k : Int)) = 2 * (k : Int) := by rw [IntKind.wrap_i64]; omega
      have g3 : IntKind.i64.wrap (2 * (k : Int) + 1) = 2 * (k : Int) + 1 := by rw [IntKind.wrap_i64]; omega
      have g4 : (2 * (k : Int)).toNat = 2 * k := by omega
      have g5 : (2 * (k : Int) + 1).toNat = 2 * k + 1 := by omega
      have i4 : (0 : Int) ≤ 2 * (k : Int) := by omega
      have i5 : (0 : Int) ≤ 2 * (k : Int) + 1 := by omega
      clear HT HS HB HEL HRR
      go_wp2
      go_region_held3 (fun w' => w'.cell? ⟨g, off + 2 * k, none⟩ = some (.int .u8 x) ∧ w'.cell? ⟨g, off + (2 * k + 1), none⟩ = some (.int .u8 y))
        (first | go_keep) (fail)
      go_wp2_with fail
      go_roundw
      case rel => exact ⟨k + 1, by omega, by go_num, HT2, HS2, HB2⟩
      case measure => simp [intOf]; omega
    · obtain rfl : k = 8 := by omega
      have HZ := hide HT.out.mix8
      clear HT HEL HRR hoct
      go_wp2_with (first
        | (refine at_load6 rfl (.tmp 3) rfl rfl HZ.out ?_)
        | (refine at_store6 rfl (.tmp 2) (.tmp 26) rfl rfl HS.out rfl ?_; intro w5 hz5 ho5; have HB5 := hide (ho5.below HB.out (Nat.le_refl _)); replace hz5 := hide hz5; clear ho5))
      try simp only [Exit.inBlock, Exit.then]
      refine bodyPost_ret (six_result rfl _ _ w.heap.size Z rfl hz5.out) rfl ?_
      exact ⟨rfl, HB5.out⟩
end Go.Proofs.YtdeofopandobhaaDoor
