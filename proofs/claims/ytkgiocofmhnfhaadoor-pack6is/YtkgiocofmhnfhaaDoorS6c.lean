/- Package ip6: six, by a contract; the document's own SixAt. -/
import Derived.Test.YtkgiocofmhnfhaaDoorS6b
import Derived.Deep.RegionHeld3
import Derived.Deep.DrawnRows
namespace Go.Proofs.YtkgiocofmhnfhaaDoor
open Go.RowKit
attribute [local go_sem ↓] Go.wp_at_zero Go.wp_at_succ

def mix (z z' : List Int) (k : Nat) : List Int := (List.range 8).map fun j => if j < k then el z j else el z' j
theorem el_mix (z z' : List Int) (k j : Nat) (hj : j < 8) : el (mix z z' k) j = if j < k then el z j else el z' j := by
  simp [el, mix, List.getD, hj]
theorem SixIn.put1 {B : Nat} {z z' : List Int} {w : World} (k : Nat) (hk : k < 8) (h : SixIn B (mix z z' k) w) : SixIn B (mix z z' (k + 1)) (w.setCell ⟨B, k, none⟩ (.int .i64 (el z k))) :=
  h.set k hk (el z k) (mix z z' (k + 1)) (fun j hj => by
    rw [el_mix z z' (k + 1) j hj, el_mix z z' k j hj]
    by_cases e : j = k
    · subst e; rw [if_pos (by omega), if_pos rfl]
    · rw [if_neg e]
      by_cases h : j < k
      · rw [if_pos (by omega), if_pos h]
      · rw [if_neg (by omega), if_neg h])
theorem sixC_congr {z z' : List Int} (h : ∀ j, j < 8 → el z j = el z' j) : sixC z = sixC z' := by
  unfold sixC
  rw [h 0 (by omega), h 1 (by omega), h 2 (by omega), h 3 (by omega), h 4 (by omega), h 5 (by omega), h 6 (by omega), h 7 (by omega)]
theorem SixIn.mix0 {B : Nat} {Z : List Int} {w : World} (h : SixIn B [] w) : SixIn B (mix Z [] 0) w := by
  unfold SixIn at h ⊢
  rw [sixC_congr (fun j hj => by rw [el_mix Z [] 0 j hj, if_neg (by omega)] : ∀ j, j < 8 → el (mix Z [] 0) j = el [] j)]
  exact h
theorem SixIn.mix8 {B : Nat} {Z : List Int} {w : World} (h : SixIn B (mix Z [] 8) w) : SixIn B Z w := by
  unfold SixIn at h ⊢
  rw [sixC_congr (fun j hj => by rw [el_mix Z [] 8 j hj, if_pos (by omega)] : ∀ j, j < 8 → el (mix Z [] 8) j = el Z j)] at h
  exact h
theorem at_load6 {ops : Array Oper} {rest : List Oper} {o : Oper} {f : Act} {w : World} {Q : Exit → Act → World → Prop} (hgd : o.guard = none) (x : Operand) (ho : o.op = .load 23 x)
    {B : Nat} {z : List Int} (hx : f.eval x = .pointer (some ⟨B, 0, none⟩)) (p : SixIn B z w)
    (hK : wpList Tryd.prog ops Q rest (f.put o.dst (.agg (sixC z))) w) : wpList Tryd.prog ops Q (o :: rest) f w :=
  wpList_load_row hgd 23 x ho B hx 23 _ (0, 0) _ p Tryd.underlying23 rfl (by kernel_rfl) hK
theorem at_store6 {ops : Array Oper} {rest : List Oper} {o : Oper} {f : Act} {w : World} {Q : Exit → Act → World → Prop} (hgd : o.guard = none) (x y : Operand) (ho : o.op = .store 23 x y)
    {B : Nat} {z0 : List Int} (hx : f.eval x = .pointer (some ⟨B, 0, none⟩)) (p : SixIn B z0 w) {z : List Int} (hy : f.eval y = .agg (sixC z))
    (hK : ∀ w', SixIn B z w' → Only B w w' → wpList Tryd.prog ops Q rest (f.put o.dst undef) w') : wpList Tryd.prog ops Q (o :: rest) f w :=
  wpList_store_row hgd 23 x y ho B _ hx hy 23 _ p (by kernel_rfl) rfl (by unfold sixC; simp [Value.oneCell']) (hK _ (setRow_heap w B _ _ _ (0, 0) p) (only_setRow _ _ _))
/-- the address that sixteen bytes are. -/
def adr (zs : List Int) (o : Nat) : List Int := (List.range 8).map fun j => zs.getD (o + 2 * j) 0 * 256 + zs.getD (o + (2 * j + 1)) 0
theorem el_adr (zs : List Int) (o k : Nat) (hk : k < 8) : el (adr zs o) k = zs.getD (o + 2 * k) 0 * 256 + zs.getD (o + (2 * k + 1)) 0 := by
  simp [el, adr, List.getD, hk]
theorem or8 (a x : Nat) (ha : a < 16777216) (hx : x ≤ 255) : bits .or .i64 ((a * 256 : Nat) : Int) (x : Int) = ((a * 256 + x : Nat) : Int) := by
  have e1 : (BitVec.ofInt 64 ((a * 256 : Nat) : Int)).toNat = a * 256 := by rw [BitVec.toNat_ofInt]; omega
  have e2 : (BitVec.ofInt 64 ((x : Nat) : Int)).toNat = x := by rw [BitVec.toNat_ofInt]; omega
  have key : (BitVec.ofInt 64 ((a * 256 : Nat) : Int) ||| BitVec.ofInt 64 ((x : Nat) : Int)).toNat = a * 256 + x := by
    rw [BitVec.toNat_or, e1, e2]
    have := Nat.shiftLeft_add_eq_or_of_lt (show x < 2 ^ 8 by omega) a
    rw [Nat.shiftLeft_eq] at this
    exact this.symm
  show IntKind.i64.wrap (((BitVec.ofInt 64 ((a * 256 : Nat) : Int) ||| BitVec.ofInt 64 ((x : Nat) : Int)).toNat : Nat) : Int) = _
  rw [key, IntKind.wrap_i64]
  omega
/-- a byte laid beneath what ends in eight noughts. -/
theorem or_lo (a x : Int) (ha : 0 ≤ a) (ha2 : a < 16777216) (hx : 0 ≤ x) (hx2 : x < 256) : bits .or .i64 (a * 256) x = a * 256 + x := by
  obtain ⟨m, rfl⟩ := Int.eq_ofNat_of_zero_le ha
  obtain ⟨k, rfl⟩ := Int.eq_ofNat_of_zero_le hx
  have := or8 m k (by omega) (by omega)
  rw [show ((m * 256 : Nat) : Int) = (m : Int) * 256 by omega, show ((m * 256 + k : Nat) : Int) = (m : Int) * 256 + (k : Int) by omega] at this
  exact this
/-- two new addresses of noughts. -/
def nn (w : World) : World := (w.alloc (.cells #[.int .i64 0, .int .i64 0, .int .i64 0, .int .i64 0, .int .i64 0, .int .i64 0, .int .i64 0, .int .i64 0] 23)).alloc (.cells #[.int .i64 0, .int .i64 0, .int .i64 0, .int .i64 0, .int .i64 0, .int .i64 0, .int .i64 0, .int .i64 0] 23)
theorem nn_facts (w : World) (Z : List Int) : Below w.heap.size w (nn w) ∧ SixIn w.heap.size [] (nn w) ∧ SixIn (w.heap.size + 1) (mix Z [] 0) (nn w) := by
  refine ⟨((Below.refl _ _).alloc (Nat.le_refl _) _).alloc (by simp) _, (noughts_in w).kept ((Below.refl _ _).alloc (Nat.le_refl _) _), ?_⟩
  have := noughts_in (w.alloc (.cells #[.int .i64 0, .int .i64 0, .int .i64 0, .int .i64 0, .int .i64 0, .int .i64 0, .int .i64 0, .int .i64 0] 23))
  unfold noughts at this
  simp only [World.size_alloc] at this
  exact this.mix0
theorem six_result {fn : Func} {p : Tmp} (h : fn.results = #[.cell p 23]) (tmps : Array Value) (w : World) (B : Nat) (z : List Int) (ht : tmps.getD p undef = .pointer (some ⟨B, 0, none⟩)) (hg : SixIn B z w) : (results fn tmps).run Tryd.prog w = .ok (.agg (sixC z)) w :=
  results_cell_row h tmps w B 23 _ (0, 0) _ ht hg Tryd.underlying23 rfl (by kernel_rfl)

set_option maxHeartbeats 4000000 in
set_option maxRecDepth 100000 in
theorem six_any (g off cap : Nat) (zs : List Int) (w : World) (hr : Row8 w (some ⟨g, off, none⟩) 16 cap zs) :
    Calls Tryd.prog 28 #[.slice (some ⟨g, off, none⟩) 16 cap] w fun e w' => e = .returned (.agg (sixC (adr zs 0))) ∧ Below w.heap.size w w' := by
  have HEL := hide (el_adr zs 0)
  obtain ⟨hB0, hS0, hT0⟩ := nn_facts w (adr zs 0)
  unfold nn at hB0 hS0 hT0
  have hoct := hr.2.2.1
  have HRR := hide hr
  have hgl : g < w.heap.size := by
    obtain ⟨-, -, -, -, hcs⟩ := hr
    obtain ⟨b, o, e, hcell⟩ := hcs (by omega)
    cases e
    exact World.block_lt_of_cell? w _ (hcell 0 (by omega))
  have hne : w.heap.size + 1 ≠ g := by omega
  have hne' : g ≠ w.heap.size + 1 := by omega
  clear hr
  generalize adr zs 0 = Z at HEL hT0 ⊢
  go_enter Tryd.func28, Tryd.ntmps28
  go_wp2
  generalize (w.alloc (.cells #[.int .i64 0, .int .i64 0, .int .i64 0, .int .i64 0, .int .i64 0, .int .i64 0, .int .i64 0, .int .i64 0] 23)).alloc (.cells #[.int .i64 0, .int .i64 0, .int .i64 0, .int .i64 0, .int .i64 0, .int .i64 0, .int .i64 0, .int .i64 0] 23) = W at hB0 hS0 hT0 ⊢
  go_loopw [4, 5] (fun _ t wr => ∃ k : Nat, k ≤ 8 ∧ t = .int .i64 k ∧ Hid (SixIn (w.heap.size + 1) (mix Z [] k) wr) ∧ Hid (SixIn w.heap.size [] wr) ∧ Hid (Below w.heap.size w wr)) (fun _ t _ => 8 - (intOf t).toNat)
  case atStart => exact ⟨0, by omega, rfl, hT0, hS0, hB0⟩
  case round =>
    obtain ⟨k, hk, rfl, HT, HS, HB⟩ := hrel
    clear hT0 hS0 hB0
    by_cases hlt : k < 8
    · have hrw := HRR.out.below HB.out
      obtain ⟨-, -, -, -, hcs⟩ := hrw
      obtain ⟨b, o, e, hcell⟩ := hcs (by omega)
      cases e
      have c1 := hcell (2 * k) (by omega)
      have c2 := hcell (2 * k + 1) (by omega)
      clear hcs hcell
      have ct := (HT.out.facts k hlt).1
      have ft := (HT.out.facts k hlt).2.1
      have HT2 := hide (HT.out.put1 k hlt)
      rw [HEL.out k hlt, Nat.zero_add, Nat.zero_add] at HT2
      obtain ⟨hx0, hx1⟩ := hoct (2 * k)
      obtain ⟨hy0, hy1⟩ := hoct (2 * k + 1)
      clear hoct
      generalize zs.getD (2 * k) 0 = x at c1 hx0 hx1 HT2
      generalize zs.getD (2 * k + 1) 0 = y at c2 hy0 hy1 HT2
      generalize el (mix Z [] k) k = q at ct
      have HS2 := hide (HS.out.other ⟨w.heap.size + 1, k, none⟩ (by simp) (.int .i64 (x * 256 + y)))
      have HB2 := hide ((HB.out.setCell (p := ⟨w.heap.size + 1, k, none⟩) (Nat.le_succ _) (.int .i64 (x * 256 + y))).drew)
      have gx : IntKind.i64.wrap x = x := by rw [IntKind.wrap_i64]; omega
      have gy : IntKind.i64.wrap y = y := by rw [IntKind.wrap_i64]; omega
      have gs : IntKind.i64.wrap (x * 256) = x * 256 := by rw [IntKind.wrap_i64]; omega
      have go := or_lo x y hx0 (by omega) hy0 (by omega)
      have i0 : (0 : Int) ≤ (k : Int) := by omega
      have i1 : (k : Int) < 8 := by omega
      have i2 : (2 : Int) * (k : Int) < 16 := by omega
      have i3 : (2 : Int) * (k : Int) + 1 < 16 := by omega
      have g2 : IntKind.i64.wrap (2 * (k : Int)) = 2 * (k : Int) := by rw [IntKind.wrap_i64]; omega
      have g3 : IntKind.i64.wrap (2 * (k : Int) + 1) = 2 * (k : Int) + 1 := by rw [IntKind.wrap_i64]; omega
      have g4 : (2 * (k : Int)).toNat = 2 * k := by omega
      have g5 : (2 * (k : Int) + 1).toNat = 2 * k + 1 := by omega
      have i4 : (0 : Int) ≤ 2 * (k : Int) := by omega
      have i5 : (0 : Int) ≤ 2 * (k : Int) + 1 := by omega
      clear HT HS HB HEL HRR
      go_wp2
      go_region_held3 (fun w' => w'.cell? ⟨g, off + 2 * k, none⟩ = some (.int .u8 x) ∧ w'.cell? ⟨g, off + (2 * k + 1), none⟩ = some (.int .u8 y))
        (first | go_keep) (fail)
      go_wp2_with fail
      go_roundw
      case rel => exact ⟨k + 1, by omega, by go_num, HT2, HS2, HB2⟩
      case measure => simp [intOf]; omega
    · obtain rfl : k = 8 := by omega
      have HZ := hide HT.out.mix8
      clear HT HEL HRR hoct
      go_wp2_with (first
        | (refine at_load6 rfl (.tmp 3) rfl rfl HZ.out ?_)
        | (refine at_store6 rfl (.tmp 2) (.tmp 26) rfl rfl HS.out rfl ?_; intro w5 hz5 ho5; have HB5 := hide (ho5.below HB.out (Nat.le_refl _)); replace hz5 := hide hz5; clear ho5))
      try simp only [Exit.inBlock, Exit.then]
      refine bodyPost_ret (six_result rfl _ _ w.heap.size Z rfl hz5.out) rfl ?_
      exact ⟨rfl, HB5.out⟩
set_option maxHeartbeats 4000000 in
set_option maxRecDepth 100000 in
theorem rsixat_any (g off cap : Nat) (zs : List Int) (w : World) (hr : Row8 w (some ⟨g, off, none⟩) 16 cap zs) :
    Calls Tryd.prog 23 #[.slice (some ⟨g, off, none⟩) 16 cap] w fun e w' => e = .returned (.agg (sixC (adr zs 0))) ∧ Below w.heap.size w w' := by
  have HEL := hide (el_adr zs 0)
  obtain ⟨hB0, hS0, hT0⟩ := nn_facts w (adr zs 0)
  unfold nn at hB0 hS0 hT0
  have hoct := hr.2.2.1
  have HRR := hide hr
  have hgl : g < w.heap.size := by
    obtain ⟨-, -, -, -, hcs⟩ := hr
    obtain ⟨b, o, e, hcell⟩ := hcs (by omega)
    cases e
    exact World.block_lt_of_cell? w _ (hcell 0 (by omega))
  have hne : w.heap.size + 1 ≠ g := by omega
  have hne' : g ≠ w.heap.size + 1 := by omega
  clear hr
  generalize adr zs 0 = Z at HEL hT0 ⊢
  go_enter Tryd.func23, Tryd.ntmps23
  go_wp2
  generalize (w.alloc (.cells #[.int .i64 0, .int .i64 0, .int .i64 0, .int .i64 0, .int .i64 0, .int .i64 0, .int .i64 0, .int .i64 0] 23)).alloc (.cells #[.int .i64 0, .int .i64 0, .int .i64 0, .int .i64 0, .int .i64 0, .int .i64 0, .int .i64 0, .int .i64 0] 23) = W at hB0 hS0 hT0 ⊢
  go_loopw [4] (fun t wr => ∃ k : Nat, k ≤ 8 ∧ t = .int .i64 k ∧ Hid (SixIn (w.heap.size + 1) (mix Z [] k) wr) ∧ Hid (SixIn w.heap.size [] wr) ∧ Hid (Below w.heap.size w wr)) (fun t _ => 8 - (intOf t).toNat)
  case atStart => exact ⟨0, by omega, rfl, hT0, hS0, hB0⟩
  case round =>
    obtain ⟨k, hk, rfl, HT, HS, HB⟩ := hrel
    clear hT0 hS0 hB0
    by_cases hlt : k < 8
    · have hrw := HRR.out.below HB.out
      obtain ⟨-, -, -, -, hcs⟩ := hrw
      obtain ⟨b, o, e, hcell⟩ := hcs (by omega)
      cases e
      have c1 := hcell (2 * k) (by omega)
      have c2 := hcell (2 * k + 1) (by omega)
      clear hcs hcell
      have ct := (HT.out.facts k hlt).1
      have ft := (HT.out.facts k hlt).2.1
      have HT2 := hide (HT.out.put1 k hlt)
      rw [HEL.out k hlt, Nat.zero_add, Nat.zero_add] at HT2
      obtain ⟨hx0, hx1⟩ := hoct (2 * k)
      obtain ⟨hy0, hy1⟩ := hoct (2 * k + 1)
      clear hoct
      generalize zs.getD (2 * k) 0 = x at c1 hx0 hx1 HT2
      generalize zs.getD (2 * k + 1) 0 = y at c2 hy0 hy1 HT2
      generalize el (mix Z [] k) k = q at ct
      rw [show x * 256 + y = 256 * x + y by omega] at HT2
      have HS2 := hide (HS.out.other ⟨w.heap.size + 1, k, none⟩ (by simp) (.int .i64 (256 * x + y)))
      have HB2 := hide ((HB.out.setCell (p := ⟨w.heap.size + 1, k, none⟩) (Nat.le_succ _) (.int .i64 (256 * x + y))).drew)
      have gx : IntKind.i64.wrap x = x := by rw [IntKind.wrap_i64]; omega
      have gy : IntKind.i64.wrap y = y := by rw [IntKind.wrap_i64]; omega
      have gs : IntKind.i64.wrap (256 * x) = 256 * x := by rw [IntKind.wrap_i64]; omega
      have ga : IntKind.i64.wrap (256 * x + y) = 256 * x + y := by rw [IntKind.wrap_i64]; omega
      have i0 : (0 : Int) ≤ (k : Int) := by omega
      have i1 : (k : Int) < 8 := by omega
      have i2 : (2 : Int) * (k : Int) < 16 := by omega
      have i3 : (2 : Int) * (k : Int) + 1 < 16 := by omega
      have g2 : IntKind.i64.wrap (2 * (k : Int)) = 2 * (k : Int) := by rw [IntKind.wrap_i64]; omega
      have g3 : IntKind.i64.wrap (2 * (k : Int) + 1) = 2 * (k : Int) + 1 := by rw [IntKind.wrap_i64]; omega
      have g4 : (2 * (k : Int)).toNat = 2 * k := by omega
      have g5 : (2 * (k : Int) + 1).toNat = 2 * k + 1 := by omega
      have i4 : (0 : Int) ≤ 2 * (k : Int) := by omega
      have i5 : (0 : Int) ≤ 2 * (k : Int) + 1 := by omega
      clear HT HS HB HEL HRR
      go_wp2
      go_region_held3 (fun w' => w'.cell? ⟨g, off + 2 * k, none⟩ = some (.int .u8 x) ∧ w'.cell? ⟨g, off + (2 * k + 1), none⟩ = some (.int .u8 y))
        (first | go_keep) (fail)
      go_wp2_with fail
      go_roundw
      case rel => exact ⟨k + 1, by omega, by go_num, HT2, HS2, HB2⟩
      case measure => simp [intOf]; omega
    · obtain rfl : k = 8 := by omega
      have HZ := hide HT.out.mix8
      clear HT HEL HRR hoct
      go_wp2_with (first
        | (refine at_load6 rfl (.tmp 3) rfl rfl HZ.out ?_)
        | (refine at_store6 rfl (.tmp 2) (.tmp 26) rfl rfl HS.out rfl ?_; intro w5 hz5 ho5; have HB5 := hide (ho5.below HB.out (Nat.le_refl _)); replace hz5 := hide hz5; clear ho5))
      try simp only [Exit.inBlock, Exit.then]
      refine bodyPost_ret (six_result rfl _ _ w.heap.size Z rfl hz5.out) rfl ?_
      exact ⟨rfl, HB5.out⟩
end Go.Proofs.YtkgiocofmhnfhaaDoor
