/- Into by contracts. Into by contracts, where it has no answer. -/
import Derived.Test.YtkhahbghmdccaaaGreatP20
import Derived.Test.YtkhahbghmdccaaaGreatProg
namespace Go.Proofs.YtkhahbghmdccaaaGreat.Em
open Go.RowKit Go.Shelf
attribute [local go_sem] Oper.semAt_some
/-- the byte i of a four. -/
def fb (f : Int) (i : Nat) : Int := f / (2 : Int) ^ (24 - 8 * i) % 256
theorem pos_lt {q i : Nat} (hq : q ≤ 12) (hi : i < 4) : pos q i < 16 := by unfold pos; split <;> omega
/-- a byte laid into an address. -/
def stp (q : Nat) (f : Int) (z : List Int) (i : Fin 4) : List Int := (List.range 8).map fun j => if j = pos q i.val / 2 then bits .or .i64 (el z j) (if pos q i.val % 2 = 0 then fb f i.val * 256 else fb f i.val) else el z j
def stz (q : Nat) (f : Int) (z : List Int) (pre : List (Fin 4)) : List Int := pre.foldl (stp q f) z
theorem el_stp (q : Nat) (f : Int) (z : List Int) (i : Fin 4) (j : Nat) (hj : j < 8) : el (stp q f z i) j = if j = pos q i.val / 2 then bits .or .i64 (el z j) (if pos q i.val % 2 = 0 then fb f i.val * 256 else fb f i.val) else el z j := by
  simp [el, stp, List.getD, hj]
theorem stz_snoc (q : Nat) (f : Int) (z : List Int) (pre : List (Fin 4)) (i : Fin 4) : stz q f z (pre ++ [i]) = stp q f (stz q f z pre) i := by simp [stz]
theorem six_own {β : Type} (B : Nat) (z : β → List Int) : Own (fun s W => SixIn B (z s) W) := fun s W W' row hs hg hr =>
  (hg.block B hs.lt (fun e => by
    obtain ⟨o, ho, hc⟩ := hr B e.symm
    have hs' : W.heap[B]? = some (.cells (sixC (z s)) 23 (0, 0)) := hs
    rw [hs'] at ho
    cases ho
    simp [Obj.isCells] at hc)).trans hs
/-- eight cells set, one behind the other. -/
def W8 (w : World) (B : Nat) (z : List Int) : World := (((((((w.setCell ⟨B, 0, none⟩ (.int .i64 (el z 0))).setCell ⟨B, 1, none⟩ (.int .i64 (el z 1))).setCell ⟨B, 2, none⟩ (.int .i64 (el z 2))).setCell ⟨B, 3, none⟩ (.int .i64 (el z 3))).setCell ⟨B, 4, none⟩ (.int .i64 (el z 4))).setCell ⟨B, 5, none⟩ (.int .i64 (el z 5))).setCell ⟨B, 6, none⟩ (.int .i64 (el z 6))).setCell ⟨B, 7, none⟩ (.int .i64 (el z 7))
def mix (z z' : List Int) (k : Nat) : List Int := (List.range 8).map fun j => if j < k then el z j else el z' j
theorem el_mix (z z' : List Int) (k j : Nat) (hj : j < 8) : el (mix z z' k) j = if j < k then el z j else el z' j := by
  simp [el, mix, List.getD, hj]
theorem SixIn.put1 {B : Nat} {z z' : List Int} {w : World} (k : Nat) (hk : k < 8) (h : SixIn B (mix z z' k) w) : SixIn B (mix z z' (k + 1)) (w.setCell ⟨B, k, none⟩ (.int .i64 (el z k))) :=
  h.set k hk (el z k) (mix z z' (k + 1)) (fun j hj => by
    rw [el_mix z z' (k + 1) j hj, el_mix z z' k j hj]
    by_cases e : j = k
    · subst e; rw [if_pos (by omega), if_pos rfl]
    · rw [if_neg e]
      by_cases h : j < k
      · rw [if_pos h, if_pos (by omega)]
      · rw [if_neg h, if_neg (by omega)])
theorem sixC_congr {z z' : List Int} (h : ∀ j, j < 8 → el z j = el z' j) : sixC z = sixC z' := by
  unfold sixC
  rw [h 0 (by omega), h 1 (by omega), h 2 (by omega), h 3 (by omega), h 4 (by omega), h 5 (by omega), h 6 (by omega), h 7 (by omega)]
theorem SixIn.put8 {B : Nat} {z' : List Int} {w : World} (h : SixIn B z' w) (z : List Int) : SixIn B z (W8 w B z) := by
  have h0 : SixIn B (mix z z' 0) w := by
    unfold SixIn at h ⊢
    rw [sixC_congr (fun j hj => by rw [el_mix z z' 0 j hj, if_neg (by omega)] : ∀ j, j < 8 → el (mix z z' 0) j = el z' j)]
    exact h
  have h8 := (((((((h0.put1 0 (by omega)).put1 1 (by omega)).put1 2 (by omega)).put1 3 (by omega)).put1 4 (by omega)).put1 5 (by omega)).put1 6 (by omega)).put1 7 (by omega)
  unfold SixIn at h8 ⊢
  rw [sixC_congr (fun j hj => by rw [el_mix z z' (7 + 1) j hj, if_pos (by omega)] : ∀ j, j < 8 → el (mix z z' (7 + 1)) j = el z j)] at h8
  exact h8
theorem keeps8 (w : World) (B : Nat) (z : List Int) : KeepsOthers w (W8 w B z) :=
  (((((((KeepsOthers.setCell _ _ _).trans (KeepsOthers.setCell _ _ _)).trans (KeepsOthers.setCell _ _ _)).trans (KeepsOthers.setCell _ _ _)).trans (KeepsOthers.setCell _ _ _)).trans (KeepsOthers.setCell _ _ _)).trans (KeepsOthers.setCell _ _ _)).trans (KeepsOthers.setCell _ _ _)
theorem below8 {n₀ : Nat} {w0 w : World} {B : Nat} (h : Below n₀ w0 w) (hB : n₀ ≤ B) (z : List Int) : Below n₀ w0 (W8 w B z) :=
  (((((((h.setCell hB _).setCell hB _).setCell hB _).setCell hB _).setCell hB _).setCell hB _).setCell hB _).setCell hB _
theorem i64_and255 (n : Int) : bits .and .i64 n 255 = n % 256 := by
  have h : (BitVec.ofInt 64 255).toNat = 2 ^ 8 - 1 := by decide
  have key : (BitVec.ofInt 64 n &&& BitVec.ofInt 64 255).toNat = (n % ((2 ^ 64 : Nat) : Int)).toNat % 2 ^ 8 := by
    rw [BitVec.toNat_and, BitVec.toNat_ofInt, h, Nat.and_two_pow_sub_one_eq_mod]
  show IntKind.i64.wrap ((BitVec.ofInt 64 n &&& BitVec.ofInt 64 255).toNat : Nat) = n % 256
  rw [key, IntKind.wrap_i64]
  omega
theorem boxed_kept {W W' : World} {B : Nat} {t : TypeId} {v : Value} (h : Boxed W B t v) (hb : Below W.heap.size W W') : Boxed W' B t v := (hb.block B h.lt).trans h
set_option maxHeartbeats 4000000 in
set_option maxRecDepth 100000 in
theorem into_ok (p : List Int) (q : Nat) (f : Int) (w : World) (h : Ok6 p) (hn : LongP (8 * q)) (hs : shp p q = false) (hf : IsF f) :
    Calls Tryz.prog 40 #[six p, .int .i64 (8 * q), .int .i64 f] w fun e w' => e = .returned (.tuple #[six (stz q f p four4), .nilIface]) ∧ Below w.heap.size w w' := by
  have hC := fun w => echeck_shape p q w h hn
  rw [hs] at hC
  have hq : q ≤ 12 := by unfold LongP at hn; omega
  have HF := hide hf
  clear hs hn h hf
  have hS0 := six_new p w
  have hB1 : Below w.heap.size w (w.alloc (.cells #[.int .i64 (el p 0), .int .i64 (el p 1), .int .i64 (el p 2), .int .i64 (el p 3), .int .i64 (el p 4), .int .i64 (el p 5), .int .i64 (el p 6), .int .i64 (el p 7)] 23)) := (Below.refl _ _).alloc (Nat.le_refl _) _
  have hF1 := Boxed.new (w.alloc (.cells #[.int .i64 (el p 0), .int .i64 (el p 1), .int .i64 (el p 2), .int .i64 (el p 3), .int .i64 (el p 4), .int .i64 (el p 5), .int .i64 (el p 6), .int .i64 (el p 7)] 23)) 3 (.int .i64 f)
  have hB2 := hB1.alloc (hB1.size) (.cells #[.int .i64 f] 3)
  have hS2 := hS0.kept ((Below.refl _ _).alloc (Nat.le_refl _) (.cells #[.int .i64 f] 3))
  have hT3 := noughts_in ((w.alloc (.cells #[.int .i64 (el p 0), .int .i64 (el p 1), .int .i64 (el p 2), .int .i64 (el p 3), .int .i64 (el p 4), .int .i64 (el p 5), .int .i64 (el p 6), .int .i64 (el p 7)] 23)).alloc (.cells #[.int .i64 f] 3))
  have hB3 := hB2.alloc (hB2.size) (.cells #[.int .i64 0, .int .i64 0, .int .i64 0, .int .i64 0, .int .i64 0, .int .i64 0, .int .i64 0, .int .i64 0] 23)
  have hS3 := hS2.kept ((Below.refl _ _).alloc (Nat.le_refl _) (.cells #[.int .i64 0, .int .i64 0, .int .i64 0, .int .i64 0, .int .i64 0, .int .i64 0, .int .i64 0, .int .i64 0] 23))
  have hF3 := hF1.alloc (.cells #[.int .i64 0, .int .i64 0, .int .i64 0, .int .i64 0, .int .i64 0, .int .i64 0, .int .i64 0, .int .i64 0] 23)
  unfold noughts at hT3
  simp only [World.size_alloc] at hT3 hF3
  clear hS0 hB1 hF1 hB2 hS2
  obtain ⟨W0, hW0⟩ : ∃ W0, W0 = ((w.alloc (.cells #[.int .i64 (el p 0), .int .i64 (el p 1), .int .i64 (el p 2), .int .i64 (el p 3), .int .i64 (el p 4), .int .i64 (el p 5), .int .i64 (el p 6), .int .i64 (el p 7)] 23)).alloc (.cells #[.int .i64 f] 3)).alloc (.cells #[.int .i64 0, .int .i64 0, .int .i64 0, .int .i64 0, .int .i64 0, .int .i64 0, .int .i64 0, .int .i64 0] 23) := ⟨_, rfl⟩
  rw [← hW0] at hT3 hB3 hS3 hF3
  have HW := hide hW0
  clear hW0
  unfold six at hC ⊢
  refine (callsIn_wide (n := 3)).1 ?_
  refine callsIn_of_wp_marks Tryz.func40 rfl trivial ?_ rfl
  simp only [Tryz.ntmps40, List.size_toArray, List.length_cons, List.length_nil, Nat.reduceAdd, Nat.reduceSub, Array.replicate_succ, Array.replicate_zero, List.push_toArray, List.append_toArray, List.nil_append, List.cons_append]
  gi_wp2_with (first
    | (refine ⟨trivial, ?_⟩; gi_at_call 93; refine (callsIn_wide.2 (hC _)).mono ?_; rintro e w1 ⟨rfl, hb1⟩; rw [← HW.out] at hb1; have hF4 := boxed_kept hF3 hb1; have hS4 := hS3.kept hb1; have hT4 := hT3.kept hb1; have hB4 := hB3.trans (hb1.mono hB3.size); have cf := hF4.cell; clear hF3 hS3 hT3 hB3)
    | (refine ⟨trivial, ?_⟩; gi_at_call 94; refine (callsIn_wide.2 (c4_ok _ _ HF.out)).mono ?_; rintro e w2 ⟨rfl, rfl⟩)
    | (refine ⟨trivial, ?_⟩; gi_at_call 95; refine (callsIn_wide.2 (places_any _ _)).mono ?_; rintro e w3 ⟨rfl, rfl⟩))
  have bN := Boxed.new w2 3 (.int .i64 (8 * q))
  have hS5 := hS4.kept ((Below.refl _ _).alloc (Nat.le_refl _) (.cells #[.int .i64 (8 * q)] 3))
  have hT5 := hT4.kept ((Below.refl _ _).alloc (Nat.le_refl _) (.cells #[.int .i64 (8 * q)] 3))
  have hF5 := hF4.alloc (.cells #[.int .i64 (8 * q)] 3)
  have hB5 := hB4.alloc hB4.size (.cells #[.int .i64 (8 * q)] 3)
  have hlt0 : w.heap.size < w2.heap.size := hS4.lt
  clear hS4 hT4 hF4 cf hb1 hC HW W0
  refine wpIn_rangeFunc_ownF rfl (by omega) (gf := 148) (lb := #[.pointer (some ⟨w2.heap.size, 0, none⟩)]) rfl trivial (enters_of Tryz.func148 (by kernel_rfl) rfl)
    (places_stops _ (by omega) w2.heap.size w.heap.size q hq _ (by simp) bN.cell) belowK_t (belowK_b (by simp; omega)) (Below.refl _ _) (fun _ => rfl)
    (fun pre W => (SixIn w.heap.size (stz q f p pre) W ∧ Boxed W (w.heap.size + 1) 3 (.int .i64 f) ∧ SixIn (w.heap.size + 1 + 1) [] W) ∧ Below w.heap.size w W)
    (fun _ _ _ => False)
    (OwnFrom.and (OwnFrom.and (Own.from (six_own _ _) _) (OwnFrom.and (Own.from (boxed_own _ _ _) _) (Own.from (six_own _ _) _))) (ownFrom_below (Nat.le_refl _) (by simp; omega)))
    (fun _ _ _ _ _ hs _ _ => hs)
    ⟨⟨hS5, hF5, hT5⟩, hB5⟩
    (fun x => { tmps := #[.agg #[.int .i64 (el p 0), .int .i64 (el p 1), .int .i64 (el p 2), .int .i64 (el p 3), .int .i64 (el p 4), .int .i64 (el p 5), .int .i64 (el p 6), .int .i64 (el p 7)], .int .i64 (8 * q), .int .i64 f, .pointer (some ⟨w.heap.size, 0, none⟩), undef, .pointer (some ⟨w.heap.size + 1, 0, none⟩), .pointer (some ⟨w.heap.size + 1 + 1, 0, none⟩), .nilIface, .nilIface, .nilIface, .int .i64 (x.val : Int), .int .i64 (pos q x.val : Int), undef, .agg #[.int .i64 (el p 0), .int .i64 (el p 1), .int .i64 (el p 2), .int .i64 (el p 3), .int .i64 (el p 4), .int .i64 (el p 5), .int .i64 (el p 6), .int .i64 (el p 7)], .int .i64 (8 * q), .nilIface, .nilIface, .bool false, undef, undef, .int .i64 f, .nilIface, .nilIface, .bool false, undef, undef, .int .i64 (8 * q), .func (.func 148) #[] #[.pointer (some ⟨w2.heap.size, 0, none⟩)], .int .i64 (x.val : Int), .int .i64 (pos q x.val : Int), undef, undef, undef, undef, undef, undef, undef, undef, undef, undef, undef, undef, undef, undef, undef, undef, undef, undef, undef], defers := [] }) ?assign ?body ?done ?stop
  case assign =>
    intro l x W K hK
    dsimp only [encP]
    gi_wp2
    exact hK
  case body =>
    rintro l pre ⟨i, hi⟩ W ⟨⟨hS, hF, hT⟩, hB⟩ -
    have cf := hF.cell
    have HS := hide hS
    have HF' := hide hF
    have HT := hide hT
    clear hS hF hT hS5 hT5 hF5 hB5 bN
    have hP := pos_lt hq hi
    dsimp only
    generalize hPx : pos q i = P at hP
    have HP := hide hPx
    clear hPx
    have hmx : Tryz.prog.follows .mixedOrders = true := by kernel_rfl
    gi_wp2
    rw [i64_and255]
    have hX0 : 0 ≤ f / (2 : Int) ^ (24 - 8 * i) % 256 := Int.emod_nonneg _ (by decide)
    have hX1 : f / (2 : Int) ^ (24 - 8 * i) % 256 < 256 := Int.emod_lt_of_pos _ (by decide)
    generalize hXe : f / (2 : Int) ^ (24 - 8 * i) % 256 = X at hX0 hX1
    have HX := hide (show fb f i = X from hXe)
    clear hXe
    have hc := (HS.out.facts (P / 2) (by omega)).1
    have hfz := (HS.out.facts (P / 2) (by omega)).2.1
    have HSet := hide (show SixIn w.heap.size (stz q f p (pre ++ [⟨i, hi⟩])) (W.setCell ⟨w.heap.size, P / 2, none⟩ (.int .i64 (bits .or .i64 (el (stz q f p pre) (P / 2)) (if P % 2 = 0 then X * 256 else X)))) from by
      rw [stz_snoc]
      refine HS.out.set (P / 2) (by omega) _ _ (fun j hj => ?_)
      rw [el_stp q f _ _ j hj]
      dsimp only
      rw [HP.out, HX.out]
      by_cases e : j = P / 2
      · subst e; rw [if_pos rfl]
      · rw [if_neg e, if_neg e])
    generalize el (stz q f p pre) (P / 2) = Y at hc HSet
    have g0 : IntKind.i64.wrap 0 = 0 := by decide
    have g1 : IntKind.i64.wrap 1 = 1 := by decide
    have g2 : IntKind.i64.wrap 2 = 2 := by decide
    have g3 : IntKind.i64.wrap 3 = 3 := by decide
    have g4 : IntKind.i64.wrap 4 = 4 := by decide
    have g5 : IntKind.i64.wrap 5 = 5 := by decide
    have g6 : IntKind.i64.wrap 6 = 6 := by decide
    have g7 : IntKind.i64.wrap 7 = 7 := by decide
    have g8 : IntKind.i64.wrap 8 = 8 := by decide
    have gx : IntKind.i64.wrap (X * 256) = X * 256 := by rw [IntKind.wrap_i64]; omega
    have gy : IntKind.i64.wrap X = X := by rw [IntKind.wrap_i64]; omega
    have HFn := hide (show ∀ (o : Nat) v, Boxed (W.setCell ⟨w.heap.size, o, none⟩ v) (w.heap.size + 1) 3 (.int .i64 f) from fun o v => (Below.heap_setCell W ⟨w.heap.size, o, none⟩ v (w.heap.size + 1) (by simp)).trans HF'.out)
    have HTn := hide (show ∀ (o : Nat) v, SixIn (w.heap.size + 1 + 1) [] (W.setCell ⟨w.heap.size, o, none⟩ v) from fun o v => HT.out.other ⟨w.heap.size, o, none⟩ (by simp; omega) v)
    clear HS HF' HT HP HX
    rcases (by omega : P = 0 ∨ P = 1 ∨ P = 2 ∨ P = 3 ∨ P = 4 ∨ P = 5 ∨ P = 6 ∨ P = 7 ∨ P = 8 ∨ P = 9 ∨ P = 10 ∨ P = 11 ∨ P = 12 ∨ P = 13 ∨ P = 14 ∨ P = 15) with rfl | rfl | rfl | rfl | rfl | rfl | rfl | rfl | rfl | rfl | rfl | rfl | rfl | rfl | rfl | rfl
    all_goals
      simp only [Nat.reduceDiv, Nat.reduceMod, reduceIte, Nat.one_ne_zero, Nat.zero_div, Nat.zero_mod] at hc hfz HSet
      refine wpIn_region_any (by assumption) ?_
      refine anyIn_out (F := Fence.wide) (noDefer_spec (by kernel_rfl)) _ _ _ _ ?_
      change wpAnyIn _ _ _ _ _ _ _ _ _ (World.drew _)
      refine wpAnyIn_take (i := 0) (v := ?_) rfl rfl (by kernel_rfl) (by kernel_rfl) (by kernel_rfl) (fun _ _ _ h => h) ⟨Or.inl ⟨by rfl, ?_⟩, fun _ => rfl⟩ ?_
      rotate_left 1
      · intro w; go_simp; try with_reducible rfl
      refine wpAnyIn_take (i := 1) (v := ?_) rfl rfl (by kernel_rfl) (by kernel_rfl) (by kernel_rfl) (fun _ _ _ h => h) ⟨Or.inl ⟨by rfl, ?_⟩, fun _ => rfl⟩ ?_
      rotate_left 1
      · intro w; go_simp; try with_reducible rfl
      refine wpAnyIn_take (i := 2) (v := ?_) rfl rfl (by kernel_rfl) (by kernel_rfl) (by kernel_rfl) (fun _ _ _ h => h) ⟨Or.inl ⟨by rfl, ?_⟩, fun _ => rfl⟩ ?_
      rotate_left 1
      · intro w; go_simp; try with_reducible rfl
      refine wpAnyIn_take (i := 4) (v := ?_) rfl rfl (by kernel_rfl) (by kernel_rfl) (by kernel_rfl) (fun _ _ _ h => h) ⟨Or.inl ⟨by rfl, ?_⟩, fun _ => rfl⟩ ?_
      rotate_left 1
      · intro w; go_simp; try with_reducible rfl
      refine wpAnyIn_take (i := 5) (v := ?_) rfl rfl (by kernel_rfl) (by kernel_rfl) (by kernel_rfl) (fun _ _ _ h => h) ⟨Or.inl ⟨by rfl, ?_⟩, fun _ => rfl⟩ ?_
      rotate_left 1
      · intro w; go_simp; try with_reducible rfl
      refine wpAnyIn_take (i := 6) (v := ?_) rfl rfl (by kernel_rfl) (by kernel_rfl) (by kernel_rfl) (fun _ _ _ h => h) ⟨Or.inl ⟨by rfl, ?_⟩, fun _ => rfl⟩ ?_
      rotate_left 1
      · intro w; go_simp; try with_reducible rfl
      refine wpAnyIn_take (i := 7) (v := ?_) rfl rfl (by kernel_rfl) (by kernel_rfl) (by kernel_rfl) (fun _ _ _ h => h) ⟨Or.inl ⟨by rfl, ?_⟩, fun _ => rfl⟩ ?_
      rotate_left 1
      · intro w; go_simp; try with_reducible rfl
      refine wpAnyIn_take (i := 8) (v := ?_) rfl rfl (by kernel_rfl) (by kernel_rfl) (by kernel_rfl) (fun _ _ _ h => h) ⟨Or.inl ⟨by rfl, ?_⟩, fun _ => rfl⟩ ?_
      rotate_left 1
      · intro w; go_simp; try with_reducible rfl
      refine wpAnyIn_take (i := 9) (v := ?_) rfl rfl (by kernel_rfl) (by kernel_rfl) (by kernel_rfl) (fun _ _ _ h => h) ⟨Or.inl ⟨by rfl, ?_⟩, fun _ => rfl⟩ ?_
      rotate_left 1
      · intro w; go_simp; try with_reducible rfl
      refine wpAnyIn_ready (rs := [3]) (by kernel_rfl) (by simp) ?_
      refine AllReadyIn.cons rfl (fun K hK => ?_) AllReadyIn.nil
      go_simp
      refine hK _ _ ?_
      clear hK K
      refine wpAnyIn_take (i := 10) (v := ?_) rfl rfl (by kernel_rfl) (by kernel_rfl) (by kernel_rfl) (fun _ _ _ h => h) ⟨Or.inl ⟨by rfl, ?_⟩, fun _ => rfl⟩ ?_
      rotate_left 1
      · intro w; go_simp; try with_reducible rfl
      refine wpAnyIn_take (i := 11) (v := ?_) rfl rfl (by kernel_rfl) (by kernel_rfl) (by kernel_rfl) (fun _ _ _ h => h) ⟨Or.inl ⟨by rfl, ?_⟩, fun _ => rfl⟩ ?_
      rotate_left 1
      · intro w; go_simp; try with_reducible rfl
      refine wpAnyIn_ready (rs := [12]) (by kernel_rfl) (by simp) ?_
      refine AllReadyIn.cons rfl (fun K hK => ?_) AllReadyIn.nil
      go_simp
      refine hK _ _ ?_
      clear hK K
      refine wpAnyIn_done (by kernel_rfl) ?_ _
      exact ⟨(KeepsOthers.setCell _ _ _).trans (KeepsOthers.drew _), ((Below.refl w.heap.size W).setCell (Nat.le_refl _) _).drew, ⟨HSet.out, HFn.out _ _, HTn.out _ _⟩, (hB.setCell (Nat.le_refl _) _).drew⟩
  case done =>
    rintro D ys W hD rfl ⟨⟨hS, hF, hT⟩, hB⟩ hK
    obtain ⟨⟨q0, -, -⟩, ⟨q1, -, -⟩, ⟨q2, -, -⟩, ⟨q3, -, -⟩, ⟨q4, -, -⟩, ⟨q5, -, -⟩, ⟨q6, -, -⟩, ⟨q7, -, -⟩⟩ := hS.all
    obtain ⟨⟨c0, f0, -⟩, ⟨c1, f1, -⟩, ⟨c2, f2, -⟩, ⟨c3, f3, -⟩, ⟨c4, f4, -⟩, ⟨c5, f5, -⟩, ⟨c6, f6, -⟩, ⟨c7, f7, -⟩⟩ := hT.all
    have HT := hide hT
    have HK := hide hK
    clear hS hT hF hK hS5 hT5 hF5 hB5 bN
    gi_wp2
    have h8 := HT.out.put8 (stz q f p four4)
    have hk8 := keeps8 W (w.heap.size + 1 + 1) (stz q f p four4)
    have hb8 := below8 hB (Nat.le_trans (Nat.le_succ _) (Nat.le_succ _)) (stz q f p four4)
    unfold W8 at h8 hk8 hb8
    have hK8 := hk8.same D _ HK.out rfl
    have h9 := (six_own (β := Unit) (w.heap.size + 1 + 1) (fun _ => stz q f p four4)).putObj (s := ()) (.deferred none) h8 hK8 rfl
    obtain ⟨⟨d0, -, -⟩, ⟨d1, -, -⟩, ⟨d2, -, -⟩, ⟨d3, -, -⟩, ⟨d4, -, -⟩, ⟨d5, -, -⟩, ⟨d6, -, -⟩, ⟨d7, -, -⟩⟩ := h9.all
    refine ⟨by simp, .inl ⟨_, _, rfl, run_takeDeferred hK8, ?_⟩⟩
    refine ⟨.tuple #[six (stz q f p four4), .nilIface], ?_, rfl, hb8.trans (belowK_b (w := w) (Nat.le_refl _) _ D _ _ (by simp at hD; omega) hK8 rfl rfl)⟩
    clear HT HK h8 hk8 hb8 hK8 h9 q0 q1 q2 q3 q4 q5 q6 q7 c0 c1 c2 c3 c4 c5 c6 c7 f0 f1 f2 f3 f4 f5 f6 f7
    unfold six
    simp [results, Tryz.results40, go_sem, d0, d1, d2, d3, d4, d5, d6, d7]
  case stop =>
    rintro D c pre W _ _ h _
    exact h.elim
end Go.Proofs.YtkhahbghmdccaaaGreat.Em

namespace Go.Proofs.YtkhahbghmdccaaaGreat.Em
open Go.RowKit Go.Shelf
attribute [local go_sem] Oper.semAt_some
/-- the world in which Into calls Check, and what lies there. -/
theorem into_head (p : List Int) (f : Int) (w : World) : ∃ W0, W0 = ((w.alloc (.cells #[.int .i64 (el p 0), .int .i64 (el p 1), .int .i64 (el p 2), .int .i64 (el p 3), .int .i64 (el p 4), .int .i64 (el p 5), .int .i64 (el p 6), .int .i64 (el p 7)] 23)).alloc (.cells #[.int .i64 f] 3)).alloc (.cells #[.int .i64 0, .int .i64 0, .int .i64 0, .int .i64 0, .int .i64 0, .int .i64 0, .int .i64 0, .int .i64 0] 23) ∧ Boxed W0 (w.heap.size + 1) 3 (.int .i64 f) ∧ SixIn (w.heap.size + 1 + 1) [] W0 ∧ Below w.heap.size w W0 := by
  have hB1 : Below w.heap.size w (w.alloc (.cells #[.int .i64 (el p 0), .int .i64 (el p 1), .int .i64 (el p 2), .int .i64 (el p 3), .int .i64 (el p 4), .int .i64 (el p 5), .int .i64 (el p 6), .int .i64 (el p 7)] 23)) := (Below.refl _ _).alloc (Nat.le_refl _) _
  have hF1 := Boxed.new (w.alloc (.cells #[.int .i64 (el p 0), .int .i64 (el p 1), .int .i64 (el p 2), .int .i64 (el p 3), .int .i64 (el p 4), .int .i64 (el p 5), .int .i64 (el p 6), .int .i64 (el p 7)] 23)) 3 (.int .i64 f)
  have hB2 := hB1.alloc (hB1.size) (.cells #[.int .i64 f] 3)
  have hT3 := noughts_in ((w.alloc (.cells #[.int .i64 (el p 0), .int .i64 (el p 1), .int .i64 (el p 2), .int .i64 (el p 3), .int .i64 (el p 4), .int .i64 (el p 5), .int .i64 (el p 6), .int .i64 (el p 7)] 23)).alloc (.cells #[.int .i64 f] 3))
  have hB3 := hB2.alloc (hB2.size) (.cells #[.int .i64 0, .int .i64 0, .int .i64 0, .int .i64 0, .int .i64 0, .int .i64 0, .int .i64 0, .int .i64 0] 23)
  have hF3 := hF1.alloc (.cells #[.int .i64 0, .int .i64 0, .int .i64 0, .int .i64 0, .int .i64 0, .int .i64 0, .int .i64 0, .int .i64 0] 23)
  unfold noughts at hT3
  simp only [World.size_alloc] at hT3 hF3
  exact ⟨_, rfl, hF3, hT3, hB3⟩
set_option maxHeartbeats 4000000 in
set_option maxRecDepth 100000 in
theorem into_bad2 (p : List Int) (n f : Int) (w : World) (h : PF p n 0) (hf : ¬ IsF f) :
    Calls Tryz.prog 40 #[six p, .int .i64 n, .int .i64 f] w fun e w' => e = .returned (.tuple #[six [], errv 1]) ∧ Below w.heap.size w w' := by
  have hC := fun w => echeck_any p n 0 w h
  unfold errv at hC ⊢
  rw [if_pos rfl] at hC
  rw [if_neg (by decide)]
  have HF := hide hf
  clear h hf
  obtain ⟨W0, hW0, hF3, hT3, hB3⟩ := into_head p f w
  have HW := hide hW0
  clear hW0
  unfold six at hC
  unfold six
  refine (callsIn_wide (n := 3)).1 ?_
  refine callsIn_of_wp_marks Tryz.func40 rfl trivial ?_ rfl
  simp only [Tryz.ntmps40, List.size_toArray, List.length_cons, List.length_nil, Nat.reduceAdd, Nat.reduceSub, Array.replicate_succ, Array.replicate_zero, List.push_toArray, List.append_toArray, List.nil_append, List.cons_append]
  gi_wp2_with (first
    | (refine ⟨trivial, ?_⟩; gi_at_call 93; refine (callsIn_wide.2 (hC _)).mono ?_; rintro e w1 ⟨rfl, hb1⟩; rw [← HW.out] at hb1; have cf := (boxed_kept hF3 hb1).cell; have hT4 := hT3.kept hb1; have hB4 := hB3.trans (hb1.mono hB3.size); obtain ⟨⟨c0, f0, -⟩, ⟨c1, f1, -⟩, ⟨c2, f2, -⟩, ⟨c3, f3, -⟩, ⟨c4, f4, -⟩, ⟨c5, f5, -⟩, ⟨c6, f6, -⟩, ⟨c7, f7, -⟩⟩ := hT4.all; clear hF3 hT3 hB3)
    | (refine ⟨trivial, ?_⟩; gi_at_call 94; refine (callsIn_wide.2 (c4_bad _ _ HF.out)).mono ?_; rintro e w2 ⟨rfl, rfl⟩))
  have h8 := hT4.put8 []
  have hb8 := below8 hB4 (Nat.le_trans (Nat.le_succ _) (Nat.le_succ _)) []
  unfold W8 at h8 hb8
  obtain ⟨⟨d0, -, -⟩, ⟨d1, -, -⟩, ⟨d2, -, -⟩, ⟨d3, -, -⟩, ⟨d4, -, -⟩, ⟨d5, -, -⟩, ⟨d6, -, -⟩, ⟨d7, -, -⟩⟩ := h8.all
  have e0 : ∀ j, el [] j = 0 := fun j => by simp [el]
  simp only [e0] at d0 d1 d2 d3 d4 d5 d6 d7 hb8 ⊢
  refine ⟨.tuple #[.agg #[.int .i64 0, .int .i64 0, .int .i64 0, .int .i64 0, .int .i64 0, .int .i64 0, .int .i64 0, .int .i64 0], .iface 47 (.int .i64 1)], ?_, rfl, hb8⟩
  clear h8 hb8 hT4 c0 c1 c2 c3 c4 c5 c6 c7 f0 f1 f2 f3 f4 f5 f6 f7
  simp [results, Tryz.results40, go_sem, d0, d1, d2, d3, d4, d5, d6, d7]
end Go.Proofs.YtkhahbghmdccaaaGreat.Em
