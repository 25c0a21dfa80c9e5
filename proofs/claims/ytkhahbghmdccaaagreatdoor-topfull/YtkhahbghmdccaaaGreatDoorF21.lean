/- Out by contracts. What Into and Out reckon, in numbers: the four's bytes stand where the document says, and come out again. -/
import Derived.Test.YtkhahbghmdccaaaGreatDoorF20
import Derived.Test.YtkhahbghmdccaaaGreatDoorProg
namespace Go.Proofs.YtkhahbghmdccaaaGreatDoor.Em
open Go.RowKit Go.Shelf
attribute [local go_sem] Oper.semAt_some
def otp (z : List Int) (q : Nat) (acc : Int) (i : Fin 4) : Int := bits .or .i64 (IntKind.i64.wrap (acc * 256)) (byt z (pos q i.val))
def acc (z : List Int) (q : Nat) (pre : List (Fin 4)) : Int := pre.foldl (otp z q) 0
def eo (q : Nat) (pre : List (Fin 4)) : Int := pre.foldl (fun _ i => (pos q i.val : Int) + 1) 0
theorem acc_snoc (z : List Int) (q : Nat) (pre : List (Fin 4)) (i : Fin 4) : acc z q (pre ++ [i]) = otp z q (acc z q pre) i := by simp [acc]
theorem eo_snoc (q : Nat) (pre : List (Fin 4)) (i : Fin 4) : eo q (pre ++ [i]) = (pos q i.val : Int) + 1 := by simp [eo]
theorem shape_no (z : List Int) (q : Nat) (h8 : byt z 8 = 0) (hall : ∀ j, j < 16 - q → byt z (q + j) = 0) : shp z q = false := by
  cases e : shp z q
  · rfl
  · unfold shp at e
    rw [List.any_eq_true] at e
    obtain ⟨i, hi, hb⟩ := e
    rw [List.mem_range] at hi
    simp only [Bool.and_eq_true, Bool.or_eq_true, beq_iff_eq, decide_eq_true_eq, bne_iff_ne, ne_eq] at hb
    rcases hb with ⟨rfl | hqi, hb⟩
    · exact absurd h8 hb
    · have := hall (i - q) (by omega)
      rw [show q + (i - q) = i by omega] at this
      exact absurd this hb
theorem shape_yes (z : List Int) (q : Nat) (hq : q ≤ 16) (hall : ¬ ∀ j, j < 16 - q → byt z (q + j) = 0) : shp z q = true := by
  cases e : shp z q
  · exact absurd (fun j hj => shp_no e (q + j) (by omega) (.inr (by omega))) hall
  · rfl
theorem bys_own {β : Type} (z : List Int) (g : Nat) : Own (fun (_ : β) W => Bys z g W) := fun _ _ _ _ hs hg hr i hi => cell_kept (hs i hi) hg hr
theorem out_head (v : Value) (z : List Int) (q g : Nat) (w1 : World) (hg : g < w1.heap.size) (hy : Bys z g w1) : ∃ W0, W0 = (((w1.alloc (.cells #[v] 37)).alloc (.cells #[.int .i64 0] 3)).alloc (.cells #[.int .i64 0] 3)).alloc (.cells #[.int .i64 (8 * q)] 3) ∧ Boxed W0 w1.heap.size 37 v ∧ Boxed W0 (w1.heap.size + 1) 3 (.int .i64 (acc z q [])) ∧ Boxed W0 (w1.heap.size + 1 + 1) 3 (.int .i64 (eo q [])) ∧ Boxed W0 (w1.heap.size + 1 + 1 + 1) 3 (.int .i64 (8 * q)) ∧ Bys z g W0 ∧ Below w1.heap.size w1 W0 ∧ W0.heap.size = w1.heap.size + 4 := by
  have b1 := ((Boxed.new w1 37 v).alloc (.cells #[.int .i64 0] 3)).alloc (.cells #[.int .i64 0] 3)
  have b2 := (Boxed.new (w1.alloc (.cells #[v] 37)) 3 (.int .i64 0)).alloc (.cells #[.int .i64 0] 3)
  have b3 := Boxed.new ((w1.alloc (.cells #[v] 37)).alloc (.cells #[.int .i64 0] 3)) 3 (.int .i64 0)
  have b4 := Boxed.new (((w1.alloc (.cells #[v] 37)).alloc (.cells #[.int .i64 0] 3)).alloc (.cells #[.int .i64 0] 3)) 3 (.int .i64 (8 * q))
  have hb : Below w1.heap.size w1 ((((w1.alloc (.cells #[v] 37)).alloc (.cells #[.int .i64 0] 3)).alloc (.cells #[.int .i64 0] 3)).alloc (.cells #[.int .i64 (8 * q)] 3)) := ((((Below.refl _ _).alloc (Nat.le_refl _) _).alloc (by simp) _).alloc (by simp; omega) _).alloc (by simp; omega) _
  simp only [World.size_alloc] at b2 b3 b4
  exact ⟨_, rfl, b1.alloc _, b2.alloc _, b3.alloc _, b4, fun i hi => (hb.cell (p := ⟨g, i, none⟩) hg).trans (hy i hi), hb, by simp⟩
set_option maxHeartbeats 4000000 in
set_option maxRecDepth 100000 in
theorem out_long (z : List Int) (q : Nat) (w : World) (h : Ok6 z) (hn : LongP (8 * q)) :
    Calls Tryz.prog 120 #[six z, .int .i64 (8 * q)] w fun e w' => e = .returned (if shp z (pos q 3 + 1) then .tuple #[.int .i64 0, .iface 28 (.int .i64 2)] else .tuple #[.int .i64 (acc z q four4), .nilIface]) ∧ Below w.heap.size w w' := by
  have hC := fun w => bytes_ok z w h
  have hq : q ≤ 12 := by unfold LongP at hn; omega
  have HN := hide hn
  have HOK := hide h
  clear hn h
  obtain ⟨R, hR⟩ : ∃ R, R = (if shp z (pos q 3 + 1) then Value.tuple #[.int .i64 0, .iface 28 (.int .i64 2)] else .tuple #[.int .i64 (acc z q four4), .nilIface]) := ⟨_, rfl⟩
  rw [← hR]
  have HR := hide hR
  clear hR
  unfold six at hC ⊢
  refine (callsIn_wide (n := 3)).1 ?_
  refine callsIn_of_wp_marks Tryz.func120 rfl trivial ?_ rfl
  simp only [Tryz.ntmps120, List.size_toArray, List.length_cons, List.length_nil, Nat.reduceAdd, Nat.reduceSub, Array.replicate_succ, Array.replicate_zero, List.push_toArray, List.append_toArray, List.nil_append, List.cons_append]
  gi_wp2_with (first
    | (refine ⟨trivial, ?_⟩; gi_at_call 138; refine (callsIn_wide.2 (hC _)).mono ?_; rintro e w1 ⟨v, rfl, ho, hb1⟩; obtain ⟨g, cap, rfl, hcap, hg0, hg, hB⟩ := own_bys ho; have HB := hide hB; clear hB ho; simp only [World.size_alloc] at hg0; have hb2 := bt ((Below.refl w.heap.size w).alloc (Nat.le_refl _) _) hb1; clear hb1)
    | (refine ⟨trivial, ?_⟩; gi_at_call 149; refine (callsIn_wide.2 (known_yes _ _ HN.out)).mono ?_; rintro e w2 ⟨rfl, rfl⟩)
    | (refine ⟨trivial, ?_⟩; gi_at_call 170; refine (callsIn_wide.2 (places_any _ _)).mono ?_; rintro e w3 ⟨rfl, rfl⟩))
  have hq0 : w.heap.size ≤ w1.heap.size := hb2.size
  obtain ⟨W0, hW0, b1, b2, b3, b4, hy, hbW, hsz⟩ := out_head (.slice (some ⟨g, 0, none⟩) 16 cap) z q g w1 hg HB.out
  rw [← hW0]
  clear hW0
  have hbW2 := bt hb2 hbW
  clear hC HB
  refine wpIn_rangeFunc_ownF rfl (by omega) (gf := 202) (lb := #[.pointer (some ⟨w1.heap.size + 1 + 1 + 1, 0, none⟩)]) rfl trivial (enters_of Tryz.func202 (by kernel_rfl) rfl)
    (places_stops _ (by omega) (w1.heap.size + 1 + 1 + 1) w.heap.size q hq _ b4.lt b4.cell) belowK_t (belowK_b (by rw [hsz]; omega)) (Below.refl _ _) (fun _ => rfl)
    (fun pre W => (Boxed W w1.heap.size 37 (.slice (some ⟨g, 0, none⟩) 16 cap) ∧ Boxed W (w1.heap.size + 1) 3 (.int .i64 (acc z q pre)) ∧ Boxed W (w1.heap.size + 1 + 1) 3 (.int .i64 (eo q pre)) ∧ Bys z g W) ∧ Below w.heap.size w W)
    (fun _ _ _ => False)
    (OwnFrom.and (OwnFrom.and (Own.from (boxed_own _ _ _) _) (OwnFrom.and (Own.from (boxed_own _ _ _) _) (OwnFrom.and (Own.from (boxed_own _ _ _) _) (Own.from (bys_own _ _) _)))) (ownFrom_below (Nat.le_refl _) (by rw [hsz]; omega)))
    (fun _ _ _ _ _ hs _ _ => hs)
    ⟨⟨b1, b2, b3, hy⟩, hbW2⟩
    (fun x => { tmps := #[.agg #[.int .i64 (el z 0), .int .i64 (el z 1), .int .i64 (el z 2), .int .i64 (el z 3), .int .i64 (el z 4), .int .i64 (el z 5), .int .i64 (el z 6), .int .i64 (el z 7)], .int .i64 (8 * q), .pointer (some ⟨w.heap.size, 0, none⟩), undef, .int .i64 0, .nilIface, .pointer (some ⟨w1.heap.size, 0, none⟩), .nilIface, .pointer (some ⟨w1.heap.size + 1, 0, none⟩), .pointer (some ⟨w1.heap.size + 1 + 1, 0, none⟩), undef, .int .i64 (pos q x.val : Int), .tuple #[.slice (some ⟨g, 0, none⟩) 16 cap, .nilIface], .agg #[.int .i64 (el z 0), .int .i64 (el z 1), .int .i64 (el z 2), .int .i64 (el z 3), .int .i64 (el z 4), .int .i64 (el z 5), .int .i64 (el z 6), .int .i64 (el z 7)], .tuple #[.slice (some ⟨g, 0, none⟩) 16 cap, .nilIface], .slice (some ⟨g, 0, none⟩) 16 cap, .nilIface, .nilIface, .bool false, undef, .int .i64 (8 * q), .bool true, .bool false, undef, .int .i64 (8 * q), .func (.func 202) #[] #[.pointer (some ⟨w1.heap.size + 1 + 1 + 1, 0, none⟩)], .int .i64 (x.val : Int), .int .i64 (pos q x.val : Int), undef, undef, undef, undef, undef, undef, undef, undef, undef, undef, undef, undef, undef, undef, undef, undef, undef, undef, undef, undef, undef, undef, undef], defers := [] }) ?assign ?body ?done ?stop
  case assign =>
    intro l x W K hK
    dsimp only [encP]
    gi_wp2
    exact hK
  case body =>
    rintro l pre ⟨i, hi⟩ W ⟨⟨hb, hf, he, hyW⟩, hB⟩ -
    clear b1 b2 b3 b4 hy hbW hbW2
    have hP := pos_lt hq hi
    have cb := hb.cell
    have cf := hf.cell
    have ff := hf.frozen
    have ce := he.cell
    have fe := he.frozen
    have cy := hyW (pos q i) hP
    have hby := byt_in z HOK.out (pos q i) hP
    have HA := hide (acc_snoc z q pre ⟨i, hi⟩)
    have HE := hide (eo_snoc q pre ⟨i, hi⟩)
    unfold otp at HA
    dsimp only at HA HE ⊢
    generalize byt z (pos q i) = b at cy hby HA
    generalize pos q i = P at hP cy HE
    generalize acc z q pre = A at cf HA
    generalize eo q pre = E at ce
    obtain ⟨hb0, hb1⟩ := hby
    have hPi : (P : Int) < 16 := by omega
    have gb : IntKind.i64.wrap b = b := by rw [IntKind.wrap_i64]; omega
    have hmx : Tryz.prog.follows .mixedOrders = true := by kernel_rfl
    have HFIN := hide (show KeepsOthers W ((W.setCell ⟨w1.heap.size + 1, 0, none⟩ (.int .i64 (bits .or .i64 (IntKind.i64.wrap (A * 256)) b))).setCell ⟨w1.heap.size + 1 + 1, 0, none⟩ (.int .i64 ((P : Int) + 1))).drew ∧ Below w.heap.size W ((W.setCell ⟨w1.heap.size + 1, 0, none⟩ (.int .i64 (bits .or .i64 (IntKind.i64.wrap (A * 256)) b))).setCell ⟨w1.heap.size + 1 + 1, 0, none⟩ (.int .i64 ((P : Int) + 1))).drew ∧ (Boxed ((W.setCell ⟨w1.heap.size + 1, 0, none⟩ (.int .i64 (bits .or .i64 (IntKind.i64.wrap (A * 256)) b))).setCell ⟨w1.heap.size + 1 + 1, 0, none⟩ (.int .i64 ((P : Int) + 1))).drew w1.heap.size 37 (.slice (some ⟨g, 0, none⟩) 16 cap) ∧ Boxed ((W.setCell ⟨w1.heap.size + 1, 0, none⟩ (.int .i64 (bits .or .i64 (IntKind.i64.wrap (A * 256)) b))).setCell ⟨w1.heap.size + 1 + 1, 0, none⟩ (.int .i64 ((P : Int) + 1))).drew (w1.heap.size + 1) 3 (.int .i64 (acc z q (pre ++ [⟨i, hi⟩]))) ∧ Boxed ((W.setCell ⟨w1.heap.size + 1, 0, none⟩ (.int .i64 (bits .or .i64 (IntKind.i64.wrap (A * 256)) b))).setCell ⟨w1.heap.size + 1 + 1, 0, none⟩ (.int .i64 ((P : Int) + 1))).drew (w1.heap.size + 1 + 1) 3 (.int .i64 (eo q (pre ++ [⟨i, hi⟩]))) ∧ Bys z g ((W.setCell ⟨w1.heap.size + 1, 0, none⟩ (.int .i64 (bits .or .i64 (IntKind.i64.wrap (A * 256)) b))).setCell ⟨w1.heap.size + 1 + 1, 0, none⟩ (.int .i64 ((P : Int) + 1))).drew) ∧ Below w.heap.size w ((W.setCell ⟨w1.heap.size + 1, 0, none⟩ (.int .i64 (bits .or .i64 (IntKind.i64.wrap (A * 256)) b))).setCell ⟨w1.heap.size + 1 + 1, 0, none⟩ (.int .i64 ((P : Int) + 1))).drew from by
      rw [HA.out, HE.out]
      refine ⟨((KeepsOthers.setCell _ _ _).trans (KeepsOthers.setCell _ _ _)).trans (KeepsOthers.drew _), (((Below.refl w.heap.size W).setCell (by show w.heap.size ≤ w1.heap.size + 1; omega) _).setCell (by show w.heap.size ≤ w1.heap.size + 1 + 1; omega) _).drew, ⟨?_, ?_, ?_, ?_⟩, ((hB.setCell (by show w.heap.size ≤ w1.heap.size + 1; omega) _).setCell (by show w.heap.size ≤ w1.heap.size + 1 + 1; omega) _).drew⟩
      · exact (Below.heap_setCell _ _ _ _ (by show w1.heap.size ≠ w1.heap.size + 1 + 1; omega)).trans ((Below.heap_setCell _ _ _ _ (by show w1.heap.size ≠ w1.heap.size + 1; omega)).trans hb)
      · exact (Below.heap_setCell _ _ _ _ (by show w1.heap.size + 1 ≠ w1.heap.size + 1 + 1; omega)).trans (hf.set _)
      · exact Boxed.set _ ((Below.heap_setCell _ _ _ _ (by show w1.heap.size + 1 + 1 ≠ w1.heap.size + 1; omega)).trans he)
      · intro j hj
        have hblk : ((W.setCell ⟨w1.heap.size + 1, 0, none⟩ (.int .i64 (bits .or .i64 (IntKind.i64.wrap (A * 256)) b))).setCell ⟨w1.heap.size + 1 + 1, 0, none⟩ (.int .i64 ((P : Int) + 1))).heap[g]? = W.heap[g]? := (Below.heap_setCell _ _ _ _ (by show g ≠ w1.heap.size + 1 + 1; omega)).trans (Below.heap_setCell _ _ _ _ (by show g ≠ w1.heap.size + 1; omega))
        have hc := hyW j hj
        unfold World.cell? at hc ⊢
        show (match ((W.setCell ⟨w1.heap.size + 1, 0, none⟩ (.int .i64 (bits .or .i64 (IntKind.i64.wrap (A * 256)) b))).setCell ⟨w1.heap.size + 1 + 1, 0, none⟩ (.int .i64 ((P : Int) + 1))).heap[g]? with | some (.cells cs _ _) => cs[j]? | _ => none) = _
        rw [hblk]
        exact hc)
    clear hb hf he hyW hB HOK HN HA HE
    gi_wp2
    refine wpIn_region_any (by assumption) ?_
    refine anyIn_out (F := Fence.wide) (noDefer_spec (by kernel_rfl)) _ _ _ _ ?_
    change wpAnyIn _ _ _ _ _ _ _ _ _ (World.drew _)
    refine wpAnyIn_take (i := 3) (v := ?_) rfl rfl (by kernel_rfl) (by kernel_rfl) (by kernel_rfl) (fun _ _ _ h => h) ⟨Or.inl ⟨by rfl, ?_⟩, fun _ => rfl⟩ ?_
    rotate_left 1
    · intro w; go_simp; try with_reducible rfl
    refine wpAnyIn_ready (rs := [0, 2]) (by kernel_rfl) (by simp) ?_
    refine AllReadyIn.cons rfl (fun K hK => ?_) (AllReadyIn.cons rfl (fun K hK => ?_) AllReadyIn.nil)
    · go_simp
      refine hK _ _ ?_
      clear hK K
      refine wpAnyIn_take (i := 1) (v := ?_) rfl rfl (by kernel_rfl) (by kernel_rfl) (by kernel_rfl) (fun _ _ _ h => h) ⟨Or.inl ⟨by rfl, ?_⟩, fun _ => rfl⟩ ?_
      rotate_left 1
      · intro w; go_simp; try with_reducible rfl
      refine wpAnyIn_ready (rs := [2]) (by kernel_rfl) (by simp) ?_
      refine AllReadyIn.cons rfl (fun K hK => ?_) AllReadyIn.nil
      go_simp
      refine hK _ _ ?_
      clear hK K
      refine wpAnyIn_take (i := 4) (v := ?_) rfl rfl (by kernel_rfl) (by kernel_rfl) (by kernel_rfl) (fun _ _ _ h => h) ⟨Or.inl ⟨by rfl, ?_⟩, fun _ => rfl⟩ ?_
      rotate_left 1
      · intro w; go_simp; try with_reducible rfl
      refine wpAnyIn_ready (rs := [5]) (by kernel_rfl) (by simp) ?_
      refine AllReadyIn.cons rfl (fun K hK => ?_) AllReadyIn.nil
      go_simp
      refine hK _ _ ?_
      clear hK K
      refine wpAnyIn_take (i := 6) (v := ?_) rfl rfl (by kernel_rfl) (by kernel_rfl) (by kernel_rfl) (fun _ _ _ h => h) ⟨Or.inl ⟨by rfl, ?_⟩, fun _ => rfl⟩ ?_
      rotate_left 1
      · intro w; go_simp; try with_reducible rfl
      refine wpAnyIn_take (i := 7) (v := ?_) rfl rfl (by kernel_rfl) (by kernel_rfl) (by kernel_rfl) (fun _ _ _ h => h) ⟨Or.inl ⟨by rfl, ?_⟩, fun _ => rfl⟩ ?_
      rotate_left 1
      · intro w; go_simp; try with_reducible rfl
      refine wpAnyIn_ready (rs := [8]) (by kernel_rfl) (by simp) ?_
      refine AllReadyIn.cons rfl (fun K hK => ?_) AllReadyIn.nil
      go_simp
      refine hK _ _ ?_
      clear hK K
      refine wpAnyIn_done (by kernel_rfl) ?_ _
      gi_wp2
      rw [← IntWalk.i64_left]
      exact HFIN.out
    · go_simp
      refine hK _ _ ?_
      clear hK K
      refine wpAnyIn_take (i := 4) (v := ?_) rfl rfl (by kernel_rfl) (by kernel_rfl) (by kernel_rfl) (fun _ _ _ h => h) ⟨Or.inl ⟨by rfl, ?_⟩, fun _ => rfl⟩ ?_
      rotate_left 1
      · intro w; go_simp; try with_reducible rfl
      refine wpAnyIn_ready (rs := [0, 5]) (by kernel_rfl) (by simp) ?_
      refine AllReadyIn.cons rfl (fun K hK => ?_) (AllReadyIn.cons rfl (fun K hK => ?_) AllReadyIn.nil)
      · go_simp
        refine hK _ _ ?_
        clear hK K
        refine wpAnyIn_take (i := 1) (v := ?_) rfl rfl (by kernel_rfl) (by kernel_rfl) (by kernel_rfl) (fun _ _ _ h => h) ⟨Or.inl ⟨by rfl, ?_⟩, fun _ => rfl⟩ ?_
        rotate_left 1
        · intro w; go_simp; try with_reducible rfl
        refine wpAnyIn_ready (rs := [5]) (by kernel_rfl) (by simp) ?_
        refine AllReadyIn.cons rfl (fun K hK => ?_) AllReadyIn.nil
        go_simp
        refine hK _ _ ?_
        clear hK K
        refine wpAnyIn_take (i := 6) (v := ?_) rfl rfl (by kernel_rfl) (by kernel_rfl) (by kernel_rfl) (fun _ _ _ h => h) ⟨Or.inl ⟨by rfl, ?_⟩, fun _ => rfl⟩ ?_
        rotate_left 1
        · intro w; go_simp; try with_reducible rfl
        refine wpAnyIn_take (i := 7) (v := ?_) rfl rfl (by kernel_rfl) (by kernel_rfl) (by kernel_rfl) (fun _ _ _ h => h) ⟨Or.inl ⟨by rfl, ?_⟩, fun _ => rfl⟩ ?_
        rotate_left 1
        · intro w; go_simp; try with_reducible rfl
        refine wpAnyIn_ready (rs := [8]) (by kernel_rfl) (by simp) ?_
        refine AllReadyIn.cons rfl (fun K hK => ?_) AllReadyIn.nil
        go_simp
        refine hK _ _ ?_
        clear hK K
        refine wpAnyIn_done (by kernel_rfl) ?_ _
        gi_wp2
        rw [← IntWalk.i64_left]
        exact HFIN.out
      · go_simp
        refine hK _ _ ?_
        clear hK K
        refine wpAnyIn_take (i := 6) (v := ?_) rfl rfl (by kernel_rfl) (by kernel_rfl) (by kernel_rfl) (fun _ _ _ h => h) ⟨Or.inl ⟨by rfl, ?_⟩, fun _ => rfl⟩ ?_
        rotate_left 1
        · intro w; go_simp; try with_reducible rfl
        refine wpAnyIn_ready (rs := [0]) (by kernel_rfl) (by simp) ?_
        refine AllReadyIn.cons rfl (fun K hK => ?_) AllReadyIn.nil
        go_simp
        refine hK _ _ ?_
        clear hK K
        refine wpAnyIn_take (i := 1) (v := ?_) rfl rfl (by kernel_rfl) (by kernel_rfl) (by kernel_rfl) (fun _ _ _ h => h) ⟨Or.inl ⟨by rfl, ?_⟩, fun _ => rfl⟩ ?_
        rotate_left 1
        · intro w; go_simp; try with_reducible rfl
        refine wpAnyIn_take (i := 7) (v := ?_) rfl rfl (by kernel_rfl) (by kernel_rfl) (by kernel_rfl) (fun _ _ _ h => h) ⟨Or.inl ⟨by rfl, ?_⟩, fun _ => rfl⟩ ?_
        rotate_left 1
        · intro w; go_simp; try with_reducible rfl
        refine wpAnyIn_ready (rs := [8]) (by kernel_rfl) (by simp) ?_
        refine AllReadyIn.cons rfl (fun K hK => ?_) AllReadyIn.nil
        go_simp
        refine hK _ _ ?_
        clear hK K
        refine wpAnyIn_done (by kernel_rfl) ?_ _
        gi_wp2
        rw [← IntWalk.i64_left]
        exact HFIN.out
  case done =>
    rintro D ys W hD rfl ⟨⟨hb, hf, he, hyW⟩, hB⟩ hK
    have cb := hb.cell
    have cf := hf.cell
    have ce := he.cell
    have c8 := hyW 8 (by omega)
    have hE16 : pos q 3 + 1 ≤ 16 := by have := pos_lt hq (show 3 < 4 by omega); omega
    rw [show eo q four4 = ((pos q 3 + 1 : Nat) : Int) from rfl] at ce
    have HY := hide hyW
    have HK := hide hK
    have HBd := hide (hB.trans (belowK_b (w := w) (Nat.le_refl _) W D _ (.deferred none) (by rw [hsz] at hD; omega) hK rfl rfl))
    have hs0 := fun (h8 : byt z 8 = 0) => shape_no z (pos q 3 + 1) h8
    have hs1 := fun (hall : ¬ ∀ j, j < 16 - (pos q 3 + 1) → byt z (pos q 3 + 1 + j) = 0) => shape_yes z (pos q 3 + 1) hE16 hall
    have hs2 := fun (h8 : byt z 8 ≠ 0) => shp_yes (z := z) (q := pos q 3 + 1) 8 (by omega) (.inl rfl) h8
    have hR := HR.out
    clear HR
    generalize pos q 3 + 1 = E at ce hE16 hs0 hs1 hs2 hR
    clear hb hf he hyW hB hK hD b1 b2 b3 b4 hy hbW hbW2 hg0 hq HOK HN
    by_cases h8 : byt z 8 = 0
    · replace hs0 := hs0 h8
      rw [h8] at c8
      by_cases hall : ∀ j, j < 16 - E → byt z (E + j) = 0
      · rw [hs0 hall] at hR
        have HR := hide hR
        clear hR
        have HA := hide hall
        clear hall hs0 hs1 hs2 h8
        by_cases hcE : cap = E
        · obtain rfl : E = 16 := by omega
          subst hcE
          gi_wp2_with (refine ⟨trivial, ?_⟩; gi_at_call 150; refine (callsIn_wide.2 (empty_yes g 0 0 _ (fun _ => 0) _ (by omega) (fun j hj => absurd hj (by omega)) (fun _ _ => rfl))).mono ?_; rintro e w2 ⟨rfl, rfl⟩)
          refine ⟨by simp, .inl ⟨_, _, rfl, run_takeDeferred HK.out, ?_⟩⟩
          refine ⟨.tuple #[.int .i64 (acc z q four4), .nilIface], by simp [results, Tryz.results120, go_sem], (by rw [HR.out]; rfl), HBd.out⟩
        · gi_wp2_with (refine ⟨trivial, ?_⟩; gi_at_call 150; refine (callsIn_wide.2 (empty_yes g E (16 - E) _ (fun j => byt z (E + j)) _ (by omega) (fun j hj => HY.out (E + j) (by omega)) HA.out)).mono ?_; rintro e w2 ⟨rfl, rfl⟩)
          refine ⟨by simp, .inl ⟨_, _, rfl, run_takeDeferred HK.out, ?_⟩⟩
          refine ⟨.tuple #[.int .i64 (acc z q four4), .nilIface], by simp [results, Tryz.results120, go_sem], (by rw [HR.out]; rfl), HBd.out⟩
      · rw [hs1 hall] at hR
        have HR := hide hR
        clear hR
        have HA := hide hall
        clear hall hs0 hs1 hs2 h8
        have hcE : ¬ cap = E := fun e => HA.out (fun j hj => absurd hj (by omega))
        gi_wp2_with (refine ⟨trivial, ?_⟩; gi_at_call 150; refine (callsIn_wide.2 (empty_no g E (16 - E) _ (fun j => byt z (E + j)) _ (by omega) (fun j hj => HY.out (E + j) (by omega)) HA.out)).mono ?_; rintro e w2 ⟨rfl, rfl⟩)
        refine ⟨by simp, .inl ⟨_, _, rfl, run_takeDeferred HK.out, ?_⟩⟩
        refine ⟨.tuple #[.int .i64 0, .iface 28 (.int .i64 2)], by simp [results, Tryz.results120, go_sem], (by rw [HR.out]; rfl), HBd.out⟩
    · rw [hs2 h8] at hR
      have HR := hide hR
      clear hR
      have hb8 : (byt z 8 == 0) = false := by simpa using h8
      clear hs0 hs1 hs2
      generalize byt z 8 = x at c8 hb8 h8
      gi_wp2
      refine ⟨trivial, ?_⟩
      gi_wp2
      refine ⟨by simp, .inl ⟨_, _, rfl, run_takeDeferred HK.out, ?_⟩⟩
      refine ⟨.tuple #[.int .i64 0, .iface 28 (.int .i64 2)], by simp [results, Tryz.results120, go_sem], (by rw [HR.out]; rfl), HBd.out⟩
  case stop =>
    rintro D c pre W _ _ h _
    exact h.elim
end Go.Proofs.YtkhahbghmdccaaaGreatDoor.Em

namespace Go.Proofs.YtkhahbghmdccaaaGreatDoor.Em
open Go.RowKit Go.Shelf
theorem or8 (a x : Nat) (ha : a < 16777216) (hx : x ≤ 255) : bits .or .i64 ((a * 256 : Nat) : Int) (x : Int) = ((a * 256 + x : Nat) : Int) := by
  have e1 : (BitVec.ofInt 64 ((a * 256 : Nat) : Int)).toNat = a * 256 := by rw [BitVec.toNat_ofInt]; omega
  have e2 : (BitVec.ofInt 64 ((x : Nat) : Int)).toNat = x := by rw [BitVec.toNat_ofInt]; omega
  have key : (BitVec.ofInt 64 ((a * 256 : Nat) : Int) ||| BitVec.ofInt 64 ((x : Nat) : Int)).toNat = a * 256 + x := by
    rw [BitVec.toNat_or, e1, e2]
    have := Nat.shiftLeft_add_eq_or_of_lt (show x < 2 ^ 8 by omega) a
    rw [Nat.shiftLeft_eq] at this
    exact this.symm
  show IntKind.i64.wrap (((BitVec.ofInt 64 ((a * 256 : Nat) : Int) ||| BitVec.ofInt 64 ((x : Nat) : Int)).toNat : Nat) : Int) = _
  rw [key, IntKind.wrap_i64]
  omega
theorem or_lo (a x : Int) (ha : 0 ≤ a) (ha2 : a < 16777216) (hx : 0 ≤ x) (hx2 : x < 256) : bits .or .i64 (a * 256) x = a * 256 + x := by
  obtain ⟨m, rfl⟩ := Int.eq_ofNat_of_zero_le ha
  obtain ⟨k, rfl⟩ := Int.eq_ofNat_of_zero_le hx
  have := or8 m k (by omega) (by omega)
  rw [show ((m * 256 : Nat) : Int) = (m : Int) * 256 by omega, show ((m * 256 + k : Nat) : Int) = (m : Int) * 256 + (k : Int) by omega] at this
  exact this
theorem or_zero (y : Int) (hy : 0 ≤ y) (hy2 : y < 65536) : bits .or .i64 0 y = y := by
  obtain ⟨k, rfl⟩ := Int.eq_ofNat_of_zero_le hy
  have e2 : (BitVec.ofInt 64 ((k : Nat) : Int)).toNat = k := by rw [BitVec.toNat_ofInt]; omega
  have key : (BitVec.ofInt 64 0 ||| BitVec.ofInt 64 ((k : Nat) : Int)).toNat = k := by
    rw [BitVec.toNat_or, e2]; simp
  show IntKind.i64.wrap (((BitVec.ofInt 64 0 ||| BitVec.ofInt 64 ((k : Nat) : Int)).toNat : Nat) : Int) = _
  rw [key, IntKind.wrap_i64]
  omega
def gat (z : List Int) (q : Nat) : Int := ((byt z (pos q 0) * 256 + byt z (pos q 1)) * 256 + byt z (pos q 2)) * 256 + byt z (pos q 3)
theorem acc_gat (z : List Int) (q : Nat) (h : Ok6 z) (hq : q ≤ 12) : acc z q four4 = gat z q := by
  have b0 := byt_in z h (pos q 0) (pos_lt hq (by omega))
  have b1 := byt_in z h (pos q 1) (pos_lt hq (by omega))
  have b2 := byt_in z h (pos q 2) (pos_lt hq (by omega))
  have b3 := byt_in z h (pos q 3) (pos_lt hq (by omega))
  show otp z q (otp z q (otp z q (otp z q 0 0) 1) 2) 3 = _
  unfold otp gat
  rw [show ((0 : Fin 4).val) = 0 from rfl, show ((1 : Fin 4).val) = 1 from rfl, show ((2 : Fin 4).val) = 2 from rfl, show ((3 : Fin 4).val) = 3 from rfl]
  generalize byt z (pos q 0) = x0 at b0 ⊢
  generalize byt z (pos q 1) = x1 at b1 ⊢
  generalize byt z (pos q 2) = x2 at b2 ⊢
  generalize byt z (pos q 3) = x3 at b3 ⊢
  have w0 : IntKind.i64.wrap (0 * 256) = 0 := by decide
  rw [w0, or_zero x0 (by omega) (by omega)]
  rw [show IntKind.i64.wrap (x0 * 256) = x0 * 256 by rw [IntKind.wrap_i64]; omega, or_lo x0 x1 (by omega) (by omega) (by omega) (by omega)]
  rw [show IntKind.i64.wrap ((x0 * 256 + x1) * 256) = (x0 * 256 + x1) * 256 by rw [IntKind.wrap_i64]; omega, or_lo (x0 * 256 + x1) x2 (by omega) (by omega) (by omega) (by omega)]
  rw [show IntKind.i64.wrap (((x0 * 256 + x1) * 256 + x2) * 256) = ((x0 * 256 + x1) * 256 + x2) * 256 by rw [IntKind.wrap_i64]; omega, or_lo ((x0 * 256 + x1) * 256 + x2) x3 (by omega) (by omega) (by omega) (by omega)]
end Go.Proofs.YtkhahbghmdccaaaGreatDoor.Em
