/- The document's own FourBytes, SixAt and IntoOf, as the statement calls them, by contracts. -/
import Derived.Test.YtbgclnonlgflkaaDoorRefEmbed1
import Derived.BigRegion
namespace Go.Proofs.YtbgclnonlgflkaaDoor
open Go.RowKit Go.Shelf

theorem fb_is (f : Int) (h : IsF f) : fb f 0 = f / 16777216 ∧ fb f 1 = f / 65536 % 256 ∧ fb f 2 = f / 256 % 256 ∧ fb f 3 = f % 256 := by
  obtain ⟨h0, h1⟩ := h
  unfold fb
  rw [show (2 : Int) ^ (24 - 8 * 0) = 16777216 from rfl, show (2 : Int) ^ (24 - 8 * 1) = 65536 from rfl, show (2 : Int) ^ (24 - 8 * 2) = 256 from rfl, show (2 : Int) ^ (24 - 8 * 3) = 1 from rfl]
  omega
theorem rfour_any (f : Int) (w : World) (h : IsF f) : Calls Tryd.prog 19 #[.int .i64 f] w fun e w' => e = .returned (.slice (some ⟨w.heap.size, 0, none⟩) 4 4) ∧ w' = w.alloc (.cells #[.int .u8 (fb f 0), .int .u8 (fb f 1), .int .u8 (fb f 2), .int .u8 (fb f 3)] 5) := by
  obtain ⟨e0, e1, e2, e3⟩ := fb_is f h
  rw [e0, e1, e2, e3]
  obtain ⟨h0, h1⟩ := h
  clear e0 e1 e2 e3
  go_enter Tryd.func19, Tryd.ntmps19
  go_wp2
  go_ret
  exact ⟨rfl, rfl⟩

/-- a block of bytes of which the first sixteen are these. -/
def BysF (g : Nat) (F : Nat → Int) (w : World) : Prop := ∃ cs : Array Value, w.heap[g]? = some (.cells cs 5 (0, 0)) ∧ 16 ≤ cs.size ∧ ∀ j, j < 16 → cs[j]? = some (.int .u8 (F j))
theorem BysF.lt {g : Nat} {F : Nat → Int} {w : World} (h : BysF g F w) : g < w.heap.size := by
  obtain ⟨cs, h1, _⟩ := h
  exact (Array.getElem?_eq_some_iff.1 h1).1
theorem BysF.cell {g : Nat} {F : Nat → Int} {w : World} (h : BysF g F w) (j : Nat) (hj : j < 16) : w.cell? ⟨g, j, none⟩ = some (.int .u8 (F j)) := by
  obtain ⟨cs, h1, _, h3⟩ := h
  simp [World.cell?, h1, h3 j hj]
theorem BysF.frozen {g : Nat} {F : Nat → Int} {w : World} (h : BysF g F w) (j : Nat) : w.frozen? ⟨g, j, none⟩ = false := by
  obtain ⟨cs, h1, _⟩ := h
  simp [World.frozen?, h1]
theorem BysF.kept {g : Nat} {F : Nat → Int} {w w' : World} (h : BysF g F w) (hb : Below w.heap.size w w') : BysF g F w' := by
  have := h.lt
  obtain ⟨cs, h1, h2, h3⟩ := h
  exact ⟨cs, (hb.block g this).trans h1, h2, h3⟩
theorem BysF.set {g : Nat} {F : Nat → Int} {w : World} (h : BysF g F w) (i : Nat) (v : Int) (F' : Nat → Int) (hF : ∀ j, j < 16 → F' j = if j = i then v else F j) (hi : i < 16) : BysF g F' (w.setCell ⟨g, i, none⟩ (.int .u8 v)) := by
  obtain ⟨cs, h1, h2, h3⟩ := h
  have e := setCell_eq_setRow w g i cs 5 (0, 0) (.int .u8 v) h1
  have e2 := setRow_heap w g cs (cs.setIfInBounds i (.int .u8 v)) 5 (0, 0) h1
  refine ⟨cs.setIfInBounds i (.int .u8 v), by rw [e, e2], by simpa using h2, fun j hj => ?_⟩
  rw [hF j hj]
  by_cases ej : j = i
  · subst ej
    rw [if_pos rfl]
    simp [show j < cs.size by omega]
  · rw [if_neg ej, Array.getElem?_setIfInBounds_ne (by omega)]
    exact h3 j hj
theorem own_bysF {base : Nat} {z : List Int} {w : World} {v : Value} (h : OwnG 5 base w v (u8s (by16 z 8))) : ∃ g cap, v = .slice (some ⟨g, 0, none⟩) 16 cap ∧ 16 ≤ cap ∧ base ≤ g ∧ BysF g (byt z) w := by
  have h16 : (u8s (by16 z 8)).length = 16 := rfl
  have h' : w.ownsRow base 5 1 v (u8s (by16 z 8)).length (u8s (by16 z 8)) := h
  obtain ⟨h1, h2⟩ := h
  rcases h2 with ⟨rfl, hn⟩ | ⟨g, cap, cur, rfl, hb, hg, hcap, _, hsz, htk⟩
  · rw [h16] at hn; omega
  · rw [h16] at hcap htk
    refine ⟨g, cap, by rw [h16], hcap, hb, cur, hg, by omega, fun i hi => ?_⟩
    have e : (cur.toList.take (16 * 1))[i]? = (u8s (by16 z 8))[i]? := by rw [htk]
    rw [List.getElem?_take, if_pos (by omega)] at e
    unfold u8s at e
    rw [List.getElem?_map, by16_at z i hi] at e
    simpa using e

set_option maxHeartbeats 4000000 in
set_option maxRecDepth 100000 in
theorem rsixat_any (g cap : Nat) (F : Nat → Int) (w : World) (hF : BysF g F w) (hb : ∀ i, i < 16 → 0 ≤ F i ∧ F i < 256) : Calls Tryd.prog 20 #[.slice (some ⟨g, 0, none⟩) 16 cap] w fun e w' => e = .returned (six ((List.range 8).map fun j => F (2 * j) * 256 + F (2 * j + 1))) ∧ Below w.heap.size w w' := by
  obtain ⟨Z, hZ⟩ : ∃ Z, Z = ((List.range 8).map fun j => F (2 * j) * 256 + F (2 * j + 1)) := ⟨_, rfl⟩
  have hel : ∀ j, j < 8 → el Z j = F (2 * j) * 256 + F (2 * j + 1) := fun j hj => by rw [hZ]; simp [el, List.getD, hj]
  rw [← hZ]
  clear hZ
  have HEL := hide hel
  have HBI := hide hb
  clear hel hb
  have hglt := hF.lt
  go_enter Tryd.func20, Tryd.ntmps20
  go_wp2
  have hB0 : Below w.heap.size w ((w.alloc (.cells #[.int .i64 0, .int .i64 0, .int .i64 0, .int .i64 0, .int .i64 0, .int .i64 0, .int .i64 0, .int .i64 0] 23)).alloc (.cells #[.int .i64 0, .int .i64 0, .int .i64 0, .int .i64 0, .int .i64 0, .int .i64 0, .int .i64 0, .int .i64 0] 23)) := ((Below.refl _ _).alloc (Nat.le_refl _) _).alloc (by simp) _
  have hS0 : SixIn w.heap.size [] ((w.alloc (.cells #[.int .i64 0, .int .i64 0, .int .i64 0, .int .i64 0, .int .i64 0, .int .i64 0, .int .i64 0, .int .i64 0] 23)).alloc (.cells #[.int .i64 0, .int .i64 0, .int .i64 0, .int .i64 0, .int .i64 0, .int .i64 0, .int .i64 0, .int .i64 0] 23)) := (noughts_in w).kept ((Below.refl _ _).alloc (Nat.le_refl _) _)
  have hT0 : SixIn (w.heap.size + 1) (mix Z [] 0) ((w.alloc (.cells #[.int .i64 0, .int .i64 0, .int .i64 0, .int .i64 0, .int .i64 0, .int .i64 0, .int .i64 0, .int .i64 0] 23)).alloc (.cells #[.int .i64 0, .int .i64 0, .int .i64 0, .int .i64 0, .int .i64 0, .int .i64 0, .int .i64 0, .int .i64 0] 23)) := by
    have := noughts_in (w.alloc (.cells #[.int .i64 0, .int .i64 0, .int .i64 0, .int .i64 0, .int .i64 0, .int .i64 0, .int .i64 0, .int .i64 0] 23))
    unfold noughts at this
    simp only [World.size_alloc] at this
    unfold SixIn at this ⊢
    rw [sixC_congr (fun j hj => by rw [el_mix Z [] 0 j hj, if_neg (by omega)] : ∀ j, j < 8 → el (mix Z [] 0) j = el [] j)]
    exact this
  have hF0 : BysF g F ((w.alloc (.cells #[.int .i64 0, .int .i64 0, .int .i64 0, .int .i64 0, .int .i64 0, .int .i64 0, .int .i64 0, .int .i64 0] 23)).alloc (.cells #[.int .i64 0, .int .i64 0, .int .i64 0, .int .i64 0, .int .i64 0, .int .i64 0, .int .i64 0, .int .i64 0] 23)) := hF.kept hB0
  generalize (w.alloc (.cells #[.int .i64 0, .int .i64 0, .int .i64 0, .int .i64 0, .int .i64 0, .int .i64 0, .int .i64 0, .int .i64 0] 23)).alloc (.cells #[.int .i64 0, .int .i64 0, .int .i64 0, .int .i64 0, .int .i64 0, .int .i64 0, .int .i64 0, .int .i64 0] 23) = W at hB0 hS0 hT0 hF0 ⊢
  go_loopw [4] (fun t wr => ∃ k : Nat, k ≤ 8 ∧ t = .int .i64 k ∧ Hid (SixIn (w.heap.size + 1) (mix Z [] k) wr) ∧ Hid (SixIn w.heap.size [] wr) ∧ Hid (BysF g F wr) ∧ Hid (Below w.heap.size w wr)) (fun t _ => 8 - (intOf t).toNat)
  case atStart => exact ⟨0, by omega, rfl, hT0, hS0, hF0, hB0⟩
  case round =>
    obtain ⟨k, hk, rfl, HT, HS, HY, HB⟩ := hrel
    clear hT0 hS0 hF0 hB0 hF
    by_cases hlt : k < 8
    · have c1 := HY.out.cell (2 * k) (by omega)
      have c2 := HY.out.cell (2 * k + 1) (by omega)
      have ct := (HT.out.facts k hlt).1
      have ft := (HT.out.facts k hlt).2.1
      have HT2 := hide (HT.out.put1 k hlt)
      rw [HEL.out k hlt] at HT2
      obtain ⟨hx0, hx1⟩ := HBI.out (2 * k) (by omega)
      obtain ⟨hy0, hy1⟩ := HBI.out (2 * k + 1) (by omega)
      generalize F (2 * k) = x at c1 hx0 hx1 HT2
      generalize F (2 * k + 1) = y at c2 hy0 hy1 HT2
      generalize el (mix Z [] k) k = o at ct
      rw [show x * 256 + y = 256 * x + y by omega] at HT2
      have HS2 := hide (HS.out.other ⟨w.heap.size + 1, k, none⟩ (by simp) (.int .i64 (256 * x + y)))
      have HB2 := hide ((HB.out.setCell (p := ⟨w.heap.size + 1, k, none⟩) (Nat.le_succ _) (.int .i64 (256 * x + y))).drew)
      have HY2 := hide (show BysF g F (wr.setCell ⟨w.heap.size + 1, k, none⟩ (.int .i64 (256 * x + y))) from by
        obtain ⟨cs, h1, h2, h3⟩ := HY.out
        exact ⟨cs, (Below.heap_setCell _ _ _ _ (by show g ≠ w.heap.size + 1; omega)).trans h1, h2, h3⟩)
      have g0 : IntKind.i64.wrap 0 = 0 := by decide
      have g1 : IntKind.i64.wrap 1 = 1 := by decide
      have g2 : IntKind.i64.wrap 2 = 2 := by decide
      have g3 : IntKind.i64.wrap 3 = 3 := by decide
      have g4 : IntKind.i64.wrap 4 = 4 := by decide
      have g5 : IntKind.i64.wrap 5 = 5 := by decide
      have g6 : IntKind.i64.wrap 6 = 6 := by decide
      have g7 : IntKind.i64.wrap 7 = 7 := by decide
      have g8 : IntKind.i64.wrap 8 = 8 := by decide
      have g9 : IntKind.i64.wrap 9 = 9 := by decide
      have g10 : IntKind.i64.wrap 10 = 10 := by decide
      have g11 : IntKind.i64.wrap 11 = 11 := by decide
      have g12 : IntKind.i64.wrap 12 = 12 := by decide
      have g13 : IntKind.i64.wrap 13 = 13 := by decide
      have g14 : IntKind.i64.wrap 14 = 14 := by decide
      have g15 : IntKind.i64.wrap 15 = 15 := by decide
      have gx : IntKind.i64.wrap (256 * x) = 256 * x := by rw [IntKind.wrap_i64]; omega
      have gxy : IntKind.i64.wrap (256 * x + y) = 256 * x + y := by rw [IntKind.wrap_i64]; omega
      have g1x : IntKind.i64.wrap x = x := by rw [IntKind.wrap_i64]; omega
      have g1y : IntKind.i64.wrap y = y := by rw [IntKind.wrap_i64]; omega
      clear HT HS HY HB HEL HBI
      rcases (by omega : k = 0 ∨ k = 1 ∨ k = 2 ∨ k = 3 ∨ k = 4 ∨ k = 5 ∨ k = 6 ∨ k = 7) with rfl | rfl | rfl | rfl | rfl | rfl | rfl | rfl
      all_goals
        simp only [Nat.reduceMul, Nat.reduceAdd, Nat.mul_zero, Nat.zero_add] at c1 c2
        go_wp2
        go_region
        go_wp2
        go_roundw
        case rel => exact ⟨_, by omega, by first | rfl | go_num, HT2, HS2, HY2, HB2⟩
        case measure => simp [intOf]
    · obtain rfl : k = 8 := by omega
      have hT : SixIn (w.heap.size + 1) Z wr := by
        have := HT.out
        unfold SixIn at this ⊢
        rw [sixC_congr (fun j hj => by rw [el_mix Z [] 8 j hj, if_pos (by omega)] : ∀ j, j < 8 → el (mix Z [] 8) j = el Z j)] at this
        exact this
      obtain ⟨⟨q0, -, -⟩, ⟨q1, -, -⟩, ⟨q2, -, -⟩, ⟨q3, -, -⟩, ⟨q4, -, -⟩, ⟨q5, -, -⟩, ⟨q6, -, -⟩, ⟨q7, -, -⟩⟩ := hT.all
      obtain ⟨⟨c0, f0, -⟩, ⟨c1, f1, -⟩, ⟨c2, f2, -⟩, ⟨c3, f3, -⟩, ⟨c4, f4, -⟩, ⟨c5, f5, -⟩, ⟨c6, f6, -⟩, ⟨c7, f7, -⟩⟩ := HS.out.all
      clear HT hT HY HEL HBI
      go_wp2
      have h8 := HS.out.put8 Z
      have hb8 := below8 HB.out (Nat.le_refl _) Z
      unfold W8 at h8 hb8
      obtain ⟨⟨d0, -, -⟩, ⟨d1, -, -⟩, ⟨d2, -, -⟩, ⟨d3, -, -⟩, ⟨d4, -, -⟩, ⟨d5, -, -⟩, ⟨d6, -, -⟩, ⟨d7, -, -⟩⟩ := h8.all
      clear h8 q0 q1 q2 q3 q4 q5 q6 q7 c0 c1 c2 c3 c4 c5 c6 c7 f0 f1 f2 f3 f4 f5 f6 f7
      unfold six
      refine bodyPost_ret (v := .agg #[.int .i64 (el Z 0), .int .i64 (el Z 1), .int .i64 (el Z 2), .int .i64 (el Z 3), .int .i64 (el Z 4), .int .i64 (el Z 5), .int .i64 (el Z 6), .int .i64 (el Z 7)]) (by simp [results, Tryd.results20, go_sem, d0, d1, d2, d3, d4, d5, d6, d7]) rfl ⟨rfl, hb8⟩

/-- the bytes while they are laid, one by one. -/
def nbk (p : List Int) (q : Nat) (f : Int) : Nat → Nat → Int
  | 0 => byt p
  | k + 1 => fun j => if j = pos q k then fb f k else nbk p q f k j
theorem nbk_four (p : List Int) (q : Nat) (f : Int) (j : Nat) : nbk p q f 4 j = nb p q f j := by
  have h01 := pos_ne q 0 1 (by omega)
  have h12 := pos_ne q 1 2 (by omega)
  have h23 := pos_ne q 2 3 (by omega)
  show (if j = pos q 3 then fb f 3 else if j = pos q 2 then fb f 2 else if j = pos q 1 then fb f 1 else if j = pos q 0 then fb f 0 else byt p j) = _
  unfold nb
  by_cases e0 : j = pos q 0
  · rw [if_neg (by omega), if_neg (by omega), if_neg (by omega), if_pos e0, if_pos e0]
  · by_cases e1 : j = pos q 1
    · rw [if_neg (by omega), if_neg (by omega), if_pos e1, if_neg e0, if_pos e1]
    · by_cases e2 : j = pos q 2
      · rw [if_neg (by omega), if_pos e2, if_neg e0, if_neg e1, if_pos e2]
      · by_cases e3 : j = pos q 3
        · rw [if_pos e3, if_neg e0, if_neg e1, if_neg e2, if_pos e3]
        · rw [if_neg e3, if_neg e2, if_neg e1, if_neg e0, if_neg e0, if_neg e1, if_neg e2, if_neg e3]
theorem nbk_tz (p : List Int) (q : Nat) (f : Int) : ((List.range 8).map fun j => nbk p q f 4 (2 * j) * 256 + nbk p q f 4 (2 * j + 1)) = tz p q f := by
  unfold tz
  congr 1
  funext j
  rw [nbk_four, nbk_four]
  rfl
theorem pos_not8 (q k : Nat) : pos q k ≠ 8 := by have := pos_cases q k; omega
theorem top_cases (q k : Nat) : (q ≤ 8 ∧ 8 < q + k ∧ top q k = q + k + 1) ∨ ((8 < q ∨ q + k ≤ 8) ∧ top q k = q + k) := by
  unfold top
  split <;> omega

set_option maxHeartbeats 4000000 in
set_option maxRecDepth 100000 in
theorem rinto_any (p : List Int) (q : Nat) (f : Int) (w : World) (h : Ok6 p) (hn : LongP (8 * q)) (hf : IsF f) : Calls Tryd.prog 8 #[six p, .int .i64 (8 * q), .int .i64 f] w fun e w' => e = .returned (six (tz p q f)) ∧ Below w.heap.size w w' := by
  have hD := fun w => bytesof_any p w h
  have hE := fun w => rfour_any f w hf
  have hq : q ≤ 12 := by unfold LongP at hn; omega
  have hd : (8 * (q : Int)).tdiv 8 = q := by rw [Int.tdiv_eq_ediv_of_nonneg (by omega)]; omega
  have hS := six_new p w
  have hN : SixIn (w.heap.size + 1) [] ((w.alloc (.cells #[.int .i64 (el p 0), .int .i64 (el p 1), .int .i64 (el p 2), .int .i64 (el p 3), .int .i64 (el p 4), .int .i64 (el p 5), .int .i64 (el p 6), .int .i64 (el p 7)] 23)).alloc (.cells #[.int .i64 0, .int .i64 0, .int .i64 0, .int .i64 0, .int .i64 0, .int .i64 0, .int .i64 0, .int .i64 0] 23)) := by
    have := noughts_in (w.alloc (.cells #[.int .i64 (el p 0), .int .i64 (el p 1), .int .i64 (el p 2), .int .i64 (el p 3), .int .i64 (el p 4), .int .i64 (el p 5), .int .i64 (el p 6), .int .i64 (el p 7)] 23))
    unfold noughts at this
    simp only [World.size_alloc] at this
    exact this
  have HB0 := hide (show Below w.heap.size w ((w.alloc (.cells #[.int .i64 (el p 0), .int .i64 (el p 1), .int .i64 (el p 2), .int .i64 (el p 3), .int .i64 (el p 4), .int .i64 (el p 5), .int .i64 (el p 6), .int .i64 (el p 7)] 23)).alloc (.cells #[.int .i64 0, .int .i64 0, .int .i64 0, .int .i64 0, .int .i64 0, .int .i64 0, .int .i64 0, .int .i64 0] 23)) from ((Below.refl _ _).alloc (Nat.le_refl _) _).alloc (by simp) _)
  have HIN := hide (show ∀ i, i < 16 → 0 ≤ nbk p q f 4 i ∧ nbk p q f 4 i < 256 from fun i hi => by rw [nbk_four]; exact nb_in p q f h i hi)
  have HTZ := hide (nbk_tz p q f)
  generalize tz p q f = Z at HTZ
  clear h hn hf
  unfold six at hD
  unfold six
  go_enter Tryd.func8, Tryd.ntmps8
  go_wp2_with (first
    | (go_at_call 14; refine (hD _).mono ?_; rintro e w1 ⟨v, rfl, ho, hb1⟩; have HB1 := hide (bt HB0.out hb1); have HN1 := hide (hN.kept hb1); obtain ⟨g, cap, rfl, hcap, hg0, hB⟩ := own_bysF ho; have HY1 := hide hB; clear hb1 ho hS hN HB0 hB)
    | (go_at_call 19; refine (hE _).mono ?_; rintro e w2 ⟨rfl, rfl⟩))
  clear hD hE
  simp only [World.size_alloc] at hg0
  have hg1 : g < w1.heap.size := HY1.out.lt
  have hN1 := HN1.out.lt
  have hB4 : Below w1.heap.size w1 (w1.alloc (.cells #[.int .u8 (fb f 0), .int .u8 (fb f 1), .int .u8 (fb f 2), .int .u8 (fb f 3)] 5)) := (Below.refl _ _).alloc (Nat.le_refl _) _
  have HF4 := hide (show ∀ m, m < 4 → (w1.alloc (.cells #[.int .u8 (fb f 0), .int .u8 (fb f 1), .int .u8 (fb f 2), .int .u8 (fb f 3)] 5)).cell? ⟨w1.heap.size, m, none⟩ = some (.int .u8 (fb f m)) from fun m hm => by
    rcases (by omega : m = 0 ∨ m = 1 ∨ m = 2 ∨ m = 3) with rfl | rfl | rfl | rfl <;> simp)
  have HY4 := hide (HY1.out.kept hB4)
  have HN4 := hide (HN1.out.kept hB4)
  have HB4 := hide (bt HB1.out hB4)
  clear HY1 HN1 HB1 hB4 hd
  go_loopw [9, 10] (fun a b wr => ∃ (k i : Nat), k ≤ 4 ∧ i ≤ 16 ∧ a = .int .i64 k ∧ b = .int .i64 i ∧ Hid (k < 4 → i = top q k ∨ i = pos q k) ∧ Hid (BysF g (nbk p q f k) wr) ∧ Hid (∀ m, m < 4 → wr.cell? ⟨w1.heap.size, m, none⟩ = some (.int .u8 (fb f m))) ∧ Hid (SixIn (w.heap.size + 1) [] wr) ∧ Hid (Below w.heap.size w wr)) (fun _ b _ => 17 - (intOf b).toNat)
  case atStart => exact ⟨0, q, by omega, by omega, rfl, rfl, hide (fun _ => .inl (by have := top_cases q 0; omega)), HY4, HF4, HN4, HB4⟩
  case round =>
    obtain ⟨k, i, hk, hi, rfl, rfl, HI, HY, HF, HN, HB⟩ := hrel
    clear HY4 HF4 HN4 HB4
    by_cases hk4 : k < 4
    · have hii := HI.out hk4
      have hp16 := pos_lt hq hk4
      have hn8 := pos_not8 q k
      by_cases h8 : i = 8
      · subst h8
        have HI2 := hide (show k < 4 → 9 = top q k ∨ 9 = pos q k from fun _ => .inr (by
          rcases hii with e | e
          · exact (top_eight e.symm).1.symm
          · exact absurd e.symm hn8))
        clear hii hn8 hp16
        go_wp2
        go_roundw
        case rel => exact ⟨k, 9, by omega, by omega, rfl, by go_num, HI2, HY, HF, HN, HB⟩
        case measure => simp [intOf]
      · have hip : i = pos q k := by
          rcases hii with e | e
          · exact e.trans (top_other (fun h => h8 (e.trans h))).1.symm
          · exact e
        have h8b : ((i : Int) == 8) = false := by rw [beq_eq_false_iff_ne]; omega
        have cb := HY.out.cell i (by omega)
        have fb0 := HY.out.frozen i
        have cf := HF.out k hk4
        have HI2 := hide (show k + 1 < 4 → i + 1 = top q (k + 1) ∨ i + 1 = pos q (k + 1) from fun _ => .inl (by have := pos_cases q k; have := top_cases q (k + 1); omega))
        have HY2 := hide (HY.out.set i (fb f k) (nbk p q f (k + 1)) (fun j _ => by rw [hip]; rfl) (by omega))
        have HF2 := hide (show ∀ m, m < 4 → (wr.setCell ⟨g, i, none⟩ (.int .u8 (fb f k))).cell? ⟨w1.heap.size, m, none⟩ = some (.int .u8 (fb f m)) from fun m hm => by
          have hc := HF.out m hm
          unfold World.cell? at hc ⊢
          rw [Below.heap_setCell _ _ _ _ (by show w1.heap.size ≠ g; omega)]
          exact hc)
        have HN2 := hide (HN.out.other ⟨g, i, none⟩ (by show w.heap.size + 1 ≠ g; omega) (.int .u8 (fb f k)))
        have HB2 := hide (HB.out.setCell (p := ⟨g, i, none⟩) (by show w.heap.size ≤ g; omega) (.int .u8 (fb f k)))
        have hi15 : i < 16 := by omega
        generalize nbk p q f k i = o at cb
        generalize fb f k = x at cf HY2 HF2 HN2 HB2
        clear hip hii hn8 hp16 HY HF HN HB HI
        go_wp2
        go_roundw
        case rel => exact ⟨k + 1, i + 1, by omega, by omega, by go_num, by go_num, HI2, HY2, HF2, HN2, HB2⟩
        case measure => simp [intOf]; omega
    · obtain rfl : k = 4 := by omega
      have hA := rsixat_any g cap (nbk p q f 4) wr HY.out HIN.out
      rw [HTZ.out] at hA
      unfold six at hA
      clear HY HF HI HTZ HIN
      go_wp2_with (go_at_call 20; refine hA.mono ?_; rintro e w5 ⟨rfl, hb5⟩; have HN5 := hide (HN.out.kept hb5); have HB5 := hide (bt HB.out hb5); obtain ⟨⟨c0, f0, -⟩, ⟨c1, f1, -⟩, ⟨c2, f2, -⟩, ⟨c3, f3, -⟩, ⟨c4, f4, -⟩, ⟨c5, f5, -⟩, ⟨c6, f6, -⟩, ⟨c7, f7, -⟩⟩ := HN5.out.all)
      have h8 := HN5.out.put8 Z
      have hb8 := below8 HB5.out (Nat.le_succ _) Z
      unfold W8 at h8 hb8
      obtain ⟨⟨d0, -, -⟩, ⟨d1, -, -⟩, ⟨d2, -, -⟩, ⟨d3, -, -⟩, ⟨d4, -, -⟩, ⟨d5, -, -⟩, ⟨d6, -, -⟩, ⟨d7, -, -⟩⟩ := h8.all
      clear h8 c0 c1 c2 c3 c4 c5 c6 c7 f0 f1 f2 f3 f4 f5 f6 f7
      refine bodyPost_ret (v := .agg #[.int .i64 (el Z 0), .int .i64 (el Z 1), .int .i64 (el Z 2), .int .i64 (el Z 3), .int .i64 (el Z 4), .int .i64 (el Z 5), .int .i64 (el Z 6), .int .i64 (el Z 7)]) (by simp [results, Tryd.results8, go_sem, d0, d1, d2, d3, d4, d5, d6, d7]) rfl ⟨rfl, hb8⟩
end Go.Proofs.YtbgclnonlgflkaaDoor
