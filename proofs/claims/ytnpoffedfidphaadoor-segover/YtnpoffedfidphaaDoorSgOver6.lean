/- Over6, the program's and the document's own, by contracts. -/
import Derived.Test.YtnpoffedfidphaaDoorSgRef3
namespace Go.Proofs.YtnpoffedfidphaaDoor
open Go.RowKit
attribute [local go_sem ↓] Go.wp_at_zero Go.wp_at_succ

theorem six_al (z : List Int) (w : World) : SixIn w.heap.size z (w.alloc (.cells (sixC z) 43)) := six_new z w
theorem six_al2 (z : List Int) (w : World) (o : Obj) : SixIn (w.heap.size + 1) z ((w.alloc o).alloc (.cells (sixC z) 43)) := by
  have := six_al z (w.alloc o)
  rw [World.size_alloc] at this
  exact this
theorem abytes_own (z : List Int) (w : World) (hz : Ok6 z) : Calls Tryd.prog 45 #[.agg (sixC z)] w fun e w' => ∃ a c, e = .returned (.tuple #[.slice a 16 c, .nilIface]) ∧ Gr w w' (.slice a 16 c) (by16 z 8) := by
  refine (bytes_ok z w hz).mono ?_
  rintro e w' ⟨v, rfl, ho, hb⟩
  have ho' : Own w.heap.size w' v (by16 z 8) := ⟨oct_by16 z hz 8 (by omega), by
    unfold OwnG u8s at ho
    rw [List.length_map] at ho
    exact ho⟩
  obtain ⟨a, c, hv, hr, _⟩ := ho'.row8
  rw [by16_len] at hv
  subst hv
  exact ⟨a, c, rfl, ho', hb⟩
theorem abytes_bad (z : List Int) (w : World) (hz : ¬ Ok6 z) : Calls Tryd.prog 45 #[.agg (sixC z)] w fun e w' => e = .returned (.tuple #[.slice none 0 0, .iface 25 (.int .i64 1)]) ∧ Below w.heap.size w w' := bytes_bad z w hz
set_option maxRecDepth 100000 in
set_option maxHeartbeats 2000000 in
theorem over6_any (s d : List Int) (k n : Int) (w : World) (hs : Ok6 s) (hd : Ok6 d) (R : Int) (E : Value) (hO : ∀ W0 W v, Gr W0 W v (by16 s 8 ++ by16 d 8) → Calls Tryd.prog 41 #[v, .int .i64 k, .int .i64 n] W fun e w' => e = .returned (.tuple #[.int .i64 R, E]) ∧ Below W0.heap.size W0 w') :
    Calls Tryd.prog 19 #[.agg (sixC s), .agg (sixC d), .int .i64 k, .int .i64 n] w fun e w' => e = .returned (.tuple #[.int .i64 R, E]) ∧ Below w.heap.size w w' := by
  have HS := hide (fun w => abytes_own s w hs)
  have HD := hide (fun w => abytes_own d w hd)
  have HO := hide hO
  have HLs := hide (by16_len s 8)
  clear hs hd hO
  generalize by16 s 8 = S at HS HO HLs
  generalize by16 d 8 = D at HD HO
  have b1 := al_below w (.cells (sixC s) 43)
  have b2 := al_below (w.alloc (.cells (sixC s) 43)) (.cells (sixC d) 43)
  have HB := hide (bt b1 b2)
  have P1 := hide ((six_al s w).kept b2)
  have P2 := hide (six_al2 d w (.cells (sixC s) 43))
  clear b1 b2
  go_enter Tryd.func19, Tryd.ntmps19
  go_upto_region 1 with fail
  generalize (w.alloc (.cells (sixC s) 43)).alloc (.cells (sixC d) 43) = W at HB P1 P2 ⊢
  go_upto_region 4 with (first
    | (refine at_load6 rfl (.tmp 4) rfl rfl P1.out ?_)
    | (go_at_call 45; (with_reducible refine (HS.out _).mono ?_); rintro e w1 ⟨a1, c1, rfl, hg1⟩; replace hg1 := hide hg1))
  replace P2 := hide (P2.out.kept hg1.out.2)
  go_upto_region 7 with (first
    | (refine at_load6 rfl (.tmp 5) rfl rfl P2.out ?_)
    | (go_at_call 45; (with_reducible refine (HD.out _).mono ?_); rintro e w2 ⟨a2, c2, rfl, hg2⟩; replace hg1 := hide (hg1.out.below hg2.2); replace hg2 := hide hg2))
  go_wp2_with (first
    | (at_builtin; refine gr_app rfl (.tmp 29) (.tmp 30) rfl rfl hg1.out rfl hg2.out.1.toRow (by rw [HLs.out]; omega) ?_; intro v3 w3 hg3; replace hg3 := hide hg3)
    | (go_at_call 41; refine (HO.out _ _ _ hg3.out).mono ?_; rintro e w4 ⟨rfl, hb4⟩; replace HB := hide (HB.out.trans (hb4.mono HB.out.size)); clear hb4))
  go_ret2
  exact ⟨rfl, HB.out⟩
set_option maxRecDepth 100000 in
set_option maxHeartbeats 2000000 in
theorem over6_bad (s d : List Int) (k n : Int) (w : World) (h : ¬ (Ok6 s ∧ Ok6 d)) :
    Calls Tryd.prog 19 #[.agg (sixC s), .agg (sixC d), .int .i64 k, .int .i64 n] w fun e w' => e = .returned (.tuple #[.int .i64 0, err 1]) ∧ Below w.heap.size w w' := by
  unfold err
  have b1 := al_below w (.cells (sixC s) 43)
  have b2 := al_below (w.alloc (.cells (sixC s) 43)) (.cells (sixC d) 43)
  have HB := hide (bt b1 b2)
  have P1 := hide ((six_al s w).kept b2)
  have P2 := hide (six_al2 d w (.cells (sixC s) 43))
  clear b1 b2
  by_cases hs : Ok6 s
  · have hd : ¬ Ok6 d := fun hd => h ⟨hs, hd⟩
    have HS := hide (fun w => abytes_own s w hs)
    have HD := hide (fun w => abytes_bad d w hd)
    clear hs hd h
    generalize by16 s 8 = S at HS
    go_enter Tryd.func19, Tryd.ntmps19
    go_upto_region 1 with fail
    generalize (w.alloc (.cells (sixC s) 43)).alloc (.cells (sixC d) 43) = W at HB P1 P2 ⊢
    go_upto_region 4 with (first
      | (refine at_load6 rfl (.tmp 4) rfl rfl P1.out ?_)
      | (go_at_call 45; (with_reducible refine (HS.out _).mono ?_); rintro e w1 ⟨a1, c1, rfl, hg1⟩; replace hg1 := hide hg1))
    replace P2 := hide (P2.out.kept hg1.out.2)
    replace HB := hide (bt HB.out hg1.out.2)
    go_wp2_with (first
      | (refine at_load6 rfl (.tmp 5) rfl rfl P2.out ?_)
      | (go_at_call 45; (with_reducible refine (HD.out _).mono ?_); rintro e w2 ⟨rfl, hb2⟩; replace HB := hide (bt HB.out hb2); clear hb2))
    go_ret2
    exact ⟨rfl, HB.out⟩
  · have HS := hide (fun w => abytes_bad s w hs)
    clear hs h
    go_enter Tryd.func19, Tryd.ntmps19
    go_upto_region 1 with fail
    generalize (w.alloc (.cells (sixC s) 43)).alloc (.cells (sixC d) 43) = W at HB P1 P2 ⊢
    go_wp2_with (first
      | (refine at_load6 rfl (.tmp 4) rfl rfl P1.out ?_)
      | (go_at_call 45; (with_reducible refine (HS.out _).mono ?_); rintro e w1 ⟨rfl, hb1⟩; replace HB := hide (bt HB.out hb1); clear hb1))
    go_ret2
    exact ⟨rfl, HB.out⟩
theorem SixIn.hl {B : Nat} {z : List Int} {w : World} (p : SixIn B z w) : (hload (.pointer (some ⟨B, 0, none⟩))).run Tryd.prog w = .ok (.agg (sixC z)) w :=
  run_loadAt_mid w B 0 43 (sixC z).toList _ (fun j v hv => by
    rw [Nat.zero_add]
    have hj : j < 8 := (List.getElem?_eq_some_iff.1 hv).1
    rw [(p.facts j hj).1]
    rcases (by omega : j = 0 ∨ j = 1 ∨ j = 2 ∨ j = 3 ∨ j = 4 ∨ j = 5 ∨ j = 6 ∨ j = 7) with rfl | rfl | rfl | rfl | rfl | rfl | rfl | rfl <;> exact hv) Tryd.underlying43 rfl (by kernel_rfl)
attribute [local go_sem ↓] hload_shut
set_option maxRecDepth 100000 in
set_option maxHeartbeats 4000000 in
theorem rover6_any (s d : List Int) (k n : Int) (w : World) (hs : Ok6 s) (hd : Ok6 d) (R E : Int) (hO : ∀ W a1 c1 a2 c2, Row8 W a1 16 c1 (by16 s 8) → Row8 W a2 16 c2 (by16 d 8) → Calls Tryd.prog 38 #[.slice a1 16 c1, .slice a2 16 c2, .int .i64 k, .int .i64 n] W fun e w' => e = .returned (.tuple #[.int .i64 R, .int .i64 E]) ∧ Below W.heap.size W w') :
    Calls Tryd.prog 18 #[.agg (sixC s), .agg (sixC d), .int .i64 k, .int .i64 n] w fun e w' => e = .returned (.tuple #[.int .i64 R, .int .i64 E]) ∧ Below w.heap.size w w' := by
  have HF1 := hide (fun w => fault_ok s w hs)
  have HF2 := hide (fun w => fault_ok d w hd)
  have HS := hide (fun w => rbytes_ok s w hs)
  have HD := hide (fun w => rbytes_ok d w hd)
  have HO := hide hO
  clear hs hd hO
  generalize by16 s 8 = S at HS HO
  generalize by16 d 8 = D at HD HO
  have b1 := al_below w (.cells (sixC s) 43)
  have b2 := al_below (w.alloc (.cells (sixC s) 43)) (.cells (sixC d) 43)
  have HB := hide (bt b1 b2)
  have P1 := hide ((six_al s w).kept b2)
  have P2 := hide (six_al2 d w (.cells (sixC s) 43))
  clear b1 b2
  go_enter Tryd.func18, Tryd.ntmps18
  go_upto_region 1 with fail
  generalize (w.alloc (.cells (sixC s) 43)).alloc (.cells (sixC d) 43) = W at HB P1 P2 ⊢
  have l1 := P1.out.hl
  go_upto_region 3 with (first
    | (go_at_call 43; (with_reducible refine (HF1.out _).mono ?_); rintro e w1 ⟨rfl, hb1⟩; replace HB := hide (bt HB.out hb1); replace P1 := hide (P1.out.kept hb1); replace P2 := hide (P2.out.kept hb1); clear hb1 l1; have l1 := P2.out.hl)
    | (go_at_call 43; (with_reducible refine (HF2.out _).mono ?_); rintro e w2 ⟨rfl, hb2⟩; replace HB := hide (bt HB.out hb2); replace P1 := hide (P1.out.kept hb2); replace P2 := hide (P2.out.kept hb2); clear hb2 l1))
  replace HB := hide (bt HB.out (Below.refl w2.heap.size w2).drew)
  replace P1 := hide (P1.out.kept (Below.refl w2.heap.size w2).drew)
  replace P2 := hide (P2.out.kept (Below.refl w2.heap.size w2).drew)
  go_region_held3 (fun w' => (hload (.pointer (some ⟨w.heap.size, 0, none⟩))).run Tryd.prog w' = .ok (.agg (sixC s)) w' ∧ (hload (.pointer (some ⟨w.heap.size + 1, 0, none⟩))).run Tryd.prog w' = .ok (.agg (sixC d)) w')
    (first
      | exact ⟨P1.out.hl, P2.out.hl⟩
      | go_keep)
    (first
      | (go_at_call 44; (with_reducible refine (HS.out _).mono ?_); rintro e w3 ⟨a3, c3, rfl, hr3, hb3⟩; replace HB := hide (bt HB.out hb3); replace P1 := hide (P1.out.kept hb3); replace P2 := hide (P2.out.kept hb3); replace hr3 := hide hr3; clear hb3)
      | (go_at_call 44; (with_reducible refine (HD.out _).mono ?_); rintro e w4 ⟨a4, c4, rfl, hr4, hb4⟩; replace HB := hide (bt HB.out hb4); replace P1 := hide (P1.out.kept hb4); replace P2 := hide (P2.out.kept hb4); replace hr3 := hide (hr3.out.below hb4); replace hr4 := hide hr4; clear hb4)
      | (go_at_call 38; refine (HO.out _ _ _ _ _ hr3.out hr4.out).mono ?_; rintro e w5 ⟨rfl, hb5⟩; replace HB := hide (bt HB.out hb5); replace P1 := hide (P1.out.kept hb5); replace P2 := hide (P2.out.kept hb5); clear hb5))
  go_wp2
  go_ret2
  exact ⟨rfl, HB.out⟩
set_option maxRecDepth 100000 in
set_option maxHeartbeats 4000000 in
theorem rover6_bad (s d : List Int) (k n : Int) (w : World) (h : ¬ (Ok6 s ∧ Ok6 d)) :
    Calls Tryd.prog 18 #[.agg (sixC s), .agg (sixC d), .int .i64 k, .int .i64 n] w fun e w' => e = .returned (.tuple #[.int .i64 0, .int .i64 1]) ∧ Below w.heap.size w w' := by
  have b1 := al_below w (.cells (sixC s) 43)
  have b2 := al_below (w.alloc (.cells (sixC s) 43)) (.cells (sixC d) 43)
  have HB := hide (bt b1 b2)
  have P1 := hide ((six_al s w).kept b2)
  have P2 := hide (six_al2 d w (.cells (sixC s) 43))
  clear b1 b2
  by_cases hs : Ok6 s
  · have hd : ¬ Ok6 d := fun hd => h ⟨hs, hd⟩
    have HF1 := hide (fun w => fault_ok s w hs)
    have HF2 := hide (fun w => fault_bad d w hd)
    clear hs hd h
    go_enter Tryd.func18, Tryd.ntmps18
    go_upto_region 1 with fail
    generalize (w.alloc (.cells (sixC s) 43)).alloc (.cells (sixC d) 43) = W at HB P1 P2 ⊢
    have l1 := P1.out.hl
    go_wp2_with (first
      | (go_at_call 43; (with_reducible refine (HF1.out _).mono ?_); rintro e w1 ⟨rfl, hb1⟩; replace HB := hide (bt HB.out hb1); replace P2 := hide (P2.out.kept hb1); clear hb1 l1; have l1 := P2.out.hl)
      | (go_at_call 43; (with_reducible refine (HF2.out _).mono ?_); rintro e w2 ⟨rfl, hb2⟩; replace HB := hide (bt HB.out hb2); clear hb2 l1))
    go_ret2
    exact ⟨rfl, HB.out⟩
  · have HF1 := hide (fun w => fault_bad s w hs)
    clear hs h
    go_enter Tryd.func18, Tryd.ntmps18
    go_upto_region 1 with fail
    generalize (w.alloc (.cells (sixC s) 43)).alloc (.cells (sixC d) 43) = W at HB P1 P2 ⊢
    have l1 := P1.out.hl
    go_wp2_with (go_at_call 43; (with_reducible refine (HF1.out _).mono ?_); rintro e w1 ⟨rfl, hb1⟩; replace HB := hide (bt HB.out hb1); clear hb1 l1)
    go_ret2
    exact ⟨rfl, HB.out⟩
end Go.Proofs.YtnpoffedfidphaaDoor
