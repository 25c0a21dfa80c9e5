/- The document's own HeadOf. -/
import Derived.Test.YtdeofopandobhaaDoorYkM
import Derived.ArgAppend
import Derived.Lib.SlBytesConst
namespace Go.Proofs.YtdeofopandobhaaDoor
open Go.RowKit

theorem Own.of {base : Nat} {w : World} {v : Value} {zs : List Int} (ho : SM.Oct zs) (h : OwnG 5 base w v (u8s zs)) : Own base w v zs := by
  refine ⟨ho, ?_⟩
  have h' : w.ownsRow base 5 1 v (u8s zs).length (u8s zs) := h
  unfold u8s at h'
  rw [List.length_map] at h'
  exact h'
/-- slices of bytes made, held shut. -/
def hsl (ps : Array (Nat × Value)) : Sem Value := Instr.buildSlice 26 16 ps
theorem hsl_shut (ps : Array (Nat × Value)) : Instr.buildSlice 26 16 ps = hsl ps := rfl
theorem hsl_run (w : World) : (hsl #[(0, .int .u8 13), (1, .int .u8 10), (2, .int .u8 13), (3, .int .u8 10), (4, .int .u8 0), (5, .int .u8 13), (6, .int .u8 10), (7, .int .u8 81), (8, .int .u8 85), (9, .int .u8 73), (10, .int .u8 84), (11, .int .u8 10), (12, .int .u8 33), (13, .int .u8 33), (14, .int .u8 0), (15, .int .u8 36)]).run Tryd.prog w = .ok (.slice (some ⟨w.heap.size, 0, none⟩) 16 16) (w.alloc (.cells ((hd 33).map (Value.int .u8)).toArray 5)) := by kernel_rfl
def h4l (ps : Array (Nat × Value)) : Sem Value := Instr.buildSlice 26 4 ps
theorem h4l_shut (ps : Array (Nat × Value)) : Instr.buildSlice 26 4 ps = h4l ps := rfl
theorem h4l_run (f : List Int) (w : World) : (h4l #[(0, .int .u8 (el f 9 / 256)), (1, .int .u8 (el f 9 % 256)), (2, .int .u8 (el f 18 / 256)), (3, .int .u8 (el f 18 % 256))]).run Tryd.prog w = .ok (.slice (some ⟨w.heap.size, 0, none⟩) 4 4) (w.alloc (.cells ((lst f).map (Value.int .u8)).toArray 5)) := by kernel_rfl
/-- append onto a slice without room. -/
theorem app_grow {w : World} {ops : Array Oper} {rest : List Oper} {o : Oper} {a : Act} {Q : Exit → Act → World → Prop} (hgd : o.guard = none) (s x : Operand)
    (ho : o.op = .call { callee := .builtin .append, args := #[s, x], argTypes := #[26, 26] })
    (g off n cap : Nat) (zs : List Int) (hs : a.eval s = .slice (some ⟨g, off, none⟩) n cap) (hr : Row8 w (some ⟨g, off, none⟩) n cap zs) (ao : Option Addr) (len c : Nat) (ys : List Int)
    (hx : a.eval x = .slice ao len c) (hrow : Row8 w ao len c ys) (hfull : cap < n + len) (hp : 0 < len) (hlen : n + len ≤ 1000000000)
    (h : ∀ v' w', Own w.heap.size w' v' (zs ++ ys) → w.grownBy w' none → wpList Tryd.prog ops Q rest (a.put o.dst v') w') : wpList Tryd.prog ops Q (o :: rest) a w := by
  obtain ⟨i0, hi, hz0, hz1, hz2⟩ := info_parts Tryd.infoByte
  obtain ⟨s1, s2, s3, s4, s5⟩ := hr
  obtain ⟨r1, r2, r3, r4, r5⟩ := hrow
  obtain ⟨b2, off2, rfl, hc2⟩ := r5 hp
  refine wpList_append_grows w hgd s x 26 ho 5 i0 (.int .u8 0) 1 1 Tryd.underlying26 hi hz0 hz1 hz2 rfl (by decide) (some ⟨g, off, none⟩) n cap (zs.map (Value.int .u8)) hs (fun e => by cases e) (by simp [s1]) ?_ ⟨b2, off2, none⟩ len c (ys.map (Value.int .u8)) hx (by simp [r1]) ?_ (ints_oneCell .u8 ys) hfull (by unfold maxLen; omega) (by omega) ?_
  · intro b e j u hu
    cases e
    have hj : j < zs.length := by have := (List.getElem?_eq_some_iff.1 hu).1; simpa using this
    obtain ⟨b', o', e', hc⟩ := s5 (by omega)
    cases e'
    rw [add_pl, hc j (by omega)]
    rw [List.getElem?_map] at hu
    simp [hj] at hu ⊢
    exact hu
  · intro j u hu
    have hj : j < ys.length := by have := (List.getElem?_eq_some_iff.1 hu).1; simpa using this
    rw [add_pl, hc2 j (by omega)]
    rw [List.getElem?_map] at hu
    simp [hj] at hu ⊢
    exact hu
  · intro v' w' h1 h2
    refine h v' w' ⟨SM.oct_append _ _ s3 r3, ?_⟩ h2
    rw [List.map_append, List.length_append, s1, r1]
    exact h1
/-- a block of bytes that were a constant string: one place behind them is marked. -/
def MBk (B : Nat) (zs : List Int) (w : World) : Prop := w.heap[B]? = some (.cells (zs.map (Value.int .u8)).toArray 5 (16, 17))
theorem mbk_new (w : World) (zs : List Int) : MBk w.heap.size zs (w.alloc (.cells (zs.map (Value.int .u8)).toArray 5 (16, 17))) := heap_alloc_new w _
theorem MBk.lt {B : Nat} {zs : List Int} {w : World} (h : MBk B zs w) : B < w.heap.size := (Array.getElem?_eq_some_iff.1 h).1
theorem MBk.kept {B : Nat} {zs : List Int} {w w' : World} (h : MBk B zs w) (hb : Below w.heap.size w w') : MBk B zs w' := (hb.block B h.lt).trans h
theorem MBk.cell {B : Nat} {zs : List Int} {w : World} (h : MBk B zs w) (j : Nat) (hj : j < zs.length) : w.cell? ⟨B, j, none⟩ = some (.int .u8 (zs.getD j 0)) := by
  unfold MBk at h
  simp [World.cell?, h, hj]
theorem MBk.frozen {B : Nat} {zs : List Int} {w : World} (h : MBk B zs w) (j : Nat) (hj : j < 16) : w.frozen? ⟨B, j, none⟩ = false := by
  unfold MBk at h
  simp [World.frozen?, h]
  omega
theorem MBk.set {B : Nat} {zs : List Int} {w : World} (h : MBk B zs w) (j : Nat) (v : Int) : MBk B (zs.set j v) (w.setCell ⟨B, j, none⟩ (.int .u8 v)) := by
  unfold MBk at h ⊢
  rw [setCell_eq_setRow w B j _ 5 (16, 17) (.int .u8 v) h, setRow_heap w B _ _ 5 (16, 17) h]
  simp [List.map_set]
theorem MBk.row8 {B : Nat} {zs : List Int} {w : World} (h : MBk B zs w) (ho : SM.Oct zs) (n cap : Nat) (hn : zs.length = n) (hm : n ≤ maxLen) : Row8 w (some ⟨B, 0, none⟩) n cap zs :=
  ⟨hn, hm, ho, (fun e => by cases e), fun _ => ⟨B, 0, rfl, fun i hi => by rw [Nat.zero_add]; exact h.cell i (by omega)⟩⟩
def HI (w : World) (f : List Int) (W : World) : Prop := FlIn w.heap.size f W ∧ Below w.heap.size w W
theorem HI.kept {w : World} {f : List Int} {W W' : World} (h : HI w f W) (hb : Below W.heap.size W W') : HI w f W' := ⟨h.1.kept hb, bt h.2 hb⟩
theorem HI.gr {w : World} {f : List Int} {W W' : World} (h : HI w f W) {row : Option Nat} (hg : W.grownBy W' row) (hv : ∀ k, row = some k → w.heap.size + 1 ≤ k) : HI w f W' := by
  have hs : w.heap.size < W.heap.size := h.1.lt
  refine ⟨?_, h.2.grown hg h.2.size (fun k e => by have := hv k e; omega)⟩
  show W'.heap[w.heap.size]? = _
  rw [hg.block w.heap.size hs (fun e => by have := hv _ e.symm; omega)]
  exact h.1
theorem HI.set {w : World} {f : List Int} {W : World} (h : HI w f W) {B : Nat} (hB : w.heap.size < B) (j : Nat) (v : Value) : HI w f (W.setCell ⟨B, j, none⟩ v) :=
  ⟨(((Below.refl B W).setCell (p := ⟨B, j, none⟩) (Nat.le_refl _) v).block w.heap.size hB).trans h.1, h.2.setCell (p := ⟨B, j, none⟩) (Nat.le_of_lt hB) v⟩
theorem Own.bl {base : Nat} {w : World} {v : Value} {zs : List Int} (h : Own base w v zs) : ∀ k, v.ownBlock = some k → base ≤ k := by
  intro k e
  rcases h.2.2 with ⟨rfl, _⟩ | ⟨g, cap, cur, rfl, hb, _⟩
  · simp [Value.ownBlock] at e
  · have : g = k := by simpa [Value.ownBlock] using e
    omega
attribute [local go_sem ↓] hload_shut hsl_shut h4l_shut
set_option maxRecDepth 100000 in
set_option maxHeartbeats 4000000 in
theorem head_any (f : List Int) (w : World) (ho : okf f = true) :
    Calls Tryd.prog 6 #[.agg (flC f)] w fun e w' => ∃ v, e = .returned v ∧ Own (w.heap.size + 1) w' v (hb f) ∧ Below w.heap.size w w' := by
  have HK := hide (show HI w f (w.alloc (.cells (flC f) 25)) from ⟨fl_new f w, al_below _ _⟩)
  have hkc := okf_kind ho
  have HOk := hide (okf_six ho)
  have h9 := okf_el ho 9 (by omega)
  have h18 := okf_el ho 18 (by omega)
  have hs := hsl_run
  have HHb := hide (show hb f = hd (kd f) ++ by16 (cli f) 8 ++ by16 (dst f) 8 ++ lst f from rfl)
  have HOc := hide (by16_oct HOk.out.1 8 (Nat.le_refl _))
  have HOd := hide (by16_oct HOk.out.2 8 (Nat.le_refl _))
  have HOl := hide (lst_oct ho)
  have HLc := hide (by16_len (cli f) 8)
  have HLd := hide (by16_len (dst f) 8)
  have HBc := hide (fun W => bytesof_any (cli f) W HOk.out.1)
  have HBd := hide (fun W => bytesof_any (dst f) W HOk.out.2)
  clear ho
  go_enter Tryd.func6, Tryd.ntmps6
  go_upto_region 1 with fail
  generalize w.alloc _ = W at HK ⊢
  have kc := fun (w : World) (C : Array Value) (n c : Nat) => Lib.run_convert_bytes_const (P := Tryd.prog) w 26 5 C n c Tryd.underlying26 Tryd.underlying5
  go_upto_region 2 with fail
  have HB1 := hide (show w.heap.size < W.heap.size from HK.out.1.lt)
  have HBk := hide (show MBk W.heap.size (hd 33) (W.alloc (.cells ((hd 33).map (Value.int .u8)).toArray 5 ((hd 33).length, (hd 33).length + 1))) from mbk_new W (hd 33))
  replace HK := hide (HK.out.kept (al_below W (.cells ((hd 33).map (Value.int .u8)).toArray 5 ((hd 33).length, (hd 33).length + 1))))
  clear kc
  generalize W.alloc _ = W1 at HK HBk ⊢
  generalize W.heap.size = B at HB1 HBk ⊢
  have c0 := HK.out.1.cell 0 (by omega)
  have HLn := hide (show ∀ k, (hd k ++ by16 (cli f) 8).length + 2 * 8 ≤ 1000000000 from fun k => by rw [List.length_append, HLc.out]; show 16 + _ + _ ≤ _; omega)
  have HLm := hide (show ∀ k, (hd k ++ by16 (cli f) 8 ++ by16 (dst f) 8).length + 4 ≤ 1000000000 from fun k => by rw [List.length_append, List.length_append, HLc.out, HLd.out]; show 16 + _ + _ + _ ≤ _; omega)
  rcases hkc with h6 | h17
  · have HKd := hide (show kd f = 33 by unfold kd; rw [h6]; rfl)
    rw [h6] at c0
    clear h6
    replace HLn := hide (HLn.out 33)
    replace HLm := hide (HLm.out 33)
    go_upto_region 4 with fail
    clear c0 hs
    have HOh := hide (hd_oct (k := 33) (by decide) (by decide))
    have HK2 := HK
    clear HK
    have g1 := HK2.out.1.hc
    go_upto_region 5 with (first
      | (go_at_call 14; refine (HBc.out _).mono ?_; rintro r w3 ⟨v3, rfl, o3, hb3⟩; replace o3 := hide (Own.of HOc.out o3); replace HK2 := hide (HK2.out.kept hb3); replace HBk := hide (HBk.out.kept hb3); clear hb3 g1; obtain ⟨a3, c3, rfl, r3, -⟩ := o3.out.row8; replace r3 := hide r3; rw [HLc.out] at r3 ⊢)
      | (at_builtin; (with_reducible refine app_grow rfl (.tmp 11) (.tmp 14) rfl B 0 16 16 (hd 33) rfl (HBk.out.row8 HOh.out 16 16 rfl (by decide)) a3 (2 * 8) c3 (by16 (cli f) 8) rfl r3.out (by decide) (by decide) (by decide) ?_); intro v4 w4 o4 g4; replace o4 := hide (o4.mono (show w.heap.size + 1 ≤ w3.heap.size from HK2.out.1.lt)); replace HK2 := hide (HK2.out.gr g4 (fun k e => by cases e)); clear g4 HBk r3 o3))
    have g1 := HK2.out.1.hd
    go_upto_region 6 with (first
      | (go_at_call 14; refine (HBd.out _).mono ?_; rintro r w5 ⟨v5, rfl, o5, hb5⟩; replace o5 := hide (Own.of HOd.out o5); replace HK2 := hide (HK2.out.kept hb5); replace o4 := hide (o4.out.kept hb5); clear hb5 g1; obtain ⟨a5, c5, rfl, r5, -⟩ := o5.out.row8; replace r5 := hide r5; rw [HLd.out] at r5 ⊢; have HSz := hide (show w.heap.size + 1 ≤ w5.heap.size from HK2.out.1.lt))
      | (at_builtin; (with_reducible refine wpList_app rfl (.tmp 16) (.tmp 19) rfl (w.heap.size + 1) v4 (hd 33 ++ by16 (cli f) 8) rfl o4.out a5 (2 * 8) c5 (by16 (dst f) 8) rfl r5.out HLn.out HSz.out ?_); intro v6 w6 o6 g6; replace HK2 := hide (HK2.out.gr g6 o4.out.bl); replace o6 := hide o6; clear g6 o4 r5 o5 HSz))
    have c9 := HK2.out.1.cell 9 (by omega)
    have c18 := HK2.out.1.cell 18 (by omega)
    have HB6 := hide (al_below w6 (.cells ((lst f).map (Value.int .u8)).toArray 5))
    have HK6 := hide (HK2.out.kept HB6.out)
    have HO6 := hide (o6.out.kept HB6.out)
    have r6 := hide ((blk_new w6 (lst f)).row8 HOl.out 4 4 rfl (by decide))
    have HSz := hide (Nat.le_trans (show w.heap.size + 1 ≤ w6.heap.size from HK2.out.1.lt) HB6.out.size)
    clear HB6
    have hl := h4l_run f
    generalize el f 9 = p at h9 c9 hl
    generalize el f 18 = d at h18 c18 hl
    obtain ⟨p0, p1⟩ := h9
    obtain ⟨d0, d1⟩ := h18
    have q1 : IntKind.i64.wrap (p.tdiv 256) = p / 256 := by rw [Int.tdiv_eq_ediv_of_nonneg p0, IntKind.wrap_i64]; omega
    have q2 : IntKind.u8.wrap (p / 256) = p / 256 := by rw [IntKind.wrap_u8]; omega
    have q3 : p.tmod 256 = p % 256 := Int.tmod_eq_emod_of_nonneg p0
    have q4 : IntKind.u8.wrap (p % 256) = p % 256 := by rw [IntKind.wrap_u8]; omega
    have q5 : IntKind.i64.wrap (d.tdiv 256) = d / 256 := by rw [Int.tdiv_eq_ediv_of_nonneg d0, IntKind.wrap_i64]; omega
    have q6 : IntKind.u8.wrap (d / 256) = d / 256 := by rw [IntKind.wrap_u8]; omega
    have q7 : d.tmod 256 = d % 256 := Int.tmod_eq_emod_of_nonneg d0
    have q8 : IntKind.u8.wrap (d % 256) = d % 256 := by rw [IntKind.wrap_u8]; omega
    go_wp2_with (at_builtin; (with_reducible refine wpList_app rfl (.tmp 21) (.tmp 38) rfl (w.heap.size + 1) v6 (hd 33 ++ by16 (cli f) 8 ++ by16 (dst f) 8) rfl HO6.out (some ⟨w6.heap.size, 0, none⟩) 4 4 (lst f) rfl r6.out HLm.out HSz.out ?_); intro v7 w7 o7 g7; replace HK6 := hide (HK6.out.gr g7 HO6.out.bl); replace o7 := hide o7; clear g7 HO6 r6)
    go_ret
    refine ⟨_, rfl, ?_, HK6.out.2⟩
    rw [HHb.out, HKd.out]
    exact o7.out
  · have HKd := hide (show kd f = 34 by unfold kd; rw [h17]; rfl)
    rw [h17] at c0
    clear h17
    replace HLn := hide (HLn.out 34)
    replace HLm := hide (HLm.out 34)
    have c13 := HBk.out.cell 13 (by decide)
    have z13 := HBk.out.frozen 13 (by decide)
    have HBk2 := hide (HBk.out.set 13 34)
    have HK2 := hide (HK.out.set HB1.out 13 (.int .u8 34))
    go_upto_region 4 with fail
    clear c0 c13 z13 hs HBk HK
    generalize W1.setCell _ _ = W2 at HBk2 HK2 ⊢
    have HOh := hide (hd_oct (k := 34) (by decide) (by decide))
    have HBk := hide (show MBk B (hd 34) W2 from HBk2.out)
    clear HBk2
    have g1 := HK2.out.1.hc
    go_upto_region 5 with (first
      | (go_at_call 14; refine (HBc.out _).mono ?_; rintro r w3 ⟨v3, rfl, o3, hb3⟩; replace o3 := hide (Own.of HOc.out o3); replace HK2 := hide (HK2.out.kept hb3); replace HBk := hide (HBk.out.kept hb3); clear hb3 g1; obtain ⟨a3, c3, rfl, r3, -⟩ := o3.out.row8; replace r3 := hide r3; rw [HLc.out] at r3 ⊢)
      | (at_builtin; (with_reducible refine app_grow rfl (.tmp 11) (.tmp 14) rfl B 0 16 16 (hd 34) rfl (HBk.out.row8 HOh.out 16 16 rfl (by decide)) a3 (2 * 8) c3 (by16 (cli f) 8) rfl r3.out (by decide) (by decide) (by decide) ?_); intro v4 w4 o4 g4; replace o4 := hide (o4.mono (show w.heap.size + 1 ≤ w3.heap.size from HK2.out.1.lt)); replace HK2 := hide (HK2.out.gr g4 (fun k e => by cases e)); clear g4 HBk r3 o3))
    have g1 := HK2.out.1.hd
    go_upto_region 6 with (first
      | (go_at_call 14; refine (HBd.out _).mono ?_; rintro r w5 ⟨v5, rfl, o5, hb5⟩; replace o5 := hide (Own.of HOd.out o5); replace HK2 := hide (HK2.out.kept hb5); replace o4 := hide (o4.out.kept hb5); clear hb5 g1; obtain ⟨a5, c5, rfl, r5, -⟩ := o5.out.row8; replace r5 := hide r5; rw [HLd.out] at r5 ⊢; have HSz := hide (show w.heap.size + 1 ≤ w5.heap.size from HK2.out.1.lt))
      | (at_builtin; (with_reducible refine wpList_app rfl (.tmp 16) (.tmp 19) rfl (w.heap.size + 1) v4 (hd 34 ++ by16 (cli f) 8) rfl o4.out a5 (2 * 8) c5 (by16 (dst f) 8) rfl r5.out HLn.out HSz.out ?_); intro v6 w6 o6 g6; replace HK2 := hide (HK2.out.gr g6 o4.out.bl); replace o6 := hide o6; clear g6 o4 r5 o5 HSz))
    have c9 := HK2.out.1.cell 9 (by omega)
    have c18 := HK2.out.1.cell 18 (by omega)
    have HB6 := hide (al_below w6 (.cells ((lst f).map (Value.int .u8)).toArray 5))
    have HK6 := hide (HK2.out.kept HB6.out)
    have HO6 := hide (o6.out.kept HB6.out)
    have r6 := hide ((blk_new w6 (lst f)).row8 HOl.out 4 4 rfl (by decide))
    have HSz := hide (Nat.le_trans (show w.heap.size + 1 ≤ w6.heap.size from HK2.out.1.lt) HB6.out.size)
    clear HB6
    have hl := h4l_run f
    generalize el f 9 = p at h9 c9 hl
    generalize el f 18 = d at h18 c18 hl
    obtain ⟨p0, p1⟩ := h9
    obtain ⟨d0, d1⟩ := h18
    have q1 : IntKind.i64.wrap (p.tdiv 256) = p / 256 := by rw [Int.tdiv_eq_ediv_of_nonneg p0, IntKind.wrap_i64]; omega
    have q2 : IntKind.u8.wrap (p / 256) = p / 256 := by rw [IntKind.wrap_u8]; omega
    have q3 : p.tmod 256 = p % 256 := Int.tmod_eq_emod_of_nonneg p0
    have q4 : IntKind.u8.wrap (p % 256) = p % 256 := by rw [IntKind.wrap_u8]; omega
    have q5 : IntKind.i64.wrap (d.tdiv 256) = d / 256 := by rw [Int.tdiv_eq_ediv_of_nonneg d0, IntKind.wrap_i64]; omega
    have q6 : IntKind.u8.wrap (d / 256) = d / 256 := by rw [IntKind.wrap_u8]; omega
    have q7 : d.tmod 256 = d % 256 := Int.tmod_eq_emod_of_nonneg d0
    have q8 : IntKind.u8.wrap (d % 256) = d % 256 := by rw [IntKind.wrap_u8]; omega
    go_wp2_with (at_builtin; (with_reducible refine wpList_app rfl (.tmp 21) (.tmp 38) rfl (w.heap.size + 1) v6 (hd 34 ++ by16 (cli f) 8 ++ by16 (dst f) 8) rfl HO6.out (some ⟨w6.heap.size, 0, none⟩) 4 4 (lst f) rfl r6.out HLm.out HSz.out ?_); intro v7 w7 o7 g7; replace HK6 := hide (HK6.out.gr g7 HO6.out.bl); replace o7 := hide o7; clear g7 HO6 r6)
    go_ret
    refine ⟨_, rfl, ?_, HK6.out.2⟩
    rw [HHb.out, HKd.out]
    exact o7.out
end Go.Proofs.YtdeofopandobhaaDoor
