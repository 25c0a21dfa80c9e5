/- Package proxy: codeOf and Encode, by contracts. -/
import Derived.Test.YtdeofopandobhaaDoorYpA
import Derived.Test.YtdeofopandobhaaDoorYpB
import Derived.Test.YtdeofopandobhaaDoorYkG
import Derived.Lib.AppendStr
namespace Go.Proofs.YtdeofopandobhaaDoor
open Go.RowKit

/-- what stands ahead of every head. -/
def h12 : List Int := [13, 10, 13, 10, 0, 13, 10, 81, 85, 73, 84, 10]
theorem h12_oct : SM.Oct h12 := by
  intro j
  by_cases hj : j < 12
  · rcases (by omega : j = 0 ∨ j = 1 ∨ j = 2 ∨ j = 3 ∨ j = 4 ∨ j = 5 ∨ j = 6 ∨ j = 7 ∨ j = 8 ∨ j = 9 ∨ j = 10 ∨ j = 11) with rfl | rfl | rfl | rfl | rfl | rfl | rfl | rfl | rfl | rfl | rfl | rfl <;> decide
  · rw [List.getD_eq_getElem?_getD, List.getElem?_eq_none (by show 12 ≤ j; omega)]
    exact ⟨by simp, by simp⟩
def h4 (k : Int) : List Int := [33, k, 0, 36]
theorem h4_oct {k : Int} (h0 : 0 ≤ k) (h1 : k ≤ 255) : SM.Oct (h4 k) := by
  intro j
  by_cases hj : j < 4
  · rcases (by omega : j = 0 ∨ j = 1 ∨ j = 2 ∨ j = 3) with rfl | rfl | rfl | rfl
    all_goals first | exact ⟨h0, h1⟩ | (constructor <;> simp [h4])
  · rw [List.getD_eq_getElem?_getD, List.getElem?_eq_none (by show 4 ≤ j; omega)]
    exact ⟨by simp, by simp⟩
def hs12 : ByteArray := { data := #[13, 10, 13, 10, 0, 13, 10, 81, 85, 73, 84, 10] }
theorem hs12_cells : Lib.strCells hs12 = h12.map (Value.int .u8) := by kernel_rfl
/-- append of that string onto what has no bytes yet. -/
theorem gr_str {w : World} {ops : Array Oper} {rest : List Oper} {o : Oper} {a : Act} {Q : Exit → Act → World → Prop} (hgd : o.guard = none) (s x : Operand)
    (ho : o.op = .call { callee := .builtin .append, args := #[s, x], argTypes := #[26, 9] })
    {W0 : World} {v : Value} (hs : a.eval s = v) (hg : Gr W0 w v []) (hx : a.eval x = .string hs12)
    (h : ∀ v' w', Gr W0 w' v' h12 → wpList Tryd.prog ops Q rest (a.put o.dst v') w') : wpList Tryd.prog ops Q (o :: rest) a w := by
  obtain ⟨i0, hi, hz0, hz1, hz2⟩ := info_parts Tryd.infoByte
  refine Lib.wpList_append_own_string w hgd s x 26 9 ho W0.heap.size 5 i0 Tryd.underlying26 Tryd.underlying9 hi hz0 hz1 hz2 v 0 [] hs hg.1.2 hs12 hx (by decide) (by decide) hg.2.size ?_
  intro v' w' h1 h2 _
  refine h v' w' ⟨⟨h12_oct, ?_⟩, hg.2.grown h2 hg.2.size (fun k e => (hg.1.2.lt k e).1)⟩
  rw [hs12_cells] at h1
  exact h1
theorem codeof_any (f : List Int) (w : World) : Calls Tryd.prog 17 #[.int .i64 (el f 0)] w fun e w' => e = .returned (.int .u8 (kd f)) ∧ w' = w := by
  by_cases h : el f 0 = 17
  · rw [show kd f = 34 by unfold kd; rw [if_pos h], h]
    go_enter Tryd.func17, Tryd.ntmps17
    go_wp2
    go_ret
    exact ⟨rfl, rfl⟩
  · rw [show kd f = 33 by unfold kd; rw [if_neg h]]
    have h' : (el f 0 == 17) = false := by simpa using h
    generalize el f 0 = k at h h'
    go_enter Tryd.func17, Tryd.ntmps17
    go_wp2
    go_ret
    exact ⟨rfl, rfl⟩
/-- slices of four bytes made. -/
theorem k4_run (k : Int) (w : World) : (h4l #[(0, .int .u8 33), (1, .int .u8 k), (2, .int .u8 0), (3, .int .u8 36)]).run Tryd.prog w = .ok (.slice (some ⟨w.heap.size, 0, none⟩) 4 4) (w.alloc (.cells ((h4 k).map (Value.int .u8)).toArray 5)) := by kernel_rfl
/-- addr.Bytes of a six that may be. -/
theorem abytes_ok (z : List Int) (w : World) (hz : Ok6 z) : Calls Tryd.prog 16 #[.agg (sixC z)] w fun e w' => ∃ a c, e = .returned (.tuple #[.slice a 16 c, .nilIface]) ∧ Row8 w' a 16 c (by16 z 8) ∧ Below w.heap.size w w' := by
  refine (bytes_ok z w hz).mono ?_
  rintro e w' ⟨v, rfl, ho, hb⟩
  obtain ⟨a, c, rfl, hr, _⟩ := (Own.of (by16_oct hz 8 (Nat.le_refl _)) ho).row8
  rw [by16_len] at hr
  exact ⟨a, c, by rw [by16_len], hr, hb⟩
attribute [local go_sem ↓] hload_shut h4l_shut fload_shut
set_option maxRecDepth 100000 in
set_option maxHeartbeats 2000000 in
theorem yenc_bad (f : List Int) (w : World) (ho : okf f = false) :
    Calls Tryd.prog 7 #[.agg (flC f)] w fun e w' => e = .returned (.tuple #[.slice none 0 0, err 1]) ∧ Below w.heap.size w w' := by
  have HK := hide (show HI w f (w.alloc (.cells (flC f) 25)) from ⟨fl_new f w, al_below _ _⟩)
  have HC := hide (fun W => bcheck f W)
  rw [ho, show ev (fe false) = err 1 from rfl] at HC
  unfold err at HC
  clear ho
  go_enter Tryd.func7, Tryd.ntmps7
  go_upto_region 1 with fail
  generalize w.alloc _ = W at HK ⊢
  have g1 := HK.out.1.fl
  go_wp2_with (go_at_call 15; (with_reducible refine (HC.out _).mono ?_); rintro e w1 ⟨rfl, hb1⟩; replace HK := hide (HK.out.kept hb1); clear hb1 g1)
  go_ret2
  exact ⟨rfl, HK.out.2⟩
set_option maxRecDepth 100000 in
set_option maxHeartbeats 4000000 in
theorem yenc_ok (f : List Int) (w : World) (ho : okf f = true) :
    Calls Tryd.prog 7 #[.agg (flC f)] w fun e w' => ∃ v, e = .returned (.tuple #[v, .nilIface]) ∧ Own w.heap.size w' v (hb f) ∧ Below w.heap.size w w' := by
  have HK := hide (show HI w f (w.alloc (.cells (flC f) 25)) from ⟨fl_new f w, al_below _ _⟩)
  have HC := hide (fun W => bcheck f W)
  rw [ho, show ev (fe true) = .nilIface from rfl] at HC
  have HS := hide (fun W => abytes_ok (cli f) W (okf_six ho).1)
  have HD := hide (fun W => abytes_ok (dst f) W (okf_six ho).2)
  have HKo := hide (fun W => codeof_any f W)
  have hk4 := k4_run (kd f)
  have H4 := hide (h4_oct (kd_in f).1 (kd_in f).2)
  have h9 := okf_el ho 9 (by omega)
  have h18 := okf_el ho 18 (by omega)
  have HOl := hide (lst_oct ho)
  have hl := h4l_run f
  have HBY := hide (show hb f = (((h12 ++ h4 (kd f)) ++ by16 (cli f) 8) ++ by16 (dst f) 8) ++ lst f from rfl)
  have HLs := hide (by16_len (cli f) 8)
  have HLd := hide (by16_len (dst f) 8)
  generalize by16 (cli f) 8 = S at HS HBY HLs
  generalize by16 (dst f) 8 = D at HD HBY HLd
  generalize kd f = kk at HKo hk4 H4 HBY
  clear ho
  go_enter Tryd.func7, Tryd.ntmps7
  go_upto_region 1 with fail
  generalize w.alloc _ = W at HK ⊢
  have g1 := HK.out.1.fl
  go_upto_region 4 with (go_at_call 15; (with_reducible refine (HC.out _).mono ?_); rintro e w1 ⟨rfl, hb1⟩; replace HK := hide (HK.out.kept hb1); clear hb1 g1)
  have g1 := HK.out.1.hc
  go_upto_region 7 with (go_at_call 16; (with_reducible refine (HS.out _).mono ?_); rintro e w2 ⟨a2, c2, rfl, r2, hb2⟩; replace HK := hide (HK.out.kept hb2); replace r2 := hide r2; clear hb2 g1)
  have g1 := HK.out.1.hd
  go_upto_region 10 with (go_at_call 16; (with_reducible refine (HD.out _).mono ?_); rintro e w3 ⟨a3, c3, rfl, r3, hb3⟩; replace HK := hide (HK.out.kept hb3); replace r2 := hide (r2.out.below hb3); replace r3 := hide r3; clear hb3 g1)
  clear HC HS HD
  go_upto_region 11 with (refine gr_make _ rfl (.const (.int .i64 0)) (.const (.int .i64 52)) rfl 52 52 rfl rfl rfl (by decide) ?_; intro b4 w4 q4; replace q4 := hide q4)
  go_upto_region 12 with (at_builtin; (with_reducible refine gr_str rfl (.tmp 33) (.const (.string hs12)) rfl rfl q4.out rfl ?_); intro v5 w5 q5; replace q5 := hide q5; clear q4)
  have HK5 := hide (HK.out.kept q5.out.2)
  have c0 := HK5.out.1.cell 0 (by omega)
  go_upto_region 13 with (first
    | (go_at_call 17; (with_reducible refine (HKo.out _).mono ?_); rintro e w6 ⟨rfl, rfl⟩)
    | (at_builtin; (with_reducible refine gr_app rfl (.tmp 35) (.tmp 39) rfl rfl (q5.out.below (al_below _ _)) rfl ((blk_new _ (h4 kk)).row8 H4.out 4 4 rfl (by decide)) (by decide) ?_); intro v7 w7 q7; replace q7 := hide q7; clear q5 c0 HK5))
  have r7 := hide (r2.out.below q7.out.2)
  have HN0 := hide (show (h12 ++ h4 kk).length + 16 ≤ 1000000000 by show 16 + 16 ≤ _; omega)
  go_upto_region 14 with (at_builtin; (with_reducible refine gr_app rfl (.tmp 41) (.tmp 42) rfl rfl q7.out rfl r7.out HN0.out ?_); intro v8 w8 q8; replace q8 := hide q8; clear q7 r2 r7)
  have r8 := hide (r3.out.below q8.out.2)
  have HN := hide (show (h12 ++ h4 kk ++ S).length + 16 ≤ 1000000000 by rw [List.length_append, HLs.out]; show 16 + _ + _ ≤ _; omega)
  go_upto_region 15 with (at_builtin; (with_reducible refine gr_app rfl (.tmp 44) (.tmp 45) rfl rfl q8.out rfl r8.out HN.out ?_); intro v9 w9 q9; replace q9 := hide q9; clear q8 r3 r8)
  have HM := hide (show (h12 ++ h4 kk ++ S ++ D).length + 4 ≤ 1000000000 by rw [List.length_append, List.length_append, HLs.out, HLd.out]; show 16 + _ + _ + _ ≤ _; omega)
  have HK9 := hide (HK.out.kept q9.out.2)
  have c9 := HK9.out.1.cell 9 (by omega)
  have c18 := HK9.out.1.cell 18 (by omega)
  have r9 := hide ((blk_new w9 (lst f)).row8 HOl.out 4 4 rfl (by decide))
  generalize el f 9 = p at h9 c9 hl
  generalize el f 18 = d at h18 c18 hl
  obtain ⟨p0, p1⟩ := h9
  obtain ⟨d0, d1⟩ := h18
  have q1 : IntKind.u8.wrap (p / 256) = p / 256 := by rw [IntKind.wrap_u8]; omega
  have q2 : IntKind.u8.wrap p = p % 256 := by rw [IntKind.wrap_u8]
  have q3 : IntKind.u8.wrap (d / 256) = d / 256 := by rw [IntKind.wrap_u8]; omega
  have q4 : IntKind.u8.wrap d = d % 256 := by rw [IntKind.wrap_u8]
  go_wp2_with (at_builtin; (with_reducible refine gr_app rfl (.tmp 47) (.tmp 62) rfl rfl (q9.out.below (al_below _ _)) rfl r9.out HM.out ?_); intro v10 w10 q10; replace q10 := hide q10; clear q9 r9)
  go_ret2
  exact ⟨v10, rfl, HBY.out ▸ q10.out.1.mono HK.out.2.size, HK.out.2.trans (q10.out.2.mono HK.out.2.size)⟩
theorem yencode : JYe := by
  intro f w
  cases h : okf f
  · refine (yenc_bad f w h).mono ?_
    rintro e w' ⟨rfl, hb⟩
    exact ⟨_, rfl, (fun e => by cases e), fun _ => rfl, hb⟩
  · refine (yenc_ok f w h).mono ?_
    rintro e w' ⟨v, rfl, ho, hb⟩
    exact ⟨v, rfl, (fun _ => ho), (fun e => by cases e), hb⟩
end Go.Proofs.YtdeofopandobhaaDoor
