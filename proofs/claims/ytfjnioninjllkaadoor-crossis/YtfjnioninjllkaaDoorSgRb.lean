/- The document's own SegBytes and CheckOf, by contracts. -/
import Derived.Test.YtfjnioninjllkaaDoorJSgm
import Derived.Test.YtfjnioninjllkaaDoorJRef
namespace Go.Proofs.YtfjnioninjllkaaDoor
open Go.RowKit

/-- a segment's bytes with a check. -/
def sbx (z : List Int) (C : Int) (data : List Int) : List Int := if el z 0 = 6 then hdT (el z 1) (el z 2) (el z 3) (el z 4) (el z 5) (el z 6) C ++ data else hdU (el z 1) (el z 2) (8 + data.length) C ++ data
theorem sbx_eb (z : List Int) (over : Int) (data : List Int) (h : Okg z data.length) : sbx z (sck z over data) data = eb z over data := by
  unfold sbx
  split
  · rename_i h6; exact (eb_tcp z over data h h6).symm
  · rename_i h6; exact (eb_udp z over data h h6).symm
theorem sbx_ub (z : List Int) (data : List Int) (h : Okg z data.length) : sbx z 0 data = ub z data := by
  unfold sbx
  split
  · rename_i h6; exact (ub_tcp z data h h6).symm
  · rename_i h6; exact (ub_udp z data h h6).symm
theorem wsn_tcp (f t q c g v C : Int) (hf : 0 ≤ f ∧ f ≤ 65535) (ht : 0 ≤ t ∧ t ≤ 65535) (hq : 0 ≤ q ∧ q ≤ 4294967295) (hc : 0 ≤ c ∧ c ≤ 4294967295) (hg : 0 ≤ g ∧ g ≤ 31) (hv : 0 ≤ v ∧ v ≤ 65535) (hC : 0 ≤ C ∧ C ≤ 65535) :
    wsn 2 [f, t, q / 65536, q % 65536, c / 65536, c % 65536, 20480 + g, v, C, 0] 10 = hdT f t q c g v C := by
  show (((((((((([] ++ nb 2 f) ++ nb 2 t) ++ nb 2 (q / 65536)) ++ nb 2 (q % 65536)) ++ nb 2 (c / 65536)) ++ nb 2 (c % 65536)) ++ nb 2 (20480 + g)) ++ nb 2 v) ++ nb 2 C) ++ nb 2 0) = _
  rw [nb2 f hf.1 hf.2, nb2 t ht.1 ht.2, nb2 (q / 65536) (by omega) (by omega), nb2 (q % 65536) (by omega) (by omega), nb2 (c / 65536) (by omega) (by omega), nb2 (c % 65536) (by omega) (by omega), nb2 (20480 + g) (by omega) (by omega), nb2 v hv.1 hv.2, nb2 C hC.1 hC.2, nb2 0 (by omega) (by omega)]
  show [f / 256, f % 256, t / 256, t % 256, q / 65536 / 256, q / 65536 % 256, q % 65536 / 256, q % 65536 % 256, c / 65536 / 256, c / 65536 % 256, c % 65536 / 256, c % 65536 % 256, (20480 + g) / 256, (20480 + g) % 256, v / 256, v % 256, C / 256, C % 256, 0, 0] = _
  unfold hdT
  rw [show q / 65536 / 256 = q / 16777216 by omega, show q % 65536 / 256 = q / 256 % 256 by omega, show q % 65536 % 256 = q % 256 by omega, show c / 65536 / 256 = c / 16777216 by omega, show c % 65536 / 256 = c / 256 % 256 by omega, show c % 65536 % 256 = c % 256 by omega, show (20480 + g) / 256 = 80 by omega, show (20480 + g) % 256 = g by omega]
theorem wsn_udp (f t n C : Int) (hf : 0 ≤ f ∧ f ≤ 65535) (ht : 0 ≤ t ∧ t ≤ 65535) (hn : 0 ≤ n ∧ n ≤ 65535) (hC : 0 ≤ C ∧ C ≤ 65535) : wsn 2 [f, t, n, C] 4 = hdU f t n C := by
  show (((([] ++ nb 2 f) ++ nb 2 t) ++ nb 2 n) ++ nb 2 C) = _
  rw [nb2 f hf.1 hf.2, nb2 t ht.1 ht.2, nb2 n hn.1 hn.2, nb2 C hC.1 hC.2]
  rfl
theorem ints4 (w : World) (x y u v : Int) : Ints w.heap.size [x, y, u, v] (w.alloc (.cells #[.int .i64 x, .int .i64 y, .int .i64 u, .int .i64 v] 3)) := ints_new w [x, y, u, v]
theorem ints10 (w : World) (x0 x1 x2 x3 x4 x5 x6 x7 x8 x9 : Int) : Ints w.heap.size [x0, x1, x2, x3, x4, x5, x6, x7, x8, x9] (w.alloc (.cells #[.int .i64 x0, .int .i64 x1, .int .i64 x2, .int .i64 x3, .int .i64 x4, .int .i64 x5, .int .i64 x6, .int .i64 x7, .int .i64 x8, .int .i64 x9] 3)) := ints_new w [x0, x1, x2, x3, x4, x5, x6, x7, x8, x9]
set_option maxRecDepth 100000 in
set_option maxHeartbeats 4000000 in
theorem rbytes_udp (z : List Int) (a : Option Addr) (len cap : Nat) (C : Int) (data : List Int) (w : World) (h : Okg z len) (h17 : el z 0 = 17) (hC : 0 ≤ C ∧ C ≤ 65535) (hr : Row8 w a len cap data) :
    Calls Tryd.prog 46 #[.agg (sgC z a len cap), .int .i64 C] w fun e w' => ∃ v, e = .returned v ∧ Own w.heap.size w' v (sbx z C data) ∧ Below w.heap.size w w' := by
  obtain ⟨hf, ht, hl, -⟩ := h
  have HB := hide (al_below w (.cells (sgC z a len cap) 49))
  have HP := hide (sg_new w z a len cap)
  have HU := hide (show sbx z C data = wsn 2 [el z 1, el z 2, 8 + (len : Int), C] 4 ++ data by
    rw [wsn_udp _ _ _ _ hf ht (by omega) hC, ← hr.1]
    exact if_neg (by omega))
  have HW := hide (fun W0 W B hg hi => words_any W0 (.slice none 0 0) [] B 4 [el z 1, el z 2, 8 + (len : Int), C] W hg hi rfl (by omega) (by simp) (fun j hj => by
    rcases (by omega : j = 0 ∨ j = 1 ∨ j = 2 ∨ j = 3) with rfl | rfl | rfl | rfl
    · exact hf
    · exact ht
    · show 0 ≤ 8 + (len : Int) ∧ 8 + (len : Int) ≤ 65535; omega
    · exact hC))
  simp only [List.nil_append] at HW
  have L1 := hide (wsn_len 2 [el z 1, el z 2, 8 + (len : Int), C] 4)
  generalize sbx z C data = U at HU ⊢
  generalize wsn 2 [el z 1, el z 2, 8 + (len : Int), C] 4 = Z1 at HU HW L1
  have e17 : (el z 0 == 17) = true := by simpa using h17
  have HR := hide hr
  have HM := hide (show Z1.length + len ≤ 1000000000 by have := L1.out; omega)
  clear h17 hr L1 hC
  go_enter Tryd.func46, Tryd.ntmps46
  go_upto_region 1 with fail
  generalize w.alloc (.cells (sgC z a len cap) 49) = W at HB HP ⊢
  have l0 := HP.out.c0
  have l1 := HP.out.c1
  have l2 := HP.out.c2
  have l7 := HP.out.c7
  go_upto_region 5 with (go_at_call 67; refine (HW.out W _ _ ((Gr.nil W).below (al_below _ _)) (ints4 W _ _ _ _)).mono ?_; rintro e w1 ⟨v1, rfl, hg1⟩; replace hg1 := hide hg1; clear l0 l1 l2 l7)
  have l7 := (HP.out.kept hg1.out.2).c7
  go_wp2_with (at_builtin; refine gr_app rfl (.tmp 46) (.tmp 48) rfl rfl hg1.out rfl ((HR.out.below HB.out).below hg1.out.2) HM.out ?_; intro v5 w5 hg5; replace hg5 := hide hg5; clear l7)
  go_ret
  exact ⟨v5, rfl, HU.out ▸ hg5.out.1.mono HB.out.size, HB.out.trans (hg5.out.2.mono HB.out.size)⟩
set_option maxRecDepth 100000 in
set_option maxHeartbeats 4000000 in
theorem rbytes_tcp (z : List Int) (a : Option Addr) (len cap : Nat) (C : Int) (data : List Int) (w : World) (h : Okg z len) (h6 : el z 0 = 6) (hC : 0 ≤ C ∧ C ≤ 65535) (hr : Row8 w a len cap data) :
    Calls Tryd.prog 46 #[.agg (sgC z a len cap), .int .i64 C] w fun e w' => ∃ v, e = .returned v ∧ Own w.heap.size w' v (sbx z C data) ∧ Below w.heap.size w w' := by
  obtain ⟨hf, ht, hl, h⟩ := h
  obtain ⟨-, hq, hc, hg, hv⟩ : el z 0 = 6 ∧ (0 ≤ el z 3 ∧ el z 3 ≤ 4294967295) ∧ (0 ≤ el z 4 ∧ el z 4 ≤ 4294967295) ∧ (0 ≤ el z 5 ∧ el z 5 ≤ 31) ∧ (0 ≤ el z 6 ∧ el z 6 ≤ 65535) := by
    rcases h with h | h
    · exact h
    · omega
  have HB := hide (al_below w (.cells (sgC z a len cap) 49))
  have HP := hide (sg_new w z a len cap)
  have HU := hide (show sbx z C data = wsn 2 [el z 1, el z 2, el z 3 / 65536, el z 3 % 65536, el z 4 / 65536, el z 4 % 65536, 20480 + el z 5, el z 6, C, 0] 10 ++ data by
    rw [wsn_tcp _ _ _ _ _ _ _ hf ht hq hc hg hv hC]
    exact if_pos h6)
  have HW := hide (fun W0 W B hg' hi => words_any W0 (.slice none 0 0) [] B 10 [el z 1, el z 2, el z 3 / 65536, el z 3 % 65536, el z 4 / 65536, el z 4 % 65536, 20480 + el z 5, el z 6, C, 0] W hg' hi rfl (by omega) (by simp) (fun j hj => by
    rcases (by omega : j = 0 ∨ j = 1 ∨ j = 2 ∨ j = 3 ∨ j = 4 ∨ j = 5 ∨ j = 6 ∨ j = 7 ∨ j = 8 ∨ j = 9) with rfl | rfl | rfl | rfl | rfl | rfl | rfl | rfl | rfl | rfl <;> simp only [List.getD_cons_zero, List.getD_cons_succ] <;> omega))
  simp only [List.nil_append] at HW
  have L1 := hide (wsn_len 2 [el z 1, el z 2, el z 3 / 65536, el z 3 % 65536, el z 4 / 65536, el z 4 % 65536, 20480 + el z 5, el z 6, C, 0] 10)
  generalize sbx z C data = U at HU ⊢
  generalize wsn 2 [el z 1, el z 2, el z 3 / 65536, el z 3 % 65536, el z 4 / 65536, el z 4 % 65536, 20480 + el z 5, el z 6, C, 0] 10 = Z1 at HU HW L1
  have e17 : (el z 0 == 17) = false := by rw [h6]; rfl
  have HR := hide hr
  have HM := hide (show Z1.length + len ≤ 1000000000 by have := L1.out; omega)
  clear h6 hr L1 hC h
  go_enter Tryd.func46, Tryd.ntmps46
  go_upto_region 1 with fail
  generalize w.alloc (.cells (sgC z a len cap) 49) = W at HB HP ⊢
  have l0 := HP.out.c0
  have l1 := HP.out.c1
  have l2 := HP.out.c2
  have l3 := HP.out.c3
  have l4 := HP.out.c4
  have l5 := HP.out.c5
  have l6 := HP.out.c6
  go_upto_region 5 with (go_at_call 67; refine (HW.out W _ _ ((Gr.nil W).below (al_below _ _)) (ints10 W _ _ _ _ _ _ _ _ _ _)).mono ?_; rintro e w1 ⟨v1, rfl, hg1⟩; replace hg1 := hide hg1; clear l0 l1 l2 l3 l4 l5 l6)
  have l7 := (HP.out.kept hg1.out.2).c7
  go_wp2_with (at_builtin; refine gr_app rfl (.tmp 46) (.tmp 48) rfl rfl hg1.out rfl ((HR.out.below HB.out).below hg1.out.2) HM.out ?_; intro v5 w5 hg5; replace hg5 := hide hg5; clear l7)
  go_ret
  exact ⟨v5, rfl, HU.out ▸ hg5.out.1.mono HB.out.size, HB.out.trans (hg5.out.2.mono HB.out.size)⟩
theorem rbytes_any (z : List Int) (a : Option Addr) (len cap : Nat) (C : Int) (data : List Int) (w : World) (h : Okg z len) (hC : 0 ≤ C ∧ C ≤ 65535) (hr : Row8 w a len cap data) :
    Calls Tryd.prog 46 #[.agg (sgC z a len cap), .int .i64 C] w fun e w' => ∃ v, e = .returned v ∧ Own w.heap.size w' v (sbx z C data) ∧ Below w.heap.size w w' := by
  by_cases h6 : el z 0 = 6
  · exact rbytes_tcp z a len cap C data w h h6 hC hr
  · exact rbytes_udp z a len cap C data w h (by obtain ⟨_, _, _, h | h⟩ := h <;> omega) hC hr
set_option maxRecDepth 100000 in
set_option maxHeartbeats 4000000 in
theorem rcheck_any (z : List Int) (a : Option Addr) (len cap : Nat) (over : Int) (data : List Int) (w : World) (h : Okg z len) (ho : up 65535 over = true) (hr : Row8 w a len cap data) :
    Calls Tryd.prog 47 #[.agg (sgC z a len cap), .int .i64 over] w fun e w' => e = .returned (.int .i64 (sck z over data)) ∧ Below w.heap.size w w' := by
  obtain ⟨ho0, ho1⟩ := up_true ho
  have HB := hide (al_below w (.cells (sgC z a len cap) 49))
  have HP := hide (sg_new w z a len cap)
  have hlen := hr.1
  have hl := h.2.2.1
  have hoct := hr.2.2.1
  have HS := hide (fun W hr' => rbytes_any z a len cap 0 data W h (by omega) hr')
  rw [sbx_ub z data (by rw [hlen]; exact h)] at HS
  have hck : sck z over data = ckg (el z 0) over (SM.fold (SM.tot (ub z data) (ub z data).length)) := rfl
  have hub := ub_len z data
  have hh := hn_le (el z 0)
  have hT := SM.fold_bd _ (SM.tot_bd _ (ub_oct z data hoct) (ub z data).length).1
  obtain ⟨N, hN⟩ : ∃ N, N = (ub z data).length := ⟨_, rfl⟩
  have HSum := hide (fun a' c' W (h' : Row8 W a' N c' (ub z data)) => rsumof_any a' N c' _ W h' (by omega))
  rw [← hN] at hck hT
  have HL := hide hN.symm
  generalize SM.fold (SM.tot (ub z data) N) = T at hck hT HSum
  have HF := hide (fun W => rfold_any (over + T) W (by omega) (by omega))
  have hS := SM.fold_bd (over + T) (by omega)
  unfold ckg at hck
  generalize SM.fold (over + T) = S at hck hS HF
  generalize ub z data = U at HS HSum HL
  generalize sck z over data = C at hck ⊢
  have HR := hide hr
  clear hr hN hub hh hoct h
  by_cases h17 : el z 0 = 17
  · have e17 : (el z 0 == 17) = true := by simpa using h17
    by_cases hs : S = 65535
    · have es : (65535 - S == 0) = true := by subst hs; rfl
      have HC := hide (show C = 65535 by rw [hck, if_pos ⟨h17, hs⟩])
      clear hck h17 hs
      go_enter Tryd.func47, Tryd.ntmps47
      go_upto_region 1 with fail
      generalize w.alloc (.cells (sgC z a len cap) 49) = W at HB HP ⊢
      go_upto_region 2 with (first
        | (refine at_load rfl (.tmp 2) rfl rfl HP.out ?_)
        | (go_at_call 46; refine (HS.out _ (HR.out.below HB.out)).mono ?_; rintro e w1 ⟨v1, rfl, o1, hb1⟩; obtain ⟨a1, c1, hv1, hr1, -⟩ := o1.row8; rw [HL.out] at hv1 hr1; subst hv1; replace HB := hide (bt HB.out hb1); replace HP := hide (HP.out.kept hb1); replace hr1 := hide hr1; clear hb1 o1)
        | (go_at_call 69; refine (HSum.out _ _ _ hr1.out).mono ?_; rintro e w2 ⟨rfl, rfl⟩)
        | (go_at_call 68; refine (HF.out _).mono ?_; rintro e w3 ⟨rfl, rfl⟩))
      have l0 := HP.out.c0
      go_wp2
      go_ret
      exact ⟨by rw [HC.out]; rfl, HB.out⟩
    · have es : (65535 - S == 0) = false := by simp; omega
      have HC := hide (show C = 65535 - S by rw [hck, if_neg (fun h => hs h.2)])
      clear hck h17 hs
      go_enter Tryd.func47, Tryd.ntmps47
      go_upto_region 1 with fail
      generalize w.alloc (.cells (sgC z a len cap) 49) = W at HB HP ⊢
      go_upto_region 2 with (first
        | (refine at_load rfl (.tmp 2) rfl rfl HP.out ?_)
        | (go_at_call 46; refine (HS.out _ (HR.out.below HB.out)).mono ?_; rintro e w1 ⟨v1, rfl, o1, hb1⟩; obtain ⟨a1, c1, hv1, hr1, -⟩ := o1.row8; rw [HL.out] at hv1 hr1; subst hv1; replace HB := hide (bt HB.out hb1); replace HP := hide (HP.out.kept hb1); replace hr1 := hide hr1; clear hb1 o1)
        | (go_at_call 69; refine (HSum.out _ _ _ hr1.out).mono ?_; rintro e w2 ⟨rfl, rfl⟩)
        | (go_at_call 68; refine (HF.out _).mono ?_; rintro e w3 ⟨rfl, rfl⟩))
      have l0 := HP.out.c0
      go_wp2
      go_ret
      exact ⟨by rw [HC.out]; rfl, HB.out⟩
  · have e17 : (el z 0 == 17) = false := by simpa using h17
    have HC := hide (show C = 65535 - S by rw [hck, if_neg (fun h => h17 h.1)])
    clear hck h17
    go_enter Tryd.func47, Tryd.ntmps47
    go_upto_region 1 with fail
    generalize w.alloc (.cells (sgC z a len cap) 49) = W at HB HP ⊢
    go_upto_region 2 with (first
      | (refine at_load rfl (.tmp 2) rfl rfl HP.out ?_)
      | (go_at_call 46; refine (HS.out _ (HR.out.below HB.out)).mono ?_; rintro e w1 ⟨v1, rfl, o1, hb1⟩; obtain ⟨a1, c1, hv1, hr1, -⟩ := o1.row8; rw [HL.out] at hv1 hr1; subst hv1; replace HB := hide (bt HB.out hb1); replace HP := hide (HP.out.kept hb1); replace hr1 := hide hr1; clear hb1 o1)
      | (go_at_call 69; refine (HSum.out _ _ _ hr1.out).mono ?_; rintro e w2 ⟨rfl, rfl⟩)
      | (go_at_call 68; refine (HF.out _).mono ?_; rintro e w3 ⟨rfl, rfl⟩))
    have l0 := HP.out.c0
    go_wp2
    go_ret
    exact ⟨by rw [HC.out]; rfl, HB.out⟩
end Go.Proofs.YtfjnioninjllkaaDoor
