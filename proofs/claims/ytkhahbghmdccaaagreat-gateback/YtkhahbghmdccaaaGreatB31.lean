/- The document's own SegBytes and CheckOf, by contracts. The document's own SegFault, by a contract. The document's own word and SegOf, by contracts. The document's own SegOf of bytes of the right length, by contracts. -/
import Derived.Test.YtkhahbghmdccaaaGreatB29
import Derived.Test.YtkhahbghmdccaaaGreatB30
import Derived.Below
import Derived.OpenShut
import Derived.Test.YtkhahbghmdccaaaGreatProg
import Derived.WalkKit
import Derived.LaidEql
import Derived.BigQuiet
import Derived.Laws.AppendOwnNone
import Derived.Laws.MakeOwn
import Derived.Deep.RegionLaw
import Derived.Lib.Bytes
import Derived.Deep.MidRow
import Derived.Laws.ResultCell
import Derived.Deep.CutBlock
import Derived.Deep.QuietTactic
import Derived.OwnWalk
import Derived.Deep.RegionHeld3
import Derived.Deep.DrawnRows
import Derived.Test.YtkhahbghmdccaaaGreatB05
import Derived.Test.YtkhahbghmdccaaaGreatB15
namespace Go.Proofs.YtkhahbghmdccaaaGreat
open Go.RowKit
def sbx (z : List Int) (C : Int) (data : List Int) : List Int := if el z 0 = 6 then hdT (el z 1) (el z 2) (el z 3) (el z 4) (el z 5) (el z 6) C ++ data else hdU (el z 1) (el z 2) (8 + data.length) C ++ data
theorem sbx_eb (z : List Int) (over : Int) (data : List Int) (h : Okg z data.length) : sbx z (sck z over data) data = eb z over data := by
  unfold sbx
  split
  · rename_i h6; exact (eb_tcp z over data h h6).symm
  · rename_i h6; exact (eb_udp z over data h h6).symm
theorem sbx_ub (z : List Int) (data : List Int) (h : Okg z data.length) : sbx z 0 data = ub z data := by
  unfold sbx
  split
  · rename_i h6; exact (ub_tcp z data h h6).symm
  · rename_i h6; exact (ub_udp z data h h6).symm
theorem wsn_tcp (f t q c g v C : Int) (hf : 0 ≤ f ∧ f ≤ 65535) (ht : 0 ≤ t ∧ t ≤ 65535) (hq : 0 ≤ q ∧ q ≤ 4294967295) (hc : 0 ≤ c ∧ c ≤ 4294967295) (hg : 0 ≤ g ∧ g ≤ 31) (hv : 0 ≤ v ∧ v ≤ 65535) (hC : 0 ≤ C ∧ C ≤ 65535) :
    wsn 2 [f, t, q / 65536, q % 65536, c / 65536, c % 65536, 20480 + g, v, C, 0] 10 = hdT f t q c g v C := by
  show (((((((((([] ++ nb 2 f) ++ nb 2 t) ++ nb 2 (q / 65536)) ++ nb 2 (q % 65536)) ++ nb 2 (c / 65536)) ++ nb 2 (c % 65536)) ++ nb 2 (20480 + g)) ++ nb 2 v) ++ nb 2 C) ++ nb 2 0) = _
  rw [nb2 f hf.1 hf.2, nb2 t ht.1 ht.2, nb2 (q / 65536) (by omega) (by omega), nb2 (q % 65536) (by omega) (by omega), nb2 (c / 65536) (by omega) (by omega), nb2 (c % 65536) (by omega) (by omega), nb2 (20480 + g) (by omega) (by omega), nb2 v hv.1 hv.2, nb2 C hC.1 hC.2, nb2 0 (by omega) (by omega)]
  show [f / 256, f % 256, t / 256, t % 256, q / 65536 / 256, q / 65536 % 256, q % 65536 / 256, q % 65536 % 256, c / 65536 / 256, c / 65536 % 256, c % 65536 / 256, c % 65536 % 256, (20480 + g) / 256, (20480 + g) % 256, v / 256, v % 256, C / 256, C % 256, 0, 0] = _
  unfold hdT
  rw [show q / 65536 / 256 = q / 16777216 by omega, show q % 65536 / 256 = q / 256 % 256 by omega, show q % 65536 % 256 = q % 256 by omega, show c / 65536 / 256 = c / 16777216 by omega, show c % 65536 / 256 = c / 256 % 256 by omega, show c % 65536 % 256 = c % 256 by omega, show (20480 + g) / 256 = 80 by omega, show (20480 + g) % 256 = g by omega]
theorem wsn_udp (f t n C : Int) (hf : 0 ≤ f ∧ f ≤ 65535) (ht : 0 ≤ t ∧ t ≤ 65535) (hn : 0 ≤ n ∧ n ≤ 65535) (hC : 0 ≤ C ∧ C ≤ 65535) : wsn 2 [f, t, n, C] 4 = hdU f t n C := by
  show (((([] ++ nb 2 f) ++ nb 2 t) ++ nb 2 n) ++ nb 2 C) = _
  rw [nb2 f hf.1 hf.2, nb2 t ht.1 ht.2, nb2 n hn.1 hn.2, nb2 C hC.1 hC.2]
  rfl
theorem ints4 (w : World) (x y u v : Int) : Ints w.heap.size [x, y, u, v] (w.alloc (.cells #[.int .i64 x, .int .i64 y, .int .i64 u, .int .i64 v] 3)) := ints_new w [x, y, u, v]
theorem ints10 (w : World) (x0 x1 x2 x3 x4 x5 x6 x7 x8 x9 : Int) : Ints w.heap.size [x0, x1, x2, x3, x4, x5, x6, x7, x8, x9] (w.alloc (.cells #[.int .i64 x0, .int .i64 x1, .int .i64 x2, .int .i64 x3, .int .i64 x4, .int .i64 x5, .int .i64 x6, .int .i64 x7, .int .i64 x8, .int .i64 x9] 3)) := ints_new w [x0, x1, x2, x3, x4, x5, x6, x7, x8, x9]
set_option maxRecDepth 100000 in
set_option maxHeartbeats 4000000 in
theorem rbytes_udp (z : List Int) (a : Option Addr) (len cap : Nat) (C : Int) (data : List Int) (w : World) (h : Okg z len) (h17 : el z 0 = 17) (hC : 0 ≤ C ∧ C ≤ 65535) (hr : Row8 w a len cap data) :
    Calls Tryz.prog 73 #[.agg (sgC z a len cap), .int .i64 C] w fun e w' => ∃ v, e = .returned v ∧ Own w.heap.size w' v (sbx z C data) ∧ Below w.heap.size w w' := by
  obtain ⟨hf, ht, hl, -⟩ := h
  have HB := hide (al_below w (.cells (sgC z a len cap) 30))
  have HP := hide (sg_new w z a len cap)
  have HU := hide (show sbx z C data = wsn 2 [el z 1, el z 2, 8 + (len : Int), C] 4 ++ data by
    rw [wsn_udp _ _ _ _ hf ht (by omega) hC, ← hr.1]
    exact if_neg (by omega))
  have HW := hide (fun W0 W B hg hi => words_any W0 (.slice none 0 0) [] B 4 [el z 1, el z 2, 8 + (len : Int), C] W hg hi rfl (by omega) (by simp) (fun j hj => by
    rcases (by omega : j = 0 ∨ j = 1 ∨ j = 2 ∨ j = 3) with rfl | rfl | rfl | rfl
    · exact hf
    · exact ht
    · show 0 ≤ 8 + (len : Int) ∧ 8 + (len : Int) ≤ 65535; omega
    · exact hC))
  simp only [List.nil_append] at HW
  have L1 := hide (wsn_len 2 [el z 1, el z 2, 8 + (len : Int), C] 4)
  generalize sbx z C data = U at HU ⊢
  generalize wsn 2 [el z 1, el z 2, 8 + (len : Int), C] 4 = Z1 at HU HW L1
  have e17 : (el z 0 == 17) = true := by simpa using h17
  have HR := hide hr
  have HM := hide (show Z1.length + len ≤ 1000000000 by have := L1.out; omega)
  clear h17 hr L1 hC
  go_enter Tryz.func73, Tryz.ntmps73
  go_upto_region 1 with fail
  generalize w.alloc (.cells (sgC z a len cap) 30) = W at HB HP ⊢
  have l0 := HP.out.c0
  have l1 := HP.out.c1
  have l2 := HP.out.c2
  have l7 := HP.out.c7
  go_upto_region 5 with (go_at_call 98; refine (HW.out W _ _ ((Gr.nil W).below (al_below _ _)) (ints4 W _ _ _ _)).mono ?_; rintro e w1 ⟨v1, rfl, hg1⟩; replace hg1 := hide hg1; clear l0 l1 l2 l7)
  have l7 := (HP.out.kept hg1.out.2).c7
  go_wp2_with (at_builtin; refine gr_app rfl (.tmp 46) (.tmp 48) rfl rfl hg1.out rfl ((HR.out.below HB.out).below hg1.out.2) HM.out ?_; intro v5 w5 hg5; replace hg5 := hide hg5; clear l7)
  go_ret
  exact ⟨v5, rfl, HU.out ▸ hg5.out.1.mono HB.out.size, HB.out.trans (hg5.out.2.mono HB.out.size)⟩
set_option maxRecDepth 100000 in
set_option maxHeartbeats 4000000 in
theorem rbytes_tcp (z : List Int) (a : Option Addr) (len cap : Nat) (C : Int) (data : List Int) (w : World) (h : Okg z len) (h6 : el z 0 = 6) (hC : 0 ≤ C ∧ C ≤ 65535) (hr : Row8 w a len cap data) :
    Calls Tryz.prog 73 #[.agg (sgC z a len cap), .int .i64 C] w fun e w' => ∃ v, e = .returned v ∧ Own w.heap.size w' v (sbx z C data) ∧ Below w.heap.size w w' := by
  obtain ⟨hf, ht, hl, h⟩ := h
  obtain ⟨-, hq, hc, hg, hv⟩ : el z 0 = 6 ∧ (0 ≤ el z 3 ∧ el z 3 ≤ 4294967295) ∧ (0 ≤ el z 4 ∧ el z 4 ≤ 4294967295) ∧ (0 ≤ el z 5 ∧ el z 5 ≤ 31) ∧ (0 ≤ el z 6 ∧ el z 6 ≤ 65535) := by
    rcases h with h | h
    · exact h
    · omega
  have HB := hide (al_below w (.cells (sgC z a len cap) 30))
  have HP := hide (sg_new w z a len cap)
  have HU := hide (show sbx z C data = wsn 2 [el z 1, el z 2, el z 3 / 65536, el z 3 % 65536, el z 4 / 65536, el z 4 % 65536, 20480 + el z 5, el z 6, C, 0] 10 ++ data by
    rw [wsn_tcp _ _ _ _ _ _ _ hf ht hq hc hg hv hC]
    exact if_pos h6)
  have HW := hide (fun W0 W B hg' hi => words_any W0 (.slice none 0 0) [] B 10 [el z 1, el z 2, el z 3 / 65536, el z 3 % 65536, el z 4 / 65536, el z 4 % 65536, 20480 + el z 5, el z 6, C, 0] W hg' hi rfl (by omega) (by simp) (fun j hj => by
    rcases (by omega : j = 0 ∨ j = 1 ∨ j = 2 ∨ j = 3 ∨ j = 4 ∨ j = 5 ∨ j = 6 ∨ j = 7 ∨ j = 8 ∨ j = 9) with rfl | rfl | rfl | rfl | rfl | rfl | rfl | rfl | rfl | rfl <;> simp only [List.getD_cons_zero, List.getD_cons_succ] <;> omega))
  simp only [List.nil_append] at HW
  have L1 := hide (wsn_len 2 [el z 1, el z 2, el z 3 / 65536, el z 3 % 65536, el z 4 / 65536, el z 4 % 65536, 20480 + el z 5, el z 6, C, 0] 10)
  generalize sbx z C data = U at HU ⊢
  generalize wsn 2 [el z 1, el z 2, el z 3 / 65536, el z 3 % 65536, el z 4 / 65536, el z 4 % 65536, 20480 + el z 5, el z 6, C, 0] 10 = Z1 at HU HW L1
  have e17 : (el z 0 == 17) = false := by rw [h6]; rfl
  have HR := hide hr
  have HM := hide (show Z1.length + len ≤ 1000000000 by have := L1.out; omega)
  clear h6 hr L1 hC h
  go_enter Tryz.func73, Tryz.ntmps73
  go_upto_region 1 with fail
  generalize w.alloc (.cells (sgC z a len cap) 30) = W at HB HP ⊢
  have l0 := HP.out.c0
  have l1 := HP.out.c1
  have l2 := HP.out.c2
  have l3 := HP.out.c3
  have l4 := HP.out.c4
  have l5 := HP.out.c5
  have l6 := HP.out.c6
  go_upto_region 5 with (go_at_call 98; refine (HW.out W _ _ ((Gr.nil W).below (al_below _ _)) (ints10 W _ _ _ _ _ _ _ _ _ _)).mono ?_; rintro e w1 ⟨v1, rfl, hg1⟩; replace hg1 := hide hg1; clear l0 l1 l2 l3 l4 l5 l6)
  have l7 := (HP.out.kept hg1.out.2).c7
  go_wp2_with (at_builtin; refine gr_app rfl (.tmp 46) (.tmp 48) rfl rfl hg1.out rfl ((HR.out.below HB.out).below hg1.out.2) HM.out ?_; intro v5 w5 hg5; replace hg5 := hide hg5; clear l7)
  go_ret
  exact ⟨v5, rfl, HU.out ▸ hg5.out.1.mono HB.out.size, HB.out.trans (hg5.out.2.mono HB.out.size)⟩
theorem rbytes_any (z : List Int) (a : Option Addr) (len cap : Nat) (C : Int) (data : List Int) (w : World) (h : Okg z len) (hC : 0 ≤ C ∧ C ≤ 65535) (hr : Row8 w a len cap data) :
    Calls Tryz.prog 73 #[.agg (sgC z a len cap), .int .i64 C] w fun e w' => ∃ v, e = .returned v ∧ Own w.heap.size w' v (sbx z C data) ∧ Below w.heap.size w w' := by
  by_cases h6 : el z 0 = 6
  · exact rbytes_tcp z a len cap C data w h h6 hC hr
  · exact rbytes_udp z a len cap C data w h (by obtain ⟨_, _, _, h | h⟩ := h <;> omega) hC hr
set_option maxRecDepth 100000 in
set_option maxHeartbeats 4000000 in
theorem rcheck_any (z : List Int) (a : Option Addr) (len cap : Nat) (over : Int) (data : List Int) (w : World) (h : Okg z len) (ho : up 65535 over = true) (hr : Row8 w a len cap data) :
    Calls Tryz.prog 74 #[.agg (sgC z a len cap), .int .i64 over] w fun e w' => e = .returned (.int .i64 (sck z over data)) ∧ Below w.heap.size w w' := by
  obtain ⟨ho0, ho1⟩ := up_true ho
  have HB := hide (al_below w (.cells (sgC z a len cap) 30))
  have HP := hide (sg_new w z a len cap)
  have hlen := hr.1
  have hl := h.2.2.1
  have hoct := hr.2.2.1
  have HS := hide (fun W hr' => rbytes_any z a len cap 0 data W h (by omega) hr')
  rw [sbx_ub z data (by rw [hlen]; exact h)] at HS
  have hck : sck z over data = ckg (el z 0) over (SM.fold (SM.tot (ub z data) (ub z data).length)) := rfl
  have hub := ub_len z data
  have hh := hn_le (el z 0)
  have hT := SM.fold_bd _ (SM.tot_bd _ (ub_oct z data hoct) (ub z data).length).1
  obtain ⟨N, hN⟩ : ∃ N, N = (ub z data).length := ⟨_, rfl⟩
  have HSum := hide (fun a' c' W (h' : Row8 W a' N c' (ub z data)) => rsumof_any a' N c' _ W h' (by omega))
  rw [← hN] at hck hT
  have HL := hide hN.symm
  generalize SM.fold (SM.tot (ub z data) N) = T at hck hT HSum
  have HF := hide (fun W => rfold_any (over + T) W (by omega) (by omega))
  have hS := SM.fold_bd (over + T) (by omega)
  unfold ckg at hck
  generalize SM.fold (over + T) = S at hck hS HF
  generalize ub z data = U at HS HSum HL
  generalize sck z over data = C at hck ⊢
  have HR := hide hr
  clear hr hN hub hh hoct h
  by_cases h17 : el z 0 = 17
  · have e17 : (el z 0 == 17) = true := by simpa using h17
    by_cases hs : S = 65535
    · have es : (65535 - S == 0) = true := by subst hs; rfl
      have HC := hide (show C = 65535 by rw [hck, if_pos ⟨h17, hs⟩])
      clear hck h17 hs
      go_enter Tryz.func74, Tryz.ntmps74
      go_upto_region 1 with fail
      generalize w.alloc (.cells (sgC z a len cap) 30) = W at HB HP ⊢
      go_upto_region 2 with (first
        | (refine at_load rfl (.tmp 2) rfl rfl HP.out ?_)
        | (go_at_call 73; refine (HS.out _ (HR.out.below HB.out)).mono ?_; rintro e w1 ⟨v1, rfl, o1, hb1⟩; obtain ⟨a1, c1, hv1, hr1, -⟩ := o1.row8; rw [HL.out] at hv1 hr1; subst hv1; replace HB := hide (bt HB.out hb1); replace HP := hide (HP.out.kept hb1); replace hr1 := hide hr1; clear hb1 o1)
        | (go_at_call 71; refine (HSum.out _ _ _ hr1.out).mono ?_; rintro e w2 ⟨rfl, rfl⟩)
        | (go_at_call 123; refine (HF.out _).mono ?_; rintro e w3 ⟨rfl, rfl⟩))
      have l0 := HP.out.c0
      go_wp2
      go_ret
      exact ⟨by rw [HC.out]; rfl, HB.out⟩
    · have es : (65535 - S == 0) = false := by simp; omega
      have HC := hide (show C = 65535 - S by rw [hck, if_neg (fun h => hs h.2)])
      clear hck h17 hs
      go_enter Tryz.func74, Tryz.ntmps74
      go_upto_region 1 with fail
      generalize w.alloc (.cells (sgC z a len cap) 30) = W at HB HP ⊢
      go_upto_region 2 with (first
        | (refine at_load rfl (.tmp 2) rfl rfl HP.out ?_)
        | (go_at_call 73; refine (HS.out _ (HR.out.below HB.out)).mono ?_; rintro e w1 ⟨v1, rfl, o1, hb1⟩; obtain ⟨a1, c1, hv1, hr1, -⟩ := o1.row8; rw [HL.out] at hv1 hr1; subst hv1; replace HB := hide (bt HB.out hb1); replace HP := hide (HP.out.kept hb1); replace hr1 := hide hr1; clear hb1 o1)
        | (go_at_call 71; refine (HSum.out _ _ _ hr1.out).mono ?_; rintro e w2 ⟨rfl, rfl⟩)
        | (go_at_call 123; refine (HF.out _).mono ?_; rintro e w3 ⟨rfl, rfl⟩))
      have l0 := HP.out.c0
      go_wp2
      go_ret
      exact ⟨by rw [HC.out]; rfl, HB.out⟩
  · have e17 : (el z 0 == 17) = false := by simpa using h17
    have HC := hide (show C = 65535 - S by rw [hck, if_neg (fun h => h17 h.1)])
    clear hck h17
    go_enter Tryz.func74, Tryz.ntmps74
    go_upto_region 1 with fail
    generalize w.alloc (.cells (sgC z a len cap) 30) = W at HB HP ⊢
    go_upto_region 2 with (first
      | (refine at_load rfl (.tmp 2) rfl rfl HP.out ?_)
      | (go_at_call 73; refine (HS.out _ (HR.out.below HB.out)).mono ?_; rintro e w1 ⟨v1, rfl, o1, hb1⟩; obtain ⟨a1, c1, hv1, hr1, -⟩ := o1.row8; rw [HL.out] at hv1 hr1; subst hv1; replace HB := hide (bt HB.out hb1); replace HP := hide (HP.out.kept hb1); replace hr1 := hide hr1; clear hb1 o1)
      | (go_at_call 71; refine (HSum.out _ _ _ hr1.out).mono ?_; rintro e w2 ⟨rfl, rfl⟩)
      | (go_at_call 123; refine (HF.out _).mono ?_; rintro e w3 ⟨rfl, rfl⟩))
    have l0 := HP.out.c0
    go_wp2
    go_ret
    exact ⟨by rw [HC.out]; rfl, HB.out⟩
end Go.Proofs.YtkhahbghmdccaaaGreat

namespace Go.Proofs.YtkhahbghmdccaaaGreat
open Go.RowKit
theorem sf_1 (z : List Int) (len : Nat) (h : ¬ ((el z 0 = 6 ∨ el z 0 = 17) ∧ ((0 ≤ el z 1 ∧ el z 1 ≤ 65535) ∧ (0 ≤ el z 2 ∧ el z 2 ≤ 65535)))) : sf z len = 1 := by
  unfold sf
  rw [if_pos]
  rw [← ups2, ← kn_iff] at h
  cases h1 : kn (el z 0)
  · rfl
  · cases h2 : ups 65535 [el z 1, el z 2]
    · rfl
    · exact absurd ⟨h1, h2⟩ h
theorem sf_t (z : List Int) (len : Nat) (h6 : el z 0 = 6) (h1 : up 65535 (el z 1) = true) (h2 : up 65535 (el z 2) = true) : sf z len = if os z = false then 1 else if 300 < len then 3 else 0 := by
  unfold sf
  rw [if_neg, if_pos h6]
  rw [(kn_iff _).2 (.inl h6), (ups2 _ _ _).2 ⟨up_true h1, up_true h2⟩]
  decide
theorem sf_u (z : List Int) (len : Nat) (h17 : el z 0 = 17) (h1 : up 65535 (el z 1) = true) (h2 : up 65535 (el z 2) = true) : sf z len = if ups 0 [el z 3, el z 4, el z 5, el z 6] = false then 2 else if 300 < len then 3 else 0 := by
  unfold sf
  rw [if_neg, if_neg (by omega)]
  rw [(kn_iff _).2 (.inr h17), (ups2 _ _ _).2 ⟨up_true h1, up_true h2⟩]
  decide
theorem os_no (z : List Int) (h : ¬ (((0 ≤ el z 3 ∧ el z 3 ≤ 4294967295) ∧ (0 ≤ el z 4 ∧ el z 4 ≤ 4294967295)) ∧ (0 ≤ el z 5 ∧ el z 5 ≤ 31) ∧ (0 ≤ el z 6 ∧ el z 6 ≤ 65535))) : os z = false := Bool.eq_false_iff.2 (fun h' => h ((os_iff z).1 h'))
theorem zs_no (z : List Int) (h : ¬ (el z 3 = 0 ∧ el z 4 = 0 ∧ el z 5 = 0 ∧ el z 6 = 0)) : ups 0 [el z 3, el z 4, el z 5, el z 6] = false := Bool.eq_false_iff.2 (fun h' => h (by have := (ups4 0 _ _ _ _).1 h'; omega))
set_option maxRecDepth 100000 in
set_option maxHeartbeats 8000000 in
theorem rfault_none (z : List Int) (a : Option Addr) (len cap : Nat) (w : World) (_hm : len ≤ maxLen) (h6 : ¬ el z 0 = 6) (h17 : ¬ el z 0 = 17) :
    Calls Tryz.prog 51 #[.agg (sgC z a len cap)] w fun e w' => e = .returned (.int .i64 (sf z len)) ∧ Below w.heap.size w w' := by
  unfold maxLen at _hm
  have HB := hide (al_below w (.cells (sgC z a len cap) 30))
  have HP := hide (sg_new w z a len cap)
  obtain ⟨R, hR⟩ : ∃ R, R = sf z len := ⟨_, rfl⟩
  rw [← hR]
  have HR := hide (show R = 1 by rw [hR, sf_1 z len (by omega)])
  have n6 : (el z 0 != 6) = true := by simpa using h6
  have n17 : (el z 0 != 17) = true := by simpa using h17
  clear hR h6 h17
  go_enter Tryz.func51, Tryz.ntmps51
  go_upto_region 1 with fail
  generalize w.alloc (.cells (sgC z a len cap) 30) = W at HB HP ⊢
  have l0 := HP.out.c0
  have l1 := HP.out.c1
  have l2 := HP.out.c2
  have l3 := HP.out.c3
  have l4 := HP.out.c4
  have l5 := HP.out.c5
  have l6 := HP.out.c6
  have l7 := HP.out.c7
  go_wp2_with (go_at_call 103; refine (sgword_any _ _).mono ?_; rintro e w' ⟨rfl, hw⟩; rw [hw]; clear hw w')
  go_ret
  exact ⟨by rw [HR.out]; rfl, HB.out⟩
set_option maxRecDepth 100000 in
set_option maxHeartbeats 8000000 in
theorem rfault_port (z : List Int) (a : Option Addr) (len cap : Nat) (w : World) (_hm : len ≤ maxLen) (h : el z 0 = 6 ∨ el z 0 = 17) (hp : up 65535 (el z 1) = false ∨ up 65535 (el z 2) = false) :
    Calls Tryz.prog 51 #[.agg (sgC z a len cap)] w fun e w' => e = .returned (.int .i64 (sf z len)) ∧ Below w.heap.size w w' := by
  unfold maxLen at _hm
  have HB := hide (al_below w (.cells (sgC z a len cap) 30))
  have HP := hide (sg_new w z a len cap)
  obtain ⟨R, hR⟩ : ∃ R, R = sf z len := ⟨_, rfl⟩
  rw [← hR]
  have HR := hide (show R = 1 by
    rw [hR, sf_1 z len (fun h' => ?_)]
    have a1 := (up_iff _ _).2 h'.2.1
    have a2 := (up_iff _ _).2 h'.2.2
    rw [a1, a2] at hp
    rcases hp with h | h <;> cases h)
  clear hR
  have n6 : (el z 0 != 6) = decide (el z 0 = 17) := by
    rcases h with h | h <;> rw [h] <;> rfl
  generalize hu1 : up 65535 (el z 1) = u1 at hp
  rcases h with h | h
  case' inl =>
    have k6 : (el z 0 != 6) = false := by rw [h]; rfl
    have n17 : (el z 0 != 17) = true := by rw [h]; rfl
  case' inr =>
    have k6 : (el z 0 != 6) = true := by rw [h]; rfl
    have n17 : (el z 0 != 17) = false := by rw [h]; rfl
  all_goals
    clear n6 h
    cases u1
    · clear hp
      go_enter Tryz.func51, Tryz.ntmps51
      go_upto_region 1 with fail
      generalize w.alloc (.cells (sgC z a len cap) 30) = W at HB HP ⊢
      have l0 := HP.out.c0
      have l1 := HP.out.c1
      have l2 := HP.out.c2
      have l3 := HP.out.c3
      have l4 := HP.out.c4
      have l5 := HP.out.c5
      have l6 := HP.out.c6
      have l7 := HP.out.c7
      go_wp2_with (go_at_call 103; refine (sgword_any _ _).mono ?_; rintro e w' ⟨rfl, hw⟩; rw [hw]; clear hw w')
      go_ret
      exact ⟨by rw [HR.out]; rfl, HB.out⟩
    · have hu2 : up 65535 (el z 2) = false := by simpa using hp
      clear hp
      go_enter Tryz.func51, Tryz.ntmps51
      go_upto_region 1 with fail
      generalize w.alloc (.cells (sgC z a len cap) 30) = W at HB HP ⊢
      have l0 := HP.out.c0
      have l1 := HP.out.c1
      have l2 := HP.out.c2
      have l3 := HP.out.c3
      have l4 := HP.out.c4
      have l5 := HP.out.c5
      have l6 := HP.out.c6
      have l7 := HP.out.c7
      go_wp2_with (go_at_call 103; refine (sgword_any _ _).mono ?_; rintro e w' ⟨rfl, hw⟩; rw [hw]; clear hw w')
      go_ret
      exact ⟨by rw [HR.out]; rfl, HB.out⟩
set_option maxRecDepth 100000 in
set_option maxHeartbeats 8000000 in
theorem rfault_tcp (z : List Int) (a : Option Addr) (len cap : Nat) (w : World) (hm : len ≤ maxLen) (h6 : el z 0 = 6) (hu1 : up 65535 (el z 1) = true) (hu2 : up 65535 (el z 2) = true) :
    Calls Tryz.prog 51 #[.agg (sgC z a len cap)] w fun e w' => e = .returned (.int .i64 (sf z len)) ∧ Below w.heap.size w w' := by
  unfold maxLen at hm
  have HB := hide (al_below w (.cells (sgC z a len cap) 30))
  have HP := hide (sg_new w z a len cap)
  obtain ⟨R, hR⟩ : ∃ R, R = sf z len := ⟨_, rfl⟩
  rw [← hR]
  rw [sf_t z len h6 hu1 hu2] at hR
  have k6 : (el z 0 != 6) = false := by rw [h6]; rfl
  have e17 : (el z 0 == 17) = false := by rw [h6]; rfl
  have n17 : (el z 0 != 17) = true := by rw [h6]; rfl
  generalize hu6 : up 65535 (el z 6) = u6
  clear h6
  go_enter Tryz.func51, Tryz.ntmps51
  go_upto_region 1 with fail
  generalize w.alloc (.cells (sgC z a len cap) 30) = W at HB HP ⊢
  have l0 := HP.out.c0
  have l1 := HP.out.c1
  have l2 := HP.out.c2
  have l3 := HP.out.c3
  have l4 := HP.out.c4
  have l5 := HP.out.c5
  have l6 := HP.out.c6
  have l7 := HP.out.c7
  go_upto_region 8 with (go_at_call 103; refine (sgword_any _ _).mono ?_; rintro e w' ⟨rfl, hw⟩; rw [hw]; clear hw w')
  by_cases c0 : el z 3 < 0
  · have HR := hide (show R = 1 by rw [hR, if_pos (os_no z (by omega))])
    clear hR
    go_wp2
    go_ret
    exact ⟨by rw [HR.out]; rfl, HB.out⟩
  · skip
    by_cases c1 : 4294967295 < el z 3
    · have HR := hide (show R = 1 by rw [hR, if_pos (os_no z (by omega))])
      clear hR
      go_wp2
      go_ret
      exact ⟨by rw [HR.out]; rfl, HB.out⟩
    · skip
      by_cases c2 : el z 4 < 0
      · have HR := hide (show R = 1 by rw [hR, if_pos (os_no z (by omega))])
        clear hR
        go_wp2
        go_ret
        exact ⟨by rw [HR.out]; rfl, HB.out⟩
      · skip
        by_cases c3 : 4294967295 < el z 4
        · have HR := hide (show R = 1 by rw [hR, if_pos (os_no z (by omega))])
          clear hR
          go_wp2
          go_ret
          exact ⟨by rw [HR.out]; rfl, HB.out⟩
        · skip
          by_cases c4 : el z 5 < 0
          · have HR := hide (show R = 1 by rw [hR, if_pos (os_no z (by omega))])
            clear hR
            go_wp2
            go_ret
            exact ⟨by rw [HR.out]; rfl, HB.out⟩
          · skip
            by_cases c5 : 31 < el z 5
            · have HR := hide (show R = 1 by rw [hR, if_pos (os_no z (by omega))])
              clear hR
              go_wp2
              go_ret
              exact ⟨by rw [HR.out]; rfl, HB.out⟩
            · skip
              cases u6
              · have HR := hide (show R = 1 by rw [hR, if_pos (os_no z (fun h => by have := (up_iff 65535 (el z 6)).2 h.2.2; rw [hu6] at this; cases this))])
                clear hR
                go_wp2
                go_ret
                exact ⟨by rw [HR.out]; rfl, HB.out⟩
              · have ho : os z = true := (os_iff z).2 ⟨⟨⟨by omega, by omega⟩, by omega, by omega⟩, ⟨by omega, by omega⟩, up_true hu6⟩
                rw [if_neg (by rw [ho]; decide)] at hR
                clear ho
                by_cases hl : 300 < len
                · have HR := hide (show R = 3 by rw [hR, if_pos hl])
                  clear hR
                  go_wp2
                  go_ret
                  exact ⟨by rw [HR.out]; rfl, HB.out⟩
                · have HR := hide (show R = 0 by rw [hR, if_neg hl])
                  clear hR
                  go_wp2
                  go_ret
                  exact ⟨by rw [HR.out]; rfl, HB.out⟩
set_option maxRecDepth 100000 in
set_option maxHeartbeats 8000000 in
theorem rfault_udp (z : List Int) (a : Option Addr) (len cap : Nat) (w : World) (hm : len ≤ maxLen) (h17 : el z 0 = 17) (hu1 : up 65535 (el z 1) = true) (hu2 : up 65535 (el z 2) = true) :
    Calls Tryz.prog 51 #[.agg (sgC z a len cap)] w fun e w' => e = .returned (.int .i64 (sf z len)) ∧ Below w.heap.size w w' := by
  unfold maxLen at hm
  have HB := hide (al_below w (.cells (sgC z a len cap) 30))
  have HP := hide (sg_new w z a len cap)
  obtain ⟨R, hR⟩ : ∃ R, R = sf z len := ⟨_, rfl⟩
  rw [← hR]
  rw [sf_u z len h17 hu1 hu2] at hR
  have k6 : (el z 0 != 6) = true := by rw [h17]; rfl
  have e17 : (el z 0 == 17) = true := by rw [h17]; rfl
  have n17 : (el z 0 != 17) = false := by rw [h17]; rfl
  clear h17
  go_enter Tryz.func51, Tryz.ntmps51
  go_upto_region 1 with fail
  generalize w.alloc (.cells (sgC z a len cap) 30) = W at HB HP ⊢
  have l0 := HP.out.c0
  have l1 := HP.out.c1
  have l2 := HP.out.c2
  have l3 := HP.out.c3
  have l4 := HP.out.c4
  have l5 := HP.out.c5
  have l6 := HP.out.c6
  have l7 := HP.out.c7
  go_upto_region 5 with (go_at_call 103; refine (sgword_any _ _).mono ?_; rintro e w' ⟨rfl, hw⟩; rw [hw]; clear hw w')
  by_cases c3 : el z 3 = 0
  case neg =>
    have n3 : (el z 3 != 0) = true := by simpa using c3
    have HR := hide (show R = 2 by rw [hR, if_pos (zs_no z (by omega))])
    clear hR
    go_wp2
    go_ret
    exact ⟨by rw [HR.out]; rfl, HB.out⟩
  have n3 : (el z 3 != 0) = false := by rw [c3]; rfl
  by_cases c4 : el z 4 = 0
  case neg =>
    have n4 : (el z 4 != 0) = true := by simpa using c4
    have HR := hide (show R = 2 by rw [hR, if_pos (zs_no z (by omega))])
    clear hR
    go_wp2
    go_ret
    exact ⟨by rw [HR.out]; rfl, HB.out⟩
  have n4 : (el z 4 != 0) = false := by rw [c4]; rfl
  by_cases c5 : el z 5 = 0
  case neg =>
    have n5 : (el z 5 != 0) = true := by simpa using c5
    have HR := hide (show R = 2 by rw [hR, if_pos (zs_no z (by omega))])
    clear hR
    go_wp2
    go_ret
    exact ⟨by rw [HR.out]; rfl, HB.out⟩
  have n5 : (el z 5 != 0) = false := by rw [c5]; rfl
  by_cases c6 : el z 6 = 0
  case neg =>
    have n6 : (el z 6 != 0) = true := by simpa using c6
    have HR := hide (show R = 2 by rw [hR, if_pos (zs_no z (by omega))])
    clear hR
    go_wp2
    go_ret
    exact ⟨by rw [HR.out]; rfl, HB.out⟩
  have n6 : (el z 6 != 0) = false := by rw [c6]; rfl
  have hu6 : up 65535 (el z 6) = true := (up_iff _ _).2 (by omega)
  rw [if_neg (by rw [(ups4 0 _ _ _ _).2 (by omega)]; decide)] at hR
  rw [c3] at l3
  rw [c4] at l4
  rw [c5] at l5
  rw [c6] at l6 hu6
  have z3 : ((0 : Int) != 0) = false := rfl
  clear n3 n4 n5 n6 c3 c4 c5 c6
  by_cases hl : 300 < len
  · have HR := hide (show R = 3 by rw [hR, if_pos hl])
    clear hR
    go_wp2_with (go_at_call 103; refine (sgword_any _ _).mono ?_; rintro e w' ⟨rfl, hw⟩; rw [hw]; clear hw w')
    go_ret
    exact ⟨by rw [HR.out]; rfl, HB.out⟩
  · have HR := hide (show R = 0 by rw [hR, if_neg hl])
    clear hR
    go_wp2_with (go_at_call 103; refine (sgword_any _ _).mono ?_; rintro e w' ⟨rfl, hw⟩; rw [hw]; clear hw w')
    go_ret
    exact ⟨by rw [HR.out]; rfl, HB.out⟩
theorem rfault_any (z : List Int) (a : Option Addr) (len cap : Nat) (w : World) (hm : len ≤ maxLen) :
    Calls Tryz.prog 51 #[.agg (sgC z a len cap)] w fun e w' => e = .returned (.int .i64 (sf z len)) ∧ Below w.heap.size w w' := by
  by_cases h : el z 0 = 6 ∨ el z 0 = 17
  · cases h1 : up 65535 (el z 1)
    · exact rfault_port z a len cap w hm h (.inl h1)
    · cases h2 : up 65535 (el z 2)
      · exact rfault_port z a len cap w hm h (.inr h2)
      · rcases h with h | h
        · exact rfault_tcp z a len cap w hm h h1 h2
        · exact rfault_udp z a len cap w hm h h1 h2
  · exact rfault_none z a len cap w hm (fun h' => h (.inl h')) (fun h' => h (.inr h'))
end Go.Proofs.YtkhahbghmdccaaaGreat

namespace Go.Proofs.YtkhahbghmdccaaaGreat
open Go.RowKit
attribute [local go_sem ↓] Go.wp_at_zero Go.wp_at_succ
theorem alloc_drewN (w : World) (n : Nat) (o : Obj) : (w.drewN n).alloc o = (w.alloc o).drewN n := rfl
theorem setCell_drewN (w : World) (n : Nat) (a : Addr) (v : Value) : (w.drewN n).setCell a v = (w.setCell a v).drewN n := rfl
attribute [local go_sem] alloc_drewN setCell_drewN
theorem word_at (g off len cap : Nat) (zs : List Int) (w : World) (x : Int) (hr : Row8 w (some ⟨g, off, none⟩) len cap zs) (h0 : 0 ≤ x) (h1 : x + 1 < len) :
    Calls Tryz.prog 120 #[.slice (some ⟨g, off, none⟩) len cap, .int .i64 x] w fun e w' => e = .returned (.int .i64 (P4.wd zs x.toNat)) ∧ ∃ n, w' = w.drewN n := by
  obtain ⟨j, rfl⟩ := Int.eq_ofNat_of_zero_le h0
  obtain ⟨hz, hm, hoct, _, hcs⟩ := hr
  obtain ⟨b, o, e, hcell⟩ := hcs (by omega)
  cases e
  have c0 := hcell j (by omega)
  have c1 := hcell (j + 1) (by omega)
  have b0 := hoct j
  have b1 := hoct (j + 1)
  have HW := hide (show P4.wd zs (Int.toNat (j : Int)) = 256 * zs.getD j 0 + zs.getD (j + 1) 0 from rfl)
  clear hcell hcs hoct
  generalize zs.getD j 0 = y0 at c0 b0 HW
  generalize zs.getD (j + 1) 0 = y1 at c1 b1 HW
  unfold maxLen at hm
  have i0 : (0 : Int) ≤ (j : Int) := by omega
  have i1 : (j : Int) < (len : Int) := by omega
  have i2 : (j : Int) + 1 < (len : Int) := by omega
  have q0 : IntKind.i64.wrap ((j : Int) + 1) = (j : Int) + 1 := by rw [IntKind.wrap_i64]; omega
  have q1 : IntKind.i64.wrap y0 = y0 := by rw [IntKind.wrap_i64]; omega
  have q2 : IntKind.i64.wrap y1 = y1 := by rw [IntKind.wrap_i64]; omega
  have q3 : IntKind.i64.wrap (256 * y0) = 256 * y0 := by rw [IntKind.wrap_i64]; omega
  have q4 : IntKind.i64.wrap (256 * y0 + y1) = 256 * y0 + y1 := by rw [IntKind.wrap_i64]; omega
  clear h0 h1
  go_enter Tryz.func120, Tryz.ntmps120
  go_upto_region 1 with fail
  go_quiet (fail)
  go_wp2
  go_ret
  exact ⟨by rw [HW.out]; rfl, _, rfl⟩
theorem word_b (g off len cap : Nat) (zs : List Int) (w : World) (x : Int) (hr : Row8 w (some ⟨g, off, none⟩) len cap zs) (h0 : 0 ≤ x) (h1 : x + 1 < len) :
    Calls Tryz.prog 120 #[.slice (some ⟨g, off, none⟩) len cap, .int .i64 x] w fun e w' => e = .returned (.int .i64 (P4.wd zs x.toNat)) ∧ Below w.heap.size w w' :=
  (word_at g off len cap zs w x hr h0 h1).mono fun e w' ⟨h1, n, h2⟩ => ⟨h1, by rw [h2]; exact (Below.refl _ _).trans ⟨rfl, rfl, rfl, Nat.le_refl _, fun _ _ => rfl⟩⟩
theorem wd_bd (zs : List Int) (ho : SM.Oct zs) (j : Nat) : 0 ≤ P4.wd zs j ∧ P4.wd zs j ≤ 65535 := by
  have := ho j
  have := ho (j + 1)
  unfold P4.wd
  omega
theorem wd_num (zs : List Int) (j : Nat) : P4.wd zs j = num (zs.drop j) 2 := by rw [num_2]; unfold P4.wd; omega
theorem rdz_wd_udp (zs : List Int) : rdz 17 zs = [17, P4.wd zs 0, P4.wd zs 2, 0, 0, 0, 0] := by
  rw [wd_num, wd_num]; rfl
theorem rdz_wd_tcp (zs : List Int) : rdz 6 zs = [6, P4.wd zs 0, P4.wd zs 2, 65536 * P4.wd zs 4 + P4.wd zs 6, 65536 * P4.wd zs 8 + P4.wd zs 10, zs.getD 13 0, P4.wd zs 14] := by
  have e4 : 65536 * P4.wd zs 4 + P4.wd zs 6 = num (zs.drop 4) 4 := by rw [num_4]; unfold P4.wd; simp only [Nat.reduceAdd]; omega
  have e8 : 65536 * P4.wd zs 8 + P4.wd zs 10 = num (zs.drop 8) 4 := by rw [num_4]; unfold P4.wd; simp only [Nat.reduceAdd]; omega
  have e13 : zs.getD 13 0 = num (zs.drop 13) 1 := (num_1 zs 13).symm
  rw [e4, e8, e13, wd_num, wd_num, wd_num]; rfl
def Rq (w : World) (B : Nat) (z : List Int) (a : Option Addr) (n c : Nat) (W : World) : Prop := SgIn B z a n c W ∧ SgIn w.heap.size [] none 0 0 W ∧ w.heap.size ≠ B ∧ w.heap.size ≤ B ∧ Below w.heap.size w W
theorem Rq.kept {w : World} {B : Nat} {z : List Int} {a : Option Addr} {n c : Nat} {W W' : World} (h : Rq w B z a n c W) (hb : Below W.heap.size W W') : Rq w B z a n c W' := ⟨h.1.kept hb, h.2.1.kept hb, h.2.2.1, h.2.2.2.1, bt h.2.2.2.2 hb⟩
theorem Rq.set {w : World} {B : Nat} {z : List Int} {a : Option Addr} {n c : Nat} {W : World} (h : Rq w B z a n c W) (j : Nat) (x : Int) (z' : List Int) (hz : (sgC z a n c).setIfInBounds j (.int .i64 x) = sgC z' a n c) : Rq w B z' a n c (W.setCell ⟨B, j, none⟩ (.int .i64 x)) := by
  have ho := only_setCell W B j _ _ (.int .i64 x) h.1
  have := setCell_heap_same W B j _ _ (.int .i64 x) h.1
  rw [hz] at this
  exact ⟨this, ho.sg h.2.1 h.2.2.1, h.2.2.1, h.2.2.2.1, ho.below h.2.2.2.2 h.2.2.2.1⟩
end Go.Proofs.YtkhahbghmdccaaaGreat

namespace Go.Proofs.YtkhahbghmdccaaaGreat
open Go.RowKit
attribute [local go_sem ↓] Go.wp_at_zero Go.wp_at_succ
attribute [local go_sem] alloc_drewN setCell_drewN
theorem rq_new (w W : World) (N : Nat) (z : List Int) (a : Option Addr) (n c : Nat) (hP : SgIn w.heap.size [] none 0 0 W) (hB : Below w.heap.size w W) : Rq w W.heap.size z a n c ((W.alloc (.cells (sgC z a n c) 30)).drewN N) := by
  have hb : Below W.heap.size W ((W.alloc (.cells (sgC z a n c) 30)).drewN N) := (al_below _ _).trans ⟨rfl, rfl, rfl, Nat.le_refl _, fun _ _ => rfl⟩
  exact ⟨sg_new W z a n c, hP.kept hb, Nat.ne_of_lt hP.lt, Nat.le_of_lt hP.lt, bt hB hb⟩
set_option maxRecDepth 100000 in
set_option maxHeartbeats 8000000 in
theorem rseg_udp_ok (over : Int) (g off len cap : Nat) (zs : List Int) (w : World) (hr : Row8 w (some ⟨g, off, none⟩) len cap zs) (ho : up 65535 over = true) (h1 : 8 ≤ len) (h2 : len ≤ 308) (hcl : len ≤ cap) (hcm : cap ≤ maxLen) (hs : P4.wd zs 4 = (len : Int)) (r : Bool) (hrr : P4.wd zs 6 = sck (rdz 17 zs) over (zs.drop 8) ↔ r = true) :
    Calls Tryz.prog 64 #[.int .i64 17, .slice (some ⟨g, off, none⟩) len cap, .int .i64 over] w fun e w' => ((r = false ∧ e = .returned (.tuple #[sg0, .int .i64 6])) ∨ (r = true ∧ ∃ a' c', e = .returned (.tuple #[.agg (sgC (rdz 17 zs) a' (len - 8) c'), .int .i64 0]) ∧ Row8 w' a' (len - 8) c' (zs.drop 8))) ∧ Below w.heap.size w w' := by
  have hlen := hr.1
  have hoct := hr.2.2.1
  have HB := hide (al_below w (.cells zero7 30))
  have HP := hide (zero_new w)
  unfold zero7 at HB HP
  have HRow := hide hr
  have HW := hide (fun W x h h0 h1 => word_b g off len cap zs W x h h0 h1)
  obtain ⟨ao, hao⟩ : ∃ ao, (if cap = 8 then some (⟨g, off, none⟩ : Addr) else some ⟨g, off + 8, none⟩) = ao := ⟨_, rfl⟩
  have HPart := hide (fun W (h : Row8 W (some ⟨g, off, none⟩) len cap zs) => h.behind 8 (by omega) hcl ao hao)
  have hcm' := hcm
  unfold maxLen at hcm'
  have iH : (8 : Int) ≤ (len : Int) := by omega
  have iHM : ¬ (308 : Int) < (len : Int) := by omega
  have iH0 : ¬ (len : Int) < 8 := by omega
  have ilc : (len : Int) ≤ (cap : Int) := by omega
  have f4 : (P4.wd zs 4 != (len : Int)) = false := by simpa using hs
  have HOk := hide (okg_udp zs hoct (len - 8) (by omega))
  have HC := hide (fun W a' c' (h : Row8 W a' (len - 8) c' (zs.drop 8)) => rcheck_any (rdz 17 zs) a' (len - 8) c' over (zs.drop 8) W HOk.out ho h)
  rw [rdz_wd_udp] at HC hrr HOk ⊢
  have fr : (P4.wd zs 6 != sck [17, P4.wd zs 0, P4.wd zs 2, 0, 0, 0, 0] over (zs.drop 8)) = !r := by
    cases r
    · have : ¬ (P4.wd zs 6 = sck [17, P4.wd zs 0, P4.wd zs 2, 0, 0, 0, 0] over (zs.drop 8)) := fun h => by have := hrr.1 h; cases this
      simpa using this
    · simpa using hrr.2 rfl
  generalize sck [17, P4.wd zs 0, P4.wd zs 2, 0, 0, 0, 0] over (zs.drop 8) = C at HC fr
  clear hs hr hrr HOk
  go_enter Tryz.func64, Tryz.ntmps64
  go_upto_region 1 with fail
  generalize w.alloc _ = W at HB HP ⊢
  go_upto_region 9 with (go_at_call 103; refine (sgword_any _ _).mono ?_; rintro e w' ⟨rfl, hw⟩; rw [hw]; clear hw w')
  have HR0 := hide (HRow.out.below HB.out)
  have HA := hide (fun m x h0 h1 => word_at g off len cap zs (W.drewN m) x (HR0.out.drewN m) h0 h1)
  have HA' := hide (fun x h0 h1 => word_at g off len cap zs W.drew x (HR0.out.drewN 1) h0 h1)
  have HZ := hide (fun m x h0 h1 => word_at g off len cap zs ((W.alloc (.cells #[.int .i64 0, .int .i64 0, .int .i64 0, .int .i64 0, .int .i64 0, .int .i64 0, .int .i64 0, .slice none 0 0] 30)).drewN m) x ((HR0.out.below (al_below _ _)).drewN m) h0 h1)
  have HZ' := hide (fun x h0 h1 => word_at g off len cap zs (W.alloc (.cells #[.int .i64 0, .int .i64 0, .int .i64 0, .int .i64 0, .int .i64 0, .int .i64 0, .int .i64 0, .slice none 0 0] 30)).drew x ((HR0.out.below (al_below _ _)).drewN 1) h0 h1)
  go_cut [10] from 12 (fun v10 Wc => v10 = .pointer (some ⟨W.heap.size, 0, none⟩) ∧ ∃ N, Wc = (W.alloc (.cells #[.int .i64 17, .int .i64 (P4.wd zs 0), .int .i64 (P4.wd zs 2), .int .i64 0, .int .i64 0, .int .i64 0, .int .i64 0, .slice ao (len - 8) (cap - 8)] 30)).drewN N)
  case first =>
    go_region_held3 (fun _ => True)
      (trivial)
      (first
        | (go_at_call 120; (with_reducible refine (HA.out _ _ (by omega) (by omega)).mono ?_); rintro e w2 ⟨rfl, n2, rfl⟩)
        | (go_at_call 120; (with_reducible refine (HA'.out _ (by omega) (by omega)).mono ?_); rintro e w2 ⟨rfl, n2, rfl⟩)
        | (go_at_call 120; (with_reducible refine (HZ.out _ _ (by omega) (by omega)).mono ?_); rintro e w2 ⟨rfl, n2, rfl⟩)
        | (go_at_call 120; (with_reducible refine (HZ'.out _ (by omega) (by omega)).mono ?_); rintro e w2 ⟨rfl, n2, rfl⟩))
    all_goals
      go_wp2_with fail
      go_meet
      exact ⟨rfl, _, rfl⟩
  case rest =>
    obtain ⟨rfl, N, rfl⟩ := hcut
    have HQ := hide (rq_new w W N [17, P4.wd zs 0, P4.wd zs 2, 0, 0, 0, 0] ao (len - 8) (cap - 8) HP.out HB.out)
    clear HA HA' HZ HZ' hao HR0 HB HP
    replace HQ : Hid (Rq w W.heap.size [17, P4.wd zs 0, P4.wd zs 2, 0, 0, 0, 0] ao (len - 8) (cap - 8) ((W.alloc (.cells #[.int .i64 17, .int .i64 (P4.wd zs 0), .int .i64 (P4.wd zs 2), .int .i64 0, .int .i64 0, .int .i64 0, .int .i64 0, .slice ao (len - 8) (cap - 8)] 30)).drewN N)) := HQ
    generalize (W.alloc (.cells #[.int .i64 17, .int .i64 (P4.wd zs 0), .int .i64 (P4.wd zs 2), .int .i64 0, .int .i64 0, .int .i64 0, .int .i64 0, .slice ao (len - 8) (cap - 8)] 30)).drewN N = W1 at HQ ⊢
    generalize W.heap.size = B at HQ ⊢
    go_upto_region 21 with (go_at_call 120; refine (HW.out _ _ (HRow.out.below HQ.out.2.2.2.2) (by omega) (by omega)).mono ?_; rintro e w3 ⟨rfl, hb3⟩; replace HQ := hide (HQ.out.kept hb3); clear hb3)
    go_upto_if 105 with (first
      | (refine at_load rfl (.tmp 10) rfl rfl HQ.out.1 ?_)
      | (go_at_call 74; refine (HC.out _ _ _ (HPart.out _ (HRow.out.below HQ.out.2.2.2.2))).mono ?_; rintro e w6 ⟨rfl, hb6⟩; replace HQ := hide (HQ.out.kept hb6); clear hb6))
    cases r
    · go_wp2_with (first | (refine at_store rfl (.tmp 6) (.tmp 106) rfl rfl HQ.out.2.1 [] none 0 0 rfl ?_; intro w5 p5 on5; replace HQ := hide (on5.below HQ.out.2.2.2.2 (Nat.le_refl _)); replace p5 := hide p5; clear on5))
      try simp only [Exit.inBlock, Exit.then]
      refine bodyPost_ret (results_sg rfl _ _ w.heap.size [] none 0 0 rfl p5.out) rfl ?_
      exact ⟨rfl, HQ.out⟩
    · have HR9 := hide (HPart.out _ (HRow.out.below HQ.out.2.2.2.2))
      go_wp2_with (first
        | (refine at_load rfl (.tmp 10) rfl rfl HQ.out.1 ?_)
        | (refine at_store rfl (.tmp 6) (.tmp 107) rfl rfl HQ.out.2.1 [17, P4.wd zs 0, P4.wd zs 2, 0, 0, 0, 0] ao (len - 8) (cap - 8) rfl ?_; intro w5 p5 on5; replace HQ := hide (on5.below HQ.out.2.2.2.2 (Nat.le_refl _)); replace p5 := hide p5; clear on5))
      try simp only [Exit.inBlock, Exit.then]
      refine bodyPost_ret (results_sg rfl _ _ w.heap.size [17, P4.wd zs 0, P4.wd zs 2, 0, 0, 0, 0] ao (len - 8) (cap - 8) rfl p5.out) rfl ?_
      exact ⟨⟨ao, cap - 8, rfl, HPart.out _ (HRow.out.below HQ.out)⟩, HQ.out⟩
end Go.Proofs.YtkhahbghmdccaaaGreat
