/- The document's own SegBytes and CheckOf, by contracts. The document's own SegFault, by a contract. The document's own size, Packed4 and Packed6, by contracts. -/
import Derived.Test.YtkhahbghmdccaaaGreatU29
import Derived.Test.YtkhahbghmdccaaaGreatU30
import Derived.Below
import Derived.OpenShut
import Derived.Test.YtkhahbghmdccaaaGreatProg
import Derived.WalkKit
import Derived.LaidEql
import Derived.BigQuiet
import Derived.Laws.AppendOwnNone
import Derived.Laws.MakeOwn
import Derived.Deep.RegionLaw
import Derived.Lib.Bytes
import Derived.Deep.MidRow
import Derived.Laws.ResultCell
import Derived.Deep.CutBlock
import Derived.Deep.QuietTactic
import Derived.OwnWalk
import Derived.Deep.RegionHeld3
import Derived.Deep.DrawnRows
import Derived.Test.YtkhahbghmdccaaaGreatU05
import Derived.Test.YtkhahbghmdccaaaGreatU06
import Derived.Test.YtkhahbghmdccaaaGreatU09
import Derived.Test.YtkhahbghmdccaaaGreatU21
import Derived.Test.YtkhahbghmdccaaaGreatU25
import Derived.Test.YtkhahbghmdccaaaGreatU27
namespace Go.Proofs.YtkhahbghmdccaaaGreat
open Go.RowKit
/-- a segment's bytes with a check. -/
def sbx (z : List Int) (C : Int) (data : List Int) : List Int := if el z 0 = 6 then hdT (el z 1) (el z 2) (el z 3) (el z 4) (el z 5) (el z 6) C ++ data else hdU (el z 1) (el z 2) (8 + data.length) C ++ data
theorem sbx_eb (z : List Int) (over : Int) (data : List Int) (h : Okg z data.length) : sbx z (sck z over data) data = eb z over data := by
  unfold sbx
  split
  · rename_i h6; exact (eb_tcp z over data h h6).symm
  · rename_i h6; exact (eb_udp z over data h h6).symm
theorem sbx_ub (z : List Int) (data : List Int) (h : Okg z data.length) : sbx z 0 data = ub z data := by
  unfold sbx
  split
  · rename_i h6; exact (ub_tcp z data h h6).symm
  · rename_i h6; exact (ub_udp z data h h6).symm
theorem wsn_tcp (f t q c g v C : Int) (hf : 0 ≤ f ∧ f ≤ 65535) (ht : 0 ≤ t ∧ t ≤ 65535) (hq : 0 ≤ q ∧ q ≤ 4294967295) (hc : 0 ≤ c ∧ c ≤ 4294967295) (hg : 0 ≤ g ∧ g ≤ 31) (hv : 0 ≤ v ∧ v ≤ 65535) (hC : 0 ≤ C ∧ C ≤ 65535) :
    wsn 2 [f, t, q / 65536, q % 65536, c / 65536, c % 65536, 20480 + g, v, C, 0] 10 = hdT f t q c g v C := by
  show (((((((((([] ++ nb 2 f) ++ nb 2 t) ++ nb 2 (q / 65536)) ++ nb 2 (q % 65536)) ++ nb 2 (c / 65536)) ++ nb 2 (c % 65536)) ++ nb 2 (20480 + g)) ++ nb 2 v) ++ nb 2 C) ++ nb 2 0) = _
  rw [nb2 f hf.1 hf.2, nb2 t ht.1 ht.2, nb2 (q / 65536) (by omega) (by omega), nb2 (q % 65536) (by omega) (by omega), nb2 (c / 65536) (by omega) (by omega), nb2 (c % 65536) (by omega) (by omega), nb2 (20480 + g) (by omega) (by omega), nb2 v hv.1 hv.2, nb2 C hC.1 hC.2, nb2 0 (by omega) (by omega)]
  show [f / 256, f % 256, t / 256, t % 256, q / 65536 / 256, q / 65536 % 256, q % 65536 / 256, q % 65536 % 256, c / 65536 / 256, c / 65536 % 256, c % 65536 / 256, c % 65536 % 256, (20480 + g) / 256, (20480 + g) % 256, v / 256, v % 256, C / 256, C % 256, 0, 0] = _
  unfold hdT
  rw [show q / 65536 / 256 = q / 16777216 by omega, show q % 65536 / 256 = q / 256 % 256 by omega, show q % 65536 % 256 = q % 256 by omega, show c / 65536 / 256 = c / 16777216 by omega, show c % 65536 / 256 = c / 256 % 256 by omega, show c % 65536 % 256 = c % 256 by omega, show (20480 + g) / 256 = 80 by omega, show (20480 + g) % 256 = g by omega]
theorem wsn_udp (f t n C : Int) (hf : 0 ≤ f ∧ f ≤ 65535) (ht : 0 ≤ t ∧ t ≤ 65535) (hn : 0 ≤ n ∧ n ≤ 65535) (hC : 0 ≤ C ∧ C ≤ 65535) : wsn 2 [f, t, n, C] 4 = hdU f t n C := by
  show (((([] ++ nb 2 f) ++ nb 2 t) ++ nb 2 n) ++ nb 2 C) = _
  rw [nb2 f hf.1 hf.2, nb2 t ht.1 ht.2, nb2 n hn.1 hn.2, nb2 C hC.1 hC.2]
  rfl
theorem ints4 (w : World) (x y u v : Int) : Ints w.heap.size [x, y, u, v] (w.alloc (.cells #[.int .i64 x, .int .i64 y, .int .i64 u, .int .i64 v] 3)) := ints_new w [x, y, u, v]
theorem ints10 (w : World) (x0 x1 x2 x3 x4 x5 x6 x7 x8 x9 : Int) : Ints w.heap.size [x0, x1, x2, x3, x4, x5, x6, x7, x8, x9] (w.alloc (.cells #[.int .i64 x0, .int .i64 x1, .int .i64 x2, .int .i64 x3, .int .i64 x4, .int .i64 x5, .int .i64 x6, .int .i64 x7, .int .i64 x8, .int .i64 x9] 3)) := ints_new w [x0, x1, x2, x3, x4, x5, x6, x7, x8, x9]
set_option maxRecDepth 100000 in
set_option maxHeartbeats 4000000 in
theorem rbytes_udp (z : List Int) (a : Option Addr) (len cap : Nat) (C : Int) (data : List Int) (w : World) (h : Okg z len) (h17 : el z 0 = 17) (hC : 0 ≤ C ∧ C ≤ 65535) (hr : Row8 w a len cap data) :
    Calls Tryz.prog 73 #[.agg (sgC z a len cap), .int .i64 C] w fun e w' => ∃ v, e = .returned v ∧ Own w.heap.size w' v (sbx z C data) ∧ Below w.heap.size w w' := by
  obtain ⟨hf, ht, hl, -⟩ := h
  have HB := hide (al_below w (.cells (sgC z a len cap) 30))
  have HP := hide (sg_new w z a len cap)
  have HU := hide (show sbx z C data = wsn 2 [el z 1, el z 2, 8 + (len : Int), C] 4 ++ data by
    rw [wsn_udp _ _ _ _ hf ht (by omega) hC, ← hr.1]
    exact if_neg (by omega))
  have HW := hide (fun W0 W B hg hi => words_any W0 (.slice none 0 0) [] B 4 [el z 1, el z 2, 8 + (len : Int), C] W hg hi rfl (by omega) (by simp) (fun j hj => by
    rcases (by omega : j = 0 ∨ j = 1 ∨ j = 2 ∨ j = 3) with rfl | rfl | rfl | rfl
    · exact hf
    · exact ht
    · show 0 ≤ 8 + (len : Int) ∧ 8 + (len : Int) ≤ 65535; omega
    · exact hC))
  simp only [List.nil_append] at HW
  have L1 := hide (wsn_len 2 [el z 1, el z 2, 8 + (len : Int), C] 4)
  generalize sbx z C data = U at HU ⊢
  generalize wsn 2 [el z 1, el z 2, 8 + (len : Int), C] 4 = Z1 at HU HW L1
  have e17 : (el z 0 == 17) = true := by simpa using h17
  have HR := hide hr
  have HM := hide (show Z1.length + len ≤ 1000000000 by have := L1.out; omega)
  clear h17 hr L1 hC
  go_enter Tryz.func73, Tryz.ntmps73
  go_upto_region 1 with fail
  generalize w.alloc (.cells (sgC z a len cap) 30) = W at HB HP ⊢
  have l0 := HP.out.c0
  have l1 := HP.out.c1
  have l2 := HP.out.c2
  have l7 := HP.out.c7
  go_upto_region 5 with (go_at_call 98; refine (HW.out W _ _ ((Gr.nil W).below (al_below _ _)) (ints4 W _ _ _ _)).mono ?_; rintro e w1 ⟨v1, rfl, hg1⟩; replace hg1 := hide hg1; clear l0 l1 l2 l7)
  have l7 := (HP.out.kept hg1.out.2).c7
  go_wp2_with (at_builtin; refine gr_app rfl (.tmp 46) (.tmp 48) rfl rfl hg1.out rfl ((HR.out.below HB.out).below hg1.out.2) HM.out ?_; intro v5 w5 hg5; replace hg5 := hide hg5; clear l7)
  go_ret
  exact ⟨v5, rfl, HU.out ▸ hg5.out.1.mono HB.out.size, HB.out.trans (hg5.out.2.mono HB.out.size)⟩
set_option maxRecDepth 100000 in
set_option maxHeartbeats 4000000 in
theorem rbytes_tcp (z : List Int) (a : Option Addr) (len cap : Nat) (C : Int) (data : List Int) (w : World) (h : Okg z len) (h6 : el z 0 = 6) (hC : 0 ≤ C ∧ C ≤ 65535) (hr : Row8 w a len cap data) :
    Calls Tryz.prog 73 #[.agg (sgC z a len cap), .int .i64 C] w fun e w' => ∃ v, e = .returned v ∧ Own w.heap.size w' v (sbx z C data) ∧ Below w.heap.size w w' := by
  obtain ⟨hf, ht, hl, h⟩ := h
  obtain ⟨-, hq, hc, hg, hv⟩ : el z 0 = 6 ∧ (0 ≤ el z 3 ∧ el z 3 ≤ 4294967295) ∧ (0 ≤ el z 4 ∧ el z 4 ≤ 4294967295) ∧ (0 ≤ el z 5 ∧ el z 5 ≤ 31) ∧ (0 ≤ el z 6 ∧ el z 6 ≤ 65535) := by
    rcases h with h | h
    · exact h
    · omega
  have HB := hide (al_below w (.cells (sgC z a len cap) 30))
  have HP := hide (sg_new w z a len cap)
  have HU := hide (show sbx z C data = wsn 2 [el z 1, el z 2, el z 3 / 65536, el z 3 % 65536, el z 4 / 65536, el z 4 % 65536, 20480 + el z 5, el z 6, C, 0] 10 ++ data by
    rw [wsn_tcp _ _ _ _ _ _ _ hf ht hq hc hg hv hC]
    exact if_pos h6)
  have HW := hide (fun W0 W B hg' hi => words_any W0 (.slice none 0 0) [] B 10 [el z 1, el z 2, el z 3 / 65536, el z 3 % 65536, el z 4 / 65536, el z 4 % 65536, 20480 + el z 5, el z 6, C, 0] W hg' hi rfl (by omega) (by simp) (fun j hj => by
    rcases (by omega : j = 0 ∨ j = 1 ∨ j = 2 ∨ j = 3 ∨ j = 4 ∨ j = 5 ∨ j = 6 ∨ j = 7 ∨ j = 8 ∨ j = 9) with rfl | rfl | rfl | rfl | rfl | rfl | rfl | rfl | rfl | rfl <;> simp only [List.getD_cons_zero, List.getD_cons_succ] <;> omega))
  simp only [List.nil_append] at HW
  have L1 := hide (wsn_len 2 [el z 1, el z 2, el z 3 / 65536, el z 3 % 65536, el z 4 / 65536, el z 4 % 65536, 20480 + el z 5, el z 6, C, 0] 10)
  generalize sbx z C data = U at HU ⊢
  generalize wsn 2 [el z 1, el z 2, el z 3 / 65536, el z 3 % 65536, el z 4 / 65536, el z 4 % 65536, 20480 + el z 5, el z 6, C, 0] 10 = Z1 at HU HW L1
  have e17 : (el z 0 == 17) = false := by rw [h6]; rfl
  have HR := hide hr
  have HM := hide (show Z1.length + len ≤ 1000000000 by have := L1.out; omega)
  clear h6 hr L1 hC h
  go_enter Tryz.func73, Tryz.ntmps73
  go_upto_region 1 with fail
  generalize w.alloc (.cells (sgC z a len cap) 30) = W at HB HP ⊢
  have l0 := HP.out.c0
  have l1 := HP.out.c1
  have l2 := HP.out.c2
  have l3 := HP.out.c3
  have l4 := HP.out.c4
  have l5 := HP.out.c5
  have l6 := HP.out.c6
  go_upto_region 5 with (go_at_call 98; refine (HW.out W _ _ ((Gr.nil W).below (al_below _ _)) (ints10 W _ _ _ _ _ _ _ _ _ _)).mono ?_; rintro e w1 ⟨v1, rfl, hg1⟩; replace hg1 := hide hg1; clear l0 l1 l2 l3 l4 l5 l6)
  have l7 := (HP.out.kept hg1.out.2).c7
  go_wp2_with (at_builtin; refine gr_app rfl (.tmp 46) (.tmp 48) rfl rfl hg1.out rfl ((HR.out.below HB.out).below hg1.out.2) HM.out ?_; intro v5 w5 hg5; replace hg5 := hide hg5; clear l7)
  go_ret
  exact ⟨v5, rfl, HU.out ▸ hg5.out.1.mono HB.out.size, HB.out.trans (hg5.out.2.mono HB.out.size)⟩
theorem rbytes_any (z : List Int) (a : Option Addr) (len cap : Nat) (C : Int) (data : List Int) (w : World) (h : Okg z len) (hC : 0 ≤ C ∧ C ≤ 65535) (hr : Row8 w a len cap data) :
    Calls Tryz.prog 73 #[.agg (sgC z a len cap), .int .i64 C] w fun e w' => ∃ v, e = .returned v ∧ Own w.heap.size w' v (sbx z C data) ∧ Below w.heap.size w w' := by
  by_cases h6 : el z 0 = 6
  · exact rbytes_tcp z a len cap C data w h h6 hC hr
  · exact rbytes_udp z a len cap C data w h (by obtain ⟨_, _, _, h | h⟩ := h <;> omega) hC hr
set_option maxRecDepth 100000 in
set_option maxHeartbeats 4000000 in
theorem rcheck_any (z : List Int) (a : Option Addr) (len cap : Nat) (over : Int) (data : List Int) (w : World) (h : Okg z len) (ho : up 65535 over = true) (hr : Row8 w a len cap data) :
    Calls Tryz.prog 74 #[.agg (sgC z a len cap), .int .i64 over] w fun e w' => e = .returned (.int .i64 (sck z over data)) ∧ Below w.heap.size w w' := by
  obtain ⟨ho0, ho1⟩ := up_true ho
  have HB := hide (al_below w (.cells (sgC z a len cap) 30))
  have HP := hide (sg_new w z a len cap)
  have hlen := hr.1
  have hl := h.2.2.1
  have hoct := hr.2.2.1
  have HS := hide (fun W hr' => rbytes_any z a len cap 0 data W h (by omega) hr')
  rw [sbx_ub z data (by rw [hlen]; exact h)] at HS
  have hck : sck z over data = ckg (el z 0) over (SM.fold (SM.tot (ub z data) (ub z data).length)) := rfl
  have hub := ub_len z data
  have hh := hn_le (el z 0)
  have hT := SM.fold_bd _ (SM.tot_bd _ (ub_oct z data hoct) (ub z data).length).1
  obtain ⟨N, hN⟩ : ∃ N, N = (ub z data).length := ⟨_, rfl⟩
  have HSum := hide (fun a' c' W (h' : Row8 W a' N c' (ub z data)) => rsumof_any a' N c' _ W h' (by omega))
  rw [← hN] at hck hT
  have HL := hide hN.symm
  generalize SM.fold (SM.tot (ub z data) N) = T at hck hT HSum
  have HF := hide (fun W => rfold_any (over + T) W (by omega) (by omega))
  have hS := SM.fold_bd (over + T) (by omega)
  unfold ckg at hck
  generalize SM.fold (over + T) = S at hck hS HF
  generalize ub z data = U at HS HSum HL
  generalize sck z over data = C at hck ⊢
  have HR := hide hr
  clear hr hN hub hh hoct h
  by_cases h17 : el z 0 = 17
  · have e17 : (el z 0 == 17) = true := by simpa using h17
    by_cases hs : S = 65535
    · have es : (65535 - S == 0) = true := by subst hs; rfl
      have HC := hide (show C = 65535 by rw [hck, if_pos ⟨h17, hs⟩])
      clear hck h17 hs
      go_enter Tryz.func74, Tryz.ntmps74
      go_upto_region 1 with fail
      generalize w.alloc (.cells (sgC z a len cap) 30) = W at HB HP ⊢
      go_upto_region 2 with (first
        | (refine at_load rfl (.tmp 2) rfl rfl HP.out ?_)
        | (go_at_call 73; refine (HS.out _ (HR.out.below HB.out)).mono ?_; rintro e w1 ⟨v1, rfl, o1, hb1⟩; obtain ⟨a1, c1, hv1, hr1, -⟩ := o1.row8; rw [HL.out] at hv1 hr1; subst hv1; replace HB := hide (bt HB.out hb1); replace HP := hide (HP.out.kept hb1); replace hr1 := hide hr1; clear hb1 o1)
        | (go_at_call 71; refine (HSum.out _ _ _ hr1.out).mono ?_; rintro e w2 ⟨rfl, rfl⟩)
        | (go_at_call 123; refine (HF.out _).mono ?_; rintro e w3 ⟨rfl, rfl⟩))
      have l0 := HP.out.c0
      go_wp2
      go_ret
      exact ⟨by rw [HC.out]; rfl, HB.out⟩
    · have es : (65535 - S == 0) = false := by simp; omega
      have HC := hide (show C = 65535 - S by rw [hck, if_neg (fun h => hs h.2)])
      clear hck h17 hs
      go_enter Tryz.func74, Tryz.ntmps74
      go_upto_region 1 with fail
      generalize w.alloc (.cells (sgC z a len cap) 30) = W at HB HP ⊢
      go_upto_region 2 with (first
        | (refine at_load rfl (.tmp 2) rfl rfl HP.out ?_)
        | (go_at_call 73; refine (HS.out _ (HR.out.below HB.out)).mono ?_; rintro e w1 ⟨v1, rfl, o1, hb1⟩; obtain ⟨a1, c1, hv1, hr1, -⟩ := o1.row8; rw [HL.out] at hv1 hr1; subst hv1; replace HB := hide (bt HB.out hb1); replace HP := hide (HP.out.kept hb1); replace hr1 := hide hr1; clear hb1 o1)
        | (go_at_call 71; refine (HSum.out _ _ _ hr1.out).mono ?_; rintro e w2 ⟨rfl, rfl⟩)
        | (go_at_call 123; refine (HF.out _).mono ?_; rintro e w3 ⟨rfl, rfl⟩))
      have l0 := HP.out.c0
      go_wp2
      go_ret
      exact ⟨by rw [HC.out]; rfl, HB.out⟩
  · have e17 : (el z 0 == 17) = false := by simpa using h17
    have HC := hide (show C = 65535 - S by rw [hck, if_neg (fun h => h17 h.1)])
    clear hck h17
    go_enter Tryz.func74, Tryz.ntmps74
    go_upto_region 1 with fail
    generalize w.alloc (.cells (sgC z a len cap) 30) = W at HB HP ⊢
    go_upto_region 2 with (first
      | (refine at_load rfl (.tmp 2) rfl rfl HP.out ?_)
      | (go_at_call 73; refine (HS.out _ (HR.out.below HB.out)).mono ?_; rintro e w1 ⟨v1, rfl, o1, hb1⟩; obtain ⟨a1, c1, hv1, hr1, -⟩ := o1.row8; rw [HL.out] at hv1 hr1; subst hv1; replace HB := hide (bt HB.out hb1); replace HP := hide (HP.out.kept hb1); replace hr1 := hide hr1; clear hb1 o1)
      | (go_at_call 71; refine (HSum.out _ _ _ hr1.out).mono ?_; rintro e w2 ⟨rfl, rfl⟩)
      | (go_at_call 123; refine (HF.out _).mono ?_; rintro e w3 ⟨rfl, rfl⟩))
    have l0 := HP.out.c0
    go_wp2
    go_ret
    exact ⟨by rw [HC.out]; rfl, HB.out⟩
end Go.Proofs.YtkhahbghmdccaaaGreat

namespace Go.Proofs.YtkhahbghmdccaaaGreat
open Go.RowKit
theorem sf_1 (z : List Int) (len : Nat) (h : ¬ ((el z 0 = 6 ∨ el z 0 = 17) ∧ ((0 ≤ el z 1 ∧ el z 1 ≤ 65535) ∧ (0 ≤ el z 2 ∧ el z 2 ≤ 65535)))) : sf z len = 1 := by
  unfold sf
  rw [if_pos]
  rw [← ups2, ← kn_iff] at h
  cases h1 : kn (el z 0)
  · rfl
  · cases h2 : ups 65535 [el z 1, el z 2]
    · rfl
    · exact absurd ⟨h1, h2⟩ h
theorem sf_t (z : List Int) (len : Nat) (h6 : el z 0 = 6) (h1 : up 65535 (el z 1) = true) (h2 : up 65535 (el z 2) = true) : sf z len = if os z = false then 1 else if 300 < len then 3 else 0 := by
  unfold sf
  rw [if_neg, if_pos h6]
  rw [(kn_iff _).2 (.inl h6), (ups2 _ _ _).2 ⟨up_true h1, up_true h2⟩]
  decide
theorem sf_u (z : List Int) (len : Nat) (h17 : el z 0 = 17) (h1 : up 65535 (el z 1) = true) (h2 : up 65535 (el z 2) = true) : sf z len = if ups 0 [el z 3, el z 4, el z 5, el z 6] = false then 2 else if 300 < len then 3 else 0 := by
  unfold sf
  rw [if_neg, if_neg (by omega)]
  rw [(kn_iff _).2 (.inr h17), (ups2 _ _ _).2 ⟨up_true h1, up_true h2⟩]
  decide
theorem os_no (z : List Int) (h : ¬ (((0 ≤ el z 3 ∧ el z 3 ≤ 4294967295) ∧ (0 ≤ el z 4 ∧ el z 4 ≤ 4294967295)) ∧ (0 ≤ el z 5 ∧ el z 5 ≤ 31) ∧ (0 ≤ el z 6 ∧ el z 6 ≤ 65535))) : os z = false := Bool.eq_false_iff.2 (fun h' => h ((os_iff z).1 h'))
theorem zs_no (z : List Int) (h : ¬ (el z 3 = 0 ∧ el z 4 = 0 ∧ el z 5 = 0 ∧ el z 6 = 0)) : ups 0 [el z 3, el z 4, el z 5, el z 6] = false := Bool.eq_false_iff.2 (fun h' => h (by have := (ups4 0 _ _ _ _).1 h'; omega))
set_option maxRecDepth 100000 in
set_option maxHeartbeats 8000000 in
theorem rfault_none (z : List Int) (a : Option Addr) (len cap : Nat) (w : World) (_hm : len ≤ maxLen) (h6 : ¬ el z 0 = 6) (h17 : ¬ el z 0 = 17) :
    Calls Tryz.prog 51 #[.agg (sgC z a len cap)] w fun e w' => e = .returned (.int .i64 (sf z len)) ∧ Below w.heap.size w w' := by
  unfold maxLen at _hm
  have HB := hide (al_below w (.cells (sgC z a len cap) 30))
  have HP := hide (sg_new w z a len cap)
  obtain ⟨R, hR⟩ : ∃ R, R = sf z len := ⟨_, rfl⟩
  rw [← hR]
  have HR := hide (show R = 1 by rw [hR, sf_1 z len (by omega)])
  have n6 : (el z 0 != 6) = true := by simpa using h6
  have n17 : (el z 0 != 17) = true := by simpa using h17
  clear hR h6 h17
  go_enter Tryz.func51, Tryz.ntmps51
  go_upto_region 1 with fail
  generalize w.alloc (.cells (sgC z a len cap) 30) = W at HB HP ⊢
  have l0 := HP.out.c0
  have l1 := HP.out.c1
  have l2 := HP.out.c2
  have l3 := HP.out.c3
  have l4 := HP.out.c4
  have l5 := HP.out.c5
  have l6 := HP.out.c6
  have l7 := HP.out.c7
  go_wp2_with (go_at_call 103; refine (sgword_any _ _).mono ?_; rintro e w' ⟨rfl, hw⟩; rw [hw]; clear hw w')
  go_ret
  exact ⟨by rw [HR.out]; rfl, HB.out⟩
set_option maxRecDepth 100000 in
set_option maxHeartbeats 8000000 in
theorem rfault_port (z : List Int) (a : Option Addr) (len cap : Nat) (w : World) (_hm : len ≤ maxLen) (h : el z 0 = 6 ∨ el z 0 = 17) (hp : up 65535 (el z 1) = false ∨ up 65535 (el z 2) = false) :
    Calls Tryz.prog 51 #[.agg (sgC z a len cap)] w fun e w' => e = .returned (.int .i64 (sf z len)) ∧ Below w.heap.size w w' := by
  unfold maxLen at _hm
  have HB := hide (al_below w (.cells (sgC z a len cap) 30))
  have HP := hide (sg_new w z a len cap)
  obtain ⟨R, hR⟩ : ∃ R, R = sf z len := ⟨_, rfl⟩
  rw [← hR]
  have HR := hide (show R = 1 by
    rw [hR, sf_1 z len (fun h' => ?_)]
    have a1 := (up_iff _ _).2 h'.2.1
    have a2 := (up_iff _ _).2 h'.2.2
    rw [a1, a2] at hp
    rcases hp with h | h <;> cases h)
  clear hR
  have n6 : (el z 0 != 6) = decide (el z 0 = 17) := by
    rcases h with h | h <;> rw [h] <;> rfl
  generalize hu1 : up 65535 (el z 1) = u1 at hp
  rcases h with h | h
  case' inl =>
    have k6 : (el z 0 != 6) = false := by rw [h]; rfl
    have n17 : (el z 0 != 17) = true := by rw [h]; rfl
  case' inr =>
    have k6 : (el z 0 != 6) = true := by rw [h]; rfl
    have n17 : (el z 0 != 17) = false := by rw [h]; rfl
  all_goals
    clear n6 h
    cases u1
    · clear hp
      go_enter Tryz.func51, Tryz.ntmps51
      go_upto_region 1 with fail
      generalize w.alloc (.cells (sgC z a len cap) 30) = W at HB HP ⊢
      have l0 := HP.out.c0
      have l1 := HP.out.c1
      have l2 := HP.out.c2
      have l3 := HP.out.c3
      have l4 := HP.out.c4
      have l5 := HP.out.c5
      have l6 := HP.out.c6
      have l7 := HP.out.c7
      go_wp2_with (go_at_call 103; refine (sgword_any _ _).mono ?_; rintro e w' ⟨rfl, hw⟩; rw [hw]; clear hw w')
      go_ret
      exact ⟨by rw [HR.out]; rfl, HB.out⟩
    · have hu2 : up 65535 (el z 2) = false := by simpa using hp
      clear hp
      go_enter Tryz.func51, Tryz.ntmps51
      go_upto_region 1 with fail
      generalize w.alloc (.cells (sgC z a len cap) 30) = W at HB HP ⊢
      have l0 := HP.out.c0
      have l1 := HP.out.c1
      have l2 := HP.out.c2
      have l3 := HP.out.c3
      have l4 := HP.out.c4
      have l5 := HP.out.c5
      have l6 := HP.out.c6
      have l7 := HP.out.c7
      go_wp2_with (go_at_call 103; refine (sgword_any _ _).mono ?_; rintro e w' ⟨rfl, hw⟩; rw [hw]; clear hw w')
      go_ret
      exact ⟨by rw [HR.out]; rfl, HB.out⟩
set_option maxRecDepth 100000 in
set_option maxHeartbeats 8000000 in
theorem rfault_tcp (z : List Int) (a : Option Addr) (len cap : Nat) (w : World) (hm : len ≤ maxLen) (h6 : el z 0 = 6) (hu1 : up 65535 (el z 1) = true) (hu2 : up 65535 (el z 2) = true) :
    Calls Tryz.prog 51 #[.agg (sgC z a len cap)] w fun e w' => e = .returned (.int .i64 (sf z len)) ∧ Below w.heap.size w w' := by
  unfold maxLen at hm
  have HB := hide (al_below w (.cells (sgC z a len cap) 30))
  have HP := hide (sg_new w z a len cap)
  obtain ⟨R, hR⟩ : ∃ R, R = sf z len := ⟨_, rfl⟩
  rw [← hR]
  rw [sf_t z len h6 hu1 hu2] at hR
  have k6 : (el z 0 != 6) = false := by rw [h6]; rfl
  have e17 : (el z 0 == 17) = false := by rw [h6]; rfl
  have n17 : (el z 0 != 17) = true := by rw [h6]; rfl
  generalize hu6 : up 65535 (el z 6) = u6
  clear h6
  go_enter Tryz.func51, Tryz.ntmps51
  go_upto_region 1 with fail
  generalize w.alloc (.cells (sgC z a len cap) 30) = W at HB HP ⊢
  have l0 := HP.out.c0
  have l1 := HP.out.c1
  have l2 := HP.out.c2
  have l3 := HP.out.c3
  have l4 := HP.out.c4
  have l5 := HP.out.c5
  have l6 := HP.out.c6
  have l7 := HP.out.c7
  go_upto_region 8 with (go_at_call 103; refine (sgword_any _ _).mono ?_; rintro e w' ⟨rfl, hw⟩; rw [hw]; clear hw w')
  by_cases c0 : el z 3 < 0
  · have HR := hide (show R = 1 by rw [hR, if_pos (os_no z (by omega))])
    clear hR
    go_wp2
    go_ret
    exact ⟨by rw [HR.out]; rfl, HB.out⟩
  · skip
    by_cases c1 : 4294967295 < el z 3
    · have HR := hide (show R = 1 by rw [hR, if_pos (os_no z (by omega))])
      clear hR
      go_wp2
      go_ret
      exact ⟨by rw [HR.out]; rfl, HB.out⟩
    · skip
      by_cases c2 : el z 4 < 0
      · have HR := hide (show R = 1 by rw [hR, if_pos (os_no z (by omega))])
        clear hR
        go_wp2
        go_ret
        exact ⟨by rw [HR.out]; rfl, HB.out⟩
      · skip
        by_cases c3 : 4294967295 < el z 4
        · have HR := hide (show R = 1 by rw [hR, if_pos (os_no z (by omega))])
          clear hR
          go_wp2
          go_ret
          exact ⟨by rw [HR.out]; rfl, HB.out⟩
        · skip
          by_cases c4 : el z 5 < 0
          · have HR := hide (show R = 1 by rw [hR, if_pos (os_no z (by omega))])
            clear hR
            go_wp2
            go_ret
            exact ⟨by rw [HR.out]; rfl, HB.out⟩
          · skip
            by_cases c5 : 31 < el z 5
            · have HR := hide (show R = 1 by rw [hR, if_pos (os_no z (by omega))])
              clear hR
              go_wp2
              go_ret
              exact ⟨by rw [HR.out]; rfl, HB.out⟩
            · skip
              cases u6
              · have HR := hide (show R = 1 by rw [hR, if_pos (os_no z (fun h => by have := (up_iff 65535 (el z 6)).2 h.2.2; rw [hu6] at this; cases this))])
                clear hR
                go_wp2
                go_ret
                exact ⟨by rw [HR.out]; rfl, HB.out⟩
              · have ho : os z = true := (os_iff z).2 ⟨⟨⟨by omega, by omega⟩, by omega, by omega⟩, ⟨by omega, by omega⟩, up_true hu6⟩
                rw [if_neg (by rw [ho]; decide)] at hR
                clear ho
                by_cases hl : 300 < len
                · have HR := hide (show R = 3 by rw [hR, if_pos hl])
                  clear hR
                  go_wp2
                  go_ret
                  exact ⟨by rw [HR.out]; rfl, HB.out⟩
                · have HR := hide (show R = 0 by rw [hR, if_neg hl])
                  clear hR
                  go_wp2
                  go_ret
                  exact ⟨by rw [HR.out]; rfl, HB.out⟩
set_option maxRecDepth 100000 in
set_option maxHeartbeats 8000000 in
theorem rfault_udp (z : List Int) (a : Option Addr) (len cap : Nat) (w : World) (hm : len ≤ maxLen) (h17 : el z 0 = 17) (hu1 : up 65535 (el z 1) = true) (hu2 : up 65535 (el z 2) = true) :
    Calls Tryz.prog 51 #[.agg (sgC z a len cap)] w fun e w' => e = .returned (.int .i64 (sf z len)) ∧ Below w.heap.size w w' := by
  unfold maxLen at hm
  have HB := hide (al_below w (.cells (sgC z a len cap) 30))
  have HP := hide (sg_new w z a len cap)
  obtain ⟨R, hR⟩ : ∃ R, R = sf z len := ⟨_, rfl⟩
  rw [← hR]
  rw [sf_u z len h17 hu1 hu2] at hR
  have k6 : (el z 0 != 6) = true := by rw [h17]; rfl
  have e17 : (el z 0 == 17) = true := by rw [h17]; rfl
  have n17 : (el z 0 != 17) = false := by rw [h17]; rfl
  clear h17
  go_enter Tryz.func51, Tryz.ntmps51
  go_upto_region 1 with fail
  generalize w.alloc (.cells (sgC z a len cap) 30) = W at HB HP ⊢
  have l0 := HP.out.c0
  have l1 := HP.out.c1
  have l2 := HP.out.c2
  have l3 := HP.out.c3
  have l4 := HP.out.c4
  have l5 := HP.out.c5
  have l6 := HP.out.c6
  have l7 := HP.out.c7
  go_upto_region 5 with (go_at_call 103; refine (sgword_any _ _).mono ?_; rintro e w' ⟨rfl, hw⟩; rw [hw]; clear hw w')
  by_cases c3 : el z 3 = 0
  case neg =>
    have n3 : (el z 3 != 0) = true := by simpa using c3
    have HR := hide (show R = 2 by rw [hR, if_pos (zs_no z (by omega))])
    clear hR
    go_wp2
    go_ret
    exact ⟨by rw [HR.out]; rfl, HB.out⟩
  have n3 : (el z 3 != 0) = false := by rw [c3]; rfl
  by_cases c4 : el z 4 = 0
  case neg =>
    have n4 : (el z 4 != 0) = true := by simpa using c4
    have HR := hide (show R = 2 by rw [hR, if_pos (zs_no z (by omega))])
    clear hR
    go_wp2
    go_ret
    exact ⟨by rw [HR.out]; rfl, HB.out⟩
  have n4 : (el z 4 != 0) = false := by rw [c4]; rfl
  by_cases c5 : el z 5 = 0
  case neg =>
    have n5 : (el z 5 != 0) = true := by simpa using c5
    have HR := hide (show R = 2 by rw [hR, if_pos (zs_no z (by omega))])
    clear hR
    go_wp2
    go_ret
    exact ⟨by rw [HR.out]; rfl, HB.out⟩
  have n5 : (el z 5 != 0) = false := by rw [c5]; rfl
  by_cases c6 : el z 6 = 0
  case neg =>
    have n6 : (el z 6 != 0) = true := by simpa using c6
    have HR := hide (show R = 2 by rw [hR, if_pos (zs_no z (by omega))])
    clear hR
    go_wp2
    go_ret
    exact ⟨by rw [HR.out]; rfl, HB.out⟩
  have n6 : (el z 6 != 0) = false := by rw [c6]; rfl
  have hu6 : up 65535 (el z 6) = true := (up_iff _ _).2 (by omega)
  rw [if_neg (by rw [(ups4 0 _ _ _ _).2 (by omega)]; decide)] at hR
  rw [c3] at l3
  rw [c4] at l4
  rw [c5] at l5
  rw [c6] at l6 hu6
  have z3 : ((0 : Int) != 0) = false := rfl
  clear n3 n4 n5 n6 c3 c4 c5 c6
  by_cases hl : 300 < len
  · have HR := hide (show R = 3 by rw [hR, if_pos hl])
    clear hR
    go_wp2_with (go_at_call 103; refine (sgword_any _ _).mono ?_; rintro e w' ⟨rfl, hw⟩; rw [hw]; clear hw w')
    go_ret
    exact ⟨by rw [HR.out]; rfl, HB.out⟩
  · have HR := hide (show R = 0 by rw [hR, if_neg hl])
    clear hR
    go_wp2_with (go_at_call 103; refine (sgword_any _ _).mono ?_; rintro e w' ⟨rfl, hw⟩; rw [hw]; clear hw w')
    go_ret
    exact ⟨by rw [HR.out]; rfl, HB.out⟩
theorem rfault_any (z : List Int) (a : Option Addr) (len cap : Nat) (w : World) (hm : len ≤ maxLen) :
    Calls Tryz.prog 51 #[.agg (sgC z a len cap)] w fun e w' => e = .returned (.int .i64 (sf z len)) ∧ Below w.heap.size w w' := by
  by_cases h : el z 0 = 6 ∨ el z 0 = 17
  · cases h1 : up 65535 (el z 1)
    · exact rfault_port z a len cap w hm h (.inl h1)
    · cases h2 : up 65535 (el z 2)
      · exact rfault_port z a len cap w hm h (.inr h2)
      · rcases h with h | h
        · exact rfault_tcp z a len cap w hm h h1 h2
        · exact rfault_udp z a len cap w hm h h1 h2
  · exact rfault_none z a len cap w hm (fun h' => h (.inl h')) (fun h' => h (.inr h'))
end Go.Proofs.YtkhahbghmdccaaaGreat

namespace Go.Proofs.YtkhahbghmdccaaaGreat
open Go.RowKit
/-- bytes are kept by what is stored into a block that holds none. -/
theorem Row8.pastx {B : Nat} {w w' : World} (on : Only B w w') (hB : ∀ j x, w.cell? ⟨B, j, none⟩ ≠ some (.int .u8 x)) {a : Option Addr} {n c : Nat} {zs : List Int} (r : Row8 w a n c zs) : Row8 w' a n c zs := by
  refine ⟨r.1, r.2.1, r.2.2.1, r.2.2.2.1, fun hp => ?_⟩
  obtain ⟨b, off, e, hc⟩ := r.2.2.2.2 hp
  refine ⟨b, off, e, fun i hi => ?_⟩
  have h := hc i hi
  have hne : b ≠ B := by
    rintro rfl
    exact hB _ _ h
  rw [← h]
  unfold World.cell?
  rw [on.2.2.2.2 b hne]
theorem V4.PkIn.no8 {B : Nat} {s d t k i : Int} {a : Option Addr} {len cap : Nat} {w : World} (p : V4.PkIn B s d t k i a len cap w) (j : Nat) (x : Int) : w.cell? ⟨B, j, none⟩ ≠ some (.int .u8 x) := by
  rw [cell_of_row w B j _ _ _ p]
  by_cases h : j < 6
  · rcases (by omega : j = 0 ∨ j = 1 ∨ j = 2 ∨ j = 3 ∨ j = 4 ∨ j = 5) with rfl | rfl | rfl | rfl | rfl | rfl <;> intro h <;> cases h
  · rw [Array.getElem?_eq_none (by show 6 ≤ j; omega)]; intro h; cases h
theorem V6.PkIn.no8 {B : Nat} {s d : List Int} {h k : Int} {a : Option Addr} {len cap : Nat} {w : World} (p : V6.PkIn B s d h k a len cap w) (j : Nat) (x : Int) : w.cell? ⟨B, j, none⟩ ≠ some (.int .u8 x) := by
  rw [p.cellAt]
  by_cases h : j < 19
  · rcases (by omega : j = 0 ∨ j = 1 ∨ j = 2 ∨ j = 3 ∨ j = 4 ∨ j = 5 ∨ j = 6 ∨ j = 7 ∨ j = 8 ∨ j = 9 ∨ j = 10 ∨ j = 11 ∨ j = 12 ∨ j = 13 ∨ j = 14 ∨ j = 15 ∨ j = 16 ∨ j = 17 ∨ j = 18) with rfl | rfl | rfl | rfl | rfl | rfl | rfl | rfl | rfl | rfl | rfl | rfl | rfl | rfl | rfl | rfl | rfl | rfl | rfl <;> intro h <;> cases h
  · rw [Array.getElem?_eq_none (by show 19 ≤ j; omega)]; intro h; cases h
/-- a packet of fours stored, held shut for a walk. -/
def pstore (x y : Value) : Sem Unit := Instr.storeAt 44 x y
theorem pstore_shut (x y : Value) : Instr.storeAt 44 x y = pstore x y := rfl
theorem V4.PkIn.held {B : Nat} {s0 d0 t0 k0 i0 : Int} {a0 : Option Addr} {len0 cap0 : Nat} {w : World} (p : V4.PkIn B s0 d0 t0 k0 i0 a0 len0 cap0 w) (s d t k i : Int) (a : Option Addr) (len cap : Nat) :
    ∃ w', (pstore (.pointer (some ⟨B, 0, none⟩)) (.agg #[.int .i64 s, .int .i64 d, .int .i64 t, .int .i64 k, .int .i64 i, .slice a len cap])).run Tryz.prog w = .ok () w' ∧ V4.PkIn B s d t k i a len cap w' ∧ Only B w w' := by
  refine ⟨w.setRow B #[.int .i64 s, .int .i64 d, .int .i64 t, .int .i64 k, .int .i64 i, .slice a len cap], ?_, p.stored s d t k i a len cap, only_setRow _ _ _⟩
  unfold pstore
  simp only [Instr.storeAt, Instr.sureAddr, Sem.run_bind, Sem.run_pure, Result.andThen_ok]
  exact run_storeVar_row w B 44 44 _ #[.int .i64 s, .int .i64 d, .int .i64 t, .int .i64 k, .int .i64 i, .slice a len cap] p (by kernel_rfl) rfl (by simp [Value.oneCell'])
theorem V4.pk_result {fn : Func} {p : Tmp} (h : fn.results = #[.cell p 44]) (tmps : Array Value) (w : World) (B : Nat) (s d t k i : Int) (a : Option Addr) (len cap : Nat)
    (ht : tmps.getD p undef = .pointer (some ⟨B, 0, none⟩)) (hg : V4.PkIn B s d t k i a len cap w) : (results fn tmps).run Tryz.prog w = .ok (V4.pk s d t k i a len cap) w :=
  results_cell_row h tmps w B 44 _ (0, 0) _ ht hg Tryz.underlying44 rfl (by kernel_rfl)
theorem rover6_ok (s d : List Int) (k n : Int) (w : World) (hs : Ok6 s) (hd : Ok6 d) (hk : up 255 k = true) (hn : up 320 n = true) :
    Calls Tryz.prog 77 #[.agg (sixC s), .agg (sixC d), .int .i64 k, .int .i64 n] w fun e w' => e = .returned (.tuple #[.int .i64 (o6 s d k n), .int .i64 0]) ∧ Below w.heap.size w w' :=
  rover6_any s d k n w hs hd _ _ (fun W a1 c1 a2 c2 r1 r2 => roverof_ok a1 16 c1 _ a2 16 c2 _ k n W r1 r2 (by rw [List.length_append, by16_len, by16_len]; omega) hk hn)
theorem rover4_o (s d k n : Int) (w : World) (hs : up 4294967295 s = true) (hd : up 4294967295 d = true) (hk : up 255 k = true) (hn : up 320 n = true) :
    Calls Tryz.prog 63 #[.int .i64 s, .int .i64 d, .int .i64 k, .int .i64 n] w fun e w' => e = .returned (.tuple #[.int .i64 (o4 s d k n), .int .i64 0]) ∧ Below w.heap.size w w' := rover4_ok s d k n w hs hd hk hn
theorem sbx_len (z : List Int) (C : Int) (data : List Int) : (sbx z C data).length = hn (el z 0) + data.length := by
  unfold sbx hn hdT hdU
  split <;> simp <;> omega
set_option maxRecDepth 100000 in
set_option maxHeartbeats 1000000 in
theorem size_any (z : List Int) (a : Option Addr) (len cap : Nat) (data : List Int) (w : World) (h : Okg z len) (hr : Row8 w a len cap data) (N : Nat) (hN : hn (el z 0) + len = N) :
    Calls Tryz.prog 72 #[.agg (sgC z a len cap)] w fun e w' => e = .returned (.int .i64 N) ∧ Below w.heap.size w w' := by
  have HB := hide (al_below w (.cells (sgC z a len cap) 30))
  have HP := hide (sg_new w z a len cap)
  have HS := hide (fun W hr' => rbytes_any z a len cap 0 data W h (by omega) hr')
  have HL := hide (show (sbx z 0 data).length = N by rw [sbx_len, hr.1]; exact hN)
  have HR := hide hr
  generalize sbx z 0 data = X at HS HL
  clear hr h hN
  go_enter Tryz.func72, Tryz.ntmps72
  go_upto_region 1 with fail
  generalize w.alloc (.cells (sgC z a len cap) 30) = W at HB HP ⊢
  go_wp2_with (first
    | (refine at_load rfl (.tmp 1) rfl rfl HP.out ?_)
    | (go_at_call 73; refine (HS.out _ (HR.out.below HB.out)).mono ?_; rintro e w1 ⟨v1, rfl, o1, hb1⟩; obtain ⟨a1, c1, hv1, -, -⟩ := o1.row8; rw [HL.out] at hv1; subst hv1; replace HB := hide (bt HB.out hb1); clear hb1 o1))
  go_ret
  exact ⟨rfl, HB.out⟩
/-- a segment that is handed in, and the packet that is handed out, in their blocks. -/
def K4 (w : World) (z : List Int) (a : Option Addr) (len cap : Nat) (W : World) : Prop := SgIn w.heap.size z a len cap W ∧ V4.PkIn (w.heap.size + 1) 0 0 0 0 0 none 0 0 W ∧ Below w.heap.size w W
theorem K4.kept {w : World} {z : List Int} {a : Option Addr} {len cap : Nat} {W W' : World} (h : K4 w z a len cap W) (hb : Below W.heap.size W W') : K4 w z a len cap W' := ⟨h.1.kept hb, h.2.1.kept hb, bt h.2.2 hb⟩
theorem K4.start (w : World) (z : List Int) (a : Option Addr) (len cap : Nat) : K4 w z a len cap ((w.alloc (.cells (sgC z a len cap) 30)).alloc (.cells V4.zero4 44)) := by
  have b1 := al_below w (.cells (sgC z a len cap) 30)
  have b2 := al_below (w.alloc (.cells (sgC z a len cap) 30)) (.cells V4.zero4 44)
  have p2 := V4.zero_new (w.alloc (.cells (sgC z a len cap) 30))
  rw [World.size_alloc] at p2
  exact ⟨(sg_new w z a len cap).kept b2, p2, bt b1 b2⟩
attribute [local go_sem ↓] gload_shut pstore_shut Go.wp_at_zero Go.wp_at_succ
set_option maxRecDepth 100000 in
set_option maxHeartbeats 4000000 in
theorem packed4_any (z : List Int) (a : Option Addr) (len cap : Nat) (data : List Int) (src dst ttl : Int) (w : World) (h : Okg z len) (hr : Row8 w a len cap data) (h1 : up 4294967295 src = true) (h2 : up 4294967295 dst = true) (N : Nat) (hN : hn (el z 0) + len = N) (hN2 : N ≤ 320) :
    Calls Tryz.prog 21 #[.agg (sgC z a len cap), .int .i64 src, .int .i64 dst, .int .i64 ttl] w fun e w' => ∃ a1 c1, e = .returned (V4.pk src dst ttl (el z 0) 0 a1 N c1) ∧ Row8 w' a1 N c1 (eb z (o4 src dst (el z 0) N) data) ∧ Below w.heap.size w w' := by
  have HV := hide (K4.start w z a len cap)
  have hk : up 255 (el z 0) = true := by rcases (kn_iff _).1 (okg_kn h) with e | e <;> rw [e] <;> rfl
  have HZ := hide (fun W (hb : Below w.heap.size w W) => size_any z a len cap data W h (hr.below hb) N hN)
  have HO := hide (fun W => rover4_o src dst (el z 0) N W h1 h2 hk (decide_eq_true (by omega)))
  have hi := o4_in src dst (el z 0) N
  have hlen := hr.1
  generalize o4 src dst (el z 0) N = O at HO hi ⊢
  have HC := hide (fun W (hb : Below w.heap.size w W) => rcheck_any z a len cap O data W h hi (hr.below hb))
  have HY := hide (fun W (hb : Below w.heap.size w W) => rbytes_any z a len cap (sck z O data) data W h (sck_in z O data hr.2.2.1 hi) (hr.below hb))
  rw [sbx_eb z O data (by rw [hlen]; exact h)] at HY
  have HL := hide (show (eb z O data).length = N by rw [eb_len, hlen]; exact hN)
  generalize eb z O data = E at HY HL ⊢
  generalize sck z O data = C at HC HY
  unfold V4.zero4 at HV
  clear h hr h1 h2 hN hk hi hlen
  go_enter Tryz.func21, Tryz.ntmps21
  go_upto_region 1 with fail
  generalize (World.alloc _ _).alloc _ = W0 at HV ⊢
  replace HV := hide (HV.out.kept (Below.refl _ _).drew)
  have lg := HV.out.1.gl
  have l0 := HV.out.1.c0
  go_region_held3 (fun w' => w'.cell? ⟨w.heap.size, 0, none⟩ = some (.int .i64 (el z 0)) ∧ (gload (.pointer (some ⟨w.heap.size, 0, none⟩))).run Tryz.prog w' = .ok (.agg (sgC z a len cap)) w')
    (first
      | go_keep
      | exact ⟨HV.out.1.c0, HV.out.1.gl⟩)
    (first
      | (go_at_call 72; refine (HZ.out _ HV.out.2.2).mono ?_; rintro e w1 ⟨rfl, hb1⟩; replace HV := hide (HV.out.kept hb1); clear hb1 lg l0; have lg := HV.out.1.gl; have l0 := HV.out.1.c0)
      | (go_at_call 63; refine (HO.out _).mono ?_; rintro e w2 ⟨rfl, hb2⟩; replace HV := hide (HV.out.kept hb2); clear hb2 lg l0; have lg := HV.out.1.gl; have l0 := HV.out.1.c0))
  clear lg l0
  go_upto_region 2 with fail
  replace HV := hide (HV.out.kept (Below.refl _ _).drew)
  have lg := HV.out.1.gl
  have l0 := HV.out.1.c0
  go_region_held3 (fun w' => w'.cell? ⟨w.heap.size, 0, none⟩ = some (.int .i64 (el z 0)) ∧ (gload (.pointer (some ⟨w.heap.size, 0, none⟩))).run Tryz.prog w' = .ok (.agg (sgC z a len cap)) w')
    (first
      | go_keep
      | exact ⟨HV.out.1.c0, HV.out.1.gl⟩
      | exact ⟨HS5.out.c0, HS5.out.gl⟩)
    (first
      | (go_at_call 74; refine (HC.out _ HV.out.2.2).mono ?_; rintro e w3 ⟨rfl, hb3⟩; replace HV := hide (HV.out.kept hb3); clear hb3 lg l0; have lg := HV.out.1.gl; have l0 := HV.out.1.c0)
      | (go_at_call 73; refine (HY.out _ HV.out.2.2).mono ?_; rintro e w4 ⟨v4, rfl, own4, hb4⟩; obtain ⟨a4, c4, hv4, hr4, -⟩ := own4.row8; rw [HL.out] at hv4 hr4; subst hv4; replace HV := hide (HV.out.kept hb4); obtain ⟨w5, hst, p5, on5⟩ := HV.out.2.1.held src dst ttl (el z 0) 0 a4 N c4; replace hr4 := hide (Row8.pastx on5 HV.out.2.1.no8 hr4); replace p5 := hide p5; have HS5 := hide (on5.sg HV.out.1 (by omega)); have HB := hide (on5.below HV.out.2.2 (Nat.le_succ _)); clear on5 hb4 own4 lg l0; have lg := HV.out.1.gl; have l0 := HV.out.1.c0))
  go_wp2_with fail
  try simp only [Exit.inBlock, Exit.then]
  refine bodyPost_ret (V4.pk_result rfl _ _ (w.heap.size + 1) src dst ttl (el z 0) 0 a4 N c4 rfl p5.out) rfl ?_
  exact ⟨a4, c4, rfl, hr4.out, HB.out⟩
end Go.Proofs.YtkhahbghmdccaaaGreat
