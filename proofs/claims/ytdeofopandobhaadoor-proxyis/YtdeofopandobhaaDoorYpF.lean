/- Package proxy: Decode, by a contract. -/
import Derived.Test.YtdeofopandobhaaDoorYpE
namespace Go.Proofs.YtdeofopandobhaaDoor
open Go.RowKit

theorem results_f3 {fn : Func} {p u v : Tmp} (h : fn.results = #[.cell p 25, .tmp u, .tmp v]) (tmps : Array Value) (w : World) (B : Nat) (b : List Int)
    (ht : tmps.getD p undef = .pointer (some ⟨B, 0, none⟩)) (hg : FlIn B b w) :
    (results fn tmps).run Tryd.prog w = .ok (.tuple #[.agg (flC b), tmps.getD u undef, tmps.getD v undef]) w := by
  have hl := run_loadVar_row (P := Tryd.prog) w B 25 25 _ (0, 0) _ hg Tryd.underlying25 rfl (by kernel_rfl)
  rw [Array.getD_eq_getD_getElem?] at ht
  simp only [results, h]
  simp [Result.andThen, ht, asAddr, hl]
/-- of a code that is one, what is read is the flow of bytes. -/
theorem pf_fo {zs : List Int} (h : zs.getD 13 0 = 33 ∨ zs.getD 13 0 = 34) : pf zs = fo zs := by
  unfold pf fo kc
  rcases h with h | h <;> rw [h] <;> rfl
theorem pf_none {zs : List Int} (h1 : ¬ zs.getD 13 0 = 33) (h2 : ¬ zs.getD 13 0 = 34) : okf (pf zs) = false := by
  have e : el (pf zs) 0 = 0 := by
    show kc (zs.getD 13 0) = 0
    unfold kc
    rw [if_neg h1, if_neg h2]
  unfold okf
  rw [e]
  rfl
theorem ydo_none {zs : List Int} (h1 : ¬ zs.getD 13 0 = 33) (h2 : ¬ zs.getD 13 0 = 34) : ydo zs = ([], 0, 5) := by
  unfold ydo
  rw [if_neg]
  rintro ⟨_, e⟩
  have e13 := congrArg (fun l => l.getD 13 0) e
  have l1 : (zs.take 52).getD 13 0 = zs.getD 13 0 := P4.getD_take (by omega)
  have l2 : (hb (fo zs)).getD 13 0 = kd (fo zs) := rfl
  have e' : kd (fo zs) = zs.getD 13 0 := by rw [← l2, ← l1]; exact e13
  unfold kd at e'
  split at e'
  · exact h2 e'.symm
  · exact h1 e'.symm
attribute [local go_sem ↓] slq_shut fbl_shut fload_shut
set_option maxRecDepth 100000 in
set_option maxHeartbeats 2000000 in
theorem ydec_len (a : Option Addr) (len cap : Nat) (zs : List Int) (w : World) (hr : Row8 w a len cap zs) (h : len < 52) :
    Calls Tryd.prog 10 #[.slice a len cap] w fun e w' => e = .returned (.tuple #[.agg (flC []), .int .i64 0, err 5]) ∧ Below w.heap.size w w' := by
  have HK := hide (ko_new hr)
  unfold zero19 at HK
  have fb := fbl0
  have j1 : (len : Int) < 52 := by omega
  clear hr h
  go_enter Tryd.func10, Tryd.ntmps10
  go_upto_region 1 with fail
  generalize w.alloc _ = W at HK ⊢
  go_wp2_with (refine at_storef rfl (.tmp 2) (.tmp 11) rfl rfl HK.out.1 [] rfl ?_; intro w5 p5 on5; have HB5 := hide (on5.below HK.out.2.2 (Nat.le_refl _)); replace p5 := hide p5; clear on5)
  try simp only [Exit.inBlock, Exit.then]
  refine bodyPost_ret (results_f3 rfl _ _ w.heap.size [] rfl p5.out) rfl ?_
  exact ⟨rfl, HB5.out⟩
set_option maxRecDepth 100000 in
set_option maxHeartbeats 4000000 in
theorem ydec_bad (g off len cap : Nat) (zs : List Int) (w : World) (hr : Row8 w (some ⟨g, off, none⟩) len cap zs) (h : 52 ≤ len) (hb : okf (pf zs) = false) :
    Calls Tryd.prog 10 #[.slice (some ⟨g, off, none⟩) len cap] w fun e w' => e = .returned (.tuple #[.agg (flC []), .int .i64 0, err 5]) ∧ Below w.heap.size w w' := by
  have HK := hide (ko_new hr)
  have HZ := hide fl_zero
  unfold zero19 at HK HZ
  have HRd := hide (fun W (hW : Row8 W (some ⟨g, off, none⟩) len cap zs) => read_any g off len cap zs W hW h)
  have HE := hide (fun W => yenc_bad (pf zs) W hb)
  generalize pf zs = F at HRd HE
  unfold err at HE
  have fb := fbl0
  have j1 : ¬ (len : Int) < 52 := by omega
  clear hr h hb
  go_enter Tryd.func10, Tryd.ntmps10
  go_upto_region 1 with fail
  generalize w.alloc _ = W at HK ⊢
  go_upto_region 4 with (first
    | (go_at_call 20; refine (HRd.out _ HK.out.2.1).mono ?_; rintro e w1 ⟨rfl, hb1⟩; replace HK := hide (HK.out.kept hb1); clear hb1)
    | (refine at_storef rfl (.tmp 5) (.tmp 14) rfl rfl (HZ.out w1) F rfl ?_; intro w2 p2 on2; replace HK := hide (HK.out.kept (new_below _ on2)); replace p2 := hide p2; clear on2))
  generalize w1.heap.size = E at p2 ⊢
  have g1 := p2.out.fl
  clear HRd HZ j1
  go_wp2_with (first
    | (go_at_call 7; (with_reducible refine (HE.out _).mono ?_); rintro e w3 ⟨rfl, hb3⟩; replace HK := hide (HK.out.kept hb3); clear hb3 g1 p2)
    | (refine at_storef rfl (.tmp 2) (.tmp 29) rfl rfl HK.out.1 [] rfl ?_; intro w5 p5 on5; have HB5 := hide (on5.below HK.out.2.2 (Nat.le_refl _)); replace p5 := hide p5; clear on5))
  try simp only [Exit.inBlock, Exit.then]
  refine bodyPost_ret (results_f3 rfl _ _ w.heap.size [] rfl p5.out) rfl ?_
  exact ⟨rfl, HB5.out⟩
set_option maxRecDepth 100000 in
set_option maxHeartbeats 4000000 in
theorem ydec_raw (g off len cap : Nat) (zs : List Int) (w : World) (hr : Row8 w (some ⟨g, off, none⟩) len cap zs) (h : 52 ≤ len) (hcl : len ≤ cap) (hb : pf zs = fo zs) :
    Calls Tryd.prog 10 #[.slice (some ⟨g, off, none⟩) len cap] w fun e w' => e = .returned (.tuple #[.agg (flC (ydo zs).1), .int .i64 (ydo zs).2.1, ev (ydo zs).2.2]) ∧ Below w.heap.size w w' := by
  have HK := hide (ko_new hr)
  have HZ := hide fl_zero
  unfold zero19 at HK HZ
  have HRd := hide (fun W (hW : Row8 W (some ⟨g, off, none⟩) len cap zs) => read_any g off len cap zs W hW h)
  have hoct := hr.2.2.1
  rw [hb] at HRd
  have HE := hide (fun W => yenc_ok (fo zs) W (fo_ok hoct))
  have HEL := hide (hb_len (fo zs))
  have HOh := hide (hb_oct (fo_ok hoct))
  have HTk := hide (fun W (hW : Row8 W (some ⟨g, off, none⟩) len cap zs) => row_take hW 52 cap h)
  have HYd := hide (show ydo zs = if decide (Go.Proofs.YtdeofopandobhaaDoor.hb (fo zs) = zs.take 52) = true then (fo zs, 52, 0) else ([], 0, 5) by unfold ydo; rw [hr.1]; simp [h])
  have HSame := hide (show Go.Proofs.YtdeofopandobhaaDoor.hb (fo zs) = zs.take 52 ↔ decide (Go.Proofs.YtdeofopandobhaaDoor.hb (fo zs) = zs.take 52) = true by simp)
  generalize decide (Go.Proofs.YtdeofopandobhaaDoor.hb (fo zs) = zs.take 52) = r at HYd HSame
  generalize Go.Proofs.YtdeofopandobhaaDoor.hb (fo zs) = X at HE HEL HOh HSame
  generalize fo zs = F at HRd HE HYd
  generalize zs.take 52 = Y at HTk HSame
  generalize ydo zs = yy at HYd ⊢
  have fb := fbl0
  have s52 := sl52 g off len cap (by omega)
  have j1 : ¬ (len : Int) < 52 := by omega
  clear hr h hb hoct hcl
  go_enter Tryd.func10, Tryd.ntmps10
  go_upto_region 1 with fail
  generalize w.alloc _ = W at HK ⊢
  go_upto_region 4 with (first
    | (go_at_call 20; refine (HRd.out _ HK.out.2.1).mono ?_; rintro e w1 ⟨rfl, hb1⟩; replace HK := hide (HK.out.kept hb1); clear hb1)
    | (refine at_storef rfl (.tmp 5) (.tmp 14) rfl rfl (HZ.out w1) F rfl ?_; intro w2 p2 on2; replace HK := hide (HK.out.kept (new_below _ on2)); replace p2 := hide p2; clear on2))
  generalize w1.heap.size = E at p2 ⊢
  have g1 := p2.out.fl
  clear HRd HZ j1
  go_upto_region 5 with (go_at_call 7; (with_reducible refine (HE.out _).mono ?_); rintro e w3 ⟨v3, rfl, o3, hb3⟩; obtain ⟨a3, c3, rfl, r3, -⟩ := o3.row8; rw [HEL.out] at r3 ⊢; replace HK := hide (HK.out.kept hb3); replace p2 := hide (p2.out.kept hb3); clear hb3 g1 o3)
  have HEq := hide (equal_any _ _ _ _ _ _ _ _ _ r3 (HTk.out _ HK.out.2.1) r HSame.out)
  have g1 := p2.out.fl
  clear r3 HTk HSame HE
  cases r
  · obtain rfl : yy = ([], 0, 5) := HYd.out
    clear HYd
    go_wp2_with (first
      | (go_at_call 21; refine HEq.out.mono ?_; rintro e w4 ⟨rfl, rfl⟩)
      | (refine at_storef rfl (.tmp 2) (.tmp 29) rfl rfl HK.out.1 [] rfl ?_; intro w5 p5 on5; have HB5 := hide (on5.below HK.out.2.2 (Nat.le_refl _)); replace p5 := hide p5; clear on5))
    try simp only [Exit.inBlock, Exit.then]
    refine bodyPost_ret (results_f3 rfl _ _ w.heap.size [] rfl p5.out) rfl ?_
    exact ⟨rfl, HB5.out⟩
  · obtain rfl : yy = (F, 52, 0) := HYd.out
    clear HYd
    go_wp2_with (first
      | (go_at_call 21; refine HEq.out.mono ?_; rintro e w4 ⟨rfl, rfl⟩)
      | (refine at_storef rfl (.tmp 2) (.tmp 31) rfl rfl HK.out.1 F rfl ?_; intro w5 p5 on5; have HB5 := hide (on5.below HK.out.2.2 (Nat.le_refl _)); replace p5 := hide p5; clear on5))
    try simp only [Exit.inBlock, Exit.then]
    refine bodyPost_ret (results_f3 rfl _ _ w.heap.size F rfl p5.out) rfl ?_
    exact ⟨rfl, HB5.out⟩
theorem ydecode : JYd := by
  intro a len cap zs w hr hcl hcm
  by_cases h : 52 ≤ len
  · obtain ⟨g, off, rfl, _⟩ := hr.2.2.2.2 (by omega)
    by_cases h1 : zs.getD 13 0 = 33
    · exact ydec_raw g off len cap zs w hr h hcl (pf_fo (.inl h1))
    · by_cases h2 : zs.getD 13 0 = 34
      · exact ydec_raw g off len cap zs w hr h hcl (pf_fo (.inr h2))
      · rw [ydo_none h1 h2]
        exact ydec_bad g off len cap zs w hr h (pf_none h1 h2)
  · have e : ydo zs = ([], 0, 5) := by unfold ydo; rw [if_neg]; rw [hr.1]; exact fun h' => h h'.1
    rw [e]
    exact ydec_len a len cap zs w hr (by omega)
end Go.Proofs.YtdeofopandobhaaDoor
