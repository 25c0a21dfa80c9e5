/- Package pick's mixFlow by a contract: every order that the model allows. -/
import Derived.Test.YtdnfpekcipigbaaDoorPlC
namespace Go.Proofs.YtdnfpekcipigbaaDoor
open Go.RowKit

theorem ia1 (W : World) (x : Int) : Ints W.heap.size [x] (W.alloc (.cells #[.int .i64 x] 3)) := ints_new W [x]
theorem Ints.al {B : Nat} {l : List Int} {W : World} (h : Ints B l W) (o : Obj) : Ints B l (W.alloc o) := ((al_below W o).block B (Array.getElem?_eq_some_iff.1 h).1).trans h
theorem ia2 (W : World) (o : Obj) (x : Int) : Ints (W.heap.size + 1) [x] ((W.alloc o).alloc (.cells #[.int .i64 x] 3)) := by
  have := ia1 (W.alloc o) x
  rwa [World.size_alloc] at this
theorem ia3 (W : World) (o p : Obj) (x : Int) : Ints (W.heap.size + 1 + 1) [x] (((W.alloc o).alloc p).alloc (.cells #[.int .i64 x] 3)) := by
  have := ia1 ((W.alloc o).alloc p) x
  rwa [World.size_alloc, World.size_alloc] at this
/-- what is held while the numbers are mixed. -/
def MF (w : World) (B : Nat) (f : List Int) (W : World) : Prop := W.cell? ⟨B, 0, none⟩ = some (.int .i64 (el f 0)) ∧ W.cell? ⟨B, 9, none⟩ = some (.int .i64 (el f 9)) ∧ W.cell? ⟨B, 18, none⟩ = some (.int .i64 (el f 18)) ∧ FlIn B f W ∧ Below w.heap.size w W
theorem mf_of {w W : World} {B : Nat} {f : List Int} (h : FlIn B f W) (hb : Below w.heap.size w W) : MF w B f W := ⟨h.cell 0 (by omega), h.cell 9 (by omega), h.cell 18 (by omega), h, hb⟩
theorem MF.al {w W : World} {B : Nat} {f : List Int} (h : MF w B f W) (o : Obj) : MF w B f (W.alloc o) := mf_of (h.2.2.2.1.kept (al_below W o)) (bt h.2.2.2.2 (al_below W o))
theorem Ints.dr {B : Nat} {l : List Int} {W : World} (h : Ints B l W) : Ints B l W.drew := h
theorem MF.dr {w W : World} {B : Nat} {f : List Int} (h : MF w B f W) : MF w B f W.drew := mf_of h.2.2.2.1 h.2.2.2.2.drew
theorem MF.un {w W : World} {B : Nat} {f : List Int} (h : MF w B f W.drew) (hb : Below w.heap.size w W) : MF w B f W := mf_of h.2.2.2.1 hb
theorem below_un {n : Nat} {w W : World} (h : Below n w W.drew) : Below n w W := ⟨h.os, h.tape, h.output, h.size, h.block⟩
theorem MF.ald {w W : World} {B : Nat} {f : List Int} (h : MF w B f W.drew) (o : Obj) : MF w B f (W.alloc o).drew := ((h.un (below_un h.2.2.2.2)).al o).dr
theorem MF.bl {w W : World} {B : Nat} {f : List Int} (h : MF w B f W) : Below w.heap.size w W := h.2.2.2.2
theorem MF.cl {w W : World} {B : Nat} {f : List Int} (h : MF w B f W) : W.rangeAt B 1 (sixC (cli f)).toList := h.2.2.2.1.cli
theorem MF.ds {w W : World} {B : Nat} {f : List Int} (h : MF w B f W) : W.rangeAt B 10 (sixC (dst f)).toList := h.2.2.2.1.dst
set_option maxRecDepth 100000 in
set_option maxHeartbeats 4000000 in
theorem mixflow_any (seed : Int) (f : List Int) (w : World) (hs : 0 ≤ seed ∧ seed < 2147483648) (hf : okf f = true) :
    Calls Tryd.prog 19 #[.int .i64 seed, .agg (flC f)] w fun e w' => e = .returned (.int .i64 (mxs seed (nl f 19))) ∧ Below w.heap.size w w' := by
  have HM := hide (show MF w w.heap.size f (w.alloc (.cells (flC f) 25)) from mf_of (fl_new f w) (al_below _ _))
  have h0 := okf_el hf 0 (by omega)
  have h9 := okf_el hf 9 (by omega)
  have h18 := okf_el hf 18 (by omega)
  have hc : s6 (cli f) = true ∧ s6 (dst f) = true := by unfold okf at hf; simp only [Bool.and_eq_true] at hf; exact ⟨hf.1.1.1.2, hf.1.1.2⟩
  have e1 := mx_in (x := seed) (n := el f 0) hs.1 h0.1
  have e8 : ∀ x z, 0 ≤ x ∧ x < 2147483648 → s6 z = true → 0 ≤ mx8 x z ∧ mx8 x z < 2147483648 := by
    intro x z hx hz
    have hok := (s6_iff z).1 hz
    refine mxs_in hx _ ?_
    intro y hy
    simp only [List.mem_cons, List.not_mem_nil, or_false] at hy
    rcases hy with rfl | rfl | rfl | rfl | rfl | rfl | rfl | rfl
    · exact (hok 0 (by omega)).1
    · exact (hok 1 (by omega)).1
    · exact (hok 2 (by omega)).1
    · exact (hok 3 (by omega)).1
    · exact (hok 4 (by omega)).1
    · exact (hok 5 (by omega)).1
    · exact (hok 6 (by omega)).1
    · exact (hok 7 (by omega)).1
  have e2 := e8 _ _ e1 hc.1
  have e3 := mx_in (n := el f 9) e2.1 h9.1
  have e4 := e8 _ _ e3 hc.2
  have HR := hide (show mx (mx8 (mx (mx8 (mx seed (el f 0)) (cli f)) (el f 9)) (dst f)) (el f 18) = mxs seed (nl f 19) from rfl)
  have H1 := hide (fun B W h => with1 seed (el f 0) B W hs h0 h)
  have H2 := hide (fun B W h => with8 (mx seed (el f 0)) (cli f) B 1 W e1 hc.1 h)
  have H3 := hide (fun B W h => with1 (mx8 (mx seed (el f 0)) (cli f)) (el f 9) B W e2 h9 h)
  have H4 := hide (fun B W h => with8 (mx (mx8 (mx seed (el f 0)) (cli f)) (el f 9)) (dst f) B 10 W e3 hc.2 h)
  have H5 := hide (fun B W h => with1 (mx8 (mx (mx8 (mx seed (el f 0)) (cli f)) (el f 9)) (dst f)) (el f 18) B W e4 h18 h)
  clear e1 e2 e3 e4 e8 hc h0 h9 h18 hs hf
  generalize mx seed (el f 0) = x1 at H1 H2 H3 H4 H5 HR
  generalize mx8 x1 (cli f) = x2 at H2 H3 H4 H5 HR
  generalize mx x2 (el f 9) = x3 at H3 H4 H5 HR
  generalize mx8 x3 (dst f) = x4 at H4 H5 HR
  generalize mx x4 (el f 18) = x5 at H5 HR
  generalize mxs seed (nl f 19) = x6 at HR ⊢
  obtain rfl := HR.out
  clear HR
  go_enter Tryd.func19, Tryd.ntmps19
  go_upto_region 1 with fail
  generalize w.alloc _ = W at HM ⊢
  have HM0 := hide (show MF w w.heap.size f W.drew from HM.out.dr)
  clear HM
  go_region_held3 (fun W' => W'.cell? ⟨w.heap.size, 0, none⟩ = some (.int .i64 (el f 0)) ∧ W'.cell? ⟨w.heap.size, 9, none⟩ = some (.int .i64 (el f 9)) ∧ W'.cell? ⟨w.heap.size, 18, none⟩ = some (.int .i64 (el f 18)) ∧ FlIn w.heap.size f W' ∧ Below w.heap.size w W')
    (first
      | exact HM0.out
      | assumption
      | (refine MF.ald ?_ _; assumption))
    (first
      | (go_at_call 27; (with_reducible refine (H1.out _ _ ?_).mono ?_); (first | exact (ia1 _ _).dr | exact (ia2 _ _ _).dr | exact (ia3 _ _ _ _).dr | exact ((ia1 _ _).al _).dr | exact ((ia2 _ _ _).al _).dr | exact (((ia1 _ _).al _).al _).dr); rintro e w1 ⟨rfl, hw⟩; rw [hw]; clear hw w1)
      | (go_at_call 27; (with_reducible refine (H2.out _ _ ?_).mono ?_); (refine MF.cl (w := w) ?_; assumption); rintro e w1 ⟨rfl, hw⟩; rw [hw]; clear hw w1)
      | (go_at_call 27; (with_reducible refine (H3.out _ _ ?_).mono ?_); (first | exact (ia1 _ _).dr | exact (ia2 _ _ _).dr | exact (ia3 _ _ _ _).dr | exact ((ia1 _ _).al _).dr | exact ((ia2 _ _ _).al _).dr | exact (((ia1 _ _).al _).al _).dr); rintro e w1 ⟨rfl, hw⟩; rw [hw]; clear hw w1)
      | (go_at_call 27; (with_reducible refine (H4.out _ _ ?_).mono ?_); (refine MF.ds (w := w) ?_; assumption); rintro e w1 ⟨rfl, hw⟩; rw [hw]; clear hw w1)
      | (go_at_call 27; (with_reducible refine (H5.out _ _ ?_).mono ?_); (first | exact (ia1 _ _).dr | exact (ia2 _ _ _).dr | exact (ia3 _ _ _ _).dr | exact ((ia1 _ _).al _).dr | exact ((ia2 _ _ _).al _).dr | exact (((ia1 _ _).al _).al _).dr); rintro e w1 ⟨rfl, hw⟩; rw [hw]; clear hw w1))
  all_goals
    clear H1 H2 H3 H4 H5 HM0
    go_wp2
    go_ret
    refine ⟨rfl, MF.bl (B := w.heap.size) (f := f) ?_⟩
    assumption
end Go.Proofs.YtdnfpekcipigbaaDoor
