/- A step played on a gate: what holds of it goes on to hold. Where binds lead: to a server that there is, or to where their address says. Where binds lead: kept by whatever is played. A row of steps of gangplanklaw3, opened. GateApart: what is asked of a gate's binds. -/
import Derived.Test.YtkhahbghmdccaaaGreatU47
import Derived.Test.YtkhahbghmdccaaaGreatU48
import Derived.Below
import Derived.OpenShut
import Derived.Test.YtkhahbghmdccaaaGreatProg
import Derived.WalkKit
import Derived.LaidEql
import Derived.BigQuiet
import Derived.Laws.AppendOwnNone
import Derived.Laws.MakeOwn
import Derived.Deep.RegionLaw
import Derived.Lib.Bytes
import Derived.Deep.MidRow
import Derived.Laws.ResultCell
import Derived.Deep.CutBlock
import Derived.Deep.QuietTactic
import Derived.OwnWalk
import Derived.Deep.RegionHeld3
import Derived.Deep.DrawnRows
import Derived.Laws.StructEq
import Derived.Maps.AppendAt
import Derived.Maps.RangeWalk
import Derived.Stop.Asserts
import Derived.RowKitTokens
import Derived.Test.YtkhahbghmdccaaaGreatShelf
import Derived.Shelf.Abstract
import Derived.Lib.SliceRun
import Derived.Lib.AppendZerosOnto
import Derived.Lib.AppendZeros
import Derived.Laws.CopyOwn
import Derived.RangeFuncNested
import Derived.RangeFuncBound
import Derived.RangeFuncCalls
import Derived.RangeFuncLeaves
import Derived.RangeFuncFrom
import Derived.Shelf.RegionOpen
import Derived.OwnWalkIn
import Derived.TacticsInMore
import Derived.LoopNIn
import Derived.LoopIn
import Derived.Deep.RegionWith
import Derived.ArgAppend
import Derived.Lib.SlBytesConst
import Derived.Lib.AppendStr
import Derived.Deep.Slices
import Derived.ChangeArms
import Derived.WideShapes
import Derived.Test.YtkhahbghmdccaaaGreatU45
import Derived.Test.YtkhahbghmdccaaaGreatU46
import Derived.Test.YtkhahbghmdccaaaGreatU43
import Derived.Test.YtkhahbghmdccaaaGreatU35
import Derived.Deep.Fields
import Derived.ChangeSlices
namespace Go.Proofs.YtkhahbghmdccaaaGreat
open Go.RowKit
set_option linter.unusedVariables false
theorem IG.len {g : GS} (h : IG g) : g.bk.length ≤ 8 := (oks_of h.2.2.2.2.2.2).1
theorem play_inv {Inv : GS → Prop} (h6 : ∀ g zs, IG g → SM.Oct zs → Inv g → Inv (g6 g zs).2.2) (h4 : ∀ g zs, IG g → SM.Oct zs → Inv g → Inv (g4 g zs).2.2) (ht : ∀ g n, IG g → Inv g → Inv (gtk g n).2) (hp : ∀ g id u, IG g → Inv g → Inv (gmk g id (fun x => bup x u)).2) (hd : ∀ g id u, IG g → Inv g → Inv (gmk g id (fun x => bdr x u)).2)
    (wh : Int) (ba : Option Addr) (bl bc : Nat) (B z : List Int) (a : Option Addr) (len cap : Nat) (D s d : List Int) (hop n : Int) (is : Bool) (c : List Int) (inj : Bool) (ka : Option Addr) (kn kc : Nat) (hn : I64 n) (hc : up 4294967295 (el c 18) = true) {w : World} {G : Nat} {g : GS} {O : Nat → Prop} {W : World} (hg : IG g) (hi : Inv g) (h : GH w G g O W) (rb : Row8 W ba bl bc B) (e1 : bl ≤ bc) (e2 : bc ≤ maxLen) (hr : Row8 W a len cap D) :
    Calls Tryz.prog 14 #[.pointer (some ⟨G, 0, none⟩), .agg (stC3 wh ba bl bc z a len cap s d hop n is), .agg (cfC c inj ka kn kc)] W fun e w' => (∃ v, e = .returned v) ∧ ∃ g', IG g' ∧ Inv g' ∧ GN w G g' O W w' := by
  by_cases w0 : wh = 0
  · exact play_a G wh ba bl bc z a len cap s d hop n is c inj ka kn kc W _ (.inl ⟨w0, fun W1 hb => (in6_gh hg B w G O W1 ba bl bc (h.kept hb) (rb.below hb) e1 e2).mono fun e w' ⟨⟨a2, l2, c2, q1, _⟩, q2⟩ => ⟨⟨a2, l2, c2, _, q1⟩, _, (g6_ig hg rb.2.2.1).1, h6 g B hg rb.2.2.1 hi, q2.pre hb⟩⟩)
  by_cases w1 : wh = 1
  · exact play_a G wh ba bl bc z a len cap s d hop n is c inj ka kn kc W _ (.inr (.inl ⟨w1, fun W1 hb => (in4_gh hg B w G O W1 ba bl bc (h.kept hb) (rb.below hb) e1 e2).mono fun e w' ⟨⟨a2, l2, c2, q1, _⟩, q2⟩ => ⟨⟨a2, l2, c2, _, q1⟩, _, (g4_ig hg B).1, h4 g B hg rb.2.2.1 hi, q2.pre hb⟩⟩))
  by_cases w2 : wh = 2
  · exact play_a G wh ba bl bc z a len cap s d hop n is c inj ka kn kc W _ (.inr (.inr (.inl ⟨w2, fun W1 hb => (tick_gh hg n w G O W1 (h.kept hb)).mono fun e w' ⟨q1, q2⟩ => ⟨⟨_, q1⟩, _, gtk_ig hg n, ht g n hg hi, q2.pre hb⟩⟩)))
  by_cases w3 : wh = 3
  · exact play_a G wh ba bl bc z a len cap s d hop n is c inj ka kn kc W _ (.inr (.inr (.inr (.inl ⟨w3, fun W1 hb => (probe_gh (by have := hg.len; omega) n is w G O W1 (h.kept hb)).mono fun e w' ⟨q1, q2⟩ => ⟨⟨_, q1⟩, _, gmk_ig hg n (f := fun x => bup x is) (fun _ => rfl) (fun _ => rfl), hp g n is hg hi, q2.pre hb⟩⟩))))
  by_cases w4 : wh = 4
  · exact play_a G wh ba bl bc z a len cap s d hop n is c inj ka kn kc W _ (.inr (.inr (.inr (.inr ⟨w4, fun W1 hb => (drain_gh (by have := hg.len; omega) n is w G O W1 (h.kept hb)).mono fun e w' ⟨q1, q2⟩ => ⟨⟨_, q1⟩, _, gmk_ig hg n (f := fun x => bdr x is) (fun _ => rfl) (fun _ => rfl), hd g n is hg hi, q2.pre hb⟩⟩))))
  by_cases w5 : wh = 5
  · subst w5
    obtain ⟨zs, hS⟩ := lsent5 ba bl bc z a len cap s d hop n is c inj ka kn kc g.bs D hr.1 hn hg.1.2.1 hc (fun b hb => (hg.1.2.2.1.1 b hb).2.2.2.1)
    refine play_c G ba bl bc z a len cap s d hop n is c inj ka kn kc W _ zs g.bs (fun W1 hb => ?_) (fun W1 v hb hv => hS W1 v hv (hr.below hb)) (fun W1 b l k hb r q1 q2 => ?_)
    · obtain ⟨x1, x2, x3, x4, x5, x6, rfl, hh⟩ := h.kept hb
      exact binds_any G x1 x2 x3 x4 x5 x6 g W1 hh.1 hg.1
    · refine (in4_gh hg zs w G O W1 b l k (h.kept hb) r q1 q2).mono ?_
      rintro e w' ⟨⟨a2, l2, c2, p1, _⟩, p2⟩
      refine ⟨⟨a2, l2, c2, _, p1⟩, ⟨_, (g4_ig hg zs).1, h4 g zs hg r.2.2.1 hi, p2.pre hb⟩, fun B' hB hB2 => ?_⟩
      obtain ⟨_, _, _, p3⟩ := p2
      exact p3.1.2.2.2.2 B' hB2 (fun ho => by have := h.lt ho; omega)
  · have f := fun (j : Int) (hj : ¬ wh = j) => show (wh == j) = false by simpa using hj
    obtain ⟨zs, hS⟩ : ∃ zs : List Int, ∀ W1, Below W.heap.size W W1 → Calls Tryz.prog 15 #[.agg (stC3 wh ba bl bc z a len cap s d hop n is), .agg (cfC c inj ka kn kc), .slice none 0 0] W1 fun e w' => ∃ b l k, e = .returned (.slice b l k) ∧ (Row8 w' b l k zs ∧ l ≤ k ∧ k ≤ maxLen) ∧ Below W1.heap.size W1 w' := by
      rcases lsent_any wh ba bl bc z a len cap s d hop n is c inj ka kn kc (.slice none 0 0) D W (f 5 w5) hr with h | ⟨hs, hd, ht, hz, h⟩
      · exact ⟨[], fun W hW => (h W hW).mono fun e w' ⟨e1, e2⟩ => ⟨none, 0, 0, e1, ⟨gt_no _, Nat.le_refl _, Nat.zero_le _⟩, e2⟩⟩
      · refine ⟨p6o s d hop z D, fun W hW => (h W hW).mono fun e w' ⟨v, e1, o, e2⟩ => ?_⟩
        obtain ⟨g, k, rfl, k1, k2, _, _, r⟩ := o.form p6o_len
        exact ⟨_, _, k, e1, ⟨r, k1, k2⟩, e2⟩
    refine play_b G wh ba bl bc z a len cap s d hop n is c inj ka kn kc W _ zs (f 0 w0) (f 1 w1) (f 2 w2) (f 3 w3) (f 4 w4) (f 5 w5) hS (fun W1 b l k hb r q1 q2 => ?_)
    refine (in6_gh hg zs w G O W1 b l k (h.kept hb) r q1 q2).mono ?_
    rintro e w' ⟨⟨a2, l2, c2, p1, _⟩, p2⟩
    exact ⟨⟨a2, l2, c2, _, p1⟩, _, (g6_ig hg r.2.2.1).1, h6 g zs hg r.2.2.1 hi, p2.pre hb⟩
end Go.Proofs.YtkhahbghmdccaaaGreat

namespace Go.Proofs.YtkhahbghmdccaaaGreat
open Go.RowKit
set_option linter.unusedVariables false
/-- a bind leads to a server, or to the four in its address. -/
def AB (c : List Int) (bk0 : List (List Int)) (b : List Int) : Prop := (eqz (dst b) (vip c) = true ∧ (∃ y ∈ bk0, el y 1 = el b 20 ∧ el y 2 = el b 21 ∧ 0 < el y 3) ∧ el b 18 = el c 8) ∨ (eqz (dst b) (vip c) = false ∧ oto (dst b) (el c 17) = (el b 20, 0) ∧ el b 21 = el b 18)
def AI (c : List Int) (bk0 : List (List Int)) (g : GS) : Prop := g.c = c ∧ (∀ x ∈ g.bk, ∃ y ∈ bk0, el y 1 = el x 1 ∧ el y 2 = el x 2 ∧ el y 3 = el x 3) ∧ ∀ b ∈ g.bs, AB c bk0 b
theorem AB.usd {c : List Int} {bk0 : List (List Int)} {b : List Int} (h : AB c bk0 b) (now : Int) : AB c bk0 (usd b now) := h
theorem eqz_vip {c f : List Int} (h : eqz (dst f) (vip c) = true) : dst f = vip c := by
  have e := (eqz_iff _ _).1 h
  unfold dst vip at e ⊢
  rw [show el f 10 = el c 0 from e 0 (by omega), show el f 11 = el c 1 from e 1 (by omega), show el f 12 = el c 2 from e 2 (by omega), show el f 13 = el c 3 from e 3 (by omega), show el f 14 = el c 4 from e 4 (by omega), show el f 15 = el c 5 from e 5 (by omega), show el f 16 = el c 6 from e 6 (by omega), show el f 17 = el c 7 from e 7 (by omega)]
theorem AI.set {c : List Int} {bk0 : List (List Int)} {g : GS} (h : AI c bk0 g) (k : Nat) (hk : k < g.bs.length) : AI c bk0 (g.tab g.ws g.ts (g.bs.set k (usd (g.bs.getD k []) g.now))) := ⟨h.1, h.2.1, fun b hb => by
  rcases List.mem_or_eq_of_mem_set hb with hb | rfl
  · exact h.2.2 b hb
  · exact (h.2.2 _ (mem_getD hk)).usd _⟩
theorem bdo_ai {c : List Int} {bk0 : List (List Int)} {g : GS} (hv : Em.inF (vip c) (pfx c) (el c 17) = false) (h : AI c bk0 g) (f : List Int) (flags : Int) (hl : (ldo g.c f).1 = 0) : AI c bk0 (bdo g f flags (whr g f (ldo g.c f).2)).2.2 := by
  cases hn : fnd g.bs f with
  | some k =>
    rw [bdo_some hn]
    exact h.set k (fndY hn).1
  | none =>
    rw [bdo_none hn]
    split
    · exact h
    · split
      · exact h
      · rename_i h2
        split
        · exact h
        · rename_i i ht
          refine ⟨h.1, h.2.1, fun b hb => ?_⟩
          rcases ins_mem hb with rfl | hb
          · have hw : (whr g f (ldo g.c f).2).2.2 = 0 := Classical.not_not.1 h2
            have hc := h.1
            rw [hc] at hl hw ⊢
            by_cases hq : eqz (dst f) (vip c) = true ∧ el f 18 = el c 8
            · have hld : ldo c f = (0, true, 0) := if_pos hq
              rw [hld] at hw ⊢
              have hwr : whr g f (true, 0) = (el (pko (el c 19) f g.bk).1 1, el (pko (el c 19) f g.bk).1 2, (pko (el c 19) f g.bk).2) := by rw [← hc]; exact if_pos rfl
              rw [hwr] at hw ⊢
              obtain ⟨o1, _, o3, o4, _⟩ := pick_best hw
              obtain ⟨y, hy, y1, y2, y3⟩ := h.2.1 _ o3
              refine .inl ⟨hq.1, ⟨y, hy, y1, y2, ?_⟩, hq.2⟩
              rw [y3]
              have k1 := o1.2.1 _ o3
              unfold okb at k1
              unfold cand at o4
              simp only [Bool.and_eq_true, decide_eq_true_eq, Bool.not_eq_true', beq_eq_false_iff_ne] at k1 o4
              have := k1.2.1
              have := o4.2
              omega
            · have hld : ldo c f = if Em.inF (dst f) (pfx c) (el c 17) = true ∧ (oto (dst f) (el c 17)).2 = 0 then (0, false, (oto (dst f) (el c 17)).1) else (4, false, 0) := if_neg hq
              by_cases hi : Em.inF (dst f) (pfx c) (el c 17) = true ∧ (oto (dst f) (el c 17)).2 = 0
              · rw [if_pos hi] at hld
                rw [hld]
                have hwr : whr g f (false, (oto (dst f) (el c 17)).1) = ((oto (dst f) (el c 17)).1, el f 18, 0) := if_neg (by simp)
                dsimp only
                rw [hwr]
                refine .inr ⟨?_, ?_, rfl⟩
                · show eqz (dst f) (vip c) = false
                  cases e : eqz (dst f) (vip c)
                  · rfl
                  · rw [eqz_vip e, hv] at hi
                    cases hi.1
                · show oto (dst f) (el c 17) = ((oto (dst f) (el c 17)).1, 0)
                  rw [← hi.2]
              · rw [if_neg hi] at hld
                rw [hld] at hl
                cases hl
          · exact h.2.2 b hb
end Go.Proofs.YtkhahbghmdccaaaGreat

namespace Go.Proofs.YtkhahbghmdccaaaGreat
open Go.RowKit
set_option linter.unusedVariables false
theorem AI.str {c : List Int} {bk0 : List (List Int)} {g : GS} (h : AI c bk0 g) {g' : GS} (h1 : g'.c = g.c) (h2 : g'.bk = g.bk) (h3 : g'.bs = g.bs) : AI c bk0 g' := ⟨h1.trans h.1, by rw [h2]; exact h.2.1, by rw [h3]; exact h.2.2⟩
theorem g6s_ai {c : List Int} {bk0 : List (List Int)} {g : GS} (hv : Em.inF (vip c) (pfx c) (el c 17) = false) (h : AI c bk0 g) (f : List Int) (hop : Int) (z D : List Int) : AI c bk0 (g6s g f hop z D).2.2 := by
  unfold g6s
  split
  · exact h
  · rename_i hl
    have hb := bdo_ai hv h f (el z 5) (Classical.not_not.1 hl)
    split
    · exact h
    · split
      · exact hb
      · rw [g6b_st]
        have s := guo_sm (bdo g f (el z 5) (whr g f (ldo g.c f).2)).2.2 (bdo g f (el z 5) (whr g f (ldo g.c f).2)).2.1 z D
        exact hb.str s.1 s.2.2.1 (guo_c _ _ _ _).2.2
theorem g6_ai {c : List Int} {bk0 : List (List Int)} {g : GS} (hv : Em.inF (vip c) (pfx c) (el c 17) = false) (h : AI c bk0 g) (zs : List Int) : AI c bk0 (g6 g zs).2.2 := by
  by_cases hG : V6.Good zs
  · by_cases hE : (o6s zs).1 = 0
    · have e : g6 g zs = g6s g (f6 zs) (zs.getD 7 0) (o6s zs).2.1 (o6s zs).2.2 := by
        unfold g6 g6s
        rw [if_neg (fun h => h hG), if_neg (fun h => h hE)]
      rw [e]
      exact g6s_ai hv h _ _ _ _
    · have e : g6 g zs = ((o6s zs).1, [], g) := by unfold g6; rw [if_neg (fun h => h hG), if_pos hE]
      rw [e]
      exact h
  · have e : g6 g zs = (5, [], g) := by unfold g6; exact if_pos hG
    rw [e]
    exact h
theorem g4_ai {c : List Int} {bk0 : List (List Int)} {g : GS} (h : AI c bk0 g) (zs : List Int) : AI c bk0 (g4 g zs).2.2 := by
  unfold g4
  split
  · exact h
  · split
    · exact h
    · unfold g4s
      split
      · exact h
      · rename_i k hk
        split
        · rw [g4b_st]
          have hlt := (prt_lt (nrk_some hk).2).1
          exact (h.set k hlt).str (gdo_sm _ _ _ _).1 (gdo_sm _ _ _ _).2.2.1 (gdo_c _ _ _ _).2.2
        · exact h
theorem gtk_ai {c : List Int} {bk0 : List (List Int)} {g : GS} (h : AI c bk0 g) (n : Int) : AI c bk0 (gtk g n).2 := by
  unfold gtk
  split
  · refine ⟨h.1, h.2.1, fun b hb => ?_⟩
    have hb' : b ∈ (es (g.now + n) g.bs g.ts g.bs.length).2.1 := hb
    rw [(es_form (g.now + n) g.bs g.ts g.bs.length (Nat.le_refl _)).2.1, List.take_length] at hb'
    exact h.2.2 b (List.mem_filter.1 hb').1
  · exact h
theorem gmk_ai {c : List Int} {bk0 : List (List Int)} {g : GS} (h : AI c bk0 g) (id : Int) {f : List Int → List Int} (h1 : ∀ x, el (f x) 1 = el x 1 ∧ el (f x) 2 = el x 2 ∧ el (f x) 3 = el x 3) : AI c bk0 (gmk g id f).2 := by
  unfold gmk
  split
  · exact h
  · rename_i i hi
    refine ⟨h.1, fun x hx => ?_, h.2.2⟩
    have hx' : x ∈ g.bk.set i (f (g.bk.getD i [])) := hx
    rcases List.mem_or_eq_of_mem_set hx' with hx | rfl
    · exact h.2.1 x hx
    · obtain ⟨y, hy, y1, y2, y3⟩ := h.2.1 _ (mem_getD (svk_lt hi))
      obtain ⟨e1, e2, e3⟩ := h1 (g.bk.getD i [])
      exact ⟨y, hy, y1.trans e1.symm, y2.trans e2.symm, y3.trans e3.symm⟩
theorem gz0_ai (c : List Int) (inj : Bool) (bk : List (List Int)) (m : Nat) : AI c bk (gz0 c inj bk m) := ⟨rfl, fun x hx => ⟨x, hx, rfl, rfl, rfl⟩, fun b hb => absurd hb (by simp [gz0, GS.bs])⟩
end Go.Proofs.YtkhahbghmdccaaaGreat

namespace Go.Proofs.YtkhahbghmdccaaaGreat
open Go.ChangeShapes Go.WideShapes Go.Deep Go.RowKit
set_option maxRecDepth 100000 in
theorem step_of2 {H : Type} {enc : TypeId × Value → H} {W : World} {base : Nat} {held : Bool} {n : Nat} {cs : List Value} {y : DataW H × List MemPlace} (h : DataW.trod enc Tryz.prog W base (fun _ => true) held n 32 cs = some y) :
    ∃ wh ba bl bc bs z a len cap D s d hop m is, cs = (stC3 wh ba bl bc z a len cap s d hop m is).toList ∧ IsRow .u8 W ba bl bc bs ∧ Row8 W a len cap D ∧ I64 m := by
  have hu := Tryz.underlying32
  obtain ⟨xs, m, _, _, hl, hx, hall⟩ := DataW.trod_struct hu h
  have hF := Tryz.step3F
  rw [hu] at hF
  replace hF := Option.some.inj hF
  have c1 : Tryz.prog.cellsOf 3 = 1 := by kernel_rfl
  have cb : Tryz.prog.cellsOf 28 = 1 := by kernel_rfl
  have c8 : Tryz.prog.cellsOf 30 = 8 := by kernel_rfl
  have c6 : Tryz.prog.cellsOf 23 = 8 := by kernel_rfl
  have cl : Tryz.prog.cellsOf 4 = 1 := by kernel_rfl
  have c29 : Tryz.prog.cellsOf 32 = 29 := by kernel_rfl
  rw [c29] at hl
  obtain ⟨y0, g0⟩ := sg_field (k := 0) hF hx hall _ _ rfl
  obtain ⟨y1, g1⟩ := sg_field (k := 1) hF hx hall _ _ rfl
  obtain ⟨y2, g2⟩ := sg_field (k := 2) hF hx hall _ _ rfl
  obtain ⟨y3, g3⟩ := sg_field (k := 3) hF hx hall _ _ rfl
  obtain ⟨y4, g4⟩ := sg_field (k := 4) hF hx hall _ _ rfl
  obtain ⟨y5, g5⟩ := sg_field (k := 5) hF hx hall _ _ rfl
  obtain ⟨y6, g6⟩ := sg_field (k := 6) hF hx hall _ _ rfl
  obtain ⟨y7, g7⟩ := sg_field (k := 7) hF hx hall _ _ rfl
  rw [c1] at g0 g5 g6
  rw [cb] at g1
  rw [c8] at g2
  rw [c6] at g3 g4
  rw [cl] at g7
  obtain ⟨x0, e0, _, _⟩ := DataW.trod_int Tryz.underlying3 g0
  obtain ⟨x5, e5, _, _⟩ := DataW.trod_int Tryz.underlying3 g5
  obtain ⟨x6, e6, _, w6⟩ := DataW.trod_int Tryz.underlying3 g6
  obtain ⟨x7, e7, _⟩ := DataW.trod_bool Tryz.underlying4 g7
  obtain ⟨v1, e1⟩ := sg_cut (cs := cs) (o := 1) (by omega)
  rw [e1] at g1
  obtain ⟨ba, bl, bc, bs, rfl, hrow⟩ := field_bytes Tryz.underlying28 Tryz.underlying5 (by kernel_rfl) (fun _ => rfl) g1
  obtain ⟨z, a, len, cap, D, e2, hD⟩ := seg_of g2
  have hs := nums_six g3
  have hd := nums_six g4
  obtain ⟨s0, es0, _⟩ := hs.2 0 (by omega)
  rw [part_at (by omega)] at es0
  obtain ⟨s1, es1, _⟩ := hs.2 1 (by omega)
  rw [part_at (by omega)] at es1
  obtain ⟨s2, es2, _⟩ := hs.2 2 (by omega)
  rw [part_at (by omega)] at es2
  obtain ⟨s3, es3, _⟩ := hs.2 3 (by omega)
  rw [part_at (by omega)] at es3
  obtain ⟨s4, es4, _⟩ := hs.2 4 (by omega)
  rw [part_at (by omega)] at es4
  obtain ⟨s5, es5, _⟩ := hs.2 5 (by omega)
  rw [part_at (by omega)] at es5
  obtain ⟨s6, es6, _⟩ := hs.2 6 (by omega)
  rw [part_at (by omega)] at es6
  obtain ⟨s7, es7, _⟩ := hs.2 7 (by omega)
  rw [part_at (by omega)] at es7
  obtain ⟨d0, ed0, _⟩ := hd.2 0 (by omega)
  rw [part_at (by omega)] at ed0
  obtain ⟨d1, ed1, _⟩ := hd.2 1 (by omega)
  rw [part_at (by omega)] at ed1
  obtain ⟨d2, ed2, _⟩ := hd.2 2 (by omega)
  rw [part_at (by omega)] at ed2
  obtain ⟨d3, ed3, _⟩ := hd.2 3 (by omega)
  rw [part_at (by omega)] at ed3
  obtain ⟨d4, ed4, _⟩ := hd.2 4 (by omega)
  rw [part_at (by omega)] at ed4
  obtain ⟨d5, ed5, _⟩ := hd.2 5 (by omega)
  rw [part_at (by omega)] at ed5
  obtain ⟨d6, ed6, _⟩ := hd.2 6 (by omega)
  rw [part_at (by omega)] at ed6
  obtain ⟨d7, ed7, _⟩ := hd.2 7 (by omega)
  rw [part_at (by omega)] at ed7
  refine ⟨x0, ba, bl, bc, bs, z, a, len, cap, D, [s0, s1, s2, s3, s4, s5, s6, s7], [d0, d1, d2, d3, d4, d5, d6, d7], x5, x6, x7, List.ext_getElem? fun i => ?_, hrow, hD, i64_of w6⟩
  by_cases hi : i < 29
  · rcases (by omega : i = 0 ∨ i = 1 ∨ i = 2 ∨ i = 3 ∨ i = 4 ∨ i = 5 ∨ i = 6 ∨ i = 7 ∨ i = 8 ∨ i = 9 ∨ i = 10 ∨ i = 11 ∨ i = 12 ∨ i = 13 ∨ i = 14 ∨ i = 15 ∨ i = 16 ∨ i = 17 ∨ i = 18 ∨ i = 19 ∨ i = 20 ∨ i = 21 ∨ i = 22 ∨ i = 23 ∨ i = 24 ∨ i = 25 ∨ i = 26 ∨ i = 27 ∨ i = 28) with rfl | rfl | rfl | rfl | rfl | rfl | rfl | rfl | rfl | rfl | rfl | rfl | rfl | rfl | rfl | rfl | rfl | rfl | rfl | rfl | rfl | rfl | rfl | rfl | rfl | rfl | rfl | rfl | rfl
    · exact sg_one e0
    · exact sg_one e1
    · have := congrArg (fun l => l[0]?) e2; rw [part_at (by omega)] at this; exact this
    · have := congrArg (fun l => l[1]?) e2; rw [part_at (by omega)] at this; exact this
    · have := congrArg (fun l => l[2]?) e2; rw [part_at (by omega)] at this; exact this
    · have := congrArg (fun l => l[3]?) e2; rw [part_at (by omega)] at this; exact this
    · have := congrArg (fun l => l[4]?) e2; rw [part_at (by omega)] at this; exact this
    · have := congrArg (fun l => l[5]?) e2; rw [part_at (by omega)] at this; exact this
    · have := congrArg (fun l => l[6]?) e2; rw [part_at (by omega)] at this; exact this
    · have := congrArg (fun l => l[7]?) e2; rw [part_at (by omega)] at this; exact this
    · exact es0
    · exact es1
    · exact es2
    · exact es3
    · exact es4
    · exact es5
    · exact es6
    · exact es7
    · exact ed0
    · exact ed1
    · exact ed2
    · exact ed3
    · exact ed4
    · exact ed5
    · exact ed6
    · exact ed7
    · exact sg_one e5
    · exact sg_one e6
    · exact sg_one e7
  · rw [List.getElem?_eq_none (by omega), List.getElem?_eq_none (by show 29 ≤ i; omega)]
/-- a row of steps at an address. -/
def Sts (a : Option Addr) (n : Nat) (w : World) : Prop := 0 < n → ∃ g off, a = some ⟨g, off, none⟩ ∧ ∀ k, k < n → ∃ wh ba bl bc bs z x l c zs s d hop m is, w.rangeAt g (off + k * 29) (stC3 wh ba bl bc z x l c s d hop m is).toList ∧ (Row8 w ba bl bc bs ∧ bl ≤ bc ∧ bc ≤ maxLen) ∧ Row8 w x l c zs ∧ I64 m
theorem Sts.below {a : Option Addr} {n : Nat} {w w' : World} (h : Sts a n w) (hb : Below w.heap.size w w') : Sts a n w' := by
  intro hp
  obtain ⟨g, off, e, hx⟩ := h hp
  refine ⟨g, off, e, fun k hk => ?_⟩
  obtain ⟨wh, ba, bl, bc, bs, z, x, l, c, zs, s, d, hop, m, is, h1, h2, h3, h4⟩ := hx k hk
  exact ⟨wh, ba, bl, bc, bs, z, x, l, c, zs, s, d, hop, m, is, rng_below h1 hb, ⟨h2.1.below hb, h2.2⟩, h3.below hb, h4⟩
set_option maxRecDepth 100000 in
theorem steps_open {H : Type} {enc : TypeId × Value → H} {W : World} {base : Nat} {held : Bool} {b0 : Nat} {v : Value} {x : DataW H} {p : List MemPlace} (h : Value.okWide Tryz.prog W .any b0 27 v) (ht : DataW.Trod enc Tryz.prog W base (fun _ => true) held 27 v x p) :
    ∃ a len cap, v = .slice a len cap ∧ len ≤ maxLen ∧ Sts a len W := by
  obtain ⟨a, len, cap, rfl⟩ := okWide_slice Tryz.underlying27 h
  obtain ⟨fuel, hf⟩ := ht
  rcases open_slice Tryz.underlying27 hf with ⟨hcs, _⟩ | ⟨a', len', cap', m, n, D, Pl, hcs, hb, hl, hm, hmm, _, hx⟩
  · simp [Value.cells] at hcs
    obtain ⟨rfl, rfl, rfl⟩ := hcs
    exact ⟨none, 0, 0, rfl, Nat.zero_le _, fun h => absurd h (by simp)⟩
  · simp [Value.cells] at hcs
    obtain ⟨rfl, rfl, rfl⟩ := hcs
    have c29 : Tryz.prog.cellsOf 32 = 29 := by kernel_rfl
    rw [c29] at hx
    have hlm : len ≤ m := by rw [hmm]; split <;> omega
    refine ⟨some a', len, cap, rfl, by omega, fun hp => ?_⟩
    obtain ⟨b, off, spot⟩ := a'
    have hspot : spot = none := by
      obtain ⟨cs', h1, h2⟩ := hx 0 (by omega)
      obtain ⟨wh, ba, bl, bc, bs, z, x, l, c, zs, s, d, hop, m', is, rfl, _⟩ := step_of2 h2
      obtain ⟨_, _, hcell⟩ := World.cells?_some h1
      have := hcell 0 (by omega)
      rw [add_add] at this
      have g0 : W.cell? ((⟨b, off, spot⟩ : Addr).add (0 * 29 + 0)) = some (.int .i64 wh) := by
        rw [this]
        rfl
      simpa [Addr.add] using World.cell?_spot g0
    subst hspot
    refine ⟨b, off, rfl, fun k hk => ?_⟩
    obtain ⟨cs', h1, h2⟩ := hx k (by omega)
    obtain ⟨wh, ba, bl, bc, bs, z, x, l, c, zs, s, d, hop, m', is, rfl, hrow, hD, hi⟩ := step_of2 h2
    refine ⟨wh, ba, bl, bc, bs.take bl, z, x, l, c, zs, s, d, hop, m', is, fun j v hv => ?_, ⟨hrow.row8, ?_⟩, hD, hi⟩
    rotate_left
    · rcases hrow with ⟨_, rfl, rfl, rfl⟩ | ⟨_, _, q1, q2, _⟩
      · exact ⟨Nat.le_refl _, Nat.zero_le _⟩
      · exact ⟨q1, q2⟩
    obtain ⟨_, _, hcell⟩ := World.cells?_some h1
    have hj : j < 29 := (List.getElem?_eq_some_iff.1 hv).1
    have := hcell j hj
    rw [add_add, add_pl, hv] at this
    rw [show off + k * 29 + j = off + (k * 29 + j) by omega]
    exact this
end Go.Proofs.YtkhahbghmdccaaaGreat

namespace Go.Proofs.YtkhahbghmdccaaaGreat
open Go.RowKit
set_option linter.unusedVariables false
/-- a gate on which this and that was played. -/
def GA (wB : World) (c : List Int) (bk : List (List Int)) (m : Nat) (G : Nat) (g : GS) (O : Nat → Prop) (W : World) : Prop := IG g ∧ (AI c bk g ∧ g.m = m) ∧ GH wB G g O W
theorem gtk_m (g : GS) (n : Int) : (gtk g n).2.m = g.m := by
  unfold gtk
  split <;> rfl
theorem gmk_m (g : GS) (id : Int) (f : List Int → List Int) : (gmk g id f).2.m = g.m := by
  unfold gmk
  split <;> rfl
theorem play_ga {wB : World} {c : List Int} {bk : List (List Int)} {m : Nat} {G : Nat} {g : GS} {O : Nat → Prop} {W : World} (hv : Em.inF (vip c) (pfx c) (el c 17) = false) (hc : up 4294967295 (el c 18) = true) (h : GA wB c bk m G g O W)
    (wh : Int) (ba : Option Addr) (bl bc : Nat) (B z : List Int) (a : Option Addr) (len cap : Nat) (D s d : List Int) (hop n : Int) (is : Bool) (inj : Bool) (ka : Option Addr) (kn kc : Nat) (hn : I64 n) (rb : Row8 W ba bl bc B) (e1 : bl ≤ bc) (e2 : bc ≤ maxLen) (hr : Row8 W a len cap D) :
    Calls Tryz.prog 14 #[.pointer (some ⟨G, 0, none⟩), .agg (stC3 wh ba bl bc z a len cap s d hop n is), .agg (cfC c inj ka kn kc)] W fun e w' => (∃ v, e = .returned v) ∧ ∃ g' O', GA wB c bk m G g' O' w' := by
  obtain ⟨h1, h2, h3⟩ := h
  refine (play_inv (Inv := fun g => AI c bk g ∧ g.m = m) (fun g zs hg ho h => ⟨g6_ai hv h.1 zs, (g6_ig hg ho).2.2.2.2.1.trans h.2⟩) (fun g zs hg ho h => ⟨g4_ai h.1 zs, (g4_ig hg zs).2.2.2.2.1.trans h.2⟩) (fun g n hg h => ⟨gtk_ai h.1 n, (gtk_m g n).trans h.2⟩) (fun g id u hg h => ⟨gmk_ai h.1 id (fun _ => ⟨rfl, rfl, rfl⟩), (gmk_m g id _).trans h.2⟩) (fun g id u hg h => ⟨gmk_ai h.1 id (fun _ => ⟨rfl, rfl, rfl⟩), (gmk_m g id _).trans h.2⟩) wh ba bl bc B z a len cap D s d hop n is c inj ka kn kc hn hc h1 h2 h3 rb e1 e2 hr).mono ?_
  rintro e w' ⟨q1, g', q2, q3, O', q4, _⟩
  exact ⟨q1, g', O', q2, q3, q4⟩
theorem GA.kept {wB : World} {c : List Int} {bk : List (List Int)} {m : Nat} {G : Nat} {g : GS} {O : Nat → Prop} {W W' : World} (h : GA wB c bk m G g O W) (hb : Below W.heap.size W W') : GA wB c bk m G g O W' := ⟨h.1, h.2.1, h.2.2.kept hb⟩
theorem okf_dst {f : List Int} (h : okf f = true) : Ok6 (dst f) := by
  unfold okf at h
  simp only [Bool.and_eq_true] at h
  exact (s6_iff _).1 h.1.1.2
/-- of two binds: other ports, other flows, and of one block one client. -/
def PR (x y : List Int) : Prop := (el x 19 == el y 19) = false ∧ eqf x y = false ∧ ((el x 19).tdiv 8 = (el y 19).tdiv 8 → eqz (cli x) (cli y) = true)
/-- of one bind. -/
def PO (c : List Int) (bk : List (List Int)) (m : Nat) (now : Int) (b : List Int) : Prop := 1024 ≤ el b 19 ∧ el b 19 < 1024 + 8 * (m : Int) ∧ el b 22 ≤ now ∧ AB c bk b ∧ okf b = true
theorem sixC_eqz {x y : List Int} (h : sixC x = sixC y) : eqz x y = true := by
  refine (eqz_iff x y).2 fun j hj => ?_
  unfold sixC at h
  injection h with h
  injection h with h0 h
  injection h with h1 h
  injection h with h2 h
  injection h with h3 h
  injection h with h4 h
  injection h with h5 h
  injection h with h6 h
  injection h with h7 h
  injection h0 with _ h0
  injection h1 with _ h1
  injection h2 with _ h2
  injection h3 with _ h3
  injection h4 with _ h4
  injection h5 with _ h5
  injection h6 with _ h6
  injection h7 with _ h7
  rcases (by omega : j = 0 ∨ j = 1 ∨ j = 2 ∨ j = 3 ∨ j = 4 ∨ j = 5 ∨ j = 6 ∨ j = 7) with rfl | rfl | rfl | rfl | rfl | rfl | rfl | rfl <;> assumption
theorem GH.ag {w : World} {G : Nat} {g : GS} {O : Nat → Prop} {W : World} (h : GH w G g O W) : ∃ ow, Ag g.ws ow g.ts g.m := by
  obtain ⟨a, cap, tv, S, Ot, β, rfl, h, _⟩ := h
  obtain ⟨T, P, BB, F, N, ow, _, _, q, _⟩ := h.2.2.1
  exact ⟨ow, q⟩
theorem GA.one {wB : World} {c : List Int} {bk : List (List Int)} {m : Nat} {G : Nat} {g : GS} {O : Nat → Prop} {W : World} (h : GA wB c bk m G g O W) {k : Nat} (hk : k < g.bs.length) : PO c bk m g.now (g.bs.getD k []) := by
  have hm := mem_getD hk
  obtain ⟨q1, ⟨i, q2, q3, _⟩, _⟩ := h.1.1.2.2.1.1 _ hm
  have hmm := h.2.1.2
  exact ⟨by omega, by omega, h.1.1.2.2.2.2 _ hm, h.2.1.1.2.2 _ hm, q1⟩
theorem GA.two {wB : World} {c : List Int} {bk : List (List Int)} {m : Nat} {G : Nat} {g : GS} {O : Nat → Prop} {W : World} (h : GA wB c bk m G g O W) {j k : Nat} (hj : j < k) (hk : k < g.bs.length) : PR (g.bs.getD j []) (g.bs.getD k []) := by
  have hb := h.1.1.2.2.1
  refine ⟨?_, ?_, fun e => ?_⟩
  · have := List.pairwise_iff_getElem.1 hb.2.1 j k (by omega) hk hj
    rw [getD_at (show j < g.bs.length by omega), getD_at hk, beq_eq_false_iff_ne]
    omega
  · rw [getD_at (by omega), getD_at hk]
    exact List.pairwise_iff_getElem.1 hb.2.2.1 j k (by omega) hk hj
  · obtain ⟨ow, ag⟩ := h.2.2.ag
    obtain ⟨_, ⟨i1, a1, a2, a3, a4⟩, _⟩ := hb.1 _ (mem_getD (show j < g.bs.length by omega))
    obtain ⟨_, ⟨i2, b1, b2, b3, b4⟩, _⟩ := hb.1 _ (mem_getD hk)
    rw [a2, b2, Int.tdiv_eq_ediv_of_nonneg (by omega), Int.tdiv_eq_ediv_of_nonneg (by omega)] at e
    have e' : i1 / 8 = i2 / 8 := by omega
    have c1 := ag (i1 / 8) (by omega) (i1 % 8) (by omega) (by rw [show 8 * (i1 / 8) + i1 % 8 = i1 by omega]; exact a3)
    have c2 := ag (i2 / 8) (by omega) (i2 % 8) (by omega) (by rw [show 8 * (i2 / 8) + i2 % 8 = i2 by omega]; exact b3)
    rw [show 8 * (i1 / 8) + i1 % 8 = i1 by omega] at c1
    rw [show 8 * (i2 / 8) + i2 % 8 = i2 by omega] at c2
    exact sixC_eqz (a4.symm.trans (c1.trans ((by rw [e'] : sixC (ow (i1 / 8)) = sixC (ow (i2 / 8))).trans (c2.symm.trans b4))))
/-- a row of binds at an index: its client, its place. -/
theorem row_cli {w : World} {g o : Nat} {b : List Int} (h : w.rangeAt g o (bdC b).toList) : (hload (.pointer (some ⟨g, o + 1, none⟩))).run Tryz.prog w = .ok (.agg (sixC (cli b))) w :=
  run_loadAt_mid w g (o + 1) 23 _ _ (fun j v hv => by
    have hj : j < 8 := (List.getElem?_eq_some_iff.1 hv).1
    rw [show o + 1 + j = o + (1 + j) by omega]
    refine h (1 + j) v ?_
    rcases (by omega : j = 0 ∨ j = 1 ∨ j = 2 ∨ j = 3 ∨ j = 4 ∨ j = 5 ∨ j = 6 ∨ j = 7) with rfl | rfl | rfl | rfl | rfl | rfl | rfl | rfl <;> exact hv) Tryz.underlying23 rfl (by kernel_rfl)
theorem row_dst {w : World} {g o : Nat} {b : List Int} (h : w.rangeAt g o (bdC b).toList) : (hload (.pointer (some ⟨g, o + 10, none⟩))).run Tryz.prog w = .ok (.agg (sixC (dst b))) w :=
  run_loadAt_mid w g (o + 10) 23 _ _ (fun j v hv => by
    have hj : j < 8 := (List.getElem?_eq_some_iff.1 hv).1
    rw [show o + 10 + j = o + (10 + j) by omega]
    refine h (10 + j) v ?_
    rcases (by omega : j = 0 ∨ j = 1 ∨ j = 2 ∨ j = 3 ∨ j = 4 ∨ j = 5 ∨ j = 6 ∨ j = 7) with rfl | rfl | rfl | rfl | rfl | rfl | rfl | rfl <;> exact hv) Tryz.underlying23 rfl (by kernel_rfl)
theorem row_step {w : World} {g o : Nat} {wh : Int} {ba : Option Addr} {bl bc : Nat} {z : List Int} {a : Option Addr} {len cap : Nat} {s d : List Int} {hop n : Int} {is : Bool} (h : w.rangeAt g o (stC3 wh ba bl bc z a len cap s d hop n is).toList) : (stl (.pointer (some ⟨g, o, none⟩))).run Tryz.prog w = .ok (.agg (stC3 wh ba bl bc z a len cap s d hop n is)) w :=
  run_loadAt_mid w g o 32 _ _ (fun j v hv => h j v hv) Tryz.underlying32 rfl (by kernel_rfl)
/-- what is asked of binds, for a slice of them and whatever world behind. -/
theorem binds_ga {wB : World} {c : List Int} {bk : List (List Int)} {m : Nat} {G : Nat} {g : GS} {O : Nat → Prop} {W : World} (h : GA wB c bk m G g O W) : Calls Tryz.prog 24 #[.pointer (some ⟨G, 0, none⟩)] W fun e w' => ∃ v, e = .returned v ∧ BdRow 0 w' v g.bs ∧ Below W.heap.size W w' := by
  obtain ⟨x1, x2, x3, x4, x5, x6, rfl, hh⟩ := h.2.2
  exact binds_any G x1 x2 x3 x4 x5 x6 g W hh.1 h.1.1
theorem now_ga {wB : World} {c : List Int} {bk : List (List Int)} {m : Nat} {G : Nat} {g : GS} {O : Nat → Prop} {W : World} (h : GA wB c bk m G g O W) : Calls Tryz.prog 25 #[.pointer (some ⟨G, 0, none⟩)] W fun e w' => e = .returned (.int .i64 g.now) ∧ w' = W := by
  obtain ⟨x1, x2, x3, x4, x5, x6, rfl, hh⟩ := h.2.2
  exact now_any G x1 x2 x3 x4 x5 x6 g W hh.1
end Go.Proofs.YtkhahbghmdccaaaGreat
