/- Package gate: New, by contracts; slices.Clone of servers. -/
import Derived.Test.YtnhjabiciaoocaaDoorJBmD
import Derived.Test.YtnhjabiciaoocaaDoorGcA
import Derived.Deep.MidRow
import Derived.Laws.ResultCell
import Derived.Deep.CutBlock
import Derived.Deep.QuietTactic
import Derived.OwnWalk
import Derived.Deep.RegionHeld3
import Derived.Deep.DrawnRows
import Derived.Laws.StructEq
import Derived.Laws.AppendOwnNone
import Derived.Maps.AppendAt
import Derived.Maps.RangeWalk
import Derived.Test.YtnhjabiciaoocaaDoorProg
import Derived.WalkKit
import Derived.LaidEql
import Derived.Stop.Asserts
import Derived.RowKitTokens
import Derived.Test.YtnhjabiciaoocaaDoorShelf
import Derived.Shelf.Abstract
import Derived.Below
import Derived.OpenShut
import Derived.BigQuiet
import Derived.Laws.MakeOwn
import Derived.Deep.RegionLaw
import Derived.Lib.Bytes
import Derived.Lib.SliceRun
import Derived.Lib.AppendZerosOnto
import Derived.Lib.AppendZeros
namespace Go.Proofs.YtnhjabiciaoocaaDoor
open Go.RowKit
theorem kempty (w : World) : OwK w.heap.size (w.alloc (.cells #[] 60)) (.slice (some ⟨w.heap.size, 0, none⟩) 0 0) [] := World.ownsRow_made w #[] 0 (Nat.le_refl _) (Nat.zero_le _) rfl
/-- no servers put behind others, wherever they lie. -/
theorem ap_K0 {w : World} {ops : Array Oper} {rest : List Oper} {o : Oper} {a : Act} {Q : Exit → Act → World → Prop} (hgd : o.guard = none) (s x : Operand)
    (ho : o.op = .call { callee := .builtin .append, args := #[s, x], argTypes := #[24, 24] })
    (base : Nat) (v : Value) (l : List (List Int)) (hs : a.eval s = v) (hown : OwK base w v l) (ad : Addr) (c : Nat) (hx : a.eval x = .slice (some ad) 0 c) (hlen : l.length ≤ 1000000) (hbase : base ≤ w.heap.size)
    (h : ∀ v' w', OwK base w' v' l → w.grownBy w' v.ownBlock → wpList Tryd.prog ops Q rest (a.put o.dst v') w') : wpList Tryd.prog ops Q (o :: rest) a w := by
  obtain ⟨i0, hi, hz0, hz1, hz2⟩ := info_parts Tryd.infoBack
  have hown' : w.ownsRow base 60 6 v l.length (kvs l) := hown
  refine wpList_append_own_at _ hgd s x 24 ho base 60 i0 _ 6 40 Tryd.underlying24 hi hz0 hz1 hz2 rfl (by decide) v l.length (kvs l) hs hown' ad 0 c [] hx rfl ?_ ?_ (by unfold maxLen; omega) (by omega) hbase ?_
  · intro j u hu
    simp at hu
  · intro u hu
    simp at hu
  · intro v' w' h1 h2 _ h5
    refine h v' w' ?_ h2
    unfold OwK
    simpa using h1
set_option maxRecDepth 100000 in
set_option maxHeartbeats 2000000 in
theorem kclone_any (a : Option Addr) (cap : Nat) (bk : List (List Int)) (w : World) (hb : Bks a bk w) (hl : bk.length ≤ 1000) (ha : a = none → bk = [] ∧ cap = 0) :
    Calls Tryd.prog 24 #[.slice a bk.length cap] w fun e w' => ∃ a' cap', e = .returned (.slice a' bk.length cap') ∧ bk.length ≤ cap' ∧ Bks a' bk w' ∧ Below w.heap.size w w' := by
  have q := fun (w : World) (a : Option Addr) (n c n' c' : Nat) => Lib.run_eql_slice_nil (P := Tryd.prog) w 24 _ a n c n' c' Tryd.underlying24
  cases a with
  | none =>
    obtain ⟨rfl, rfl⟩ := ha rfl
    clear hb hl ha
    rw [List.length_nil]
    go_enter Tryd.func24, Tryd.ntmps24
    go_wp2
    go_ret
    exact ⟨none, 0, rfl, Nat.le_refl _, fun h => absurd h (by simp), Below.refl _ _⟩
  | some ad =>
    have HG := hide (kempty w)
    have HB0 := hide (al_below w (.cells #[] 60))
    by_cases h0 : bk = []
    · subst h0
      clear hb hl ha
      rw [List.length_nil]
      go_enter Tryd.func24, Tryd.ntmps24
      go_wp2_with (at_builtin; refine ap_K0 rfl (.tmp 5) (.tmp 6) rfl w.heap.size _ [] rfl HG.out ad cap rfl (by simp) (by simp) ?_; intro v' w' ho hg; have HO := hide (show OwK w.heap.size w' v' [] from ho); have HB := hide (HB0.out.grown hg HB0.out.size (fun k e => (owns_lt HG.out k e).2)); clear ho hg)
      go_ret
      obtain ⟨a', cap', e1, e2, e3⟩ := HO.out.bks
      subst e1
      exact ⟨a', cap', rfl, e2, e3, HB.out⟩
    · have hpos : 0 < bk.length := List.length_pos_iff.2 h0
      obtain ⟨g, off, e, _⟩ := hb hpos
      obtain rfl : ad = ⟨g, off, none⟩ := Option.some.inj e
      have HC := hide (show ∀ j, j < bk.length → (w.alloc (.cells #[] 60)).rangeAt g (off + j * 6) (bkC (bk.getD j [])).toList from fun j hj => by
        obtain ⟨g', off', e, _, h2⟩ := (hb.below (al_below w (.cells #[] 60))) (by omega)
        injection e with e
        injection e with e1 e2
        subst e1 e2
        exact h2 j hj)
      clear hb ha h0 hpos e
      go_enter Tryd.func24, Tryd.ntmps24
      go_wp2_with (at_builtin; refine ap_K rfl (.tmp 5) (.tmp 6) rfl w.heap.size _ [] rfl HG.out g off bk.length cap bk rfl rfl HC.out (by simp only [List.length_nil]; omega) (by simp) ?_; intro v' w' ho hg; have HO := hide (show OwK w.heap.size w' v' bk from ho); have HB := hide (HB0.out.grown hg HB0.out.size (fun k e => (owns_lt HG.out k e).2)); clear ho hg)
      go_ret
      obtain ⟨a', cap', e1, e2, e3⟩ := HO.out.bks
      subst e1
      exact ⟨a', cap', rfl, e2, e3, HB.out⟩
/-- a config's load, a gate built: held shut for a walk. -/
def cload (x : Value) : Sem Value := Instr.loadAt 26 x
theorem cload_shut (x : Value) : Instr.loadAt 26 x = cload x := rfl
set_option maxRecDepth 10000 in
theorem CfIn.cl {B : Nat} {c : List Int} {inj : Bool} {a : Option Addr} {n cap : Nat} {w : World} (p : CfIn B c inj a n cap w) : (cload (.pointer (some ⟨B, 0, none⟩))).run Tryd.prog w = .ok (.agg (cfC c inj a n cap)) w :=
  run_loadAt_mid w B 0 26 (cfC c inj a n cap).toList _ (fun j v hv => by
    rw [Nat.zero_add, p.cellAt]
    simpa using hv) Tryd.underlying26 rfl (by kernel_rfl)
def gbu (ps : Array (Nat × Value)) : Sem Value := Instr.build 63 ps
theorem gbu_shut (ps : Array (Nat × Value)) : Instr.build 63 ps = gbu ps := rfl
theorem gbu_run (c : List Int) (inj : Bool) (a : Option Addr) (n cap : Nat) (tv : Value) (ht : ∃ T, tv = .pointer (some ⟨T, 0, none⟩)) (S : Nat) (w : World) : (gbu #[(0, .agg (cfC c inj a n cap)), (1, tv), (2, .map (some S))]).run Tryd.prog w = .ok (.agg (gtC c inj a n cap tv S 0)) w := by
  obtain ⟨T, rfl⟩ := ht
  kernel_rfl
theorem CfIn.frz {B : Nat} {c : List Int} {inj : Bool} {a : Option Addr} {n cap : Nat} {w : World} (p : CfIn B c inj a n cap w) (j : Nat) : w.frozen? ⟨B, j, none⟩ = false := by
  unfold CfIn at p
  simp [World.frozen?, p]
theorem CfIn.set22 {B : Nat} {c : List Int} {inj : Bool} {a : Option Addr} {n cap : Nat} {w : World} (p : CfIn B c inj a n cap w) (a' : Option Addr) (n' cap' : Nat) : CfIn B c inj a' n' cap' (w.setCell ⟨B, 22, none⟩ (.slice a' n' cap')) ∧ Only B w (w.setCell ⟨B, 22, none⟩ (.slice a' n' cap')) := by
  rw [setCell_eq_setRow w B 22 _ _ (0, 0) _ p]
  exact ⟨setRow_heap w B _ _ _ (0, 0) p, only_setRow _ _ _⟩
attribute [local go_sem ↓] cload_shut gbu_shut
set_option maxRecDepth 100000 in
set_option maxHeartbeats 2000000 in
theorem gnew_bad (c : List Int) (inj : Bool) (a : Option Addr) (cap : Nat) (bk : List (List Int)) (pf : Int) (w : World) (hb : Bks a bk w) (hl : bk.length ≤ maxLen) (hc : bk.length ≤ cap) (hp : Em.PF (pfx c) (el c 17) pf) (hR : cko c bk pf ≠ 0) :
    Calls Tryd.prog 7 #[.agg (cfC c inj a bk.length cap)] w fun e w' => e = .returned (.tuple #[.pointer none, err (cko c bk pf)]) ∧ Below w.heap.size w w' := by
  have HP := hide (cf_new w c inj a bk.length cap)
  have HB := hide (al_below w (.cells (cfC c inj a bk.length cap) 26))
  have HC := hide (fun W (hW : Below w.heap.size w W) => gcheck_any c inj a cap bk pf W (hb.below hW) hl hc hp)
  rw [ev_err' hR] at HC
  generalize cko c bk pf = R at HC ⊢
  unfold err at HC ⊢
  clear hb hl hc hp hR
  go_enter Tryd.func7, Tryd.ntmps7
  go_upto_region 1 with fail
  generalize w.alloc _ = W0 at HP HB ⊢
  have y := HP.out.cl
  go_wp2_with (go_at_call 6; refine (HC.out _ HB.out).mono ?_; rintro e w1 ⟨rfl, hb1⟩; replace HB := hide (bt HB.out hb1); clear hb1 y)
  go_ret2
  exact ⟨rfl, HB.out⟩
set_option maxRecDepth 100000 in
set_option maxHeartbeats 2000000 in
theorem gnew_ok (c : List Int) (inj : Bool) (a : Option Addr) (cap : Nat) (bk : List (List Int)) (m : Nat) (w : World) (hb : Bks a bk w) (hl : bk.length ≤ 1000) (hc : bk.length ≤ cap) (ha : a = none → bk = [] ∧ cap = 0) (hp : Em.PF (pfx c) (el c 17) 0) (hR : cko c bk 0 = 0) (hm : el c 20 = m) (h1 : 1 ≤ m) (h2 : m ≤ 16) :
    Calls Tryd.prog 7 #[.agg (cfC c inj a bk.length cap)] w fun e w' => ∃ G T P BB F N a' cap' S, e = .returned (.tuple #[.pointer (some ⟨G, 0, none⟩), .nilIface]) ∧ GtIn G c inj a' bk.length cap' (.pointer (some ⟨T, 0, none⟩)) S 0 w' ∧ TC T P BB F N m (fun _ => []) (fun _ => false) [] w' ∧ Below w.heap.size w w' := by
  have HP := hide (cf_new w c inj a bk.length cap)
  have HB := hide (al_below w (.cells (cfC c inj a bk.length cap) 26))
  have HC := hide (fun W (hW : Below w.heap.size w W) => gcheck_any c inj a cap bk 0 W (hb.below hW) (by unfold maxLen; omega) hc hp)
  rw [hR, show ev 0 = .nilIface from rfl] at HC
  have HN := hide (fun W => bnew_any m W h1 h2)
  have HK := hide (fun W (hW : Below w.heap.size w W) => kclone_any a cap bk W (hb.below hW) hl ha)
  clear hb hl hc hp hR ha h1 h2
  go_enter Tryd.func7, Tryd.ntmps7
  go_upto_region 1 with fail
  generalize w.alloc _ = W0 at HP HB ⊢
  have y := HP.out.cl
  go_upto_region 4 with (go_at_call 6; refine (HC.out _ HB.out).mono ?_; rintro e w1 ⟨rfl, hb1⟩; replace HP := hide (HP.out.kept hb1); replace HB := hide (bt HB.out hb1); clear hb1 y)
  clear HC
  have y := HP.out.c20
  rw [hm] at y
  go_upto_region 7 with (go_at_call 23; refine (HN.out _).mono ?_; rintro e w2 ⟨T, P, BB, F, N, rfl, t2, -, hb2⟩; replace HP := hide (HP.out.kept hb2); replace HB := hide (bt HB.out hb2); have HT := hide t2; clear hb2 y t2)
  clear HN
  have y := HP.out.c22
  have HX := hide (show w.heap.size ≠ T ∧ w.heap.size ≠ P ∧ w.heap.size ≠ BB ∧ w.heap.size ≠ F ∧ w.heap.size ≠ N by
    obtain ⟨t1, ⟨t2, c3, t3, _⟩, t4, t5, _⟩ := HT.out
    have hp := HP.out
    unfold CfIn at hp
    unfold TBl at t1
    refine ⟨?_, ?_, ?_, ?_, ?_⟩
    · intro e; rw [← e, hp] at t1; injection t1 with t1; injection t1 with _ t1; exact absurd t1 (by decide)
    · intro e; rw [← e, hp] at t2; injection t2 with t2; injection t2 with _ t2; exact absurd t2 (by decide)
    · intro e; rw [← e, hp] at t3; injection t3 with t3; injection t3 with _ t3; exact absurd t3 (by decide)
    · intro e; rw [← e] at t4; exact t4.notcells hp
    · intro e; rw [← e] at t5; exact t5.notcells hp)
  go_upto_region 8 with (go_at_call 24; refine (HK.out _ HB.out).mono ?_; rintro e w3 ⟨a3, c3, rfl, -, -, hb3⟩; replace HP := hide (HP.out.kept hb3); replace HB := hide (bt HB.out hb3); replace HT := hide (HT.out.kept hb3); have s3 := HP.out.set22 a3 bk.length c3; have z3 := HP.out.c22; have z4 := HP.out.frz 22; replace HT := hide (HT.out.same (fun k hk => s3.2.2.2.2.2 k (by rcases hk with rfl | rfl | rfl | rfl | rfl; exact HX.out.1.symm; exact HX.out.2.1.symm; exact HX.out.2.2.1.symm; exact HX.out.2.2.2.1.symm; exact HX.out.2.2.2.2.symm))); replace HB := hide (s3.2.below HB.out (Nat.le_refl _)); replace HP := hide s3.1; clear hb3 y s3)
  clear z3 z4 HK
  generalize World.setCell _ _ _ = W4 at HP HB HT ⊢
  have y := HP.out.cl
  have hmm := @run_makeMap Tryd.prog
  have hbu := fun S W => gbu_run c inj a3 bk.length c3 (.pointer (some ⟨T, 0, none⟩)) ⟨T, rfl⟩ S W
  have b1 := al_below W4 (.map #[] 0)
  have HP2 := hide (HP.out.kept b1)
  have y2 := HP2.out.cl
  have b2 := al_below (W4.alloc (.map #[] 0)) (.cells (gtC c inj a3 bk.length c3 (.pointer (some ⟨T, 0, none⟩)) W4.heap.size 0) 63)
  have HG := hide (show GtIn (W4.heap.size + 1) c inj a3 bk.length c3 (.pointer (some ⟨T, 0, none⟩)) W4.heap.size 0 ((W4.alloc (.map #[] 0)).alloc (.cells (gtC c inj a3 bk.length c3 (.pointer (some ⟨T, 0, none⟩)) W4.heap.size 0) 63)) by have := heap_alloc_new (W4.alloc (.map #[] 0)) (.cells (gtC c inj a3 bk.length c3 (.pointer (some ⟨T, 0, none⟩)) W4.heap.size 0) 63); rw [World.size_alloc] at this; exact this)
  have HT2 := hide ((HT.out.kept b1).kept b2)
  have HB2 := hide (bt (bt HB.out b1) b2)
  clear b1 b2
  go_wp2
  go_ret2
  exact ⟨_, T, P, BB, F, N, a3, c3, W4.heap.size, rfl, HG.out, HT2.out, HB2.out⟩
set_option maxRecDepth 100000 in
theorem gnow_any (G : Nat) (c : List Int) (inj : Bool) (a : Option Addr) (n cap : Nat) (tv : Value) (S : Nat) (now : Int) (w : World) (h : GtIn G c inj a n cap tv S now w) : Calls Tryd.prog 8 #[.pointer (some ⟨G, 0, none⟩)] w fun e w' => e = .returned (.int .i64 now) ∧ w' = w := by
  have y := h.now
  clear h
  go_enter Tryd.func8, Tryd.ntmps8
  go_wp2
  go_ret
  exact ⟨rfl, rfl⟩
end Go.Proofs.YtnhjabiciaoocaaDoor
