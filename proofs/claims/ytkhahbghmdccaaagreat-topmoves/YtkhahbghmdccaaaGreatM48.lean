/- TopPlain, walked. Who is picked: the best of all, whatever their order, and with one of them gone. A server that is set down: who is picked without it; what two gates make of a first packet to the VIP. Two gates side by side. The statements' own Pick of a number below another, by a contract. TopMoves, walked. -/
import Derived.Test.YtkhahbghmdccaaaGreatM44
import Derived.Below
import Derived.OpenShut
import Derived.Test.YtkhahbghmdccaaaGreatProg
import Derived.WalkKit
import Derived.LaidEql
import Derived.BigQuiet
import Derived.Laws.AppendOwnNone
import Derived.Laws.MakeOwn
import Derived.Deep.RegionLaw
import Derived.Lib.Bytes
import Derived.Deep.MidRow
import Derived.Laws.ResultCell
import Derived.Deep.CutBlock
import Derived.Deep.QuietTactic
import Derived.OwnWalk
import Derived.Deep.RegionHeld3
import Derived.Deep.DrawnRows
import Derived.Laws.StructEq
import Derived.Maps.AppendAt
import Derived.Maps.RangeWalk
import Derived.Stop.Asserts
import Derived.RowKitTokens
import Derived.Test.YtkhahbghmdccaaaGreatShelf
import Derived.Shelf.Abstract
import Derived.Lib.SliceRun
import Derived.Lib.AppendZerosOnto
import Derived.Lib.AppendZeros
import Derived.Laws.CopyOwn
import Derived.RangeFuncNested
import Derived.RangeFuncBound
import Derived.RangeFuncCalls
import Derived.RangeFuncLeaves
import Derived.RangeFuncFrom
import Derived.Shelf.RegionOpen
import Derived.OwnWalkIn
import Derived.TacticsInMore
import Derived.LoopNIn
import Derived.LoopIn
import Derived.Deep.RegionWith
import Derived.ArgAppend
import Derived.Lib.SlBytesConst
import Derived.Lib.AppendStr
import Derived.Test.YtkhahbghmdccaaaGreatM42
import Derived.Test.YtkhahbghmdccaaaGreatM43
import Derived.Test.YtkhahbghmdccaaaGreatM45
import Derived.Test.YtkhahbghmdccaaaGreatM47
import Derived.Test.YtkhahbghmdccaaaGreatM18
import Derived.Test.YtkhahbghmdccaaaGreatM22
import Derived.Deep.Slices
import Derived.ChangeArms
import Derived.WideShapes
namespace Go.Proofs.YtkhahbghmdccaaaGreat
open Go.RowKit
/-- a config and an address, in their blocks. -/
def Kpl (w : World) (c : List Int) (inj : Bool) (ka : Option Addr) (bk : List (List Int)) (kc : Nat) (s : List Int) (W : World) : Prop := CfIn w.heap.size c inj ka bk.length kc W ∧ SixIn (w.heap.size + 1) s W ∧ Below w.heap.size w W
theorem Kpl.kept {w : World} {c : List Int} {inj : Bool} {ka : Option Addr} {bk : List (List Int)} {kc : Nat} {s : List Int} {W W' : World} (h : Kpl w c inj ka bk kc s W) (hb : Below W.heap.size W W') : Kpl w c inj ka bk kc s W' := ⟨h.1.kept hb, h.2.1.kept hb, bt h.2.2 hb⟩
theorem Kpl.start (w : World) (c : List Int) (inj : Bool) (ka : Option Addr) (bk : List (List Int)) (kc : Nat) (s : List Int) : Kpl w c inj ka bk kc s ((w.alloc (.cells (cfC c inj ka bk.length kc) 26)).alloc (.cells (sixC s) 23)) := by
  have b1 := al_below w (.cells (cfC c inj ka bk.length kc) 26)
  have b2 := al_below (w.alloc (.cells (cfC c inj ka bk.length kc) 26)) (.cells (sixC s) 23)
  exact ⟨(cf_new w c inj ka bk.length kc).kept b2, six_al2 s w _, bt b1 b2⟩
attribute [local go_sem ↓] hload_shut cload_shut
end Go.Proofs.YtkhahbghmdccaaaGreat

namespace Go.Proofs.YtkhahbghmdccaaaGreat
open Go.RowKit
/-- servers that may be: at most eight, each one right, no two of one number. -/
def OKs (bs : List (List Int)) : Prop := bs.length ≤ 8 ∧ (∀ b ∈ bs, okb b = true) ∧ bs.Pairwise (fun a b => el a 0 ≠ el b 0)
theorem oks_of {bs : List (List Int)} (h : (bf bs).2 = 0) : OKs bs := by
  obtain ⟨h8, hx⟩ := bf_ok h
  refine ⟨h8, fun b hb => ?_, List.pairwise_iff_getElem.2 fun i j hi hj hij => ?_⟩
  · obtain ⟨i, hi, rfl⟩ := List.mem_iff_getElem.1 hb
    have := (hx i hi).1
    rwa [getD_at hi] at this
  · have := (hx j hj).2
    unfold sid at this
    rw [List.any_eq_false] at this
    have h1 := this i (List.mem_range.2 hij)
    rw [getD_at hi, getD_at hj] at h1
    simpa using h1
theorem oks_bf {bs : List (List Int)} (h : OKs bs) : (bf bs).2 = 0 := by
  rw [bf_none (by have := h.1; omega) fun j hj => ?_]
  have h1 : okb (bs.getD j []) = true := by rw [getD_at hj]; exact h.2.1 _ (List.getElem_mem hj)
  have h2 : sid bs j = false := by
    unfold sid
    rw [List.any_eq_false]
    intro i hi
    have hij := List.mem_range.1 hi
    have := List.pairwise_iff_getElem.1 h.2.2 i j (by omega) hj hij
    rw [getD_at (by omega), getD_at hj]
    simpa using this
  unfold flt
  rw [h1, h2]
  rfl
theorem oks_inj {bs : List (List Int)} (h : OKs bs) {a b : List Int} (ha : a ∈ bs) (hb : b ∈ bs) (e : el a 0 = el b 0) : a = b := by
  obtain ⟨i, hi, rfl⟩ := List.mem_iff_getElem.1 ha
  obtain ⟨j, hj, rfl⟩ := List.mem_iff_getElem.1 hb
  rcases Nat.lt_trichotomy i j with hij | rfl | hij
  · exact absurd e (List.pairwise_iff_getElem.1 h.2.2 i j hi hj hij)
  · rfl
  · exact absurd e.symm (List.pairwise_iff_getElem.1 h.2.2 j i hj hi hij)
/-- one is no worse than the other. -/
def Dm (seed : Int) (f : List Int) (b c : List Int) : Prop := pv seed f c < pv seed f b ∨ (pv seed f c = pv seed f b ∧ el b 0 ≤ el c 0)
theorem Dm.refl (seed : Int) (f b : List Int) : Dm seed f b b := .inr ⟨rfl, Int.le_refl _⟩
theorem Dm.trans {seed : Int} {f a b c : List Int} (h1 : Dm seed f a b) (h2 : Dm seed f b c) : Dm seed f a c := by
  unfold Dm at *; omega
theorem Dm.anti {seed : Int} {f a b : List Int} (h1 : Dm seed f a b) (h2 : Dm seed f b a) : el a 0 = el b 0 := by
  unfold Dm at *; omega
/-- the best of all. -/
def Best (seed : Int) (f : List Int) (bs : List (List Int)) (x : List Int) : Prop := x ∈ bs ∧ cand x = true ∧ ∀ c ∈ bs, cand c = true → Dm seed f x c
def PInv (seed : Int) (f : List Int) (bs : List (List Int)) (k : Nat) (o : Option Nat × Int) : Prop :=
  (o.1 = none ∧ ∀ j, j < k → cand (bs.getD j []) = false) ∨
  (∃ i, o.1 = some i ∧ i < k ∧ cand (bs.getD i []) = true ∧ o.2 = pv seed f (bs.getD i []) ∧ ∀ j, j < k → cand (bs.getD j []) = true → Dm seed f (bs.getD i []) (bs.getD j []))
theorem pst_inv (seed : Int) (f : List Int) (bs : List (List Int)) : ∀ k, PInv seed f bs k (pst seed f bs k)
  | 0 => .inl ⟨rfl, fun j hj => absurd hj (by omega)⟩
  | k + 1 => by
    have ih := pst_inv seed f bs k
    have hs : pst seed f bs (k + 1) = if cand (bs.getD k []) = true then (if btr bs (pst seed f bs k).1 (pst seed f bs k).2 (pv seed f (bs.getD k [])) k = true then (some k, pv seed f (bs.getD k [])) else pst seed f bs k) else pst seed f bs k := rfl
    rw [hs]
    generalize pst seed f bs k = o at ih ⊢
    cases hc : cand (bs.getD k [])
    · rw [if_neg (by simp)]
      rcases ih with ⟨h1, h2⟩ | ⟨i, h1, h2, h3, h4, h5⟩
      · exact .inl ⟨h1, fun j hj => by rcases (by omega : j < k ∨ j = k) with h | rfl; exact h2 j h; exact hc⟩
      · exact .inr ⟨i, h1, by omega, h3, h4, fun j hj hcj => by rcases (by omega : j < k ∨ j = k) with h | rfl; exact h5 j h hcj; rw [hc] at hcj; cases hcj⟩
    · rw [if_pos rfl]
      rcases ih with ⟨h1, h2⟩ | ⟨i, h1, h2, h3, h4, h5⟩
      · rw [h1, if_pos (show btr bs none o.2 (pv seed f (bs.getD k [])) k = true from rfl)]
        exact .inr ⟨k, rfl, by omega, hc, rfl, fun j hj hcj => by rcases (by omega : j < k ∨ j = k) with h | rfl; rw [h2 j h] at hcj; cases hcj; exact Dm.refl ..⟩
      · rw [h1, h4]
        cases hb : btr bs (some i) (pv seed f (bs.getD i [])) (pv seed f (bs.getD k [])) k
        · rw [if_neg (by simp)]
          refine .inr ⟨i, h1, by omega, h3, h4, fun j hj hcj => ?_⟩
          rcases (by omega : j < k ∨ j = k) with h | rfl
          · exact h5 j h hcj
          · simp only [btr, Bool.or_eq_false_iff, decide_eq_false_iff_not, Bool.and_eq_false_iff, beq_eq_false_iff_ne] at hb
            unfold Dm
            omega
        · rw [if_pos rfl]
          have hd : Dm seed f (bs.getD k []) (bs.getD i []) := by
            simp only [btr, Bool.or_eq_true, decide_eq_true_eq, Bool.and_eq_true, beq_iff_eq] at hb
            unfold Dm
            omega
          refine .inr ⟨k, rfl, by omega, hc, rfl, fun j hj hcj => ?_⟩
          rcases (by omega : j < k ∨ j = k) with h | rfl
          · exact hd.trans (h5 j h hcj)
          · exact Dm.refl ..
theorem pst_none {seed : Int} {f : List Int} {bs : List (List Int)} (h : (pst seed f bs bs.length).1 = none) : ∀ c ∈ bs, cand c = false := by
  rcases pst_inv seed f bs bs.length with ⟨_, h2⟩ | ⟨i, h1, _⟩
  · intro c hc
    obtain ⟨i, hi, rfl⟩ := List.mem_iff_getElem.1 hc
    have := h2 i hi
    rwa [getD_at hi] at this
  · rw [h] at h1; cases h1
theorem pst_some {seed : Int} {f : List Int} {bs : List (List Int)} {i : Nat} (h : (pst seed f bs bs.length).1 = some i) : Best seed f bs (bs.getD i []) := by
  rcases pst_inv seed f bs bs.length with ⟨h1, _⟩ | ⟨i', h1, h2, h3, _, h5⟩
  · rw [h] at h1; cases h1
  · rw [h] at h1
    obtain rfl := Option.some.inj h1
    refine ⟨by rw [getD_at h2]; exact List.getElem_mem h2, h3, fun c hc hcc => ?_⟩
    obtain ⟨j, hj, rfl⟩ := List.mem_iff_getElem.1 hc
    have := h5 j hj (by rw [getD_at hj]; exact hcc)
    rwa [getD_at hj] at this
theorem pick_best {seed : Int} {f : List Int} {bs : List (List Int)} (h : (pko seed f bs).2 = 0) : OKs bs ∧ sok seed f 0 = true ∧ Best seed f bs (pko seed f bs).1 := by
  unfold pko at h ⊢
  by_cases h1 : (bf bs).2 = 0
  · rw [if_pos h1] at h ⊢
    cases h2 : sok seed f 0
    · rw [h2] at h; simp at h
    · rw [h2, if_pos rfl] at h
      rw [if_pos rfl]
      refine ⟨oks_of h1, rfl, ?_⟩
      cases h3 : (pst seed f bs bs.length).1 with
      | none => rw [h3] at h; cases h
      | some i => exact pst_some h3
  · rw [if_neg h1] at h
    exact absurd h h1
theorem best_pick {seed : Int} {f : List Int} {bs : List (List Int)} {x : List Int} (h1 : OKs bs) (h2 : sok seed f 0 = true) (h3 : Best seed f bs x) : pko seed f bs = (x, 0) := by
  unfold pko
  rw [if_pos (oks_bf h1), if_pos h2]
  cases h : (pst seed f bs bs.length).1 with
  | none => have := pst_none h x h3.1; rw [h3.2.1] at this; cases this
  | some i =>
    have hb := pst_some h
    have : bs.getD i [] = x := oks_inj h1 hb.1 h3.1 (Dm.anti (hb.2.2 x h3.1 h3.2.1) (h3.2.2 _ hb.1 hb.2.1))
    show (bs.getD i [], (0 : Int)) = _
    rw [this]
end Go.Proofs.YtkhahbghmdccaaaGreat

namespace Go.Proofs.YtkhahbghmdccaaaGreat
open Go.RowKit
/-- servers, one of them set down. -/
def dwn (bk : List (List Int)) (i : Nat) : List (List Int) := bk.set i (bup (bk.getD i []) false)
theorem cand_bup (x : List Int) : cand (bup x false) = false := rfl
theorem okb_bup (x : List Int) (u : Bool) : okb (bup x u) = okb x := rfl
theorem dwn_at {bk : List (List Int)} {i j : Nat} (hj : j < bk.length) : (dwn bk i)[j]? = some (if i = j then bup bk[j] false else bk[j]) := by
  unfold dwn
  rw [List.getElem?_set]
  by_cases h : i = j
  · subst h
    rw [if_pos rfl, if_pos hj, if_pos rfl, getD_at hj]
  · rw [if_neg h, if_neg h, List.getElem?_eq_getElem hj]
theorem dwn_mem {bk : List (List Int)} {i : Nat} {x : List Int} (h : x ∈ dwn bk i) : x = bup (bk.getD i []) false ∨ x ∈ bk := by
  unfold dwn at h
  exact (List.mem_or_eq_of_mem_set h).symm
theorem dwn_old {bk : List (List Int)} {i : Nat} {x : List Int} (h : x ∈ bk) (hne : bk.getD i [] ≠ x) : x ∈ dwn bk i := by
  obtain ⟨j, hj, rfl⟩ := List.getElem_of_mem h
  have h1 := dwn_at (i := i) hj
  rw [if_neg (fun e => hne (by subst e; rw [getD_at hj]))] at h1
  exact List.mem_of_getElem? h1
theorem dwn_ids (bk : List (List Int)) (i : Nat) : (dwn bk i).map (fun b => el b 0) = bk.map (fun b => el b 0) := by
  unfold dwn
  apply List.ext_getElem?
  intro j
  rw [List.getElem?_map, List.getElem?_map, List.getElem?_set]
  by_cases h : i = j
  · subst h
    by_cases hi : i < bk.length
    · rw [if_pos rfl, if_pos hi, List.getElem?_eq_getElem hi, getD_at hi]
      rfl
    · rw [if_pos rfl, if_neg hi, List.getElem?_eq_none (by omega)]
  · rw [if_neg h]
theorem oks_dwn {bk : List (List Int)} (h : OKs bk) {i : Nat} (hi : i < bk.length) : OKs (dwn bk i) := by
  obtain ⟨h1, h2, h3⟩ := h
  refine ⟨by unfold dwn; rw [List.length_set]; exact h1, fun b hb => ?_, ?_⟩
  · rcases dwn_mem hb with rfl | hb
    · rw [okb_bup, getD_at hi]
      exact h2 _ (List.getElem_mem hi)
    · exact h2 b hb
  · have h4 : (bk.map (fun b => el b 0)).Pairwise (fun a b => a ≠ b) := List.pairwise_map.2 h3
    rw [← dwn_ids bk i] at h4
    exact List.pairwise_map.1 h4
/-- who is picked is picked without another one. -/
theorem pick_dwn {seed : Int} {f : List Int} {bk : List (List Int)} {i : Nat} (hi : i < bk.length) (h : (pko seed f bk).2 = 0) (hne : el (pko seed f bk).1 0 ≠ el (bk.getD i []) 0) : pko seed f (dwn bk i) = ((pko seed f bk).1, 0) := by
  obtain ⟨h1, h2, h3, h4, h5⟩ := pick_best h
  refine best_pick (oks_dwn h1 hi) h2 ⟨dwn_old h3 (fun e => hne (by rw [e])), h4, fun c hc hcc => ?_⟩
  rcases dwn_mem hc with rfl | hc
  · rw [cand_bup] at hcc
    cases hcc
  · exact h5 c hc hcc
/-- where none is picked, none is without one of them. -/
theorem pick_none {seed : Int} {f : List Int} {bk : List (List Int)} {i : Nat} (ho : OKs bk) (h : (pko seed f bk).2 ≠ 0) : (pko seed f (dwn bk i)).2 ≠ 0 := by
  intro h0
  obtain ⟨_, h2, h3, h4, _⟩ := pick_best h0
  rcases dwn_mem h3 with e | hx
  · rw [e, cand_bup] at h4
    cases h4
  · cases hp : (pst seed f bk bk.length).1 with
    | none =>
      have := pst_none hp _ hx
      rw [h4] at this
      cases this
    | some k =>
      refine h ?_
      unfold pko
      rw [if_pos (oks_bf ho), if_pos h2, hp]
      rfl
theorem svk_self {bk : List (List Int)} (h : OKs bk) {i : Nat} (hi : i < bk.length) : svk bk (el (bk.getD i []) 0) = some i := by
  refine svk_yes hi (fun j hj => ?_) (decide_eq_true rfl)
  refine decide_eq_false (fun e => ?_)
  rw [getD_at hi, getD_at (by omega)] at e
  exact (List.pairwise_iff_getElem.1 h.2.2 j i (by omega) hi hj) e
/-- the gate behind a first packet to the VIP. -/
theorem vip_g6s {c : List Int} {inj : Bool} {bk : List (List Int)} {m : Nat} {f : List Int} (hm : 1 ≤ m) (h0 : el f 0 = 17) (hd : eqz (dst f) (vip c) = true) (h8 : el f 18 = el c 8) (hop : Int) (z D : List Int) :
    ((pko (el c 19) f bk).2 ≠ 0 → g6s (gz0 c inj bk m) f hop z D = ((pko (el c 19) f bk).2, [], gz0 c inj bk m)) ∧
    ((pko (el c 19) f bk).2 = 0 → g6s (gz0 c inj bk m) f hop z D = (0, p4o (el c 18) (el (pko (el c 19) f bk).1 1) (hop - 1) (zft z 1024 (el (pko (el c 19) f bk).1 2)) D, (gz0 c inj bk m).tab (upd (fun _ => []) 0 (cli f)) (upd (fun _ => false) 0 true) [mkb f 1024 (el (pko (el c 19) f bk).1 1) (el (pko (el c 19) f bk).1 2) 0])) := by
  have hl : ldo c f = (0, true, 0) := if_pos ⟨hd, h8⟩
  have ht : ∀ b, el b 0 = 17 → tell c inj b = false := fun b e => by
    unfold tell
    rw [e]
    cases inj <;> rfl
  have hw : whr (gz0 c inj bk m) f (true, 0) = (el (pko (el c 19) f bk).1 1, el (pko (el c 19) f bk).1 2, (pko (el c 19) f bk).2) := if_pos rfl
  have key : g6s (gz0 c inj bk m) f hop z D = if (bdo (gz0 c inj bk m) f (el z 5) (whr (gz0 c inj bk m) f (true, 0))).1 ≠ 0 then ((bdo (gz0 c inj bk m) f (el z 5) (whr (gz0 c inj bk m) f (true, 0))).1, [], (bdo (gz0 c inj bk m) f (el z 5) (whr (gz0 c inj bk m) f (true, 0))).2.2) else g6b (bdo (gz0 c inj bk m) f (el z 5) (whr (gz0 c inj bk m) f (true, 0))).2.2 (bdo (gz0 c inj bk m) f (el z 5) (whr (gz0 c inj bk m) f (true, 0))).2.1 hop z D := by
    unfold g6s
    rw [show (gz0 c inj bk m).c = c from rfl, hl]
    dsimp only
    rw [if_neg (by simp), show tell c (gz0 c inj bk m).inj f = false from ht f h0, if_neg (by simp)]
  have hb0 := bdo_none (flags := el z 5) (wr := whr (gz0 c inj bk m) f (true, 0)) (show fnd (gz0 c inj bk m).bs f = none from rfl)
  rw [if_neg (fun h => by rw [h0] at h; exact absurd h.1 (by decide)), hw] at hb0
  rw [key, hw]
  generalize (pko (el c 19) f bk).1 = x at hb0 ⊢
  generalize (pko (el c 19) f bk).2 = e at hb0 ⊢
  refine ⟨fun he => ?_, fun he => ?_⟩
  · rw [if_pos he] at hb0
    rw [hb0]
    dsimp only
    rw [if_pos he]
  · rw [if_neg (fun h => h he), show tk (gz0 c inj bk m).ws (gz0 c inj bk m).ts (cli f) (8 * (gz0 c inj bk m).m) = some 0 from tk_new _ _ (by show 0 < 8 * m; omega)] at hb0
    dsimp only at hb0
    rw [hb0]
    dsimp only
    rw [if_neg (by simp)]
    unfold g6b
    have hg : ∀ G : GS, G.c = c → G.inj = inj → guo G (mkb f (1024 + ((0 : Nat) : Int)) (el x 1) (el x 2) (gz0 c inj bk m).now) z D = (0, z, D, G) := fun G e1 e2 => by
      unfold guo
      rw [e1, e2, ht (mkb f (1024 + ((0 : Nat) : Int)) (el x 1) (el x 2) (gz0 c inj bk m).now) h0, if_neg (by simp)]
    rw [hg _ rfl rfl]
    dsimp only
    rw [if_neg (by simp)]
    rfl
end Go.Proofs.YtkhahbghmdccaaaGreat

namespace Go.Proofs.YtkhahbghmdccaaaGreat
open Go.RowKit
/-- a gate whose blocks are as they were. -/
theorem GC.apart {G : Nat} {a : Option Addr} {cap : Nat} {tv : Value} {S : Nat} {Ot : Nat → Prop} {β : Int → Nat} {g : GS} {w w' : World} (h : GC G a cap tv S Ot β g w) (hs : w.heap.size ≤ w'.heap.size) (hk : ∀ k, GO G a Ot (SO S β g.ss) k → w'.heap[k]? = w.heap[k]?) (hr : ∀ a n c zs, Row8 w a n c zs → Row8 w' a n c zs) : GC G a cap tv S Ot β g w' :=
  ⟨h.1.same (hk G (.inl rfl)), ⟨h.2.1.1.same (fun k q => hk k (.inr (.inl q))), fun k q => Nat.lt_of_lt_of_le (h.2.1.2.1 k q) hs, h.2.1.2.2⟩, (tb_kept _ _ _ _ _ _ _ h.2.2.1).2 w' hs (fun k q => hk k (.inr (.inr (.inl q)))), h.2.2.2.1.same (fun k q => hk k (.inr (.inr (.inr q)))) hr, h.2.2.2.2⟩
/-- a gate, with the blocks that it owns as one predicate. -/
def GH (w : World) (G : Nat) (g : GS) (O : Nat → Prop) (W : World) : Prop := ∃ a cap tv S Ot β, O = GO G a Ot (SO S β g.ss) ∧ OG w G a cap tv S Ot β g W
theorem GH.kept {w : World} {G : Nat} {g : GS} {O : Nat → Prop} {W W' : World} (h : GH w G g O W) (hb : Below W.heap.size W W') : GH w G g O W' := by
  obtain ⟨a, cap, tv, S, Ot, β, e, h⟩ := h
  exact ⟨a, cap, tv, S, Ot, β, e, h.kept hb⟩
theorem GH.lt {w : World} {G : Nat} {g : GS} {O : Nat → Prop} {W : World} (h : GH w G g O W) {k : Nat} (hk : O k) : k < W.heap.size := by
  obtain ⟨a, cap, tv, S, Ot, β, rfl, h⟩ := h
  exact h.1.lt hk
theorem GH.below {w : World} {G : Nat} {g : GS} {O : Nat → Prop} {W : World} (h : GH w G g O W) : Below w.heap.size w W := by
  obtain ⟨a, cap, tv, S, Ot, β, rfl, h⟩ := h
  exact h.2.2
/-- a gate goes on: what it owned, or is new. -/
def GN (w : World) (G : Nat) (g' : GS) (O : Nat → Prop) (W W' : World) : Prop := ∃ O', GH w G g' O' W' ∧ (∀ k, O' k → O k ∨ W.heap.size ≤ k) ∧ Kpt O W W'
/-- what a call on a gate does, told of it. -/
theorem GH.call {w : World} {G : Nat} {g g' : GS} {O : Nat → Prop} {W : World} (h : GH w G g O W) {F : Nat} {xs : Array Value} {R : Ending → World → Prop}
    (hc : ∀ a cap tv S Ot β, GC G a cap tv S Ot β g W → Calls Tryz.prog F xs W fun e w' => R e w' ∧ GQ W G a cap tv S Ot β g g' w') :
    Calls Tryz.prog F xs W fun e w' => R e w' ∧ GN w G g' O W w' := by
  obtain ⟨a, cap, tv, S, Ot, β, rfl, h⟩ := h
  refine (hc a cap tv S Ot β h.1).mono ?_
  rintro e w' ⟨hR, Ot', β', q1, q2, q3⟩
  have hs := h.2.2.size
  exact ⟨hR, _, ⟨a, cap, tv, S, Ot', β', rfl, q1, fun k hk => (q3 k hk).elim (h.2.1 k) (fun h => by omega), q2.below h.2.2 h.2.1 hs⟩, q3, q2⟩
/-- two of them. -/
def G2 (w : World) (G : Nat) (g : GS) (O : Nat → Prop) (H : Nat) (h : GS) (P : Nat → Prop) (W : World) : Prop := GH w G g O W ∧ GH w H h P W ∧ ∀ k, O k → ¬ P k
theorem G2.kept {w : World} {G : Nat} {g : GS} {O : Nat → Prop} {H : Nat} {h : GS} {P : Nat → Prop} {W W' : World} (q : G2 w G g O H h P W) (hb : Below W.heap.size W W') : G2 w G g O H h P W' := ⟨q.1.kept hb, q.2.1.kept hb, q.2.2⟩
theorem GH.apart {w : World} {G : Nat} {g : GS} {O : Nat → Prop} {P : Nat → Prop} {W W' : World} (h : GH w G g O W) (q : Kpt P W W') (hb : Below w.heap.size w W') (hd : ∀ k, O k → ¬ P k) : GH w G g O W' := by
  obtain ⟨a, cap, tv, S, Ot, β, rfl, h⟩ := h
  exact ⟨a, cap, tv, S, Ot, β, rfl, h.1.apart q.size (fun k hk => q.1.2.2.2.2 k (h.1.lt hk) (hd k hk)) q.2, h.2.1, hb⟩
theorem G2.left {w : World} {G : Nat} {g g' : GS} {O : Nat → Prop} {H : Nat} {h : GS} {P : Nat → Prop} {W W' : World} (q : G2 w G g O H h P W) (n : GN w G g' O W W') : ∃ O', G2 w G g' O' H h P W' ∧ Kpt O W W' := by
  obtain ⟨O', n1, n2, n3⟩ := n
  exact ⟨O', ⟨n1, q.2.1.apart n3 n1.below (fun k hk ho => q.2.2 k ho hk), fun k ho hp => (n2 k ho).elim (fun h => q.2.2 k h hp) (fun h => by have := q.2.1.lt hp; omega)⟩, n3⟩
theorem G2.right {w : World} {G : Nat} {g : GS} {O : Nat → Prop} {H : Nat} {h h' : GS} {P : Nat → Prop} {W W' : World} (q : G2 w G g O H h P W) (n : GN w H h' P W W') : ∃ P', G2 w G g O H h' P' W' ∧ Kpt P W W' := by
  obtain ⟨P', n1, n2, n3⟩ := n
  exact ⟨P', ⟨q.1.apart n3 n1.below q.2.2, n1, fun k ho hp => (n2 k hp).elim (fun h => q.2.2 k ho h) (fun h => by have := q.1.lt ho; omega)⟩, n3⟩
/-- a new gate. -/
theorem NG.gh {w W w' : World} {c : List Int} {inj : Bool} {bk : List (List Int)} {m : Nat} {e : Ending} (h : NG W c inj bk m e w') (hb : Below w.heap.size w W) : ∃ G O, e = .returned (.tuple #[.pointer (some ⟨G, 0, none⟩), .nilIface]) ∧ GH w G (gz0 c inj bk m) O w' ∧ (∀ k, O k → W.heap.size ≤ k) ∧ Below W.heap.size W w' := by
  obtain ⟨G, a, cap, tv, S, Ot, e1, e2, e3, e4⟩ := h
  exact ⟨G, _, e1, ⟨a, cap, tv, S, Ot, _, rfl, e2, fun k hk => Nat.le_trans hb.size (e3 k hk), bt hb e4⟩, e3, e4⟩
end Go.Proofs.YtkhahbghmdccaaaGreat

namespace Go.Proofs.YtkhahbghmdccaaaGreat
open Go.RowKit
theorem pick_any (c : Int) (n : Nat) (hc : I64 c) (hn : 0 < n) (hm : n ≤ 1000) : ∃ k : Nat, k < n ∧ ∀ w : World, Calls Tryz.prog 41 #[.int .i64 c, .int .i64 n] w fun e w' => e = .returned (.int .i64 k) ∧ w' = w := by
  obtain ⟨h1, h2⟩ := hc
  have hn' : (n : Int) ≤ 1000 := by omega
  have hn0 : (0 : Int) < (n : Int) := by omega
  have hnz : ¬ (n : Int) = 0 := by omega
  by_cases h : c < 0
  · have hd := Int.emod_nonneg (-(c + 1)) hnz
    have hl := Int.emod_lt_of_pos (-(c + 1)) hn0
    obtain ⟨k, hk⟩ : ∃ k : Nat, (-(c + 1)) % (n : Int) = k := ⟨((-(c + 1)) % (n : Int)).toNat, by omega⟩
    refine ⟨k, by omega, fun w => ?_⟩
    have q : (-(c + 1)).tmod (n : Int) = (k : Int) := by rw [Int.tmod_eq_emod_of_nonneg (by omega)]; exact hk
    have q1 : IntKind.i64.wrap (c + 1) = c + 1 := by rw [IntKind.wrap_i64]; omega
    have q2 : IntKind.i64.wrap (-(c + 1)) = -(c + 1) := by rw [IntKind.wrap_i64]; omega
    clear hd hl
    have HK := hide hk
    clear hk
    go_enter Tryz.func41, Tryz.ntmps41
    go_wp2
    go_ret
    exact ⟨by first | rfl | (rw [← HK.out]; rfl) | (rw [← HK.out]; simp) | (simp [q]), rfl⟩
  · have h0 : 0 ≤ c := by omega
    have hd := Int.emod_nonneg c hnz
    have hl := Int.emod_lt_of_pos c hn0
    obtain ⟨k, hk⟩ : ∃ k : Nat, c % (n : Int) = k := ⟨(c % (n : Int)).toNat, by omega⟩
    refine ⟨k, by omega, fun w => ?_⟩
    have q : c.tmod (n : Int) = (k : Int) := by rw [Int.tmod_eq_emod_of_nonneg h0]; exact hk
    clear hd hl
    have HK := hide hk
    clear hk
    go_enter Tryz.func41, Tryz.ntmps41
    go_wp2
    go_ret
    exact ⟨by first | rfl | (rw [← HK.out]; rfl) | (rw [← HK.out]; simp) | (simp [q]), rfl⟩
end Go.Proofs.YtkhahbghmdccaaaGreat

namespace Go.Proofs.YtkhahbghmdccaaaGreat
open Go.RowKit
attribute [local go_sem ↓] hload_shut cload_shut
set_option maxRecDepth 100000 in
set_option maxHeartbeats 4000000 in
/-- there is no gate. -/
theorem tmv_a (c : List Int) (inj : Bool) (ka : Option Addr) (kc : Nat) (bk : List (List Int)) (s : List Int) (k p : Int) (w : World) (j : Int)
    (hN : ∀ W, Below w.heap.size w W → Calls Tryz.prog 13 #[.agg (cfC c inj ka bk.length kc)] W fun e w' => e = .returned (.tuple #[.pointer none, .iface 47 (.int .i64 j)]) ∧ Below W.heap.size W w') :
    Calls Tryz.prog 10 #[.agg (cfC c inj ka bk.length kc), .int .i64 k, .agg (sixC s), .int .i64 p] w fun e w' => e = .returned (.bool true) ∧ Below w.heap.size w w' := by
  have HF := hide one_any
  have HK := hide (Kpl.start w c inj ka bk kc s)
  have HN := hide hN
  clear hN
  go_enter Tryz.func10, Tryz.ntmps10
  go_upto_region 1 with fail
  generalize (World.alloc _ _).alloc _ = W0 at HK ⊢
  go_upto_region 4 with (go_at_call 31; refine (HF.out _).mono ?_; rintro e w1 ⟨rfl, hb1⟩; replace HK := hide (HK.out.kept hb1); clear hb1)
  have q1 := HK.out.1.cl
  go_upto_region 5 with (go_at_call 13; refine (HN.out _ HK.out.2.2).mono ?_; rintro e w2 ⟨rfl, hb2⟩; replace HK := hide (HK.out.kept hb2); clear hb2 q1)
  have q1 := HK.out.1.cl
  go_upto_region 6 with (go_at_call 13; refine (HN.out _ HK.out.2.2).mono ?_; rintro e w3 ⟨rfl, hb3⟩; replace HK := hide (HK.out.kept hb3); clear hb3 q1)
  go_upto_region 7 with fail
  have HBn := hide (fun n => drn HK.out.2.2 n)
  clear HK
  go_quiet (fail)
  go_wp2
  go_ret
  exact ⟨rfl, HBn.out _⟩
set_option maxRecDepth 100000 in
set_option maxHeartbeats 4000000 in
/-- there are no servers. -/
theorem tmv_b (c : List Int) (inj : Bool) (ka : Option Addr) (kc : Nat) (bk : List (List Int)) (m : Nat) (s : List Int) (k p : Int) (w : World) (hl : bk.length = 0)
    (hN : ∀ W, Below w.heap.size w W → Calls Tryz.prog 13 #[.agg (cfC c inj ka bk.length kc)] W fun e w' => NG W c inj bk m e w') :
    Calls Tryz.prog 10 #[.agg (cfC c inj ka bk.length kc), .int .i64 k, .agg (sixC s), .int .i64 p] w fun e w' => e = .returned (.bool true) ∧ Below w.heap.size w w' := by
  have HF := hide one_any
  have HK := hide (Kpl.start w c inj ka bk kc s)
  have HN := hide hN
  rw [hl] at HN ⊢
  unfold Kpl at HK
  rw [hl] at HK
  clear hN
  go_enter Tryz.func10, Tryz.ntmps10
  go_upto_region 1 with fail
  generalize (World.alloc _ _).alloc _ = W0 at HK ⊢
  go_upto_region 4 with (go_at_call 31; refine (HF.out _).mono ?_; rintro e w1 ⟨rfl, hb1⟩; replace HK := hide (⟨HK.out.1.kept hb1, HK.out.2.1.kept hb1, bt HK.out.2.2 hb1⟩ : _ ∧ _ ∧ _); clear hb1)
  have q1 := HK.out.1.cl
  go_upto_region 5 with (go_at_call 13; refine (HN.out _ HK.out.2.2).mono ?_; rintro e w2 h2; obtain ⟨G, O, rfl, -, -, hb2⟩ := NG.gh h2 (Below.refl _ _); replace HK := hide (⟨HK.out.1.kept hb2, HK.out.2.1.kept hb2, bt HK.out.2.2 hb2⟩ : _ ∧ _ ∧ _); clear hb2 q1 h2)
  have q1 := HK.out.1.cl
  go_upto_region 6 with (go_at_call 13; refine (HN.out _ HK.out.2.2).mono ?_; rintro e w3 h3; obtain ⟨H, P, rfl, -, -, hb3⟩ := NG.gh h3 (Below.refl _ _); replace HK := hide (⟨HK.out.1.kept hb3, HK.out.2.1.kept hb3, bt HK.out.2.2 hb3⟩ : _ ∧ _ ∧ _); clear hb3 q1 h3)
  have q1 := HK.out.1.c22
  go_upto_region 7 with fail
  have HBn := hide (fun n => drn HK.out.2.2 n)
  clear HK q1
  go_quiet (fail)
  go_wp2
  go_ret
  exact ⟨rfl, HBn.out _⟩
end Go.Proofs.YtkhahbghmdccaaaGreat
