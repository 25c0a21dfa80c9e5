/- Rows of servers of the call's own: append, parts of a slice, what is built. Arguments that are a flow, or a row of servers, opened. -/
import Derived.Test.YtnhjabiciaoocaaDoorJSgEnc
import Derived.Test.YtnhjabiciaoocaaDoorJPkF
import Derived.Below
import Derived.OpenShut
import Derived.Test.YtnhjabiciaoocaaDoorProg
import Derived.WalkKit
import Derived.LaidEql
import Derived.BigQuiet
import Derived.Laws.AppendOwnNone
import Derived.Laws.MakeOwn
import Derived.Deep.RegionLaw
import Derived.Lib.Bytes
import Derived.Deep.MidRow
import Derived.Laws.ResultCell
import Derived.Deep.CutBlock
import Derived.Deep.QuietTactic
import Derived.OwnWalk
import Derived.Deep.RegionHeld3
import Derived.Deep.DrawnRows
import Derived.Maps.AppendAt
import Derived.Laws.StructEq
import Derived.Deep.Slices
import Derived.ChangeArms
import Derived.WideShapes
namespace Go.Proofs.YtnhjabiciaoocaaDoor
open Go.RowKit
theorem owns_same {w w' : World} {base : Nat} {e : TypeId} {size : Nat} {v : Value} {n : Nat} {xs : List Value} (h : w.ownsRow base e size v n xs) (hb : ∀ g, v.ownBlock = some g → w'.heap[g]? = w.heap[g]?) : w'.ownsRow base e size v n xs := by
  refine ⟨h.1, ?_⟩
  rcases h.2 with h2 | ⟨g, cap, cur, rfl, hb', hg, rest⟩
  · exact .inl h2
  · exact .inr ⟨g, cap, cur, rfl, hb', (hb g rfl).trans hg, rest⟩
theorem owns_lt {w : World} {base : Nat} {e : TypeId} {size : Nat} {v : Value} {n : Nat} {xs : List Value} (h : w.ownsRow base e size v n xs) (g : Nat) (hg : v.ownBlock = some g) : g < w.heap.size ∧ base ≤ g := by
  rcases h.2 with ⟨rfl, _⟩ | ⟨g', cap, cur, rfl, hb', hgc, _⟩
  · simp [Value.ownBlock] at hg
  · have : g' = g := by simpa [Value.ownBlock] using hg
    subst this
    exact ⟨(Array.getElem?_eq_some_iff.1 hgc).1, hb'⟩
def kvs (bs : List (List Int)) : List Value := bs.flatMap fun b => (bkC b).toList
/-- a slice of servers, of the call's own. -/
def OwK (base : Nat) (w : World) (v : Value) (bs : List (List Int)) : Prop := w.ownsRow base 60 6 v bs.length (kvs bs)
theorem OwK.nil (base : Nat) (w : World) : OwK base w (.slice none 0 0) [] := World.ownsRow_nil _ _ _ _
theorem kvs_len (bs : List (List Int)) : (kvs bs).length = bs.length * 6 := by
  induction bs with
  | nil => rfl
  | cons z r ih => unfold kvs at ih ⊢; rw [List.flatMap_cons, List.length_append, ih, List.length_cons, show (bkC z).toList.length = 6 from rfl]; omega
theorem kvs_app (a b : List (List Int)) : kvs (a ++ b) = kvs a ++ kvs b := List.flatMap_append
theorem kvs_at (bs : List (List Int)) (k j : Nat) (h : k < bs.length) (hj : j < 6) : (kvs bs)[k * 6 + j]? = (bkC (bs.getD k [])).toList[j]? := by
  induction bs generalizing k with
  | nil => exact absurd h (by simp)
  | cons z r ih =>
    unfold kvs at ih ⊢
    rw [List.flatMap_cons]
    have hl : (bkC z).toList.length = 6 := rfl
    cases k with
    | zero =>
      rw [List.getElem?_append_left (by omega), Nat.zero_mul, Nat.zero_add]
      rfl
    | succ k =>
      rw [List.getElem?_append_right (by omega), hl, show (k + 1) * 6 + j - 6 = k * 6 + j by omega, ih k (by simpa using h)]
      rfl
/-- it is a row of servers. -/
theorem OwK.bks {base : Nat} {w : World} {v : Value} {bs : List (List Int)} (h : OwK base w v bs) : ∃ a cap, v = .slice a bs.length cap ∧ bs.length ≤ cap ∧ Bks a bs w := by
  have h' : w.ownsRow base 60 6 v bs.length (kvs bs) := h
  rcases h.2 with ⟨rfl, hn⟩ | ⟨g, cap, cur, rfl, _, hg, hnc, _⟩
  · exact ⟨none, 0, by rw [hn], by omega, fun hp => by omega⟩
  · refine ⟨_, cap, rfl, hnc, fun _ => ⟨g, 0, rfl, (Array.getElem?_eq_some_iff.1 hg).1, fun k hk j v hv => ?_⟩⟩
    have hj : j < 6 := (List.getElem?_eq_some_iff.1 hv).1
    rw [Nat.zero_add, World.ownsRow.cellAt h' (k * 6 + j) (by omega), kvs_at bs k j hk hj]
    exact hv
theorem Tryd.infoBack : (Tryd.prog.info? 60).map (fun i => (i.zero, i.size, i.bytes)) = some (some (.agg zero4b), 6, 40) := by kernel_rfl
/-- servers put behind others. -/
theorem ap_K {w : World} {ops : Array Oper} {rest : List Oper} {o : Oper} {a : Act} {Q : Exit → Act → World → Prop} (hgd : o.guard = none) (s x : Operand)
    (ho : o.op = .call { callee := .builtin .append, args := #[s, x], argTypes := #[24, 24] })
    (base : Nat) (v : Value) (l : List (List Int)) (hs : a.eval s = v) (hown : OwK base w v l) (g off m c : Nat) (l2 : List (List Int)) (hx : a.eval x = .slice (some ⟨g, off, none⟩) m c) (hl : l2.length = m)
    (hc : ∀ j, j < m → w.rangeAt g (off + j * 6) (bkC (l2.getD j [])).toList) (hlen : l.length + m ≤ 1000000) (hbase : base ≤ w.heap.size)
    (h : ∀ v' w', OwK base w' v' (l ++ l2) → w.grownBy w' v.ownBlock → wpList Tryd.prog ops Q rest (a.put o.dst v') w') : wpList Tryd.prog ops Q (o :: rest) a w := by
  obtain ⟨i0, hi, hz0, hz1, hz2⟩ := info_parts Tryd.infoBack
  have hown' : w.ownsRow base 60 6 v l.length (kvs l) := hown
  refine wpList_append_own_at _ hgd s x 24 ho base 60 i0 _ 6 40 Tryd.underlying24 hi hz0 hz1 hz2 rfl (by decide) v l.length (kvs l) hs hown' ⟨g, off, none⟩ m c (kvs l2) hx (by rw [kvs_len, hl]) ?_ ?_ (by unfold maxLen; omega) (by omega) hbase ?_
  · intro j u hu
    have hj : j < l2.length * 6 := by have := (List.getElem?_eq_some_iff.1 hu).1; rwa [kvs_len] at this
    have h8 := kvs_at l2 (j / 6) (j % 6) (by omega) (by omega)
    rw [show j / 6 * 6 + j % 6 = j by omega, hu] at h8
    have h9 := hc (j / 6) (by omega) (j % 6) u h8.symm
    rw [add_pl, show off + j = off + j / 6 * 6 + j % 6 by omega]
    exact h9
  · intro u hu
    unfold kvs at hu
    obtain ⟨z, _, h2⟩ := List.mem_flatMap.1 hu
    unfold bkC at h2
    simp at h2
    rcases h2 with rfl | rfl | rfl | rfl | rfl | rfl <;> rfl
  · intro v' w' h1 h2 _ h5
    refine h v' w' ?_ h2
    unfold OwK
    rw [kvs_app, List.length_append, hl]
    exact h1
def fbl (ps : Array (Nat × Value)) : Sem Value := Instr.build 85 ps
theorem fbl_shut (ps : Array (Nat × Value)) : Instr.build 85 ps = fbl ps := rfl
end Go.Proofs.YtnhjabiciaoocaaDoor

namespace Go.Proofs.YtnhjabiciaoocaaDoor
open Go.ChangeShapes Go.WideShapes Go.Deep Go.RowKit
theorem pk_some {α : Type} {x : Option α} {l : List α} {i : Nat} (h : x = l[i]?) (hi : i < l.length) : ∃ y, x = some y := ⟨l[i], h.trans (List.getElem?_eq_getElem hi)⟩
theorem Tryd.backF : (Tryd.prog.underlying 60).map (fun d => match d with | .struct fs => fs.toList.map (fun f => (f.offset, f.type)) | _ => []) = some [(0, 3), (1, 3), (2, 3), (3, 3), (4, 4), (5, 4)] := by kernel_rfl
/-- a field's own cells. -/
theorem pk_field {H : Type} {enc : TypeId × Value → H} {W : World} {base : Nat} {spare : Nat → Bool} {held : Bool} {fs : Array Field} {n k : Nat} {cs : List Value} {xs : List (DataW H × List MemPlace)} {L : List (Nat × TypeId)} (hL : fs.toList.map (fun f => (f.offset, f.type)) = L) (hx : xs.length = fs.size)
    (hall : ∀ (i : Nat) (f : Field), fs[i]? = some f → DataW.trod enc Tryd.prog W base spare held n f.type ((cs.drop f.offset).take (Tryd.prog.cellsOf f.type)) = xs[i]?) (o : Nat) (t : TypeId) (hk : L[k]? = some (o, t)) :
    ∃ y, DataW.trod enc Tryd.prog W base spare held n t ((cs.drop o).take (Tryd.prog.cellsOf t)) = some y := by
  rw [← hL, List.getElem?_map] at hk
  obtain ⟨f, hf, e⟩ := Option.map_eq_some_iff.1 hk
  have hf' : fs[k]? = some f := by simpa using hf
  have hlt : k < fs.size := (Array.getElem?_eq_some_iff.1 hf').1
  obtain ⟨y, hy⟩ := pk_some (hall k f hf') (by omega)
  injection e with e1 e2
  subst e1; subst e2
  exact ⟨y, hy⟩
theorem pk_one {cs : List Value} {o : Nat} {v : Value} (h : (cs.drop o).take 1 = [v]) : cs[o]? = some v := by
  have h1 : ((cs.drop o).take 1)[0]? = some v := by rw [h]; rfl
  rw [List.getElem?_take_of_lt (by omega), List.getElem?_drop, Nat.add_zero] at h1
  exact h1
theorem back_of {H : Type} {enc : TypeId × Value → H} {W : World} {base : Nat} {spare : Nat → Bool} {held : Bool} {n : Nat} {cs : List Value} {y : DataW H × List MemPlace} (h : DataW.trod enc Tryd.prog W base spare held n 60 cs = some y) : ∃ b : List Int, cs = (bkC b).toList := by
  have hu := Tryd.underlying60
  obtain ⟨xs, m, _, _, hl, hx, hall⟩ := DataW.trod_struct hu h
  have hF := Tryd.backF
  rw [hu] at hF
  replace hF := Option.some.inj hF
  have c1 : Tryd.prog.cellsOf 3 = 1 := by kernel_rfl
  have cb : Tryd.prog.cellsOf 4 = 1 := by kernel_rfl
  have c6 : Tryd.prog.cellsOf 60 = 6 := by kernel_rfl
  rw [c6] at hl
  obtain ⟨y0, g0⟩ := pk_field (k := 0) hF hx hall _ _ rfl
  obtain ⟨y1, g1⟩ := pk_field (k := 1) hF hx hall _ _ rfl
  obtain ⟨y2, g2⟩ := pk_field (k := 2) hF hx hall _ _ rfl
  obtain ⟨y3, g3⟩ := pk_field (k := 3) hF hx hall _ _ rfl
  obtain ⟨y4, g4⟩ := pk_field (k := 4) hF hx hall _ _ rfl
  obtain ⟨y5, g5⟩ := pk_field (k := 5) hF hx hall _ _ rfl
  rw [c1] at g0 g1 g2 g3
  rw [cb] at g4 g5
  obtain ⟨x0, e0, _, _⟩ := DataW.trod_int Tryd.underlying3 g0
  obtain ⟨x1, e1, _, _⟩ := DataW.trod_int Tryd.underlying3 g1
  obtain ⟨x2, e2, _, _⟩ := DataW.trod_int Tryd.underlying3 g2
  obtain ⟨x3, e3, _, _⟩ := DataW.trod_int Tryd.underlying3 g3
  obtain ⟨x4, e4, _⟩ := DataW.trod_bool Tryd.underlying4 g4
  obtain ⟨x5, e5, _⟩ := DataW.trod_bool Tryd.underlying4 g5
  refine ⟨[x0, x1, x2, x3, if x4 = true then 1 else 0, if x5 = true then 1 else 0], List.ext_getElem? fun i => ?_⟩
  by_cases hi : i < 6
  · rcases (by omega : i = 0 ∨ i = 1 ∨ i = 2 ∨ i = 3 ∨ i = 4 ∨ i = 5) with rfl | rfl | rfl | rfl | rfl | rfl
    · exact pk_one e0
    · exact pk_one e1
    · exact pk_one e2
    · exact pk_one e3
    · rw [pk_one e4]; cases x4 <;> rfl
    · rw [pk_one e5]; cases x5 <;> rfl
  · rw [List.getElem?_eq_none (by omega), List.getElem?_eq_none (by show 6 ≤ i; omega)]
set_option maxRecDepth 100000 in
/-- a row of servers, opened. -/
theorem backs_open2 {H : Type} {enc : TypeId × Value → H} {W : World} {base : Nat} {spare : Nat → Bool} {held : Bool} {b0 : Nat} {v : Value} {x : DataW H} {p : List MemPlace} (h : Value.okWide Tryd.prog W .any b0 24 v) (ht : DataW.Trod enc Tryd.prog W base spare held 24 v x p) :
    ∃ a bs cap, v = .slice a (List.length bs) cap ∧ bs.length ≤ cap ∧ cap ≤ maxLen ∧ Bks a bs W := by
  obtain ⟨a, len, cap, rfl⟩ := okWide_slice Tryd.underlying24 h
  obtain ⟨fuel, hf⟩ := ht
  rcases open_slice Tryd.underlying24 hf with ⟨hcs, _⟩ | ⟨a', len', cap', m, n, D, Pl, hcs, hb, hl, hm, hmm, _, hx⟩
  · simp [Value.cells] at hcs
    obtain ⟨rfl, rfl, rfl⟩ := hcs
    exact ⟨none, [], 0, rfl, Nat.zero_le _, Nat.zero_le _, fun h => absurd h (by simp)⟩
  · simp [Value.cells] at hcs
    obtain ⟨rfl, rfl, rfl⟩ := hcs
    have c6 : Tryd.prog.cellsOf 60 = 6 := by kernel_rfl
    rw [c6] at hx
    have hlm : len ≤ m := by rw [hmm]; split <;> omega
    have hc : ∀ i, ∃ s : List Int, i < len → W.cells? base (a'.add (i * 6)) 6 = some (bkC s).toList := fun i => by
      by_cases hi : i < len
      · obtain ⟨cs', h1, h2⟩ := hx i (by omega)
        obtain ⟨s, rfl⟩ := back_of h2
        exact ⟨s, fun _ => h1⟩
      · exact ⟨[], fun h => absurd h hi⟩
    obtain ⟨sts, hs⟩ := Classical.axiomOfChoice hc
    have hlen : ((List.range len).map sts).length = len := by simp
    refine ⟨some a', (List.range len).map sts, cap, by rw [hlen], by rw [hlen]; exact hl, hm, fun hp => ?_⟩
    rw [hlen] at hp
    obtain ⟨b, off, spot⟩ := a'
    have g0 : W.cell? ((⟨b, off, spot⟩ : Addr).add (0 * 6 + 0)) = some (.int .i64 (el (sts 0) 0)) := by
      obtain ⟨_, _, hcell⟩ := World.cells?_some (hs 0 hp)
      have := hcell 0 (by omega)
      rw [add_add] at this
      rw [this]
      rfl
    have hspot : spot = none := by simpa [Addr.add] using World.cell?_spot g0
    subst hspot
    refine ⟨b, off, rfl, World.block_lt_of_cell? W _ (by simpa [Addr.add] using g0), fun i hi j v hv => ?_⟩
    rw [hlen] at hi
    have hg : ((List.range len).map sts).getD i [] = sts i := by simp [List.getD_eq_getElem?_getD, hi]
    rw [hg] at hv
    obtain ⟨_, _, hcell⟩ := World.cells?_some (hs i hi)
    have hj : j < 6 := (List.getElem?_eq_some_iff.1 hv).1
    have := hcell j hj
    rw [add_add, add_pl, hv] at this
    rw [show off + i * 6 + j = off + (i * 6 + j) by omega]
    exact this
end Go.Proofs.YtnhjabiciaoocaaDoor
