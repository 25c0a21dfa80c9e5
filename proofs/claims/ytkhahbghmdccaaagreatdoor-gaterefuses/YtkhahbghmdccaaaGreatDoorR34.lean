/- Package gangplanktop: sent, by contracts. Package gangplanktop: plain, by a contract. Package gangplanktop: the one known fact: a packet goes on, and back. Package gangplanktop: one, by a contract. TopTwice, walked. An argument that is a config, opened. Package gangplanklaw3: plain and fact, by contracts; the document's own packets, in a form for walks. Package gangplanklaw3: a step, and what is sent by one, by contracts. What is sent by a step, whatever it is; the flow of a new bind. An argument that is a step of gangplanklaw3, opened. Who is picked: the best of all, whatever their order, and with one of them gone. -/
import Derived.Test.YtkhahbghmdccaaaGreatDoorR33
import Derived.Below
import Derived.OpenShut
import Derived.Test.YtkhahbghmdccaaaGreatDoorProg
import Derived.WalkKit
import Derived.LaidEql
import Derived.BigQuiet
import Derived.Laws.AppendOwnNone
import Derived.Laws.MakeOwn
import Derived.Deep.RegionLaw
import Derived.Lib.Bytes
import Derived.Deep.MidRow
import Derived.Laws.ResultCell
import Derived.Deep.CutBlock
import Derived.Deep.QuietTactic
import Derived.OwnWalk
import Derived.Deep.RegionHeld3
import Derived.Deep.DrawnRows
import Derived.Laws.StructEq
import Derived.Maps.AppendAt
import Derived.Maps.RangeWalk
import Derived.Stop.Asserts
import Derived.RowKitTokens
import Derived.Test.YtkhahbghmdccaaaGreatDoorShelf
import Derived.Shelf.Abstract
import Derived.Lib.SliceRun
import Derived.Lib.AppendZerosOnto
import Derived.Lib.AppendZeros
import Derived.Laws.CopyOwn
import Derived.RangeFuncNested
import Derived.RangeFuncBound
import Derived.RangeFuncCalls
import Derived.RangeFuncLeaves
import Derived.RangeFuncFrom
import Derived.Shelf.RegionOpen
import Derived.OwnWalkIn
import Derived.TacticsInMore
import Derived.LoopNIn
import Derived.LoopIn
import Derived.Deep.RegionWith
import Derived.ArgAppend
import Derived.Lib.SlBytesConst
import Derived.Lib.AppendStr
import Derived.Test.YtkhahbghmdccaaaGreatDoorR32
import Derived.Test.YtkhahbghmdccaaaGreatDoorR03
import Derived.Test.YtkhahbghmdccaaaGreatDoorR05
import Derived.Test.YtkhahbghmdccaaaGreatDoorR26
import Derived.Test.YtkhahbghmdccaaaGreatDoorR31
import Derived.Deep.Slices
import Derived.ChangeArms
import Derived.WideShapes
import Derived.Test.YtkhahbghmdccaaaGreatDoorR24
import Derived.Test.YtkhahbghmdccaaaGreatDoorR25
import Derived.Test.YtkhahbghmdccaaaGreatDoorR15
import Derived.Deep.Fields
import Derived.ChangeSlices
import Derived.Test.YtkhahbghmdccaaaGreatDoorR16
import Derived.Test.YtkhahbghmdccaaaGreatDoorR17
namespace Go.Proofs.YtkhahbghmdccaaaGreatDoor
open Go.RowKit
theorem V6.decode_bysb (a : Option Addr) (len cap : Nat) (s d : List Int) (h k : Int) (body : List Int) (w : World) (hr : Row8 w a len cap (V6.bys s d h k body)) (hcl : len ≤ cap) (hcm : cap ≤ maxLen) (ho : V6.Okp s d h k) (hl : body.length ≤ 320) :
    Calls Tryz.prog 116 #[.slice a len cap] w fun e w' => ∃ a' l' c', e = .returned (.tuple #[.agg (V6.pkC s d h k a' l' c'), .nilIface]) ∧ (Row8 w' a' l' c' body ∧ l' ≤ c' ∧ c' ≤ maxLen) ∧ Below w.heap.size w w' := by
  refine (V6.decode_any a len cap _ w hr hcl hcm).mono ?_
  rintro e w' ⟨hh, hb⟩
  rcases hh with ⟨h1, _⟩ | ⟨_, a', c', rfl, h2⟩
  · exact absurd (V6.bys_good s d h k body hl) h1
  · obtain ⟨e1, e2⟩ := V6.adr_bys s d h k body ho
    rw [V6.bys_drop] at h2
    refine ⟨a', _, c', ?_, h2, hb⟩
    unfold V6.pk
    rw [V6.pkC_congr e1 e2]
    rfl
theorem V4.decode_bysb (a : Option Addr) (len cap : Nat) (s d t k i : Int) (body : List Int) (w : World) (hr : Row8 w a len cap (V4.bys s d t k i body)) (hcl : len ≤ cap) (hcm : cap ≤ maxLen) (h : V4.Okp s d t k i) (hl : body.length ≤ 320) :
    Calls Tryz.prog 22 #[.slice a len cap] w fun e w' => ∃ a' l' c', e = .returned (.tuple #[V4.pk s d t k i a' l' c', .nilIface]) ∧ (Row8 w' a' l' c' body ∧ l' ≤ c' ∧ c' ≤ maxLen) ∧ Below w.heap.size w w' := by
  refine (V4.decode_any a len cap _ w hr hcl hcm).mono ?_
  rintro e w' ⟨hh, hb⟩
  have hg := V4.bys_good s d t k i body h hl
  rcases hh with ⟨h1, _⟩ | ⟨_, h1, _⟩ | ⟨_, a', c', rfl, h2⟩
  · exact absurd hg.1 h1
  · exact absurd hg h1
  · obtain ⟨_, q2, q3, q4, q5, q6, _, q8⟩ := P4.read_hd s d t k i (20 + body.length) (P4.ck s d t k i (20 + body.length)) body (V4.okp_okh h hl) rfl hl
    have e : V4.bys s d t k i body = P4.hd s d t k i (20 + body.length) (P4.ck s d t k i (20 + body.length)) ++ body := rfl
    rw [← e] at q2 q3 q4 q5 q6 q8
    rw [q8] at h2
    exact ⟨a', _, c', by rw [q2, q3, q4, q5, q6], h2, hb⟩
attribute [local go_sem ↓] q6b_shut q4b_shut
end Go.Proofs.YtkhahbghmdccaaaGreatDoor

namespace Go.Proofs.YtkhahbghmdccaaaGreatDoor
open Go.RowKit
def c0 : List Int := [1, 0, 0, 0, 0, 0, 0, 0, 80, 2, 0, 0, 0, 0, 0, 0, 0, 32, 9, 0, 2]
def bk0 : List (List Int) := [[1, 5, 8080, 1, 1, 0]]
def cbu (ps : Array (Nat × Value)) : Sem Value := Instr.build 26 ps
theorem cbu_shut (ps : Array (Nat × Value)) : Instr.build 26 ps = cbu ps := rfl
theorem cbu_run (a : Option Addr) (n c : Nat) (w : World) : (cbu #[(0, .agg #[.int .i64 1, .int .i64 0, .int .i64 0, .int .i64 0, .int .i64 0, .int .i64 0, .int .i64 0, .int .i64 0]), (1, .int .i64 80), (2, .agg #[.int .i64 2, .int .i64 0, .int .i64 0, .int .i64 0, .int .i64 0, .int .i64 0, .int .i64 0, .int .i64 0]), (3, .int .i64 32), (4, .int .i64 9), (6, .int .i64 2), (7, .bool true), (8, .slice a n c)]).run Tryz.prog w = .ok (.agg (cfC c0 true a n c)) w := by kernel_rfl
def zero23c : Array Value := #[.int .i64 0, .int .i64 0, .int .i64 0, .int .i64 0, .int .i64 0, .int .i64 0, .int .i64 0, .int .i64 0, .int .i64 0, .int .i64 0, .int .i64 0, .int .i64 0, .int .i64 0, .int .i64 0, .int .i64 0, .int .i64 0, .int .i64 0, .int .i64 0, .int .i64 0, .int .i64 0, .int .i64 0, .bool false, .slice none 0 0]
theorem cf_zero (w : World) : CfIn w.heap.size [] false none 0 0 (w.alloc (.cells zero23c 26)) := heap_alloc_new w _
theorem CfIn.stored {B : Nat} {c0 : List Int} {inj0 : Bool} {a0 : Option Addr} {n0 cap0 : Nat} {w : World} (p : CfIn B c0 inj0 a0 n0 cap0 w) (c : List Int) (inj : Bool) (a : Option Addr) (n cap : Nat) : CfIn B c inj a n cap (w.setRow B (cfC c inj a n cap)) := setRow_heap w B _ _ _ (0, 0) p
theorem at_storec {ops : Array Oper} {rest : List Oper} {o : Oper} {f : Act} {w : World} {Q : Exit → Act → World → Prop} (hgd : o.guard = none) (x y : Operand) (ho : o.op = .store 26 x y)
    {B : Nat} {c0 : List Int} {inj0 : Bool} {a0 : Option Addr} {n0 cap0 : Nat} (hx : f.eval x = .pointer (some ⟨B, 0, none⟩)) (p : CfIn B c0 inj0 a0 n0 cap0 w)
    (c : List Int) (inj : Bool) (a : Option Addr) (n cap : Nat) (hy : f.eval y = .agg (cfC c inj a n cap))
    (hK : ∀ w', CfIn B c inj a n cap w' → Only B w w' → wpList Tryz.prog ops Q rest (f.put o.dst undef) w') : wpList Tryz.prog ops Q (o :: rest) f w :=
  wpList_store_row hgd 26 x y ho B _ hx hy 26 _ p (by kernel_rfl) rfl (by unfold cfC; simp [Value.oneCell']) (hK _ (p.stored c inj a n cap) (only_setRow _ _ _))
theorem cf_result {fn : Func} {p : Tmp} (h : fn.results = #[.cell p 26]) (tmps : Array Value) (w : World) (B : Nat) (c : List Int) (inj : Bool) (a : Option Addr) (n cap : Nat)
    (ht : tmps.getD p undef = .pointer (some ⟨B, 0, none⟩)) (hg : CfIn B c inj a n cap w) : (results fn tmps).run Tryz.prog w = .ok (.agg (cfC c inj a n cap)) w :=
  results_cell_row h tmps w B 26 _ (0, 0) _ ht hg Tryz.underlying26 rfl (by kernel_rfl)
theorem bks0 (w : World) (B : Nat) (hB : w.heap[B]? = some (.cells #[.int .i64 1, .int .i64 5, .int .i64 8080, .int .i64 1, .bool true, .bool false] 95 (0, 0))) : Bks (some ⟨B, 0, none⟩) bk0 w := fun _ => ⟨B, 0, rfl, (Array.getElem?_eq_some_iff.1 hB).1, fun k hk j v hv => by
  have hk0 : k = 0 := by have : bk0.length = 1 := rfl; omega
  subst hk0
  have hj : j < 6 := (List.getElem?_eq_some_iff.1 hv).1
  rw [cell_of_row w B _ _ _ _ hB]
  rcases (by omega : j = 0 ∨ j = 1 ∨ j = 2 ∨ j = 3 ∨ j = 4 ∨ j = 5) with rfl | rfl | rfl | rfl | rfl | rfl <;> exact hv⟩
attribute [local go_sem ↓] cbu_shut
theorem ok_c0 : Ok6 (pfx c0) := by intro j hj; rcases (by omega : j = 0 ∨ j = 1 ∨ j = 2 ∨ j = 3 ∨ j = 4 ∨ j = 5 ∨ j = 6 ∨ j = 7) with rfl | rfl | rfl | rfl | rfl | rfl | rfl | rfl <;> exact ⟨by decide, by decide⟩
end Go.Proofs.YtkhahbghmdccaaaGreatDoor

namespace Go.Proofs.YtkhahbghmdccaaaGreatDoor
open Go.RowKit
def fq : List Int := fl5 17 [3] 7 [1] 80
def bqo : List Int := mkb fq 1024 5 8080 0
def zq6 : List Int := [17, 7, 80, 0, 0, 0, 0]
def G1 : GS := (gz0 c0 true bk0 2).tab (upd (fun _ => []) 0 (cli fq)) (upd (fun _ => false) 0 true) [bqo]
theorem ok_one (x : Int) (h : 0 ≤ x ∧ x ≤ 65535) : Ok6 [x] := by
  intro j hj
  rcases (by omega : j = 0 ∨ j = 1 ∨ j = 2 ∨ j = 3 ∨ j = 4 ∨ j = 5 ∨ j = 6 ∨ j = 7) with rfl | rfl | rfl | rfl | rfl | rfl | rfl | rfl
  · exact h
  all_goals exact ⟨(by decide : (0 : Int) ≤ 0), (by decide : (0 : Int) ≤ 65535)⟩
theorem okg_q6 : Okg zq6 2 := ⟨⟨by decide, by decide⟩, ⟨by decide, by decide⟩, by decide, .inr ⟨rfl, rfl, rfl, rfl, rfl⟩⟩
theorem pf_c0 : Em.PF (pfx c0) (el c0 17) 0 := .inr (.inr (.inr ⟨ok_c0, .inl rfl, by decide +kernel, rfl⟩))
theorem cko_c0 : cko c0 bk0 0 = 0 := by decide +kernel
theorem ig_c0 : IG (gz0 c0 true bk0 2) := gz0_ig (by omega) pf_c0 cko_c0
theorem one_g6s : g6s (gz0 c0 true bk0 2) fq 9 zq6 [104, 105] = (0, p4o 9 5 8 [17, 1024, 8080, 0, 0, 0, 0] [104, 105], G1) := by kernel_rfl
theorem one_g6 : g6 (gz0 c0 true bk0 2) (p6o [3] [1] 9 zq6 [104, 105]) = (0, p4o 9 5 8 [17, 1024, 8080, 0, 0, 0, 0] [104, 105], G1) := by
  rw [g6_p6o _ (ok_one 3 ⟨by decide, by decide⟩) (ok_one 1 ⟨by decide, by decide⟩) (by decide) okg_q6, if_neg (by decide)]
  exact one_g6s
theorem oct_hi : SM.Oct [104, 105] := by
  intro j
  match j with
  | 0 => exact ⟨by decide, by decide⟩
  | 1 => exact ⟨by decide, by decide⟩
  | j + 2 => exact ⟨by simp, by simp⟩
end Go.Proofs.YtkhahbghmdccaaaGreatDoor

namespace Go.Proofs.YtkhahbghmdccaaaGreatDoor
open Go.RowKit
theorem row_hi (w : World) : Row8 (w.alloc (.cells #[.int .u8 104, .int .u8 105] 5 (2, 3))) (some ⟨w.heap.size, 0, none⟩) 2 2 [104, 105] := by
  refine ⟨rfl, by simp [maxLen], oct_hi, fun h => (by cases h), fun _ => ⟨_, 0, rfl, fun i hi => ?_⟩⟩
  rcases (by omega : i = 0 ∨ i = 1) with rfl | rfl
  · exact cell_of_row _ _ 0 _ _ _ (heap_alloc_new w _)
  · exact cell_of_row _ _ 1 _ _ _ (heap_alloc_new w _)
theorem p4o_len {s d t : Int} {z D : List Int} : 0 < (p4o s d t z D).length := by
  unfold p4o V4.bys
  rw [List.length_append, show ∀ s d t k i n c, (P4.hd s d t k i n c).length = 20 from fun _ _ _ _ _ _ _ => rfl]
  omega
theorem p6o_len {s d : List Int} {t : Int} {z D : List Int} : 0 < (p6o s d t z D).length := bys_pos _ _ _ _ _
def OG (w : World) (G : Nat) (a : Option Addr) (cap : Nat) (tv : Value) (S : Nat) (Ot : Nat → Prop) (β : Int → Nat) (g : GS) (W : World) : Prop := GC G a cap tv S Ot β g W ∧ (∀ k, GO G a Ot (SO S β g.ss) k → w.heap.size ≤ k) ∧ Below w.heap.size w W
theorem OG.kept {w : World} {G : Nat} {a : Option Addr} {cap : Nat} {tv : Value} {S : Nat} {Ot : Nat → Prop} {β : Int → Nat} {g : GS} {W W' : World} (h : OG w G a cap tv S Ot β g W) (hb : Below W.heap.size W W') : OG w G a cap tv S Ot β g W' := ⟨h.1.kept hb, h.2.1, bt h.2.2 hb⟩
theorem OG.step {w : World} {G : Nat} {a : Option Addr} {cap : Nat} {tv : Value} {S : Nat} {Ot : Nat → Prop} {β : Int → Nat} {g g' : GS} {W W' : World} (h : OG w G a cap tv S Ot β g W) (q : GQ W G a cap tv S Ot β g g' W') : ∃ Ot' β', OG w G a cap tv S Ot' β' g' W' := by
  obtain ⟨Ot', β', q1, q2, q3⟩ := q
  have hs := h.2.2.size
  exact ⟨Ot', β', q1, fun k hk => (q3 k hk).elim (h.2.1 k) (fun h => by omega), q2.below h.2.2 h.2.1 hs⟩
attribute [local go_sem ↓] hload_shut
end Go.Proofs.YtkhahbghmdccaaaGreatDoor

namespace Go.Proofs.YtkhahbghmdccaaaGreatDoor
open Go.RowKit
theorem V6.PkIn.frz {B : Nat} {s d : List Int} {h k : Int} {a : Option Addr} {len cap : Nat} {w : World} (p : V6.PkIn B s d h k a len cap w) (j : Nat) : w.frozen? ⟨B, j, none⟩ = false := by
  unfold V6.PkIn at p
  simp [World.frozen?, p]
end Go.Proofs.YtkhahbghmdccaaaGreatDoor

namespace Go.Proofs.YtkhahbghmdccaaaGreatDoor
open Go.ChangeShapes Go.WideShapes Go.Deep Go.RowKit
theorem Tryz.cfgF : (Tryz.prog.underlying 26).map (fun d => match d with | .struct fs => fs.toList.map (fun f => (f.offset, f.type)) | _ => []) = some [(0, 23), (8, 3), (9, 23), (17, 3), (18, 3), (19, 3), (20, 3), (21, 4), (22, 24)] := by kernel_rfl
set_option maxRecDepth 100000 in
theorem cfg_open {H : Type} {enc : TypeId × Value → H} {W : World} {base : Nat} {spare : Nat → Bool} {held : Bool} {b0 : Nat} {v : Value} {x : DataW H} {p : List MemPlace} (h : Value.okWide Tryz.prog W .any b0 26 v) (ht : DataW.Trod enc Tryz.prog W base spare held 26 v x p) :
    ∃ c inj a bs cap, v = .agg (cfC c inj a (List.length bs) cap) ∧ bs.length ≤ cap ∧ cap ≤ maxLen ∧ Bks a bs W ∧ (a = none → bs = [] ∧ cap = 0) := by
  have hu := Tryz.underlying26
  unfold Value.okWide at h
  rw [hu] at h
  obtain ⟨cs, rfl, hsz, ts, hts, _, hc⟩ := h
  have h8 : Tryz.prog.cellsOf 26 = 23 := by kernel_rfl
  have ht8 : Tryz.prog.cellTypes Tryz.prog.depth 26 = some (List.replicate 21 3 ++ [4, 24]) := by kernel_rfl
  rw [h8] at hsz
  obtain rfl := Option.some.inj (hts.symm.trans ht8)
  have hi : ∀ i, ∃ n : Int, i < 21 → cs[i]? = some (.int .i64 n) := by
    intro i
    by_cases hi : i < 21
    · have hcs : cs[i]? = some (cs[i]'(by omega)) := Array.getElem?_eq_getElem (by omega)
      obtain ⟨u, hu, hok⟩ := hc i _ hcs
      have hu3 : u = 3 := by
        have h1 : (List.replicate 21 (3 : TypeId) ++ [4, 24])[i % 23]? = some u := hu
        rw [Nat.mod_eq_of_lt (show i < 23 by omega), List.getElem?_append_left (by rw [List.length_replicate]; exact hi), List.getElem?_replicate, if_pos hi] at h1
        exact (Option.some.inj h1).symm
      subst hu3
      have hw : Value.okWide Tryz.prog W .any b0 3 (cs[i]'(by omega)) := by
        unfold Value.okWide
        rw [Tryz.underlying3]
        exact hok
      obtain ⟨n, hn⟩ := WideShapes.okWide_int Tryz.underlying3 hw
      exact ⟨n, fun _ => by rw [hcs, hn]⟩
    · exact ⟨0, fun h => absurd h hi⟩
  obtain ⟨F, hF⟩ := Classical.axiomOfChoice hi
  obtain ⟨fuel, hf⟩ := ht
  obtain ⟨xs, m, _, _, hl, hx, hall⟩ := DataW.trod_struct hu hf
  have hFl := Tryz.cfgF
  rw [hu] at hFl
  replace hFl := Option.some.inj hFl
  obtain ⟨y7, g7⟩ := pk_field (k := 7) hFl hx hall _ _ rfl
  obtain ⟨y8, g8⟩ := pk_field (k := 8) hFl hx hall _ _ rfl
  have cb : Tryz.prog.cellsOf 4 = 1 := by kernel_rfl
  have ck : Tryz.prog.cellsOf 24 = 1 := by kernel_rfl
  rw [cb] at g7
  rw [ck] at g8
  obtain ⟨x7, e7, _⟩ := DataW.trod_bool Tryz.underlying4 g7
  have q7 := pk_one e7
  have hcs22 : cs[22]? = some (cs[22]'(by omega)) := Array.getElem?_eq_getElem (by omega)
  obtain ⟨u, hu22, hok⟩ := hc 22 _ hcs22
  obtain rfl : u = 24 := by
    have h1 : (List.replicate 21 (3 : TypeId) ++ [4, 24])[22 % 23]? = some u := hu22
    exact (Option.some.inj h1).symm
  have hw : Value.okWide Tryz.prog W .any b0 24 (cs[22]'(by omega)) := by
    unfold Value.okWide
    rw [Tryz.underlying24]
    exact hok
  obtain ⟨a0, l0, k0, hsl⟩ := okWide_slice Tryz.underlying24 hw
  have hcl : (Value.agg cs).cells.toList = cs.toList := rfl
  rw [hcl] at g8 q7
  have hl22 : (cs.toList.drop 22).take 1 = (cs[22]'(by omega)).cells.toList := by
    rw [hsl]
    have h1 : cs.toList[22]? = some (.slice a0 l0 k0) := by rw [Array.getElem?_toList, hcs22, hsl]
    have hlt : 22 < cs.toList.length := (List.getElem?_eq_some_iff.1 h1).1
    rw [List.drop_eq_getElem_cons hlt, (List.getElem?_eq_some_iff.1 h1).2]
    rfl
  rw [hl22] at g8
  have hT := g8
  obtain ⟨y8a, y8b⟩ := y8
  obtain ⟨a, bs, cap, ev, hle, hmx, hbk⟩ := backs_open2 hw ⟨_, g8⟩
  have hnone : a = none → bs = [] ∧ cap = 0 := by
    intro ha
    subst ha
    rw [ev] at hT
    rcases open_slice Tryz.underlying24 hT with ⟨hcs', _⟩ | ⟨a', len', cap', m, n, D, Pl, hcs', _⟩
    · simp [Value.cells] at hcs'
      exact ⟨hcs'.1, hcs'.2⟩
    · simp [Value.cells] at hcs'
  refine ⟨(List.range 21).map F, x7, a, bs, cap, ?_, hle, hmx, hbk, hnone⟩
  congr 1
  have hq7 : cs[21]? = some (.bool x7) := by rw [← Array.getElem?_toList]; exact q7
  have hq8 : cs[22]? = some (.slice a bs.length cap) := by rw [hcs22, ev]
  apply Array.ext_getElem?
  intro i
  by_cases h : i < 23
  · have hd : i = 0 ∨ i = 1 ∨ i = 2 ∨ i = 3 ∨ i = 4 ∨ i = 5 ∨ i = 6 ∨ i = 7 ∨ i = 8 ∨ i = 9 ∨ i = 10 ∨ i = 11 ∨ i = 12 ∨ i = 13 ∨ i = 14 ∨ i = 15 ∨ i = 16 ∨ i = 17 ∨ i = 18 ∨ i = 19 ∨ i = 20 ∨ i = 21 ∨ i = 22 := by omega
    clear hall hx hl hf hc
    rcases hd with rfl | rfl | rfl | rfl | rfl | rfl | rfl | rfl | rfl | rfl | rfl | rfl | rfl | rfl | rfl | rfl | rfl | rfl | rfl | rfl | rfl | rfl | rfl
    all_goals first
      | exact hq7
      | exact hq8
      | exact hF _ (by decide)
  · rw [Array.getElem?_eq_none (by omega), Array.getElem?_eq_none (by show 23 ≤ i; omega)]
end Go.Proofs.YtkhahbghmdccaaaGreatDoor

namespace Go.Proofs.YtkhahbghmdccaaaGreatDoor
open Go.RowKit
attribute [local go_sem ↓] cbu_shut
set_option maxRecDepth 100000 in
set_option maxHeartbeats 4000000 in
theorem lplain_any (w : World) : Calls Tryz.prog 62 #[] w fun e w' => ∃ B, e = .returned (.agg (cfC c0 true (some ⟨B, 0, none⟩) 1 1)) ∧ Bks (some ⟨B, 0, none⟩) bk0 w' ∧ Below w.heap.size w w' := by
  have HP := hide (cf_zero w)
  have HB := hide (al_below w (.cells zero23c 26))
  unfold zero23c at HP HB
  have hbu := fun a n c W => cbu_run a n c W
  go_enter Tryz.func62, Tryz.ntmps62
  go_upto_region 1 with fail
  have HL := hide (show w.heap.size < (w.alloc (.cells #[.int .i64 0, .int .i64 0, .int .i64 0, .int .i64 0, .int .i64 0, .int .i64 0, .int .i64 0, .int .i64 0, .int .i64 0, .int .i64 0, .int .i64 0, .int .i64 0, .int .i64 0, .int .i64 0, .int .i64 0, .int .i64 0, .int .i64 0, .int .i64 0, .int .i64 0, .int .i64 0, .int .i64 0, .bool false, .slice none 0 0] 26)).heap.size from HP.out.lt)
  generalize World.alloc _ _ = W0 at HP HB HL ⊢
  have HB2 := hide (al_below W0 (.cells #[.int .i64 1, .int .i64 5, .int .i64 8080, .int .i64 1, .bool true, .bool false] 95))
  have HK := hide (heap_alloc_new W0 (.cells #[.int .i64 1, .int .i64 5, .int .i64 8080, .int .i64 1, .bool true, .bool false] 95))
  go_wp2_with (refine at_storec rfl (.tmp 0) (.tmp 5) rfl rfl (HP.out.kept HB2.out) c0 true (some ⟨W0.heap.size, 0, none⟩) 1 1 rfl ?_; intro w3 p3 on3; have HP3 := hide p3; have HK3 := hide (bks0 w3 W0.heap.size ((on3.2.2.2.2 _ (by have := HL.out; omega)).trans HK.out)); have HB3 := hide (on3.below (bt HB.out HB2.out) (Nat.le_refl _)); clear p3 on3)
  try simp only [Exit.inBlock, Exit.then]
  refine bodyPost_ret (cf_result rfl _ _ w.heap.size c0 true (some ⟨W0.heap.size, 0, none⟩) 1 1 rfl HP3.out) rfl ?_
  exact ⟨_, rfl, HK3.out, HB3.out⟩
theorem pk6_bundle {z D s d : List Int} {t : Int} (hs : Ok6 s) (hd : Ok6 d) (ht : up 255 t = true) (hz : Okg z D.length) : ∃ (k : Int) (N : Nat) (E : List Int),
    (∀ W a c, Row8 W a D.length c D → Calls Tryz.prog 55 #[.agg (sgC z a D.length c), .agg (sixC s), .agg (sixC d), .int .i64 t] W fun e w' => ∃ a1 c1, e = .returned (.agg (V6.pkC s d t k a1 N c1)) ∧ Row8 w' a1 N c1 E ∧ Below W.heap.size W w') ∧
    (∀ W a1 c1, Row8 W a1 N c1 E → Calls Tryz.prog 54 #[.agg (V6.pkC s d t k a1 N c1)] W fun e w' => ∃ v, e = .returned v ∧ Own W.heap.size w' v (p6o s d t z D) ∧ Below W.heap.size W w') := by
  have h20 := hn_le (el z 0)
  have h300 := hz.2.2.1
  obtain ⟨n, hn0⟩ : ∃ n, hn (el z 0) + D.length = n := ⟨_, rfl⟩
  have hni : ((hn (el z 0) : Nat) + (D.length : Int)) = (n : Int) := by omega
  have hp : p6o s d t z D = V6.bys s d t (el z 0) (eb z (o6 s d (el z 0) n) D) := by unfold p6o; rw [hni]
  refine ⟨el z 0, n, eb z (o6 s d (el z 0) n) D, fun W a c hr => packed6_any z a D.length c D s d t W hz hr hs hd n hn0 (by omega), fun W a1 c1 hr => ?_⟩
  rw [hp]
  exact V6.encoded_any s d t (el z 0) a1 n c1 _ W (okp6 hs hd ht hz) (by omega) hr
theorem pk4_bundle {z D : List Int} {s d t : Int} (hs : up 4294967295 s = true) (hd : up 4294967295 d = true) (ht : up 255 t = true) (hz : Okg z D.length) : ∃ (k : Int) (N : Nat) (E : List Int),
    (∀ W a c, Row8 W a D.length c D → Calls Tryz.prog 29 #[.agg (sgC z a D.length c), .int .i64 s, .int .i64 d, .int .i64 t] W fun e w' => ∃ a1 c1, e = .returned (V4.pk s d t k 0 a1 N c1) ∧ Row8 w' a1 N c1 E ∧ Below W.heap.size W w') ∧
    (∀ W a1 c1, Row8 W a1 N c1 E → Calls Tryz.prog 28 #[V4.pk s d t k 0 a1 N c1] W fun e w' => ∃ v, e = .returned v ∧ Own W.heap.size w' v (p4o s d t z D) ∧ Below W.heap.size W w') := by
  have h20 := hn_le (el z 0)
  have h300 := hz.2.2.1
  obtain ⟨n, hn0⟩ : ∃ n, hn (el z 0) + D.length = n := ⟨_, rfl⟩
  have hni : ((hn (el z 0) : Nat) + (D.length : Int)) = (n : Int) := by omega
  have hp : p4o s d t z D = V4.bys s d t (el z 0) 0 (eb z (o4 s d (el z 0) n) D) := by unfold p4o; rw [hni]
  refine ⟨el z 0, n, eb z (o4 s d (el z 0) n) D, fun W a c hr => packed4_any z a D.length c D s d t W hz hr hs hd n hn0 (by omega), fun W a1 c1 hr => ?_⟩
  rw [hp]
  exact V4.encoded4_any s d t (el z 0) 0 a1 n c1 _ W (okp4z hs hd ht hz) (by omega) hr
set_option maxRecDepth 100000 in
set_option maxHeartbeats 4000000 in
theorem fact_any (w : World) : Calls Tryz.prog 20 #[] w fun e w' => e = .returned (.bool true) ∧ Below w.heap.size w w' := by
  have HPl := hide (fun W => lplain_any W)
  have HN := hide (fun W B (hb : Bks (some ⟨B, 0, none⟩) bk0 W) => (show Calls Tryz.prog 8 #[.agg (cfC c0 true (some ⟨B, 0, none⟩) 1 1)] W fun e w' => NG W c0 true bk0 2 e w' from gnew_gc c0 true (some ⟨B, 0, none⟩) 1 bk0 2 W hb (by decide) (by decide) (fun h => by cases h) pf_c0 cko_c0 rfl (by decide) (by decide)))
  obtain ⟨k, N, E, hPk, hEn⟩ := pk6_bundle (z := zq6) (D := [104, 105]) (s := [3]) (d := [1]) (t := 9) (ok_one 3 ⟨by decide, by decide⟩) (ok_one 1 ⟨by decide, by decide⟩) (by decide) okg_q6
  have HPk := hide (fun W b (r : Row8 W (some ⟨b, 0, none⟩) 2 2 [104, 105]) => (show Calls Tryz.prog 55 #[.agg (sgC zq6 (some ⟨b, 0, none⟩) 2 2), .agg #[.int .i64 3, .int .i64 0, .int .i64 0, .int .i64 0, .int .i64 0, .int .i64 0, .int .i64 0, .int .i64 0], .agg #[.int .i64 1, .int .i64 0, .int .i64 0, .int .i64 0, .int .i64 0, .int .i64 0, .int .i64 0, .int .i64 0], .int .i64 9] W fun e w' => ∃ a1 c1, e = .returned (.agg (V6.pkC [3] [1] 9 k a1 N c1)) ∧ Row8 w' a1 N c1 E ∧ Below W.heap.size W w' from hPk W (some ⟨b, 0, none⟩) 2 r))
  have HEn := hide hEn
  have HI := hide (fun G a cap tv S Ot β W b l c (h : GC G a cap tv S Ot β (gz0 c0 true bk0 2) W) (r : Row8 W b l c (p6o [3] [1] 9 zq6 [104, 105])) (h1 : l ≤ c) (h2 : c ≤ maxLen) => (show Calls Tryz.prog 21 #[.pointer (some ⟨G, 0, none⟩), .slice b l c] W fun e w' => ∃ a2 l2 c2, e = .returned (.tuple #[.slice a2 l2 c2, .nilIface]) ∧ (Row8 w' a2 l2 c2 (p4o 9 5 8 [17, 1024, 8080, 0, 0, 0, 0] [104, 105]) ∧ l2 ≤ c2 ∧ c2 ≤ maxLen) ∧ GQ W G a cap tv S Ot β (gz0 c0 true bk0 2) G1 w' from by have := in6_any G a cap tv S Ot β _ b l c _ W h ig_c0.1 ig_c0.2.1 ig_c0.2.2 r h1 h2; rw [one_g6] at this; exact this))
  have hz1 : Okg [17, 1024, 8080, 0, 0, 0, 0] ([104, 105] : List Int).length := ⟨⟨by decide, by decide⟩, ⟨by decide, by decide⟩, by decide, .inr ⟨rfl, rfl, rfl, rfl, rfl⟩⟩
  have HD := hide (fun W b l c (r : Row8 W b l c (p4o 9 5 8 [17, 1024, 8080, 0, 0, 0, 0] [104, 105])) (h1 : l ≤ c) (h2 : c ≤ maxLen) => (show Calls Tryz.prog 22 #[.slice b l c] W fun e w' => ∃ a1 c1, e = .returned (.tuple #[V4.pk 9 5 8 17 0 a1 10 c1, .nilIface]) ∧ Below W.heap.size W w' from (V4.decode_bysb b l c 9 5 8 17 0 _ W r h1 h2 (okp4z (s := 9) (d := 5) (t := 8) (by decide) (by decide) (by decide) hz1) (eb_le hz1 _)).mono fun e w' ⟨a', l', c', e1, ⟨e2, _⟩, e5⟩ => by
    have hl := e2.1
    rw [eb_len] at hl
    have hl' : 10 = l' := hl
    subst hl'
    exact ⟨a', c', e1, e5⟩))
  have HL6 := hide (@p6o_len [3] [1] 9 zq6 [104, 105])
  have HZ7 := hide (fun W => zero_new W)
  have HZ4 := hide (fun W => V4.zero_new W)
  unfold V4.zero4 at HZ4
  unfold zero7 at HZ7
  unfold V4.pk at HD
  generalize p6o [3] [1] 9 zq6 [104, 105] = Y6 at HEn HI HL6
  generalize p4o 9 5 8 [17, 1024, 8080, 0, 0, 0, 0] [104, 105] = Y4 at HI HD
  clear hPk hEn hz1
  go_enter Tryz.func20, Tryz.ntmps20
  go_upto_region 4 with (first
    | (go_at_call 62; refine (HPl.out _).mono ?_; rintro e w1 ⟨B, rfl, b1, hb1⟩; have HBk := hide b1; have HB := hide hb1; clear b1 hb1)
    | (go_at_call 8; refine (HN.out _ B HBk.out).mono ?_; rintro e w2 ⟨G, a2, c2, tv, S, Ot, rfl, g2, o2, hb2⟩; have HG := hide (show OG w G a2 c2 tv S Ot (fun _ => 0) (gz0 c0 true bk0 2) w2 from ⟨g2, fun k hk => Nat.le_trans HB.out.size (o2 k hk), bt HB.out hb2⟩); clear g2 o2 hb2))
  clear HBk HB HN HPl
  have hcv := Lib.run_convert_bytes_const (P := Tryz.prog) w2 37 5 #[.int .u8 104, .int .u8 105] 2 2 Tryz.underlying37 Tryz.underlying5
  have HR := hide (row_hi w2)
  replace HG := hide (HG.out.kept (al_below w2 (.cells #[.int .u8 104, .int .u8 105] 5 (2, 3))))
  have HZs := hide (HZ7.out (w2.alloc (.cells #[.int .u8 104, .int .u8 105] 5 (2, 3))))
  rw [World.size_alloc] at HZs
  go_upto_region 5 with (refine at_store rfl (.tmp 3) (.tmp 15) rfl rfl HZs.out zq6 (some ⟨w2.heap.size, 0, none⟩) 2 2 rfl ?_; intro w3 p3 on3; have HS3 := hide p3; have hb3 := on3.below (al_below (w2.alloc (.cells #[.int .u8 104, .int .u8 105] 5 (2, 3))) _) (by rw [World.size_alloc]; exact Nat.le_refl _); replace HG := hide (HG.out.kept hb3); replace HR := hide (HR.out.below hb3); clear p3 on3 hb3)
  clear hcv HZs
  go_upto_region 8 with (first
    | (refine at_load rfl (.tmp 3) rfl rfl HS3.out ?_)
    | (go_at_call 55; refine (HPk.out _ _ HR.out).mono ?_; rintro e w4 ⟨a4, c4, rfl, r4, hb4⟩; have HR4 := hide r4; replace HG := hide (HG.out.kept hb4); clear r4 hb4)
    | (go_at_call 54; refine (HEn.out _ _ _ HR4.out).mono ?_; rintro e w5 ⟨v5, rfl, o5, hb5⟩; obtain ⟨g5, c5, rfl, k1, k2, -, -, r5⟩ := o5.form HL6.out; have HR5 := hide (And.intro r5 (And.intro k1 k2)); replace HG := hide (HG.out.kept hb5); clear o5 hb5 k1 k2 r5)
    | (go_at_call 21; refine (HI.out _ _ _ _ _ _ _ _ _ _ _ HG.out.1 HR5.out.1 HR5.out.2.1 HR5.out.2.2).mono ?_; rintro e w6 ⟨a6, l6, c6, rfl, r6, q6⟩; obtain ⟨Ot6, β6, g6⟩ := HG.out.step q6; have HG6 := hide g6; have HR6 := hide r6; clear r6 q6 g6))
  clear HR HG HS3 HR5 HR4
  go_upto_region 9 with (first
    | (go_at_call 22; refine (HD.out _ _ _ _ HR6.out.1 HR6.out.2.1 HR6.out.2.2).mono ?_; rintro e w7 ⟨a7, c7, rfl, hb7⟩; have HZ := hide (HZ4.out w7); replace HG6 := hide (HG6.out.kept hb7); clear hb7)
    | (refine V4.at_store rfl (.tmp 5) (.tmp 31) rfl rfl HZ.out 9 5 8 17 0 a7 10 c7 rfl ?_; intro w8 p8 on8; have HP8 := hide p8; replace HG6 := hide (HG6.out.kept (new_below _ on8)); clear p8 on8))
  obtain ⟨q0, q1, q2, q3, q4, q5⟩ := HP8.out.all
  go_wp2
  go_ret
  exact ⟨rfl, HG6.out.2.2⟩
end Go.Proofs.YtkhahbghmdccaaaGreatDoor

namespace Go.Proofs.YtkhahbghmdccaaaGreatDoor
open Go.RowKit
def stC3 (wh : Int) (ba : Option Addr) (bl bc : Nat) (z : List Int) (a : Option Addr) (len cap : Nat) (s d : List Int) (hop n : Int) (is : Bool) : Array Value := #[.int .i64 wh, .slice ba bl bc, .int .i64 (el z 0), .int .i64 (el z 1), .int .i64 (el z 2), .int .i64 (el z 3), .int .i64 (el z 4), .int .i64 (el z 5), .int .i64 (el z 6), .slice a len cap, .int .i64 (el s 0), .int .i64 (el s 1), .int .i64 (el s 2), .int .i64 (el s 3), .int .i64 (el s 4), .int .i64 (el s 5), .int .i64 (el s 6), .int .i64 (el s 7), .int .i64 (el d 0), .int .i64 (el d 1), .int .i64 (el d 2), .int .i64 (el d 3), .int .i64 (el d 4), .int .i64 (el d 5), .int .i64 (el d 6), .int .i64 (el d 7), .int .i64 hop, .int .i64 n, .bool is]
def StIn3 (B : Nat) (wh : Int) (ba : Option Addr) (bl bc : Nat) (z : List Int) (a : Option Addr) (len cap : Nat) (s d : List Int) (hop n : Int) (is : Bool) (w : World) : Prop := w.heap[B]? = some (.cells (stC3 wh ba bl bc z a len cap s d hop n is) 41 (0, 0))
theorem StIn3.lt {B : Nat} {wh : Int} {ba : Option Addr} {bl bc : Nat} {z : List Int} {a : Option Addr} {len cap : Nat} {s d : List Int} {hop n : Int} {is : Bool} {w : World} (p : StIn3 B wh ba bl bc z a len cap s d hop n is w) : B < w.heap.size := (Array.getElem?_eq_some_iff.1 p).1
theorem StIn3.kept {B : Nat} {wh : Int} {ba : Option Addr} {bl bc : Nat} {z : List Int} {a : Option Addr} {len cap : Nat} {s d : List Int} {hop n : Int} {is : Bool} {w w' : World} (p : StIn3 B wh ba bl bc z a len cap s d hop n is w) (hb : Below w.heap.size w w') : StIn3 B wh ba bl bc z a len cap s d hop n is w' := (hb.block B p.lt).trans p
theorem st3_new (w : World) (wh : Int) (ba : Option Addr) (bl bc : Nat) (z : List Int) (a : Option Addr) (len cap : Nat) (s d : List Int) (hop n : Int) (is : Bool) : StIn3 w.heap.size wh ba bl bc z a len cap s d hop n is (w.alloc (.cells (stC3 wh ba bl bc z a len cap s d hop n is) 41)) := heap_alloc_new w _
theorem StIn3.cellAt {B : Nat} {wh : Int} {ba : Option Addr} {bl bc : Nat} {z : List Int} {a : Option Addr} {len cap : Nat} {s d : List Int} {hop n : Int} {is : Bool} {w : World} (p : StIn3 B wh ba bl bc z a len cap s d hop n is w) (j : Nat) : w.cell? ⟨B, j, none⟩ = (stC3 wh ba bl bc z a len cap s d hop n is)[j]? := cell_of_row w B j _ _ _ p
theorem StIn3.what {B : Nat} {wh : Int} {ba : Option Addr} {bl bc : Nat} {z : List Int} {a : Option Addr} {len cap : Nat} {s d : List Int} {hop n : Int} {is : Bool} {w : World} (p : StIn3 B wh ba bl bc z a len cap s d hop n is w) : w.cell? ⟨B, 0, none⟩ = some (.int .i64 wh) := p.cellAt 0
theorem StIn3.bytes {B : Nat} {wh : Int} {ba : Option Addr} {bl bc : Nat} {z : List Int} {a : Option Addr} {len cap : Nat} {s d : List Int} {hop n : Int} {is : Bool} {w : World} (p : StIn3 B wh ba bl bc z a len cap s d hop n is w) : w.cell? ⟨B, 1, none⟩ = some (.slice ba bl bc) := p.cellAt 1
theorem StIn3.hop {B : Nat} {wh : Int} {ba : Option Addr} {bl bc : Nat} {z : List Int} {a : Option Addr} {len cap : Nat} {s d : List Int} {hop n : Int} {is : Bool} {w : World} (p : StIn3 B wh ba bl bc z a len cap s d hop n is w) : w.cell? ⟨B, 26, none⟩ = some (.int .i64 hop) := p.cellAt 26
theorem StIn3.num {B : Nat} {wh : Int} {ba : Option Addr} {bl bc : Nat} {z : List Int} {a : Option Addr} {len cap : Nat} {s d : List Int} {hop n : Int} {is : Bool} {w : World} (p : StIn3 B wh ba bl bc z a len cap s d hop n is w) : w.cell? ⟨B, 27, none⟩ = some (.int .i64 n) := p.cellAt 27
theorem StIn3.is {B : Nat} {wh : Int} {ba : Option Addr} {bl bc : Nat} {z : List Int} {a : Option Addr} {len cap : Nat} {s d : List Int} {hop n : Int} {is : Bool} {w : World} (p : StIn3 B wh ba bl bc z a len cap s d hop n is w) : w.cell? ⟨B, 28, none⟩ = some (.bool is) := p.cellAt 28
theorem StIn3.seg {B : Nat} {wh : Int} {ba : Option Addr} {bl bc : Nat} {z : List Int} {a : Option Addr} {len cap : Nat} {s d : List Int} {hop n : Int} {is : Bool} {w : World} (p : StIn3 B wh ba bl bc z a len cap s d hop n is w) : ∀ (j : Nat) v, (sgC z a len cap).toList[j]? = some v → w.cell? ⟨B, 2 + j, none⟩ = some v := fun j v hv => by
  have hj : j < 8 := (List.getElem?_eq_some_iff.1 hv).1
  rw [p.cellAt]
  rcases (by omega : j = 0 ∨ j = 1 ∨ j = 2 ∨ j = 3 ∨ j = 4 ∨ j = 5 ∨ j = 6 ∨ j = 7) with rfl | rfl | rfl | rfl | rfl | rfl | rfl | rfl <;> exact hv
theorem StIn3.src {B : Nat} {wh : Int} {ba : Option Addr} {bl bc : Nat} {z : List Int} {a : Option Addr} {len cap : Nat} {s d : List Int} {hop n : Int} {is : Bool} {w : World} (p : StIn3 B wh ba bl bc z a len cap s d hop n is w) : ∀ (j : Nat) v, (sixC s).toList[j]? = some v → w.cell? ⟨B, 10 + j, none⟩ = some v := fun j v hv => by
  have hj : j < 8 := (List.getElem?_eq_some_iff.1 hv).1
  rw [p.cellAt]
  rcases (by omega : j = 0 ∨ j = 1 ∨ j = 2 ∨ j = 3 ∨ j = 4 ∨ j = 5 ∨ j = 6 ∨ j = 7) with rfl | rfl | rfl | rfl | rfl | rfl | rfl | rfl <;> exact hv
theorem StIn3.dst {B : Nat} {wh : Int} {ba : Option Addr} {bl bc : Nat} {z : List Int} {a : Option Addr} {len cap : Nat} {s d : List Int} {hop n : Int} {is : Bool} {w : World} (p : StIn3 B wh ba bl bc z a len cap s d hop n is w) : ∀ (j : Nat) v, (sixC d).toList[j]? = some v → w.cell? ⟨B, 18 + j, none⟩ = some v := fun j v hv => by
  have hj : j < 8 := (List.getElem?_eq_some_iff.1 hv).1
  rw [p.cellAt]
  rcases (by omega : j = 0 ∨ j = 1 ∨ j = 2 ∨ j = 3 ∨ j = 4 ∨ j = 5 ∨ j = 6 ∨ j = 7) with rfl | rfl | rfl | rfl | rfl | rfl | rfl | rfl <;> exact hv
theorem StIn3.gl {B : Nat} {wh : Int} {ba : Option Addr} {bl bc : Nat} {z : List Int} {a : Option Addr} {len cap : Nat} {s d : List Int} {hop n : Int} {is : Bool} {w : World} (p : StIn3 B wh ba bl bc z a len cap s d hop n is w) : (gload (.pointer (some ⟨B, 2, none⟩))).run Tryz.prog w = .ok (.agg (sgC z a len cap)) w := run_loadAt_mid w B 2 39 _ _ p.seg Tryz.underlying39 rfl (by kernel_rfl)
theorem StIn3.hs {B : Nat} {wh : Int} {ba : Option Addr} {bl bc : Nat} {z : List Int} {a : Option Addr} {len cap : Nat} {s d : List Int} {hop n : Int} {is : Bool} {w : World} (p : StIn3 B wh ba bl bc z a len cap s d hop n is w) : (hload (.pointer (some ⟨B, 10, none⟩))).run Tryz.prog w = .ok (.agg (sixC s)) w := run_loadAt_mid w B 10 23 _ _ p.src Tryz.underlying23 rfl (by kernel_rfl)
theorem StIn3.hd {B : Nat} {wh : Int} {ba : Option Addr} {bl bc : Nat} {z : List Int} {a : Option Addr} {len cap : Nat} {s d : List Int} {hop n : Int} {is : Bool} {w : World} (p : StIn3 B wh ba bl bc z a len cap s d hop n is w) : (hload (.pointer (some ⟨B, 18, none⟩))).run Tryz.prog w = .ok (.agg (sixC d)) w := run_loadAt_mid w B 18 23 _ _ p.dst Tryz.underlying23 rfl (by kernel_rfl)
def Ks3 (w : World) (wh : Int) (ba : Option Addr) (bl bc : Nat) (z : List Int) (a : Option Addr) (len cap : Nat) (s d : List Int) (hop n : Int) (is : Bool) (c : List Int) (inj : Bool) (ka : Option Addr) (kn kc : Nat) (W : World) : Prop := StIn3 w.heap.size wh ba bl bc z a len cap s d hop n is W ∧ CfIn (w.heap.size + 1) c inj ka kn kc W ∧ Below w.heap.size w W
theorem Ks3.kept {w : World} {wh : Int} {ba : Option Addr} {bl bc : Nat} {z : List Int} {a : Option Addr} {len cap : Nat} {s d : List Int} {hop n : Int} {is : Bool} {c : List Int} {inj : Bool} {ka : Option Addr} {kn kc : Nat} {W W' : World} (h : Ks3 w wh ba bl bc z a len cap s d hop n is c inj ka kn kc W) (hb : Below W.heap.size W W') : Ks3 w wh ba bl bc z a len cap s d hop n is c inj ka kn kc W' := ⟨h.1.kept hb, h.2.1.kept hb, bt h.2.2 hb⟩
theorem Ks3.start (w : World) (wh : Int) (ba : Option Addr) (bl bc : Nat) (z : List Int) (a : Option Addr) (len cap : Nat) (s d : List Int) (hop n : Int) (is : Bool) (c : List Int) (inj : Bool) (ka : Option Addr) (kn kc : Nat) : Ks3 w wh ba bl bc z a len cap s d hop n is c inj ka kn kc ((w.alloc (.cells (stC3 wh ba bl bc z a len cap s d hop n is) 41)).alloc (.cells (cfC c inj ka kn kc) 26)) := by
  have b1 := al_below w (.cells (stC3 wh ba bl bc z a len cap s d hop n is) 41)
  have b2 := al_below (w.alloc (.cells (stC3 wh ba bl bc z a len cap s d hop n is) 41)) (.cells (cfC c inj ka kn kc) 26)
  have p2 := cf_new (w.alloc (.cells (stC3 wh ba bl bc z a len cap s d hop n is) 41)) c inj ka kn kc
  rw [World.size_alloc] at p2
  exact ⟨(st3_new w wh ba bl bc z a len cap s d hop n is).kept b2, p2, bt b1 b2⟩
attribute [local go_sem ↓] gload_shut hload_shut
set_option maxRecDepth 100000 in
set_option maxHeartbeats 4000000 in
theorem lsent_no (wh : Int) (ba : Option Addr) (bl bc : Nat) (z : List Int) (a : Option Addr) (len cap : Nat) (s d : List Int) (hop n : Int) (is : Bool) (c : List Int) (inj : Bool) (ka : Option Addr) (kn kc : Nat) (bv : Value) (w : World) (h5 : (wh == 5) = false) (hm : len ≤ maxLen) (hc : ¬ (sf z len = 0 ∧ Ok6 s ∧ Ok6 d ∧ 0 ≤ hop ∧ hop ≤ 255)) :
    Calls Tryz.prog 14 #[.agg (stC3 wh ba bl bc z a len cap s d hop n is), .agg (cfC c inj ka kn kc), bv] w fun e w' => e = .returned (.slice none 0 0) ∧ Below w.heap.size w w' := by
  have HF := hide (fun W => rfault_any z a len cap W hm)
  have HK := hide (Ks3.start w wh ba bl bc z a len cap s d hop n is c inj ka kn kc)
  have HZ7 := hide (fun W => zero_new W)
  unfold zero7 at HZ7
  have hcase : (sf z len != 0) = true ∨ ((sf z len != 0) = false ∧ ¬ Ok6 s) ∨ ((sf z len != 0) = false ∧ Ok6 s ∧ ¬ Ok6 d) ∨ ((sf z len != 0) = false ∧ Ok6 s ∧ Ok6 d ∧ hop < 0) ∨ ((sf z len != 0) = false ∧ Ok6 s ∧ Ok6 d ∧ ¬ hop < 0 ∧ 255 < hop) := by
    by_cases c1 : sf z len = 0
    · refine .inr ?_
      have c1' : (sf z len != 0) = false := by simp [c1]
      by_cases c2 : Ok6 s
      · by_cases c3 : Ok6 d
        · by_cases c4 : hop < 0
          · exact .inr (.inr (.inl ⟨c1', c2, c3, c4⟩))
          · refine .inr (.inr (.inr ⟨c1', c2, c3, c4, ?_⟩))
            have : ¬ (0 ≤ hop ∧ hop ≤ 255) := fun h => hc ⟨c1, c2, c3, h⟩
            omega
        · exact .inr (.inl ⟨c1', c2, c3⟩)
      · exact .inl ⟨c1', c2⟩
    · exact .inl (by simpa using c1)
  have HS := hide (fun W => six_any s W)
  have HD := hide (fun W => six_any d W)
  have h1 : Ok6 s → fe (s6 s) = 0 := fun h => by rw [(s6_iff s).2 h]; rfl
  have h2 : Ok6 d → fe (s6 d) = 0 := fun h => by rw [(s6_iff d).2 h]; rfl
  have h3 : ¬ Ok6 s → fe (s6 s) = 1 := fun h => by cases e : s6 s; rfl; exact absurd ((s6_iff s).1 e) h
  have h4 : ¬ Ok6 d → fe (s6 d) = 1 := fun h => by cases e : s6 d; rfl; exact absurd ((s6_iff d).1 e) h
  generalize sf z len = R at HF hcase
  clear hc hm
  rcases hcase with c1 | ⟨c1, c2⟩ | ⟨c1, c2, c3⟩ | ⟨c1, c2, c3, c4⟩ | ⟨c1, c2, c3, c4, c5⟩
  case' inr.inl => rw [h3 c2] at HS; clear c2
  case' inr.inr.inl => rw [h1 c2] at HS; rw [h4 c3] at HD; clear c2 c3
  case' inr.inr.inr.inl => rw [h1 c2] at HS; rw [h2 c3] at HD; clear c2 c3
  case' inr.inr.inr.inr => rw [h1 c2] at HS; rw [h2 c3] at HD; clear c2 c3
  all_goals
    clear h1 h2 h3 h4
    go_enter Tryz.func14, Tryz.ntmps14
    go_upto_region 1 with fail
    generalize (World.alloc _ _).alloc _ = W0 at HK ⊢
    have q0 := HK.out.1.what
    have q2 := HK.out.1.gl
    have HZs := hide (HZ7.out W0)
    go_upto_region 17 with (refine at_store rfl (.tmp 7) (.tmp 10) rfl rfl HZs.out z a len cap rfl ?_; intro w3 p3 on3; have HS3 := hide p3; replace HK := hide (HK.out.kept (new_below _ on3)); clear p3 on3 q0 q2; have q0 := HK.out.1.what)
    clear q0 HZs
    have q3 := HS3.out.gl
    have q4 := HK.out.1.hop
    go_wp2_with (first
      | (go_at_call 57; (with_reducible refine (HF.out _).mono ?_); rintro e w4 ⟨rfl, hb4⟩; replace HK := hide (HK.out.kept hb4); clear hb4 q3 q4; have q3 := HK.out.1.hs; have q4 := HK.out.1.hop)
      | (go_at_call 34; (with_reducible refine (HS.out _).mono ?_); rintro e w5 ⟨rfl, hb5⟩; replace HK := hide (HK.out.kept hb5); clear hb5 q3 q4; have q3 := HK.out.1.hd; have q4 := HK.out.1.hop)
      | (go_at_call 34; (with_reducible refine (HD.out _).mono ?_); rintro e w6 ⟨rfl, hb6⟩; replace HK := hide (HK.out.kept hb6); clear hb6 q3 q4; have q4 := HK.out.1.hop))
    go_ret
    exact ⟨rfl, HK.out.2.2⟩
end Go.Proofs.YtkhahbghmdccaaaGreatDoor

namespace Go.Proofs.YtkhahbghmdccaaaGreatDoor
open Go.RowKit
attribute [local go_sem ↓] gload_shut hload_shut
set_option maxRecDepth 100000 in
set_option maxHeartbeats 4000000 in
theorem lsent_ok (wh : Int) (ba : Option Addr) (bl bc : Nat) (z : List Int) (a : Option Addr) (cap : Nat) (s d : List Int) (hop n : Int) (is : Bool) (c : List Int) (inj : Bool) (ka : Option Addr) (kn kc : Nat) (bv : Value) (D : List Int) (w : World) (h5 : (wh == 5) = false) (hz : Okg z D.length) (hs : Ok6 s) (hd : Ok6 d) (ht : up 255 hop = true) (hr : Row8 w a D.length cap D) :
    Calls Tryz.prog 14 #[.agg (stC3 wh ba bl bc z a D.length cap s d hop n is), .agg (cfC c inj ka kn kc), bv] w fun e w' => ∃ v, e = .returned v ∧ Own w.heap.size w' v (p6o s d hop z D) ∧ Below w.heap.size w w' := by
  have HF := hide (fun W => rfault_any z a D.length cap W (by have := hz.2.2.1; unfold maxLen; omega))
  rw [(sf_iff _ _).2 hz] at HF
  have HK := hide (Ks3.start w wh ba bl bc z a D.length cap s d hop n is c inj ka kn kc)
  have HR := hide (hr.below HK.out.2.2)
  have HZ7 := hide (fun W => zero_new W)
  unfold zero7 at HZ7
  have HS := hide (fun W => six_any s W)
  have HD := hide (fun W => six_any d W)
  rw [(s6_iff s).2 hs] at HS
  rw [(s6_iff d).2 hd] at HD
  obtain ⟨k, N, E, hPk, hEn⟩ := pk6_bundle hs hd ht hz
  have HPk := hide hPk
  have HEn := hide hEn
  have h4 := up_true ht
  have h4a : ¬ hop < 0 := by omega
  have h4b : ¬ 255 < hop := by omega
  generalize p6o s d hop z D = Y at HEn ⊢
  clear hPk hEn hz hs hd ht hr h4
  unfold fe at HS HD
  go_enter Tryz.func14, Tryz.ntmps14
  go_upto_region 1 with fail
  generalize (World.alloc _ _).alloc _ = W0 at HK HR ⊢
  have q0 := HK.out.1.what
  have q2 := HK.out.1.gl
  have HZs := hide (HZ7.out W0)
  go_upto_region 17 with (refine at_store rfl (.tmp 7) (.tmp 10) rfl rfl HZs.out z a D.length cap rfl ?_; intro w3 p3 on3; have HS3 := hide p3; replace HK := hide (HK.out.kept (new_below _ on3)); replace HR := hide (HR.out.below (new_below _ on3)); clear p3 on3 q0 q2; have q0 := HK.out.1.what)
  clear q0 HZs
  have q3 := HS3.out.gl
  have q4 := HK.out.1.hop
  go_upto_region 19 with (first
    | (go_at_call 57; (with_reducible refine (HF.out _).mono ?_); rintro e w4 ⟨rfl, hb4⟩; replace HK := hide (HK.out.kept hb4); replace HS3 := hide (HS3.out.kept hb4); replace HR := hide (HR.out.below hb4); clear hb4 q3 q4; have q3 := HK.out.1.hs; have q4 := HK.out.1.hop)
    | (go_at_call 34; (with_reducible refine (HS.out _).mono ?_); rintro e w5 ⟨rfl, hb5⟩; replace HK := hide (HK.out.kept hb5); replace HS3 := hide (HS3.out.kept hb5); replace HR := hide (HR.out.below hb5); clear hb5 q3 q4; have q3 := HK.out.1.hd; have q4 := HK.out.1.hop)
    | (go_at_call 34; (with_reducible refine (HD.out _).mono ?_); rintro e w6 ⟨rfl, hb6⟩; replace HK := hide (HK.out.kept hb6); replace HS3 := hide (HS3.out.kept hb6); replace HR := hide (HR.out.below hb6); clear hb6 q3 q4; have q4 := HK.out.1.hop))
  clear q4
  have q3 := HS3.out.gl
  have q4 := HK.out.1.hop
  have q5 := HK.out.1.hs
  have q6 := HK.out.1.hd
  go_wp2_with (first
    | (go_at_call 55; refine (HPk.out _ _ _ HR.out).mono ?_; rintro e w7 ⟨a7, c7, rfl, r7, hb7⟩; have HB := hide (bt HK.out.2.2 hb7); have HR7 := hide r7; clear hb7 r7 q3 q4 q5 q6)
    | (go_at_call 54; refine (HEn.out _ _ _ HR7.out).mono ?_; rintro e w8 ⟨v8, rfl, o8, hb8⟩; have HO := hide (o8.mono HB.out.size); replace HB := hide (bt HB.out hb8); clear hb8 o8))
  go_ret
  exact ⟨_, rfl, HO.out, HB.out⟩
theorem lsent_any (wh : Int) (ba : Option Addr) (bl bc : Nat) (z : List Int) (a : Option Addr) (len cap : Nat) (s d : List Int) (hop n : Int) (is : Bool) (c : List Int) (inj : Bool) (ka : Option Addr) (kn kc : Nat) (bv : Value) (D : List Int) (w : World) (h5 : (wh == 5) = false) (hr : Row8 w a len cap D) :
    (∀ W, Below w.heap.size w W → Calls Tryz.prog 14 #[.agg (stC3 wh ba bl bc z a len cap s d hop n is), .agg (cfC c inj ka kn kc), bv] W fun e w' => e = .returned (.slice none 0 0) ∧ Below W.heap.size W w') ∨
    (Ok6 s ∧ Ok6 d ∧ up 255 hop = true ∧ Okg z D.length ∧ ∀ W, Below w.heap.size w W → Calls Tryz.prog 14 #[.agg (stC3 wh ba bl bc z a len cap s d hop n is), .agg (cfC c inj ka kn kc), bv] W fun e w' => ∃ v, e = .returned v ∧ Own W.heap.size w' v (p6o s d hop z D) ∧ Below W.heap.size W w') := by
  obtain rfl : D.length = len := hr.1
  by_cases hc : sf z D.length = 0 ∧ Ok6 s ∧ Ok6 d ∧ 0 ≤ hop ∧ hop ≤ 255
  · have hz := (sf_iff _ _).1 hc.1
    have ht : up 255 hop = true := decide_eq_true hc.2.2.2
    exact .inr ⟨hc.2.1, hc.2.2.1, ht, hz, fun W hW => lsent_ok wh ba bl bc z a cap s d hop n is c inj ka kn kc bv D W h5 hz hc.2.1 hc.2.2.1 ht (hr.below hW)⟩
  · exact .inl fun W hW => lsent_no wh ba bl bc z a D.length cap s d hop n is c inj ka kn kc bv W h5 hr.2.1 hc
end Go.Proofs.YtkhahbghmdccaaaGreatDoor

namespace Go.Proofs.YtkhahbghmdccaaaGreatDoor
open Go.ChangeShapes Go.WideShapes Go.Deep Go.RowKit
theorem Tryz.step3F : (Tryz.prog.underlying 41).map (fun d => match d with | .struct fs => fs.toList.map (fun f => (f.offset, f.type)) | _ => []) = some [(0, 3), (1, 37), (2, 39), (10, 23), (18, 23), (26, 3), (27, 3), (28, 4)] := by kernel_rfl
theorem part_at {cs : List Value} {o n j : Nat} (h : j < n) : ((cs.drop o).take n)[j]? = cs[o + j]? := by
  rw [List.getElem?_take_of_lt h, List.getElem?_drop]
end Go.Proofs.YtkhahbghmdccaaaGreatDoor

namespace Go.Proofs.YtkhahbghmdccaaaGreatDoor
open Go.RowKit
def OKs (bs : List (List Int)) : Prop := bs.length ≤ 8 ∧ (∀ b ∈ bs, okb b = true) ∧ bs.Pairwise (fun a b => el a 0 ≠ el b 0)
theorem oks_of {bs : List (List Int)} (h : (bf bs).2 = 0) : OKs bs := by
  obtain ⟨h8, hx⟩ := bf_ok h
  refine ⟨h8, fun b hb => ?_, List.pairwise_iff_getElem.2 fun i j hi hj hij => ?_⟩
  · obtain ⟨i, hi, rfl⟩ := List.mem_iff_getElem.1 hb
    have := (hx i hi).1
    rwa [getD_at hi] at this
  · have := (hx j hj).2
    unfold sid at this
    rw [List.any_eq_false] at this
    have h1 := this i (List.mem_range.2 hij)
    rw [getD_at hi, getD_at hj] at h1
    simpa using h1
theorem oks_bf {bs : List (List Int)} (h : OKs bs) : (bf bs).2 = 0 := by
  rw [bf_none (by have := h.1; omega) fun j hj => ?_]
  have h1 : okb (bs.getD j []) = true := by rw [getD_at hj]; exact h.2.1 _ (List.getElem_mem hj)
  have h2 : sid bs j = false := by
    unfold sid
    rw [List.any_eq_false]
    intro i hi
    have hij := List.mem_range.1 hi
    have := List.pairwise_iff_getElem.1 h.2.2 i j (by omega) hj hij
    rw [getD_at (by omega), getD_at hj]
    simpa using this
  unfold flt
  rw [h1, h2]
  rfl
end Go.Proofs.YtkhahbghmdccaaaGreatDoor
