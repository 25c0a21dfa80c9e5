/- TopStream: of numbers and bytes alone; parts of slices; what is kept. -/
import Derived.Test.YtkhahbghmdccaaaGreatT48
import Derived.Test.YtkhahbghmdccaaaGreatT49
import Derived.Below
import Derived.OpenShut
import Derived.Test.YtkhahbghmdccaaaGreatProg
import Derived.WalkKit
import Derived.LaidEql
import Derived.BigQuiet
import Derived.Laws.AppendOwnNone
import Derived.Laws.MakeOwn
import Derived.Deep.RegionLaw
import Derived.Lib.Bytes
import Derived.Deep.MidRow
import Derived.Laws.ResultCell
import Derived.Deep.CutBlock
import Derived.Deep.QuietTactic
import Derived.OwnWalk
import Derived.Deep.RegionHeld3
import Derived.Deep.DrawnRows
import Derived.Maps.AppendAt
import Derived.Laws.StructEq
import Derived.Maps.RangeWalk
import Derived.Stop.Asserts
import Derived.RowKitTokens
import Derived.Test.YtkhahbghmdccaaaGreatShelf
import Derived.Shelf.Abstract
import Derived.Lib.SliceRun
import Derived.Lib.AppendZerosOnto
import Derived.Lib.AppendZeros
import Derived.Laws.CopyOwn
import Derived.RangeFuncNested
import Derived.RangeFuncBound
import Derived.RangeFuncCalls
import Derived.RangeFuncLeaves
import Derived.RangeFuncFrom
import Derived.Shelf.RegionOpen
import Derived.OwnWalkIn
import Derived.TacticsInMore
import Derived.LoopNIn
import Derived.LoopIn
import Derived.Deep.RegionWith
import Derived.ArgAppend
import Derived.Lib.SlBytesConst
import Derived.Lib.AppendStr
import Derived.Deep.Slices
import Derived.ChangeArms
import Derived.WideShapes
import Derived.Deep.Fields
import Derived.ChangeSlices
import Derived.RowKit
namespace Go.Proofs.YtkhahbghmdccaaaGreat
open Go.RowKit
set_option linter.unusedVariables false
/-- the flow. -/
def fS (s : List Int) (p : Int) : List Int := fl5 6 s p (vip c0) 80
/-- the gate behind the first segment. -/
def gS (s : List Int) (p isn : Int) : GS := ((c0, true, bk0), (2, upd (fun _ => []) 0 (cli (fS s p)), upd (fun _ => false) 0 true, [mkb (fS s p) 1024 5 8080 0]), [(1024, hb (fS s p), md (isn + 1), true, false)], 0)
theorem cf_six {z : List Int} {n : Nat} (h : Okg z n) (h6 : el z 0 = 6) : cf z n = 0 := by
  unfold cf
  rw [(sf_iff z n).2 h, if_neg (fun q => q.2 h6)]
theorem okgS {p q f : Int} {n : Nat} (hp : 0 ≤ p ∧ p ≤ 65535) (hq : 0 ≤ q ∧ q < 4294967296) (hf : 0 ≤ f ∧ f ≤ 31) (hn : n ≤ 300) : Okg [6, p, 80, q, 0, f, 0] n :=
  ⟨hp, ⟨(by decide : (0 : Int) ≤ 80), (by decide : (80 : Int) ≤ 65535)⟩, hn, .inl ⟨rfl, ⟨hq.1, (by show q ≤ 4294967295; omega)⟩, ⟨(by decide : (0 : Int) ≤ 0), (by decide : (0 : Int) ≤ 4294967295)⟩, hf, ⟨(by decide : (0 : Int) ≤ 0), (by decide : (0 : Int) ≤ 65535)⟩⟩⟩
theorem okgT {q f : Int} {n : Nat} (hq : 0 ≤ q ∧ q < 4294967296) (hf : 0 ≤ f ∧ f ≤ 31) (hn : n ≤ 300) : Okg [6, 1024, 8080, q, 0, f, 0] n :=
  ⟨⟨(by decide : (0 : Int) ≤ 1024), (by decide : (1024 : Int) ≤ 65535)⟩, ⟨(by decide : (0 : Int) ≤ 8080), (by decide : (8080 : Int) ≤ 65535)⟩, hn, .inl ⟨rfl, ⟨hq.1, (by show q ≤ 4294967295; omega)⟩, ⟨(by decide : (0 : Int) ≤ 0), (by decide : (0 : Int) ≤ 4294967295)⟩, hf, ⟨(by decide : (0 : Int) ≤ 0), (by decide : (0 : Int) ≤ 65535)⟩⟩⟩
theorem pkoS {f : List Int} (h : okf f = true) : pko 0 f bk0 = ([1, 5, 8080, 1, 1, 0], 0) := by
  have hs : sok 0 f 0 = true := by
    unfold sok
    rw [h]
    decide
  unfold pko
  rw [if_pos (show (bf bk0).2 = 0 by decide), if_pos hs]
  rfl
theorem fndS (s : List Int) (p : Int) : fnd [mkb (fS s p) 1024 5 8080 0] (fS s p) = some 0 := by
  have h : eqf (mkb (fS s p) 1024 5 8080 0) (fS s p) = true := (eqf_iff _ _).2 rfl
  unfold fnd
  show (List.range 1).find? (fun i => eqf (([mkb (fS s p) 1024 5 8080 0]).getD i []) (fS s p)) = some 0
  rw [show List.range 1 = [0] from rfl, List.find?_cons_of_pos (by exact h)]
theorem portS {s : List Int} {p : Int} (h : okf (fS s p) = true) : 0 ≤ p ∧ p ≤ 65535 := by
  unfold okf at h
  simp only [Bool.and_eq_true] at h
  have h9 : wd p = true := h.1.2
  unfold wd at h9
  rw [Bool.and_eq_true, decide_eq_true_eq, decide_eq_true_eq] at h9
  exact h9
theorem ldoS (s : List Int) (p : Int) : ldo c0 (fS s p) = (0, true, 0) := if_pos ⟨rfl, rfl⟩
/-- the first segment. -/
theorem syn_g6s {s : List Int} {p isn : Int} (hf : okf (fS s p) = true) (hp : 0 ≤ p ∧ p ≤ 65535) (hi : 0 ≤ isn ∧ isn < 4294967296) :
    g6s (gz0 c0 true bk0 2) (fS s p) 9 [6, p, 80, isn, 0, 2, 0] [] = (0, p4o 9 5 8 [6, 1024, 8080, md (isn - 52), 0, 2, 0] [], gS s p isn) := by
  have hw : whr (gz0 c0 true bk0 2) (fS s p) (true, 0) = (5, 8080, 0) := by
    unfold whr
    rw [if_pos rfl]
    show (el (pko 0 (fS s p) bk0).1 1, el (pko 0 (fS s p) bk0).1 2, (pko 0 (fS s p) bk0).2) = _
    rw [pkoS hf]
    rfl
  have hb0 := bdo_none (flags := 2) (wr := (5, 8080, 0)) (show fnd (gz0 c0 true bk0 2).bs (fS s p) = none from rfl)
  rw [if_neg (fun h => h.2 ⟨by decide, by decide⟩), if_neg (by simp), show tk (gz0 c0 true bk0 2).ws (gz0 c0 true bk0 2).ts (cli (fS s p)) (8 * (gz0 c0 true bk0 2).m) = some 0 from tk_new _ _ (by decide)] at hb0
  dsimp only at hb0
  unfold g6s
  rw [show (gz0 c0 true bk0 2).c = c0 from rfl, ldoS]
  dsimp only
  rw [if_neg (by simp), if_neg (fun h => absurd h.2.2 (by simp)), hw, show el [6, p, 80, isn, 0, 2, 0] 5 = 2 from rfl, hb0]
  dsimp only
  rw [if_neg (by simp)]
  have hc : cf [6, p, 80, isn, 0, 2, 0] ([] : List Int).length = 0 := cf_six (okgS hp hi ⟨by decide, by decide⟩ (by simp)) rfl
  have hu : upo (hb (fS s p)) 0 false false [6, p, 80, isn, 0, 2, 0] [] = (0, [6, p, 80, md (isn - 52), 0, 2, 0], [], md (isn + 1), true, false) := by
    unfold upo
    rw [if_neg (by rw [hc]; decide), if_pos (by rfl)]
    unfold bgo
    rw [if_neg (by simp), hb_len]
    rfl
  have hg : ∀ G : GS, G.c = c0 → G.inj = true → G.ss = [] → guo G (mkb (fS s p) (1024 + ((0 : Nat) : Int)) 5 8080 (gz0 c0 true bk0 2).now) [6, p, 80, isn, 0, 2, 0] [] = (0, [6, p, 80, md (isn - 52), 0, 2, 0], [], G.str [(1024, hb (fS s p), md (isn + 1), true, false)]) := fun G e1 e2 e3 => by
    have hst : stf G (mkb (fS s p) (1024 + ((0 : Nat) : Int)) 5 8080 (gz0 c0 true bk0 2).now) = ([(1024, hb (fS s p), 0, false, false)], hb (fS s p), 0, false, false) := by
      unfold stf
      rw [e3]
      rfl
    unfold guo
    rw [e1, e2, show tell c0 true (mkb (fS s p) (1024 + ((0 : Nat) : Int)) 5 8080 (gz0 c0 true bk0 2).now) = true from rfl, if_pos rfl, hst]
    dsimp only
    rw [hu]
    rfl
  unfold g6b
  rw [hg _ rfl rfl rfl]
  dsimp only
  rw [if_neg (by simp)]
  rfl
/-- a segment behind it. -/
theorem seg_g6s {s : List Int} {p isn q : Int} {D : List Int} (hp : 0 ≤ p ∧ p ≤ 65535) (hq : 0 ≤ q ∧ q < 4294967296) (hl : D.length ≤ 150) :
    g6s (gS s p isn) (fS s p) 9 [6, p, 80, q, 0, 16, 0] D = (0, p4o 9 5 8 [6, 1024, 8080, if q = md (isn + 1) then md (q - 52) else q, 0, 16, 0] (if q = md (isn + 1) then hb (fS s p) ++ D else D), gS s p isn) := by
  have hb0 := bdo_some (flags := 16) (wr := whr (gS s p isn) (fS s p) (true, 0)) (show fnd (gS s p isn).bs (fS s p) = some 0 from fndS s p)
  unfold g6s
  rw [show (gS s p isn).c = c0 from rfl, ldoS]
  dsimp only
  rw [if_neg (by simp), if_neg (fun h => absurd h.2.1 (show ¬ (16 : Int) / 2 % 2 = 1 by decide)), show el [6, p, 80, q, 0, 16, 0] 5 = 16 from rfl, hb0]
  dsimp only
  rw [if_neg (by simp)]
  have hc : cf [6, p, 80, q, 0, 16, 0] D.length = 0 := cf_six (okgS hp hq ⟨by decide, by decide⟩ (by omega)) rfl
  have hu : upo (hb (fS s p)) (md (isn + 1)) true false [6, p, 80, q, 0, 16, 0] D = (0, [6, p, 80, if q = md (isn + 1) then md (q - 52) else q, 0, 16, 0], if q = md (isn + 1) then hb (fS s p) ++ D else D, md (isn + 1), true, false) := by
    unfold upo
    rw [if_neg (by rw [hc]; decide), if_neg (by show ¬ (16 : Int) / 2 % 2 = 1; decide), if_neg (by decide)]
    by_cases e : q = md (isn + 1)
    · rw [if_pos ⟨e, rfl⟩, if_pos e, if_pos e]
      unfold fio
      rw [if_neg (by rw [hb_len]; omega), hb_len]
      rfl
    · rw [if_neg (fun h => e h.1), if_neg e, if_neg e]
  generalize hQ : (if q = md (isn + 1) then md (q - 52) else q) = Q at hu ⊢
  generalize hE : (if q = md (isn + 1) then hb (fS s p) ++ D else D) = E at hu ⊢
  have hg : guo ((gS s p isn).tab (gS s p isn).ws (gS s p isn).ts ((gS s p isn).bs.set 0 (usd ((gS s p isn).bs.getD 0 []) (gS s p isn).now))) ((gS s p isn).bs.getD 0 []) [6, p, 80, q, 0, 16, 0] D = (0, [6, p, 80, Q, 0, 16, 0], E, gS s p isn) := by
    unfold guo
    rw [show tell ((gS s p isn).tab (gS s p isn).ws (gS s p isn).ts ((gS s p isn).bs.set 0 (usd ((gS s p isn).bs.getD 0 []) (gS s p isn).now))).c ((gS s p isn).tab (gS s p isn).ws (gS s p isn).ts ((gS s p isn).bs.set 0 (usd ((gS s p isn).bs.getD 0 []) (gS s p isn).now))).inj ((gS s p isn).bs.getD 0 []) = true from rfl, if_pos rfl]
    rw [show stf ((gS s p isn).tab (gS s p isn).ws (gS s p isn).ts ((gS s p isn).bs.set 0 (usd ((gS s p isn).bs.getD 0 []) (gS s p isn).now))) ((gS s p isn).bs.getD 0 []) = ([(1024, hb (fS s p), md (isn + 1), true, false)], hb (fS s p), md (isn + 1), true, false) from rfl]
    dsimp only
    rw [hu]
    rfl
  unfold g6b
  rw [hg]
  dsimp only
  rw [if_neg (by simp)]
  rfl
/-- what the server is to see of a part. -/
theorem part_seen {s : List Int} {p isn : Int} {ds : List Int} (hs : Ok6 s) (hf : okf (fS s p) = true) (hp : 0 ≤ p ∧ p ≤ 65535) (hi : 0 ≤ isn ∧ isn < 4294967296) (A N : Nat) (hA : A + N ≤ ds.length) (hD : ds.length ≤ 150) :
    ∃ (q : Int) (d : List Int) (At : Nat), g6 (gS s p isn) (p6o s (vip c0) 9 [6, p, 80, (isn + 1 + A) % 4294967296, 0, 16, 0] ((ds.drop A).take N)) = (0, p4o 9 5 8 [6, 1024, 8080, q, 0, 16, 0] d, gS s p isn) ∧ (0 ≤ q ∧ q < 4294967296) ∧
      (q - (md (isn - 52) + 1) % 4294967296 + 4294967296) % 4294967296 = (At : Int) ∧ At + d.length ≤ 52 + ds.length ∧ ((hb (fS s p) ++ ds).drop At).take d.length = d ∧ d.length ≤ 300 ∧ (At = 0 → ∃ g, ydo d = (g, 52, 0) ∧ flC g = flC (fS s p)) := by
  have hlen : ((ds.drop A).take N).length = N := by rw [List.length_take, List.length_drop]; omega
  have hq : 0 ≤ (isn + 1 + A) % 4294967296 ∧ (isn + 1 + A) % 4294967296 < 4294967296 := by omega
  have hv : Ok6 (vip c0) := fun j hj => by rcases (by omega : j = 0 ∨ j = 1 ∨ j = 2 ∨ j = 3 ∨ j = 4 ∨ j = 5 ∨ j = 6 ∨ j = 7) with rfl | rfl | rfl | rfl | rfl | rfl | rfl | rfl <;> exact ⟨by decide, by decide⟩
  have hz : Okg [6, p, 80, (isn + 1 + A) % 4294967296, 0, 16, 0] ((ds.drop A).take N).length := okgS hp hq ⟨by decide, by decide⟩ (by omega)
  have hg := g6_p6o (gS s p isn) hs hv (by decide : up 255 9 = true) hz
  rw [if_neg (by decide)] at hg
  replace hg : g6 (gS s p isn) (p6o s (vip c0) 9 [6, p, 80, (isn + 1 + A) % 4294967296, 0, 16, 0] ((ds.drop A).take N)) = g6s (gS s p isn) (fS s p) 9 [6, p, 80, (isn + 1 + A) % 4294967296, 0, 16, 0] ((ds.drop A).take N) := hg
  rw [seg_g6s hp hq (by omega)] at hg
  have h52 := hb_len (fS s p)
  by_cases e : (isn + 1 + A) % 4294967296 = md (isn + 1)
  · have hA0 : A = 0 := by unfold md at e; omega
    rw [if_pos e, if_pos e] at hg
    subst hA0
    refine ⟨_, _, 0, hg, md_in _, ?_, ?_, ?_, ?_, fun _ => ?_⟩
    · unfold md; omega
    · rw [List.length_append, hlen]; omega
    · rw [List.length_append, hlen, List.drop_zero, List.drop_zero, List.take_append, List.take_of_length_le (by omega)]
      congr 2
      omega
    · rw [List.length_append, hlen]; omega
    · exact ydo_hb hf _
  · rw [if_neg e, if_neg e] at hg
    refine ⟨_, _, 52 + A, hg, hq, ?_, by rw [hlen]; omega, ?_, by rw [hlen]; omega, fun h => by omega⟩
    · unfold md; omega
    · rw [hlen, List.drop_append, List.drop_of_length_le (by omega), List.nil_append]
      congr 2
      omega
theorem part_runr (a : Option Addr) (len cap : Nat) (hlc : len ≤ cap) (hcm : cap ≤ maxLen) (hna : a = none → cap = 0) (lo n : Nat) (hp : lo + n ≤ len) :
    ∃ (a' : Option Addr), (∀ w, (slr 28 (.slice a len cap) (some (.int .i64 (lo : Int))) (some (.int .i64 ((lo : Int) + (n : Int)))) none).run Tryz.prog w = .ok (.slice a' n (cap - lo)) w) ∧ (∀ b off, 0 < n → a = some ⟨b, off, none⟩ → a' = some ⟨b, off + lo, none⟩) ∧ (a' = none → n = 0 ∧ cap - lo = 0) := by
  unfold maxLen at hcm
  have u := Tryz.underlying28
  have z := Tryz.sizeOf5
  cases a with
  | none =>
    obtain rfl : cap = 0 := hna rfl
    obtain rfl : len = 0 := by omega
    obtain rfl : lo = 0 := by omega
    obtain rfl : n = 0 := by omega
    refine ⟨none, fun w => ?_, fun b off h => by omega, fun _ => ⟨rfl, rfl⟩⟩
    unfold slr
    go_simp
  | some ad =>
    have j1 : (lo : Int) + (n : Int) ≤ (cap : Int) := by omega
    by_cases h : cap = lo
    · subst h
      obtain rfl : n = 0 := by omega
      refine ⟨some ad, fun w => ?_, fun b off h => by omega, fun e => by cases e⟩
      unfold slr
      go_simp
    · refine ⟨some (ad.add lo), fun w => ?_, fun b off hn e => by cases e; rw [add_pl], fun e => by cases e⟩
      unfold slr
      go_simp
      rw [if_pos (by omega), if_pos (by omega), show ((lo : Int) + (n : Int)).toNat - lo = n by omega]
/-- the gate, the flow and all that the server is to see. -/
def SW (wB : World) (G : Nat) (g : GS) (B : Nat) (f : List Int) (x : Option Addr) (l c : Nat) (L : List Int) (W : World) : Prop := ∃ O, GH wB G g O W ∧ ¬ O B ∧ FlIn B f W ∧ Row8 W x l c L
theorem SW.kept {wB : World} {G : Nat} {g : GS} {B : Nat} {f : List Int} {x : Option Addr} {l c : Nat} {L : List Int} {W W' : World} (h : SW wB G g B f x l c L W) (hb : Below W.heap.size W W') : SW wB G g B f x l c L W' := by
  obtain ⟨O, h1, h2, h3, h4⟩ := h
  exact ⟨O, h1.kept hb, h2, h3.kept hb, h4.below hb⟩
theorem SW.below {wB : World} {G : Nat} {g : GS} {B : Nat} {f : List Int} {x : Option Addr} {l c : Nat} {L : List Int} {W : World} (h : SW wB G g B f x l c L W) : Below wB.heap.size wB W := by
  obtain ⟨O, h1, _⟩ := h
  exact h1.below
theorem SW.fl {wB : World} {G : Nat} {g : GS} {B : Nat} {f : List Int} {x : Option Addr} {l c : Nat} {L : List Int} {W : World} (h : SW wB G g B f x l c L W) : FlIn B f W := by
  obtain ⟨O, _, _, h3, _⟩ := h
  exact h3
theorem SW.row {wB : World} {G : Nat} {g : GS} {B : Nat} {f : List Int} {x : Option Addr} {l c : Nat} {L : List Int} {W : World} (h : SW wB G g B f x l c L W) : Row8 W x l c L := by
  obtain ⟨O, _, _, _, h4⟩ := h
  exact h4
theorem SW.to {wB : World} {G : Nat} {g : GS} {B : Nat} {f : List Int} {x : Option Addr} {l c : Nat} {L : List Int} {W : World} (h : SW wB G g B f x l c L W) {x' : Option Addr} {l' c' : Nat} {L' : List Int} (r : Row8 W x' l' c' L') : SW wB G g B f x' l' c' L' W := by
  obtain ⟨O, h1, h2, h3, _⟩ := h
  exact ⟨O, h1, h2, h3, r⟩
theorem GN.beside {w : World} {G : Nat} {g' : GS} {O : Nat → Prop} {W W' : World} (h : GN w G g' O W W') {B : Nat} (hB : B < W.heap.size) (hn : ¬ O B) : W'.heap[B]? = W.heap[B]? ∧ ∃ O', GH w G g' O' W' ∧ ¬ O' B := by
  obtain ⟨O', h1, h2, h3⟩ := h
  exact ⟨h3.1.2.2.2.2 B hB hn, O', h1, fun ho => (h2 B ho).elim hn (fun q => by omega)⟩
theorem in6_sw {g : GS} (hg : IG g) {zs Y : List Int} {g' : GS} (e : g6 g zs = (0, Y, g')) : ∀ wB G B f x l c L W b n k, SW wB G g B f x l c L W → Row8 W b n k zs → n ≤ k → k ≤ maxLen → Calls Tryz.prog 16 #[.pointer (some ⟨G, 0, none⟩), .slice b n k] W fun e w' => ∃ a2 l2 c2, e = .returned (.tuple #[.slice a2 l2 c2, .nilIface]) ∧ (Row8 w' a2 l2 c2 Y ∧ l2 ≤ c2 ∧ c2 ≤ maxLen) ∧ SW wB G g' B f x l c L w' := by
  intro wB G B f x l c L W b n k ⟨O, h1, h2, h3, h4⟩ r e1 e2
  have h := in6_gh hg zs wB G O W b n k h1 r e1 e2
  rw [e] at h
  refine h.mono ?_
  rintro e w' ⟨⟨a2, l2, c2, q1, q2⟩, q3⟩
  obtain ⟨f5, O5, g5, n5⟩ := GN.beside (show GN wB G g' O W w' from q3) h3.lt h2
  obtain ⟨_, _, _, q4⟩ := q3
  exact ⟨a2, l2, c2, q1, q2, O5, g5, n5, f5.trans h3, q4.2 _ _ _ _ h4⟩
end Go.Proofs.YtkhahbghmdccaaaGreat
