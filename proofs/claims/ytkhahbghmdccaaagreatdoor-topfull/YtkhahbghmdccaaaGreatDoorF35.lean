/- A segment's packet, of fours and of sixes, as bytes. Segments read of bytes, whatever they are: what is wrong, and what they hold; seg.Decode and seg.Size so, by contracts. Package gate: openSeg, by a contract. A gate as it lies in the heap; frames: which blocks may have turned, and that none of them holds bytes; a flow of a packet. -/
import Derived.Test.YtkhahbghmdccaaaGreatDoorF07
import Derived.Test.YtkhahbghmdccaaaGreatDoorF08
import Derived.Test.YtkhahbghmdccaaaGreatDoorF10
import Derived.Test.YtkhahbghmdccaaaGreatDoorF18
import Derived.Below
import Derived.OpenShut
import Derived.Test.YtkhahbghmdccaaaGreatDoorProg
import Derived.WalkKit
import Derived.LaidEql
import Derived.BigQuiet
import Derived.Laws.AppendOwnNone
import Derived.Laws.MakeOwn
import Derived.Deep.RegionLaw
import Derived.Lib.Bytes
import Derived.Deep.MidRow
import Derived.Laws.ResultCell
import Derived.Deep.CutBlock
import Derived.Deep.QuietTactic
import Derived.OwnWalk
import Derived.Deep.RegionHeld3
import Derived.Deep.DrawnRows
import Derived.Test.YtkhahbghmdccaaaGreatDoorF32
import Derived.Test.YtkhahbghmdccaaaGreatDoorF13
import Derived.Test.YtkhahbghmdccaaaGreatDoorF26
import Derived.Test.YtkhahbghmdccaaaGreatDoorF27
import Derived.Test.YtkhahbghmdccaaaGreatDoorF30
import Derived.Laws.StructEq
import Derived.Maps.AppendAt
import Derived.Maps.RangeWalk
import Derived.Stop.Asserts
import Derived.RowKitTokens
import Derived.Test.YtkhahbghmdccaaaGreatDoorShelf
import Derived.Shelf.Abstract
import Derived.Lib.SliceRun
import Derived.Lib.AppendZerosOnto
import Derived.Lib.AppendZeros
namespace Go.Proofs.YtkhahbghmdccaaaGreatDoor
open Go.RowKit
def p4o (s d t : Int) (z D : List Int) : List Int := V4.bys s d t (el z 0) 0 (eb z (o4 s d (el z 0) ((hn (el z 0) : Nat) + (D.length : Int))) D)
def p6o (s d : List Int) (t : Int) (z D : List Int) : List Int := V6.bys s d t (el z 0) (eb z (o6 s d (el z 0) ((hn (el z 0) : Nat) + (D.length : Int))) D)
end Go.Proofs.YtkhahbghmdccaaaGreatDoor

namespace Go.Proofs.YtkhahbghmdccaaaGreatDoor
open Go.RowKit
theorem gt_no (w : World) : Row8 w none 0 0 [] := ⟨rfl, by simp [maxLen], SM.oct_nil, fun _ => ⟨rfl, rfl⟩, fun h => by omega⟩
def sdo (k over : Int) (zs : List Int) : Int × List Int × List Int :=
  if zs.length < hn k ∨ hn k + 300 < zs.length then (5, [], [])
  else if sf (rdz k zs) (zs.length - hn k) ≠ 0 then (5, [], [])
  else if ¬ ((eb (rdz k zs) over (zs.drop (hn k))).take (cn k) = zs.take (cn k) ∧ (eb (rdz k zs) over (zs.drop (hn k))).drop (cn k + 2) = zs.drop (cn k + 2)) then (5, [], [])
  else if ¬ eb (rdz k zs) over (zs.drop (hn k)) = zs then (6, [], [])
  else (0, rdz k zs, zs.drop (hn k))
theorem ev_err {n : Int} (h : n ≠ 0) : ev n = err n := if_neg h
theorem ev_nil : ev 0 = .nilIface := rfl
theorem sdec_any (k over : Int) (a : Option Addr) (len cap : Nat) (zs : List Int) (w : World) (hr : Row8 w a len cap zs) (hcl : len ≤ cap) (hcm : cap ≤ maxLen) (hk : kn k = true) (ho : up 65535 over = true) :
    Calls Tryz.prog 137 #[.int .i64 k, .slice a len cap, .int .i64 over] w fun e w' => ∃ a' l c, e = .returned (.tuple #[.agg (sgC (sdo k over zs).2.1 a' l c), ev (sdo k over zs).1]) ∧ Row8 w' a' l c (sdo k over zs).2.2 ∧ Below w.heap.size w w' := by
  have hl := hr.1
  unfold sdo
  by_cases h1 : zs.length < hn k ∨ hn k + 300 < zs.length
  · rw [if_pos h1]
    exact (dec_len k over a len cap w hk ho (by omega) hr.2.1).mono fun e w' ⟨e1, e2⟩ => ⟨none, 0, 0, e1, gt_no _, e2⟩
  · rw [if_neg h1]
    have h8 := hn_pos k
    obtain ⟨g, off, rfl, -⟩ := hr.2.2.2.2 (by omega)
    by_cases h2 : sf (rdz k zs) (zs.length - hn k) ≠ 0
    · rw [if_pos h2]
      exact (dec_encbad k over g off len cap zs w hr hk ho (by omega) (by omega) hcl hcm (by rw [← hl]; exact h2)).mono fun e w' ⟨e1, e2⟩ => ⟨none, 0, 0, e1, gt_no _, e2⟩
    · rw [if_neg h2]
      have h2' : sf (rdz k zs) (len - hn k) = 0 := by rw [← hl]; exact Classical.not_not.1 h2
      by_cases h3 : (eb (rdz k zs) over (zs.drop (hn k))).take (cn k) = zs.take (cn k) ∧ (eb (rdz k zs) over (zs.drop (hn k))).drop (cn k + 2) = zs.drop (cn k + 2)
      · rw [if_neg (fun h => h h3)]
        by_cases h4 : eb (rdz k zs) over (zs.drop (hn k)) = zs
        · rw [if_neg (fun h => h h4)]
          refine (dec_raw k over g off len cap zs w hr hk ho (by omega) (by omega) hcl hcm h2' true true ⟨fun _ => rfl, fun _ => h3⟩ ⟨fun _ => rfl, fun _ => h4⟩).mono ?_
          rintro e w' ⟨h | h | ⟨_, _, a', c', e1, e2⟩, hb⟩
          · cases h.1
          · cases h.2.1
          · exact ⟨a', _, c', e1, e2, hb⟩
        · rw [if_pos h4]
          refine (dec_raw k over g off len cap zs w hr hk ho (by omega) (by omega) hcl hcm h2' true false ⟨fun _ => rfl, fun _ => h3⟩ ⟨fun h => absurd h h4, fun h => by cases h⟩).mono ?_
          rintro e w' ⟨h | ⟨_, _, e1⟩ | h, hb⟩
          · cases h.1
          · exact ⟨none, 0, 0, e1, gt_no _, hb⟩
          · cases h.2.1
      · rw [if_pos h3]
        refine (dec_raw k over g off len cap zs w hr hk ho (by omega) (by omega) hcl hcm h2' false (decide (eb (rdz k zs) over (zs.drop (hn k)) = zs)) ⟨fun h => absurd h h3, fun h => by cases h⟩ (by rw [decide_eq_true_eq])).mono ?_
        rintro e w' ⟨⟨_, e1⟩ | h | h, hb⟩
        · exact ⟨none, 0, 0, e1, gt_no _, hb⟩
        · cases h.1
        · cases h.1
theorem sdo_ok {k over : Int} {zs : List Int} (h : (sdo k over zs).1 = 0) : Okg (sdo k over zs).2.1 (sdo k over zs).2.2.length ∧ el (sdo k over zs).2.1 0 = k ∧ eb (sdo k over zs).2.1 over (sdo k over zs).2.2 = zs := by
  unfold sdo at h ⊢
  split at h
  · cases h
  · split at h
    · cases h
    · split at h
      · cases h
      · split at h
        · cases h
        · rename_i h1 h2 h3 h4
          rw [if_neg h1, if_neg h2, if_neg h3, if_neg h4]
          refine ⟨(sf_iff _ _).1 ?_, ?_, Classical.not_not.1 h4⟩
          · rw [List.length_drop]
            exact Classical.not_not.1 h2
          · unfold rdz
            split <;> rfl
theorem sdo_eb {z D : List Int} (over : Int) (h : Okg z D.length) : ∃ z', sdo (el z 0) over (eb z over D) = (0, z', D) ∧ ∀ j, j < 7 → el z' j = el z j := by
  have hz := fun j hj => rd_eb z over D h j hj
  have hd := drop_eb z over D h
  have he := eb_congr _ _ hz over D
  refine ⟨rdz (el z 0) (eb z over D), ?_, hz⟩
  have hl := h.2.2.1
  unfold sdo
  rw [eb_len, hd, he, if_neg (by omega), if_neg (by rw [Nat.add_sub_cancel_left, sf_congr _ _ hz, (sf_iff _ _).2 h]; simp), if_neg (by simp), if_neg (by simp)]
set_option maxRecDepth 100000 in
set_option maxHeartbeats 2000000 in
theorem size_ok (z : List Int) (a : Option Addr) (len cap : Nat) (w : World) (h : Okg z len) :
    Calls Tryz.prog 126 #[.agg (sgC z a len cap)] w fun e w' => e = .returned (.tuple #[.int .i64 ((hn (el z 0) : Nat) + (len : Int)), .nilIface]) ∧ Below w.heap.size w w' := by
  have hl := h.2.2.1
  have HC := hide (fun W => chk_any z a len cap W (by unfold maxLen; omega))
  rw [(sf_iff _ _).2 h, show ev 0 = .nilIface from rfl] at HC
  have HB := hide (al_below w (.cells (sgC z a len cap) 39))
  have HP := hide (sg_new w z a len cap)
  have HH := hide (fun W => head_any (el z 0) W)
  have h20 := hn_le (el z 0)
  generalize hn (el z 0) = H at HH h20 ⊢
  have HE := hide h
  clear h
  go_enter Tryz.func126, Tryz.ntmps126
  go_upto_region 1 with fail
  generalize w.alloc (.cells (sgC z a len cap) 39) = W at HB HP ⊢
  go_upto_region 4 with (first
    | (refine at_load rfl (.tmp 1) rfl rfl HP.out ?_)
    | (go_at_call 140; refine (HC.out _).mono ?_; rintro e w1 ⟨rfl, hb1⟩; replace HB := hide (bt HB.out hb1); replace HP := hide (HP.out.kept hb1); clear hb1))
  have l0 := HP.out.c0
  have l7 := HP.out.c7
  have HBn := hide (fun n => bt HB.out (show Below _ _ (World.drewN _ n) from ⟨rfl, rfl, rfl, Nat.le_refl _, fun _ _ => rfl⟩))
  go_quiet (first | (go_at_call 179; refine Calls.quiet_of_same (HH.out _)))
  go_wp2
  go_ret2
  exact ⟨rfl, HBn.out _⟩
end Go.Proofs.YtkhahbghmdccaaaGreatDoor

namespace Go.Proofs.YtkhahbghmdccaaaGreatDoor
open Go.RowKit
def oso (k over steps : Int) (zs : List Int) : Int × List Int × List Int :=
  if kn k = false then (2, [], []) else if (sdo k over zs).1 ≠ 0 then ((sdo k over zs).1, [], []) else if steps < 2 then (7, [], []) else sdo k over zs
set_option maxRecDepth 100000 in
set_option maxHeartbeats 4000000 in
theorem openseg_any (k over steps : Int) (a : Option Addr) (len cap : Nat) (zs : List Int) (w : World) (hr : Row8 w a len cap zs) (hcl : len ≤ cap) (hcm : cap ≤ maxLen) (ho : up 65535 over = true) :
    Calls Tryz.prog 117 #[.int .i64 k, .slice a len cap, .int .i64 over, .int .i64 steps] w fun e w' => ∃ a' l c, e = .returned (.tuple #[.agg (sgC (oso k over steps zs).2.1 a' l c), ev (oso k over steps zs).1]) ∧ Row8 w' a' l c (oso k over steps zs).2.2 ∧ Below w.heap.size w w' := by
  have HP := hide (zero_new w)
  have HB := hide (al_below w (.cells zero7 39))
  unfold zero7 at HP HB
  by_cases hk : kn k = true
  · have HD := hide (fun W (hb : Below w.heap.size w W) => sdec_any k over a len cap zs W (hr.below hb) hcl hcm hk ho)
    have hO : oso k over steps zs = if (sdo k over zs).1 ≠ 0 then ((sdo k over zs).1, [], []) else if steps < 2 then (7, [], []) else sdo k over zs := if_neg (by rw [hk]; decide)
    rw [hO]
    clear hO hr ho hcl hcm
    generalize sdo k over zs = O at HD ⊢
    have HZ := hide (fun W => zero_new W)
    unfold zero7 at HZ
    by_cases hE : O.1 = 0
    · rw [if_neg (fun h => h hE)]
      rw [hE, ev_nil] at HD
      by_cases hs : steps < 2
      · rw [if_pos hs]
        rcases (kn_iff k).1 hk with rfl | rfl
        all_goals
          clear hk
          go_enter Tryz.func117, Tryz.ntmps117
          go_upto_region 1 with fail
          generalize w.alloc _ = W at HP HB ⊢
          go_upto_region 4 with (first
            | (go_at_call 137; refine (HD.out _ HB.out).mono ?_; rintro e w1 ⟨a1, l1, c1, rfl, r1, hb1⟩; replace HP := hide (HP.out.kept hb1); replace HB := hide (bt HB.out hb1); have HZ1 := hide (HZ.out w1); clear hb1 r1)
            | (refine at_store rfl (.tmp 10) (.tmp 25) rfl rfl HZ1.out O.2.1 a1 l1 c1 rfl ?_; intro w2 p2 on2; replace HP := hide (HP.out.kept (new_below _ on2)); replace HB := hide (bt HB.out (new_below _ on2)); clear on2 p2))
          go_wp2_with (refine at_store rfl (.tmp 8) (.tmp 33) rfl rfl HP.out [] none 0 0 rfl ?_; intro w5 p5 on5; have HB5 := hide (on5.below HB.out (Nat.le_refl _)); replace p5 := hide p5; clear on5)
          try simp only [Exit.inBlock, Exit.then]
          refine bodyPost_ret (results_sg rfl _ _ w.heap.size [] none 0 0 rfl p5.out) rfl ?_
          exact ⟨none, 0, 0, rfl, gt_no _, HB5.out⟩
      · rw [if_neg hs, hE, ev_nil]
        rcases (kn_iff k).1 hk with rfl | rfl
        all_goals
          clear hk
          go_enter Tryz.func117, Tryz.ntmps117
          go_upto_region 1 with fail
          generalize w.alloc _ = W at HP HB ⊢
          go_upto_region 4 with (first
            | (go_at_call 137; refine (HD.out _ HB.out).mono ?_; rintro e w1 ⟨a1, l1, c1, rfl, r1, hb1⟩; replace HP := hide (HP.out.kept hb1); replace HB := hide (bt HB.out hb1); have HZ1 := hide (HZ.out w1); replace r1 := hide r1; clear hb1)
            | (refine at_store rfl (.tmp 10) (.tmp 25) rfl rfl HZ1.out O.2.1 a1 l1 c1 rfl ?_; intro w2 p2 on2; replace HP := hide (HP.out.kept (new_below _ on2)); replace HB := hide (bt HB.out (new_below _ on2)); replace r1 := hide (r1.out.below (new_below _ on2)); replace p2 := hide p2; clear on2))
          go_wp2_with (first
            | (refine at_load rfl (.tmp 10) rfl rfl p2.out ?_)
            | (refine at_store rfl (.tmp 8) (.tmp 35) rfl rfl HP.out O.2.1 a1 l1 c1 rfl ?_; intro w5 p5 on5; have HB5 := hide (on5.below HB.out (Nat.le_refl _)); have r5 := hide (r1.out.past HP.out on5); replace p5 := hide p5; clear on5))
          try simp only [Exit.inBlock, Exit.then]
          refine bodyPost_ret (results_sg rfl _ _ w.heap.size O.2.1 a1 l1 c1 rfl p5.out) rfl ?_
          exact ⟨a1, l1, c1, rfl, r5.out, HB5.out⟩
    · rw [if_pos hE]
      rw [ev_err hE] at HD ⊢
      unfold err at HD ⊢
      rcases (kn_iff k).1 hk with rfl | rfl
      all_goals
        clear hk
        go_enter Tryz.func117, Tryz.ntmps117
        go_upto_region 1 with fail
        generalize w.alloc _ = W at HP HB ⊢
        go_upto_region 4 with (first
          | (go_at_call 137; refine (HD.out _ HB.out).mono ?_; rintro e w1 ⟨a1, l1, c1, rfl, r1, hb1⟩; replace HP := hide (HP.out.kept hb1); replace HB := hide (bt HB.out hb1); have HZ1 := hide (HZ.out w1); clear hb1 r1)
          | (refine at_store rfl (.tmp 10) (.tmp 25) rfl rfl HZ1.out O.2.1 a1 l1 c1 rfl ?_; intro w2 p2 on2; replace HP := hide (HP.out.kept (new_below _ on2)); replace HB := hide (bt HB.out (new_below _ on2)); clear on2 p2))
        go_wp2_with (refine at_store rfl (.tmp 8) (.tmp 29) rfl rfl HP.out [] none 0 0 rfl ?_; intro w5 p5 on5; have HB5 := hide (on5.below HB.out (Nat.le_refl _)); replace p5 := hide p5; clear on5)
        try simp only [Exit.inBlock, Exit.then]
        refine bodyPost_ret (results_sg rfl _ _ w.heap.size [] none 0 0 rfl p5.out) rfl ?_
        exact ⟨none, 0, 0, rfl, gt_no _, HB5.out⟩
  · have hk0 : kn k = false := by simpa using hk
    have hO : oso k over steps zs = (2, [], []) := if_pos hk0
    rw [hO]
    have h6 : (k != 6) = true := by simp only [kn, Bool.or_eq_false_iff] at hk0; simpa using hk0.1
    have h17 : (k != 17) = true := by simp only [kn, Bool.or_eq_false_iff] at hk0; simpa using hk0.2
    clear hk hk0 hO hr hcl hcm ho
    go_enter Tryz.func117, Tryz.ntmps117
    go_upto_region 1 with fail
    generalize w.alloc _ = W at HP HB ⊢
    go_wp2_with (refine at_store rfl (.tmp 8) (.tmp 18) rfl rfl HP.out [] none 0 0 rfl ?_; intro w5 p5 on5; have HB5 := hide (on5.below HB.out (Nat.le_refl _)); replace p5 := hide p5; clear on5)
    try simp only [Exit.inBlock, Exit.then]
    refine bodyPost_ret (results_sg rfl _ _ w.heap.size [] none 0 0 rfl p5.out) rfl ?_
    exact ⟨none, 0, 0, rfl, gt_no _, HB5.out⟩
end Go.Proofs.YtkhahbghmdccaaaGreatDoor

namespace Go.Proofs.YtkhahbghmdccaaaGreatDoor
open Go.RowKit
def gtC (c : List Int) (inj : Bool) (a : Option Addr) (n cap : Nat) (tv : Value) (S : Nat) (now : Int) : Array Value := #[.int .i64 (el c 0), .int .i64 (el c 1), .int .i64 (el c 2), .int .i64 (el c 3), .int .i64 (el c 4), .int .i64 (el c 5), .int .i64 (el c 6), .int .i64 (el c 7), .int .i64 (el c 8), .int .i64 (el c 9), .int .i64 (el c 10), .int .i64 (el c 11), .int .i64 (el c 12), .int .i64 (el c 13), .int .i64 (el c 14), .int .i64 (el c 15), .int .i64 (el c 16), .int .i64 (el c 17), .int .i64 (el c 18), .int .i64 (el c 19), .int .i64 (el c 20), .bool inj, .slice a n cap, tv, .map (some S), .int .i64 now]
def cfC (c : List Int) (inj : Bool) (a : Option Addr) (n cap : Nat) : Array Value := #[.int .i64 (el c 0), .int .i64 (el c 1), .int .i64 (el c 2), .int .i64 (el c 3), .int .i64 (el c 4), .int .i64 (el c 5), .int .i64 (el c 6), .int .i64 (el c 7), .int .i64 (el c 8), .int .i64 (el c 9), .int .i64 (el c 10), .int .i64 (el c 11), .int .i64 (el c 12), .int .i64 (el c 13), .int .i64 (el c 14), .int .i64 (el c 15), .int .i64 (el c 16), .int .i64 (el c 17), .int .i64 (el c 18), .int .i64 (el c 19), .int .i64 (el c 20), .bool inj, .slice a n cap]
def vip (c : List Int) : List Int := [el c 0, el c 1, el c 2, el c 3, el c 4, el c 5, el c 6, el c 7]
def pfx (c : List Int) : List Int := [el c 9, el c 10, el c 11, el c 12, el c 13, el c 14, el c 15, el c 16]
def GtIn (G : Nat) (c : List Int) (inj : Bool) (a : Option Addr) (n cap : Nat) (tv : Value) (S : Nat) (now : Int) (w : World) : Prop := w.heap[G]? = some (.cells (gtC c inj a n cap tv S now) 98 (0, 0))
theorem GtIn.lt {G : Nat} {c : List Int} {inj : Bool} {a : Option Addr} {n cap : Nat} {tv : Value} {S : Nat} {now : Int} {w : World} (p : GtIn G c inj a n cap tv S now w) : G < w.heap.size := (Array.getElem?_eq_some_iff.1 p).1
theorem GtIn.same {G : Nat} {c : List Int} {inj : Bool} {a : Option Addr} {n cap : Nat} {tv : Value} {S : Nat} {now : Int} {w w' : World} (p : GtIn G c inj a n cap tv S now w) (e : w'.heap[G]? = w.heap[G]?) : GtIn G c inj a n cap tv S now w' := e.trans p
theorem GtIn.kept {G : Nat} {c : List Int} {inj : Bool} {a : Option Addr} {n cap : Nat} {tv : Value} {S : Nat} {now : Int} {w w' : World} (p : GtIn G c inj a n cap tv S now w) (hb : Below w.heap.size w w') : GtIn G c inj a n cap tv S now w' := p.same (hb.block G p.lt)
theorem GtIn.cellAt {G : Nat} {c : List Int} {inj : Bool} {a : Option Addr} {n cap : Nat} {tv : Value} {S : Nat} {now : Int} {w : World} (p : GtIn G c inj a n cap tv S now w) (j : Nat) : w.cell? ⟨G, j, none⟩ = (gtC c inj a n cap tv S now)[j]? := cell_of_row w G j _ _ _ p
theorem GtIn.door {G : Nat} {c : List Int} {inj : Bool} {a : Option Addr} {n cap : Nat} {tv : Value} {S : Nat} {now : Int} {w : World} (p : GtIn G c inj a n cap tv S now w) : w.cell? ⟨G, 8, none⟩ = some (.int .i64 (el c 8)) := p.cellAt 8
theorem GtIn.len {G : Nat} {c : List Int} {inj : Bool} {a : Option Addr} {n cap : Nat} {tv : Value} {S : Nat} {now : Int} {w : World} (p : GtIn G c inj a n cap tv S now w) : w.cell? ⟨G, 17, none⟩ = some (.int .i64 (el c 17)) := p.cellAt 17
theorem GtIn.near {G : Nat} {c : List Int} {inj : Bool} {a : Option Addr} {n cap : Nat} {tv : Value} {S : Nat} {now : Int} {w : World} (p : GtIn G c inj a n cap tv S now w) : w.cell? ⟨G, 18, none⟩ = some (.int .i64 (el c 18)) := p.cellAt 18
theorem GtIn.seed {G : Nat} {c : List Int} {inj : Bool} {a : Option Addr} {n cap : Nat} {tv : Value} {S : Nat} {now : Int} {w : World} (p : GtIn G c inj a n cap tv S now w) : w.cell? ⟨G, 19, none⟩ = some (.int .i64 (el c 19)) := p.cellAt 19
theorem GtIn.inj {G : Nat} {c : List Int} {inj : Bool} {a : Option Addr} {n cap : Nat} {tv : Value} {S : Nat} {now : Int} {w : World} (p : GtIn G c inj a n cap tv S now w) : w.cell? ⟨G, 21, none⟩ = some (.bool inj) := p.cellAt 21
theorem GtIn.backs {G : Nat} {c : List Int} {inj : Bool} {a : Option Addr} {n cap : Nat} {tv : Value} {S : Nat} {now : Int} {w : World} (p : GtIn G c inj a n cap tv S now w) : w.cell? ⟨G, 22, none⟩ = some (.slice a n cap) := p.cellAt 22
theorem GtIn.table {G : Nat} {c : List Int} {inj : Bool} {a : Option Addr} {n cap : Nat} {tv : Value} {S : Nat} {now : Int} {w : World} (p : GtIn G c inj a n cap tv S now w) : w.cell? ⟨G, 23, none⟩ = some tv := p.cellAt 23
theorem GtIn.streams {G : Nat} {c : List Int} {inj : Bool} {a : Option Addr} {n cap : Nat} {tv : Value} {S : Nat} {now : Int} {w : World} (p : GtIn G c inj a n cap tv S now w) : w.cell? ⟨G, 24, none⟩ = some (.map (some S)) := p.cellAt 24
theorem GtIn.now {G : Nat} {c : List Int} {inj : Bool} {a : Option Addr} {n cap : Nat} {tv : Value} {S : Nat} {now : Int} {w : World} (p : GtIn G c inj a n cap tv S now w) : w.cell? ⟨G, 25, none⟩ = some (.int .i64 now) := p.cellAt 25
theorem GtIn.frz {G : Nat} {c : List Int} {inj : Bool} {a : Option Addr} {n cap : Nat} {tv : Value} {S : Nat} {now : Int} {w : World} (p : GtIn G c inj a n cap tv S now w) (j : Nat) : w.frozen? ⟨G, j, none⟩ = false := by
  unfold GtIn at p
  simp [World.frozen?, p]
theorem GtIn.set25 {G : Nat} {c : List Int} {inj : Bool} {a : Option Addr} {n cap : Nat} {tv : Value} {S : Nat} {now : Int} {w : World} (p : GtIn G c inj a n cap tv S now w) (t : Int) : GtIn G c inj a n cap tv S t (w.setCell ⟨G, 25, none⟩ (.int .i64 t)) ∧ Only G w (w.setCell ⟨G, 25, none⟩ (.int .i64 t)) := by
  rw [setCell_eq_setRow w G 25 _ _ (0, 0) _ p]
  exact ⟨setRow_heap w G _ _ _ (0, 0) p, only_setRow _ _ _⟩
theorem GtIn.hv {G : Nat} {c : List Int} {inj : Bool} {a : Option Addr} {n cap : Nat} {tv : Value} {S : Nat} {now : Int} {w : World} (p : GtIn G c inj a n cap tv S now w) : (hload (.pointer (some ⟨G, 0, none⟩))).run Tryz.prog w = .ok (.agg (sixC (vip c))) w :=
  run_loadAt_mid w G 0 23 _ _ (fun j v hv => by
    have hj : j < 8 := (List.getElem?_eq_some_iff.1 hv).1
    rw [Nat.zero_add, p.cellAt]
    rcases (by omega : j = 0 ∨ j = 1 ∨ j = 2 ∨ j = 3 ∨ j = 4 ∨ j = 5 ∨ j = 6 ∨ j = 7) with rfl | rfl | rfl | rfl | rfl | rfl | rfl | rfl <;> exact hv) Tryz.underlying23 rfl (by kernel_rfl)
theorem GtIn.hp {G : Nat} {c : List Int} {inj : Bool} {a : Option Addr} {n cap : Nat} {tv : Value} {S : Nat} {now : Int} {w : World} (p : GtIn G c inj a n cap tv S now w) : (hload (.pointer (some ⟨G, 9, none⟩))).run Tryz.prog w = .ok (.agg (sixC (pfx c))) w :=
  run_loadAt_mid w G 9 23 _ _ (fun j v hv => by
    have hj : j < 8 := (List.getElem?_eq_some_iff.1 hv).1
    rw [p.cellAt]
    rcases (by omega : j = 0 ∨ j = 1 ∨ j = 2 ∨ j = 3 ∨ j = 4 ∨ j = 5 ∨ j = 6 ∨ j = 7) with rfl | rfl | rfl | rfl | rfl | rfl | rfl | rfl <;> exact hv) Tryz.underlying23 rfl (by kernel_rfl)
def NB (O : Nat → Prop) (w : World) : Prop := ∀ g, O g → ∀ j x, w.cell? ⟨g, j, none⟩ ≠ some (.int .u8 x)
theorem Row8.fr {O : Nat → Prop} {w w' : World} {a : Option Addr} {n c : Nat} {zs : List Int} (r : Row8 w a n c zs) (f : Fr O w w') (nb : NB O w) : Row8 w' a n c zs := by
  refine ⟨r.1, r.2.1, r.2.2.1, r.2.2.2.1, fun hp => ?_⟩
  obtain ⟨g, off, e, hc⟩ := r.2.2.2.2 hp
  refine ⟨g, off, e, fun i hi => ?_⟩
  have h := hc i hi
  rw [← h]
  exact World.cell?_of_block (f.2.2.2.2 g (cell_lt h) (fun ho => nb g ho _ _ h))
theorem ST.fr {T : TypeId} {B : Nat} {hd : List Int} {s : Int} {b h : Bool} {O : Nat → Prop} {w w' : World} (p : ST T B hd s b h w) (f : Fr O w w') (nb : NB O w) (hB : ¬ O B) : ST T B hd s b h w' := by
  obtain ⟨a, n, c, p1, p2, p3⟩ := p
  exact ⟨a, n, c, (f.2.2.2.2 B p1.lt hB).trans p1, p2.fr f nb, p3⟩
theorem nb_map {b : Nat} {es : Array MapEntry} {k : Nat} {w : World} (h : w.heap[b]? = some (.map es k)) (j : Nat) (x : Value) : w.cell? ⟨b, j, none⟩ ≠ some x := by
  simp [World.cell?, h]
theorem MP.nb {S : Value → Prop} {b : Nat} {l : List (Value × Value)} {w : World} (h : MP S b l w) (j : Nat) (x : Value) : w.cell? ⟨b, j, none⟩ ≠ some x := by
  obtain ⟨es, k, h1, _⟩ := h
  exact nb_map h1 j x
def nob8 (cs : Array Value) : Prop := ∀ (j : Nat) (x : Int), cs[j]? ≠ some (.int .u8 x)
theorem nb_row {w : World} {g : Nat} {cs : Array Value} {t : TypeId} (h : w.heap[g]? = some (.cells cs t (0, 0))) (hn : nob8 cs) (j : Nat) (x : Int) : w.cell? ⟨g, j, none⟩ ≠ some (.int .u8 x) := by
  rw [cell_of_row w g j _ _ _ h]
  exact hn j x
theorem gt_nob (c : List Int) (inj : Bool) (a : Option Addr) (n cap : Nat) (T : Nat) (S : Nat) (now : Int) : nob8 (gtC c inj a n cap (.pointer (some ⟨T, 0, none⟩)) S now) := by
  intro j x h
  by_cases hj : j < 26
  · rcases (by omega : j = 0 ∨ j = 1 ∨ j = 2 ∨ j = 3 ∨ j = 4 ∨ j = 5 ∨ j = 6 ∨ j = 7 ∨ j = 8 ∨ j = 9 ∨ j = 10 ∨ j = 11 ∨ j = 12 ∨ j = 13 ∨ j = 14 ∨ j = 15 ∨ j = 16 ∨ j = 17 ∨ j = 18 ∨ j = 19 ∨ j = 20 ∨ j = 21 ∨ j = 22 ∨ j = 23 ∨ j = 24 ∨ j = 25) with rfl | rfl | rfl | rfl | rfl | rfl | rfl | rfl | rfl | rfl | rfl | rfl | rfl | rfl | rfl | rfl | rfl | rfl | rfl | rfl | rfl | rfl | rfl | rfl | rfl | rfl <;> cases h
  · rw [Array.getElem?_eq_none (by show 26 ≤ j; omega)] at h
    cases h
theorem brow_nob {cs : Array Value} {m : Nat} {ow : Nat → List Int} {ts : Nat → Bool} (e2 : cs.size = 16 * m) (e3 : ∀ k, k < m → ∀ j, j < 8 → cs[16 * k + j]? = some (.int .i64 (el (ow k) j)) ∧ cs[16 * k + 8 + j]? = some (.bool (ts (8 * k + j)))) : nob8 cs := by
  intro j x h
  by_cases hj : j < 16 * m
  · have hk : j / 16 < m := by omega
    by_cases h8 : j % 16 < 8
    · have h1 := (e3 (j / 16) hk (j % 16) h8).1
      rw [show 16 * (j / 16) + j % 16 = j by omega, h] at h1
      cases h1
    · have h1 := (e3 (j / 16) hk (j % 16 - 8) (by omega)).2
      rw [show 16 * (j / 16) + 8 + (j % 16 - 8) = j by omega, h] at h1
      cases h1
  · rw [Array.getElem?_eq_none (by omega)] at h
    cases h
theorem TB.nb {v : Value} {m : Nat} {ws : Nat → List Int} {ts : Nat → Bool} {bs : List (List Int)} {O : Nat → Prop} {w : World} (h : TB v m ws ts bs O w) : NB O w := by
  obtain ⟨T, P, BB, F, N, ow, rfl, ⟨h1, ⟨h2, h3⟩, h4, h5, h6⟩, _, rfl⟩ := h
  intro g hg j x
  rcases hg with rfl | rfl | rfl | rfl | rfl
  · refine nb_row h1 ?_ j x
    intro j x h
    match j with
    | 0 => cases h
    | 1 => cases h
    | 2 => cases h
    | j + 3 => simp at h
  · refine nb_row h2 ?_ j x
    intro j x h
    match j with
    | 0 => cases h
    | j + 1 => simp at h
  · obtain ⟨cs, e1, e2, e3⟩ := h3
    exact nb_row e1 (brow_nob e2 e3) j x
  · exact h4.nb j _
  · exact h5.nb j _
end Go.Proofs.YtkhahbghmdccaaaGreatDoor
