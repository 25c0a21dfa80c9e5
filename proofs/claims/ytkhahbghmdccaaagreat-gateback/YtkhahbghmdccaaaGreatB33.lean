/- The document's own Seg6 and Seg4, by contracts. -/
import Derived.Test.YtkhahbghmdccaaaGreatB06
import Derived.Test.YtkhahbghmdccaaaGreatB32
import Derived.Below
import Derived.OpenShut
import Derived.Test.YtkhahbghmdccaaaGreatProg
import Derived.WalkKit
import Derived.LaidEql
import Derived.BigQuiet
import Derived.Laws.AppendOwnNone
import Derived.Laws.MakeOwn
import Derived.Deep.RegionLaw
import Derived.Lib.Bytes
import Derived.Deep.MidRow
import Derived.Laws.ResultCell
import Derived.Deep.CutBlock
import Derived.Deep.QuietTactic
import Derived.OwnWalk
import Derived.Deep.RegionHeld3
import Derived.Deep.DrawnRows
namespace Go.Proofs.YtkhahbghmdccaaaGreat
open Go.RowKit
def Q6 (w : World) (s d : List Int) (h k : Int) (a : Option Addr) (len cap : Nat) (W : World) : Prop := V6.PkIn w.heap.size s d h k a len cap W ∧ SgIn (w.heap.size + 1) [] none 0 0 W ∧ Below w.heap.size w W
theorem Q6.kept {w : World} {s d : List Int} {h k : Int} {a : Option Addr} {len cap : Nat} {W W' : World} (t : Q6 w s d h k a len cap W) (hb : Below W.heap.size W W') : Q6 w s d h k a len cap W' := ⟨t.1.kept hb, t.2.1.kept hb, bt t.2.2 hb⟩
theorem Q6.start (w : World) (s d : List Int) (h k : Int) (a : Option Addr) (len cap : Nat) : Q6 w s d h k a len cap ((w.alloc (.cells (V6.pkC s d h k a len cap) 53)).alloc (.cells zero7 30)) := by
  have b1 := al_below w (.cells (V6.pkC s d h k a len cap) 53)
  have b2 := al_below (w.alloc (.cells (V6.pkC s d h k a len cap) 53)) (.cells zero7 30)
  have p2 := zero_new (w.alloc (.cells (V6.pkC s d h k a len cap) 53))
  rw [World.size_alloc] at p2
  exact ⟨(V6.pk_new w s d h k a len cap).kept b2, p2, bt b1 b2⟩
theorem Q6.put {w : World} {s d : List Int} {h k : Int} {a : Option Addr} {len cap : Nat} {W W' : World} (t : Q6 w s d h k a len cap W) (on : Only (w.heap.size + 1) W W') : Below w.heap.size w W' := on.below t.2.2 (Nat.le_succ _)
set_option maxRecDepth 100000 in
set_option maxHeartbeats 2000000 in
theorem seg6_any (s d : List Int) (h k : Int) (a : Option Addr) (len cap : Nat) (w : World) (hk : kn k = true) (ho : V6.Okp s d h k) (hl : len ≤ 320) (z D : List Int) (E : Int)
    (hS : ∀ W, Below w.heap.size w W → Calls Tryz.prog 64 #[.int .i64 k, .slice a len cap, .int .i64 (o6 s d k len)] W fun r W' => ∃ a1 l1 c1, r = .returned (.tuple #[.agg (sgC z a1 l1 c1), .int .i64 E]) ∧ Row8 W' a1 l1 c1 D ∧ Below W.heap.size W W') :
    Calls Tryz.prog 23 #[V6.pk s d h k a len cap] w fun r W' => ∃ a1 l1 c1, r = .returned (.tuple #[.agg (sgC z a1 l1 c1), .int .i64 E]) ∧ Row8 W' a1 l1 c1 D ∧ Below w.heap.size w W' := by
  have hk' := (kn_iff k).1 hk
  have HO := hide (fun W => rover6_ok s d k len W ho.1 ho.2.1 (decide_eq_true ho.2.2.2) (decide_eq_true (by omega)))
  replace hS := hide hS
  generalize o6 s d k len = O6 at HO hS
  clear hk ho
  have HV := hide (Q6.start w s d h k a len cap)
  unfold zero7 at HV
  unfold V6.pk
  rcases hk' with rfl | rfl
  all_goals
    go_enter Tryz.func23, Tryz.ntmps23
    go_upto_region 1 with fail
    generalize (World.alloc _ _).alloc _ = W0 at HV ⊢
    have l4 := HV.out.1.kind
    have l5 := HV.out.1.body
    go_upto_region 4 with (first
      | (refine V6.at_src rfl (.tmp 16) rfl rfl HV.out.1 ?_)
      | (refine V6.at_dst rfl (.tmp 18) rfl rfl HV.out.1 ?_)
      | (go_at_call 77; refine (HO.out _).mono ?_; rintro e w1 ⟨rfl, hb1⟩; replace HV := hide (HV.out.kept hb1); clear hb1 l4 l5))
    have l4 := HV.out.1.kind
    have l5 := HV.out.1.body
    go_wp2_with (first
      | (go_at_call 64; refine (hS.out _ HV.out.2.2).mono ?_; rintro e w2 ⟨a2, n2, c2, rfl, hr2, hb2⟩; replace HV := hide (HV.out.kept hb2); replace hr2 := hide hr2; clear hb2 l4 l5)
      | (refine at_store rfl (.tmp 2) (.tmp 34) rfl rfl HV.out.2.1 z a2 n2 c2 rfl ?_; intro w5 p5 on5; have HB := hide (HV.out.put on5); replace p5 := hide p5; replace hr2 := hide (Row8.pastx on5 HV.out.2.1.no8 hr2.out); clear on5 HV))
    try simp only [Exit.inBlock, Exit.then]
    refine bodyPost_ret (results_sg rfl _ _ (w.heap.size + 1) z a2 n2 c2 rfl p5.out) rfl ?_
    exact ⟨a2, n2, c2, rfl, hr2.out, HB.out⟩
def Q4 (w : World) (s d t k i : Int) (a : Option Addr) (len cap : Nat) (W : World) : Prop := V4.PkIn w.heap.size s d t k i a len cap W ∧ SgIn (w.heap.size + 1) [] none 0 0 W ∧ Below w.heap.size w W
theorem Q4.kept {w : World} {s d t k i : Int} {a : Option Addr} {len cap : Nat} {W W' : World} (h : Q4 w s d t k i a len cap W) (hb : Below W.heap.size W W') : Q4 w s d t k i a len cap W' := ⟨h.1.kept hb, h.2.1.kept hb, bt h.2.2 hb⟩
theorem Q4.start (w : World) (s d t k i : Int) (a : Option Addr) (len cap : Nat) : Q4 w s d t k i a len cap ((w.alloc (.cells #[.int .i64 s, .int .i64 d, .int .i64 t, .int .i64 k, .int .i64 i, .slice a len cap] 44)).alloc (.cells zero7 30)) := by
  have b1 := al_below w (.cells #[.int .i64 s, .int .i64 d, .int .i64 t, .int .i64 k, .int .i64 i, .slice a len cap] 44)
  have b2 := al_below (w.alloc (.cells #[.int .i64 s, .int .i64 d, .int .i64 t, .int .i64 k, .int .i64 i, .slice a len cap] 44)) (.cells zero7 30)
  have p2 := zero_new (w.alloc (.cells #[.int .i64 s, .int .i64 d, .int .i64 t, .int .i64 k, .int .i64 i, .slice a len cap] 44))
  rw [World.size_alloc] at p2
  exact ⟨(V4.pk_new w s d t k i a len cap).kept b2, p2, bt b1 b2⟩
theorem Q4.put {w : World} {s d t k i : Int} {a : Option Addr} {len cap : Nat} {W W' : World} (h : Q4 w s d t k i a len cap W) (on : Only (w.heap.size + 1) W W') : Below w.heap.size w W' := on.below h.2.2 (Nat.le_succ _)
set_option maxRecDepth 100000 in
set_option maxHeartbeats 2000000 in
theorem seg4_any (s d t k i : Int) (a : Option Addr) (len cap : Nat) (w : World) (hk : kn k = true) (ho : V4.Okp s d t k i) (hl : len ≤ 320) (z D : List Int) (E : Int)
    (hS : ∀ W, Below w.heap.size w W → Calls Tryz.prog 64 #[.int .i64 k, .slice a len cap, .int .i64 (o4 s d k len)] W fun r W' => ∃ a1 l1 c1, r = .returned (.tuple #[.agg (sgC z a1 l1 c1), .int .i64 E]) ∧ Row8 W' a1 l1 c1 D ∧ Below W.heap.size W W') :
    Calls Tryz.prog 18 #[V4.pk s d t k i a len cap] w fun r W' => ∃ a1 l1 c1, r = .returned (.tuple #[.agg (sgC z a1 l1 c1), .int .i64 E]) ∧ Row8 W' a1 l1 c1 D ∧ Below w.heap.size w W' := by
  have hk' := (kn_iff k).1 hk
  have HO := hide (fun W => rover4_o s d k len W (decide_eq_true ho.1) (decide_eq_true ho.2.1) (decide_eq_true ho.2.2.2.1) (decide_eq_true (by omega)))
  replace hS := hide hS
  generalize o4 s d k len = O4 at HO hS
  clear hk ho
  have HV := hide (Q4.start w s d t k i a len cap)
  unfold zero7 at HV
  unfold V4.pk
  rcases hk' with rfl | rfl
  all_goals
    go_enter Tryz.func18, Tryz.ntmps18
    go_upto_region 1 with fail
    generalize (World.alloc _ _).alloc _ = W0 at HV ⊢
    obtain ⟨l0, l1, l2, l3, l4, l5⟩ := HV.out.1.all
    go_upto_region 4 with (go_at_call 63; refine (HO.out _).mono ?_; rintro e w1 ⟨rfl, hb1⟩; replace HV := hide (HV.out.kept hb1); clear hb1 l0 l1 l2 l3 l4 l5)
    obtain ⟨l0, l1, l2, l3, l4, l5⟩ := HV.out.1.all
    go_wp2_with (first
      | (go_at_call 64; refine (hS.out _ HV.out.2.2).mono ?_; rintro e w2 ⟨a2, n2, c2, rfl, hr2, hb2⟩; replace HV := hide (HV.out.kept hb2); replace hr2 := hide hr2; clear hb2 l0 l1 l2 l3 l4 l5)
      | (refine at_store rfl (.tmp 2) (.tmp 34) rfl rfl HV.out.2.1 z a2 n2 c2 rfl ?_; intro w5 p5 on5; have HB := hide (HV.out.put on5); replace p5 := hide p5; replace hr2 := hide (Row8.pastx on5 HV.out.2.1.no8 hr2.out); clear on5 HV))
    try simp only [Exit.inBlock, Exit.then]
    refine bodyPost_ret (results_sg rfl _ _ (w.heap.size + 1) z a2 n2 c2 rfl p5.out) rfl ?_
    exact ⟨a2, n2, c2, rfl, hr2.out, HB.out⟩
end Go.Proofs.YtkhahbghmdccaaaGreat
