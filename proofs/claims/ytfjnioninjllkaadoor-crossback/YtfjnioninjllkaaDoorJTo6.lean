/- cross.To6 by contracts: one for each way out. cross.To6 of a packet that goes on. -/
import Derived.Test.YtfjnioninjllkaaDoorXTo4
import Derived.Test.YtfjnioninjllkaaDoorJV4c
import Derived.Test.YtfjnioninjllkaaDoorJV6
namespace Go.Proofs.YtfjnioninjllkaaDoor
open Go.RowKit

/-- what is handed in, and the packet that is handed out, in their blocks. -/
def T6 (w : World) (s d t k i : Int) (a : Option Addr) (len cap : Nat) (x y : List Int) (W : World) : Prop := V4.PkIn w.heap.size s d t k i a len cap W ∧ SixIn (w.heap.size + 1) x W ∧ SixIn (w.heap.size + 1 + 1) y W ∧ V6.PkIn (w.heap.size + 1 + 1 + 1) [] [] 0 0 none 0 0 W ∧ Below w.heap.size w W
theorem T6.kept {w : World} {s d t k i : Int} {a : Option Addr} {len cap : Nat} {x y : List Int} {W W' : World} (h : T6 w s d t k i a len cap x y W) (hb : Below W.heap.size W W') : T6 w s d t k i a len cap x y W' := ⟨h.1.kept hb, h.2.1.kept hb, h.2.2.1.kept hb, h.2.2.2.1.kept hb, bt h.2.2.2.2 hb⟩
def box4 (w : World) (s d t k i : Int) (a : Option Addr) (len cap : Nat) : World := w.alloc (.cells #[.int .i64 s, .int .i64 d, .int .i64 t, .int .i64 k, .int .i64 i, .slice a len cap] 28)
theorem T6.start (w : World) (s d t k i : Int) (a : Option Addr) (len cap : Nat) (x y : List Int) : T6 w s d t k i a len cap x y ((((box4 w s d t k i a len cap).alloc (.cells (sixC x) 23)).alloc (.cells (sixC y) 23)).alloc (.cells V6.zero6 26)) := by
  have s1 : (box4 w s d t k i a len cap).heap.size = w.heap.size + 1 := World.size_alloc _ _
  have b1 : Below w.heap.size w (box4 w s d t k i a len cap) := al_below w _
  have p1 : V4.PkIn w.heap.size s d t k i a len cap (box4 w s d t k i a len cap) := V4.pk_new w s d t k i a len cap
  generalize box4 w s d t k i a len cap = w1 at s1 b1 p1 ⊢
  have s2 : (w1.alloc (.cells (sixC x) 23)).heap.size = w.heap.size + 1 + 1 := by rw [World.size_alloc, s1]
  have b2 : Below w1.heap.size w1 (w1.alloc (.cells (sixC x) 23)) := al_below w1 _
  have p2 := six_al x w1
  rw [s1] at p2
  generalize w1.alloc (.cells (sixC x) 23) = w2 at s2 b2 p2 ⊢
  have s3 : (w2.alloc (.cells (sixC y) 23)).heap.size = w.heap.size + 1 + 1 + 1 := by rw [World.size_alloc, s2]
  have b3 : Below w2.heap.size w2 (w2.alloc (.cells (sixC y) 23)) := al_below w2 _
  have p3 := six_al y w2
  rw [s2] at p3
  generalize w2.alloc (.cells (sixC y) 23) = w3 at s3 b3 p3 ⊢
  have b4 : Below w3.heap.size w3 (w3.alloc (.cells V6.zero6 26)) := al_below w3 _
  have p4 := V6.zero_new w3
  rw [s3] at p4
  exact ⟨((p1.kept b2).kept b3).kept b4, (p2.kept b3).kept b4, p3.kept b4, p4, bt (bt (bt b1 b2) b3) b4⟩
theorem T6.put {w : World} {s d t k i : Int} {a : Option Addr} {len cap : Nat} {x y : List Int} {W W' : World} (h : T6 w s d t k i a len cap x y W) (on : Only (w.heap.size + 1 + 1 + 1) W W') : Below w.heap.size w W' := on.below h.2.2.2.2 (by omega)
def V6.pk0 : Value := V6.pk [] [] 0 0 none 0 0
theorem Row8.ne6 {B : Nat} {w : World} {g n c : Nat} {zs : List Int} {s d : List Int} {h k : Int} {a : Option Addr} {len cap : Nat} (r : Row8 w (some ⟨g, 0, none⟩) n c zs) (hp : 0 < n) (p : V6.PkIn B s d h k a len cap w) : g ≠ B := by
  rintro rfl
  obtain ⟨b, off, e, hc⟩ := r.2.2.2.2 hp
  injection e with e; injection e with e1 e2
  subst e1; subst e2
  have h1 := hc 0 hp
  have h2 := p.cellAt 0
  rw [Nat.zero_add] at h1
  rw [h1] at h2
  cases h2
/-- an address loaded, its numbers in the open. -/
theorem at_load6x {ops : Array Oper} {rest : List Oper} {o : Oper} {f : Act} {w : World} {Q : Exit → Act → World → Prop} (hgd : o.guard = none) (x : Operand) (ho : o.op = .load 23 x)
    {B : Nat} {z : List Int} (hx : f.eval x = .pointer (some ⟨B, 0, none⟩)) (p : SixIn B z w)
    (hK : wpList Tryd.prog ops Q rest (f.put o.dst (.agg #[.int .i64 (el z 0), .int .i64 (el z 1), .int .i64 (el z 2), .int .i64 (el z 3), .int .i64 (el z 4), .int .i64 (el z 5), .int .i64 (el z 6), .int .i64 (el z 7)])) w) : wpList Tryd.prog ops Q (o :: rest) f w := at_load6 hgd x ho hx p hK
theorem okp4_k {s d t k i : Int} (h : V4.Okp s d t k i) : up 255 k = true := decide_eq_true h.2.2.2.1
theorem okp4_s {s d t k i : Int} (h : V4.Okp s d t k i) : up 4294967295 s = true := decide_eq_true h.1
theorem okp4_d {s d t k i : Int} (h : V4.Okp s d t k i) : up 4294967295 d = true := decide_eq_true h.2.1
set_option maxRecDepth 100000 in
set_option maxHeartbeats 2000000 in
theorem to6_chk (s d t k i : Int) (a : Option Addr) (len cap : Nat) (x y : List Int) (w : World) (j : Int) (hC : ∀ W, Calls Tryd.prog 28 #[V4.pk s d t k i a len cap] W fun e w' => e = .returned (err j) ∧ Below W.heap.size W w') :
    Calls Tryd.prog 10 #[V4.pk s d t k i a len cap, .agg (sixC x), .agg (sixC y)] w fun e w' => e = .returned (.tuple #[V6.pk0, err j]) ∧ Below w.heap.size w w' := by
  have HV := hide (T6.start w s d t k i a len cap x y)
  unfold V6.zero6 box4 at HV
  replace hC := hide hC
  unfold V4.pk err at hC ⊢
  go_enter Tryd.func10, Tryd.ntmps10
  go_upto_region 1 with fail
  generalize (World.alloc (World.alloc (World.alloc _ _) _) _).alloc _ = W0 at HV ⊢
  go_upto_region 2 with (first
    | (refine V4.at_load rfl (.tmp 3) rfl rfl HV.out.1 ?_)
    | (go_at_call 28; refine (hC.out _).mono ?_; rintro e w1 ⟨rfl, hb1⟩; replace HV := hide (HV.out.kept hb1); clear hb1))
  go_wp2_with (refine V6.at_store rfl (.tmp 6) (.tmp 18) rfl rfl HV.out.2.2.2.1 [] [] 0 0 none 0 0 rfl ?_; intro w5 p5 on5; have HB := hide (HV.out.put on5); replace p5 := hide p5; clear on5 HV)
  try simp only [Exit.inBlock, Exit.then]
  refine bodyPost_ret (V6.results_pk rfl _ _ (w.heap.size + 1 + 1 + 1) [] [] 0 0 none 0 0 rfl p5.out) rfl ?_
  exact ⟨rfl, HB.out⟩
set_option maxRecDepth 100000 in
set_option maxHeartbeats 2000000 in
theorem to6_six (s d t k i : Int) (a : Option Addr) (len cap : Nat) (x y : List Int) (w : World) (ho : V4.Okp s d t k i) (hl : len ≤ 320) (hf : ¬ (Ok6 x ∧ Ok6 y)) :
    Calls Tryd.prog 10 #[V4.pk s d t k i a len cap, .agg (sixC x), .agg (sixC y)] w fun e w' => e = .returned (.tuple #[V6.pk0, err 1]) ∧ Below w.heap.size w w' := by
  have HV := hide (T6.start w s d t k i a len cap x y)
  unfold V6.zero6 box4 at HV
  have hC := hide (fun W => V4.check_ok s d t k i a len cap W ho hl)
  have hF := hide (fun W => over4_o s d k len W (okp4_s ho) (okp4_d ho) (okp4_k ho) (decide_eq_true (by omega)))
  have hS := hide (fun W => over6_bad x y k len W hf)
  unfold V4.pk at hC ⊢
  unfold err at hS ⊢
  generalize o4 s d k len = O4 at hF
  clear ho hf
  go_enter Tryd.func10, Tryd.ntmps10
  go_upto_region 1 with fail
  generalize (World.alloc (World.alloc (World.alloc _ _) _) _).alloc _ = W0 at HV ⊢
  go_upto_region 2 with (first
    | (refine V4.at_load rfl (.tmp 3) rfl rfl HV.out.1 ?_)
    | (go_at_call 28; refine (hC.out _).mono ?_; rintro e w1 ⟨rfl, hb1⟩; replace HV := hide (HV.out.kept hb1); clear hb1))
  obtain ⟨l0, l1, l2, l3, l4, l5⟩ := HV.out.1.all
  go_upto_region 6 with (go_at_call 21; refine (hF.out _).mono ?_; rintro e w2 ⟨rfl, hb2⟩; replace HV := hide (HV.out.kept hb2); clear hb2 l0 l1 l2 l3 l4 l5)
  obtain ⟨l0, l1, l2, l3, l4, l5⟩ := HV.out.1.all
  go_upto_region 9 with (first
    | (refine at_load6 rfl (.tmp 4) rfl rfl HV.out.2.1 ?_)
    | (refine at_load6 rfl (.tmp 5) rfl rfl HV.out.2.2.1 ?_)
    | (go_at_call 12; refine (hS.out _).mono ?_; rintro e w3 ⟨rfl, hb3⟩; replace HV := hide (HV.out.kept hb3); clear hb3 l0 l1 l2 l3 l4 l5))
  go_wp2_with (refine V6.at_store rfl (.tmp 6) (.tmp 49) rfl rfl HV.out.2.2.2.1 [] [] 0 0 none 0 0 rfl ?_; intro w5 p5 on5; have HB := hide (HV.out.put on5); replace p5 := hide p5; clear on5 HV)
  try simp only [Exit.inBlock, Exit.then]
  refine bodyPost_ret (V6.results_pk rfl _ _ (w.heap.size + 1 + 1 + 1) [] [] 0 0 none 0 0 rfl p5.out) rfl ?_
  exact ⟨rfl, HB.out⟩
set_option maxRecDepth 100000 in
set_option maxHeartbeats 2000000 in
theorem to6_und (s d t k i : Int) (a : Option Addr) (len cap : Nat) (x y : List Int) (w : World) (ho : V4.Okp s d t k i) (hl : len ≤ 320) (h1 : Ok6 x) (h2 : Ok6 y) (j : Int)
    (hU : ∀ W, Below w.heap.size w W → Calls Tryd.prog 22 #[.int .i64 k, .slice a len cap, .int .i64 (o4 s d k len), .int .i64 (o6 x y k len)] W fun e w' => e = .returned (.tuple #[.slice none 0 0, err j]) ∧ Below W.heap.size W w') :
    Calls Tryd.prog 10 #[V4.pk s d t k i a len cap, .agg (sixC x), .agg (sixC y)] w fun e w' => e = .returned (.tuple #[V6.pk0, err j]) ∧ Below w.heap.size w w' := by
  have HV := hide (T6.start w s d t k i a len cap x y)
  unfold V6.zero6 box4 at HV
  have hC := hide (fun W => V4.check_ok s d t k i a len cap W ho hl)
  have hF := hide (fun W => over4_o s d k len W (okp4_s ho) (okp4_d ho) (okp4_k ho) (decide_eq_true (by omega)))
  have hS := hide (fun W => over6_ok x y k len W h1 h2 (okp4_k ho) (decide_eq_true (by omega)))
  replace hU := hide hU
  unfold V4.pk at hC ⊢
  unfold err at hU ⊢
  generalize o4 s d k len = O4 at hF hU
  generalize o6 x y k len = O6 at hS hU
  clear ho h1 h2
  go_enter Tryd.func10, Tryd.ntmps10
  go_upto_region 1 with fail
  generalize (World.alloc (World.alloc (World.alloc _ _) _) _).alloc _ = W0 at HV ⊢
  go_upto_region 2 with (first
    | (refine V4.at_load rfl (.tmp 3) rfl rfl HV.out.1 ?_)
    | (go_at_call 28; refine (hC.out _).mono ?_; rintro e w1 ⟨rfl, hb1⟩; replace HV := hide (HV.out.kept hb1); clear hb1))
  obtain ⟨l0, l1, l2, l3, l4, l5⟩ := HV.out.1.all
  go_upto_region 6 with (go_at_call 21; refine (hF.out _).mono ?_; rintro e w2 ⟨rfl, hb2⟩; replace HV := hide (HV.out.kept hb2); clear hb2 l0 l1 l2 l3 l4 l5)
  obtain ⟨l0, l1, l2, l3, l4, l5⟩ := HV.out.1.all
  go_upto_region 9 with (first
    | (refine at_load6 rfl (.tmp 4) rfl rfl HV.out.2.1 ?_)
    | (refine at_load6 rfl (.tmp 5) rfl rfl HV.out.2.2.1 ?_)
    | (go_at_call 12; refine (hS.out _).mono ?_; rintro e w3 ⟨rfl, hb3⟩; replace HV := hide (HV.out.kept hb3); clear hb3 l0 l1 l2 l3 l4 l5))
  obtain ⟨l0, l1, l2, l3, l4, l5⟩ := HV.out.1.all
  go_upto_region 12 with (go_at_call 22; refine (hU.out _ HV.out.2.2.2.2).mono ?_; rintro e w4 ⟨rfl, hb4⟩; replace HV := hide (HV.out.kept hb4); clear hb4 l0 l1 l2 l3 l4 l5)
  go_wp2_with (refine V6.at_store rfl (.tmp 6) (.tmp 63) rfl rfl HV.out.2.2.2.1 [] [] 0 0 none 0 0 rfl ?_; intro w5 p5 on5; have HB := hide (HV.out.put on5); replace p5 := hide p5; clear on5 HV)
  try simp only [Exit.inBlock, Exit.then]
  refine bodyPost_ret (V6.results_pk rfl _ _ (w.heap.size + 1 + 1 + 1) [] [] 0 0 none 0 0 rfl p5.out) rfl ?_
  exact ⟨rfl, HB.out⟩
set_option maxRecDepth 100000 in
set_option maxHeartbeats 2000000 in
theorem to6_dead (s d t k i : Int) (a : Option Addr) (len cap : Nat) (x y : List Int) (w : World) (ho : V4.Okp s d t k i) (hl : len ≤ 320) (h1 : Ok6 x) (h2 : Ok6 y) (hd : t < 2) (Z : List Int) (n : Nat)
    (hU : ∀ W, Below w.heap.size w W → Calls Tryd.prog 22 #[.int .i64 k, .slice a len cap, .int .i64 (o4 s d k len), .int .i64 (o6 x y k len)] W fun e w' => ∃ g c, e = .returned (.tuple #[.slice (some ⟨g, 0, none⟩) n c, .nilIface]) ∧ n ≤ c ∧ c ≤ maxLen ∧ Row8 w' (some ⟨g, 0, none⟩) n c Z ∧ Below W.heap.size W w') :
    Calls Tryd.prog 10 #[V4.pk s d t k i a len cap, .agg (sixC x), .agg (sixC y)] w fun e w' => e = .returned (.tuple #[V6.pk0, err 7]) ∧ Below w.heap.size w w' := by
  have HV := hide (T6.start w s d t k i a len cap x y)
  unfold V6.zero6 box4 at HV
  have hC := hide (fun W => V4.check_ok s d t k i a len cap W ho hl)
  have hF := hide (fun W => over4_o s d k len W (okp4_s ho) (okp4_d ho) (okp4_k ho) (decide_eq_true (by omega)))
  have hS := hide (fun W => over6_ok x y k len W h1 h2 (okp4_k ho) (decide_eq_true (by omega)))
  replace hU := hide hU
  unfold V4.pk at hC ⊢
  unfold err
  generalize o4 s d k len = O4 at hF hU
  generalize o6 x y k len = O6 at hS hU
  clear ho h1 h2
  go_enter Tryd.func10, Tryd.ntmps10
  go_upto_region 1 with fail
  generalize (World.alloc (World.alloc (World.alloc _ _) _) _).alloc _ = W0 at HV ⊢
  go_upto_region 2 with (first
    | (refine V4.at_load rfl (.tmp 3) rfl rfl HV.out.1 ?_)
    | (go_at_call 28; refine (hC.out _).mono ?_; rintro e w1 ⟨rfl, hb1⟩; replace HV := hide (HV.out.kept hb1); clear hb1))
  obtain ⟨l0, l1, l2, l3, l4, l5⟩ := HV.out.1.all
  go_upto_region 6 with (go_at_call 21; refine (hF.out _).mono ?_; rintro e w2 ⟨rfl, hb2⟩; replace HV := hide (HV.out.kept hb2); clear hb2 l0 l1 l2 l3 l4 l5)
  obtain ⟨l0, l1, l2, l3, l4, l5⟩ := HV.out.1.all
  go_upto_region 9 with (first
    | (refine at_load6 rfl (.tmp 4) rfl rfl HV.out.2.1 ?_)
    | (refine at_load6 rfl (.tmp 5) rfl rfl HV.out.2.2.1 ?_)
    | (go_at_call 12; refine (hS.out _).mono ?_; rintro e w3 ⟨rfl, hb3⟩; replace HV := hide (HV.out.kept hb3); clear hb3 l0 l1 l2 l3 l4 l5))
  obtain ⟨l0, l1, l2, l3, l4, l5⟩ := HV.out.1.all
  go_upto_region 12 with (go_at_call 22; refine (hU.out _ HV.out.2.2.2.2).mono ?_; rintro e w4 ⟨g4, c4, rfl, -, -, -, hb4⟩; replace HV := hide (HV.out.kept hb4); clear hb4 l0 l1 l2 l3 l4 l5)
  obtain ⟨l0, l1, l2, l3, l4, l5⟩ := HV.out.1.all
  go_wp2_with (refine V6.at_store rfl (.tmp 6) (.tmp 68) rfl rfl HV.out.2.2.2.1 [] [] 0 0 none 0 0 rfl ?_; intro w5 p5 on5; have HB := hide (HV.out.put on5); replace p5 := hide p5; clear on5 HV)
  try simp only [Exit.inBlock, Exit.then]
  refine bodyPost_ret (V6.results_pk rfl _ _ (w.heap.size + 1 + 1 + 1) [] [] 0 0 none 0 0 rfl p5.out) rfl ?_
  exact ⟨rfl, HB.out⟩
end Go.Proofs.YtfjnioninjllkaaDoor

namespace Go.Proofs.YtfjnioninjllkaaDoor
open Go.RowKit

set_option maxRecDepth 100000 in
set_option maxHeartbeats 2000000 in
theorem to6_ok (s d t k i : Int) (a : Option Addr) (len cap : Nat) (x y : List Int) (w : World) (ho : V4.Okp s d t k i) (hl : len ≤ 320) (h1 : Ok6 x) (h2 : Ok6 y) (hd : 2 ≤ t) (Z : List Int) (n : Nat) (hn0 : 0 < n)
    (hU : ∀ W, Below w.heap.size w W → Calls Tryd.prog 22 #[.int .i64 k, .slice a len cap, .int .i64 (o4 s d k len), .int .i64 (o6 x y k len)] W fun e w' => ∃ g c, e = .returned (.tuple #[.slice (some ⟨g, 0, none⟩) n c, .nilIface]) ∧ n ≤ c ∧ c ≤ maxLen ∧ Row8 w' (some ⟨g, 0, none⟩) n c Z ∧ Below W.heap.size W w') :
    Calls Tryd.prog 10 #[V4.pk s d t k i a len cap, .agg (sixC x), .agg (sixC y)] w fun e w' => ∃ g c, e = .returned (.tuple #[V6.pk x y (t - 1) k (some ⟨g, 0, none⟩) n c, .nilIface]) ∧ n ≤ c ∧ c ≤ maxLen ∧ Row8 w' (some ⟨g, 0, none⟩) n c Z ∧ Below w.heap.size w w' := by
  have HV := hide (T6.start w s d t k i a len cap x y)
  unfold V6.zero6 box4 at HV
  have hC := hide (fun W => V4.check_ok s d t k i a len cap W ho hl)
  have hF := hide (fun W => over4_o s d k len W (okp4_s ho) (okp4_d ho) (okp4_k ho) (decide_eq_true (by omega)))
  have hS := hide (fun W => over6_ok x y k len W h1 h2 (okp4_k ho) (decide_eq_true (by omega)))
  replace hU := hide hU
  have ht2 : t ≤ 255 := ho.2.2.1.2
  unfold V4.pk at hC ⊢
  generalize o4 s d k len = O4 at hF hU
  generalize o6 x y k len = O6 at hS hU
  clear ho h1 h2
  go_enter Tryd.func10, Tryd.ntmps10
  go_upto_region 1 with fail
  generalize (World.alloc (World.alloc (World.alloc _ _) _) _).alloc _ = W0 at HV ⊢
  go_upto_region 2 with (first
    | (refine V4.at_load rfl (.tmp 3) rfl rfl HV.out.1 ?_)
    | (go_at_call 28; refine (hC.out _).mono ?_; rintro e w1 ⟨rfl, hb1⟩; replace HV := hide (HV.out.kept hb1); clear hb1))
  obtain ⟨l0, l1, l2, l3, l4, l5⟩ := HV.out.1.all
  go_upto_region 6 with (go_at_call 21; refine (hF.out _).mono ?_; rintro e w2 ⟨rfl, hb2⟩; replace HV := hide (HV.out.kept hb2); clear hb2 l0 l1 l2 l3 l4 l5)
  obtain ⟨l0, l1, l2, l3, l4, l5⟩ := HV.out.1.all
  go_upto_region 9 with (first
    | (refine at_load6 rfl (.tmp 4) rfl rfl HV.out.2.1 ?_)
    | (refine at_load6 rfl (.tmp 5) rfl rfl HV.out.2.2.1 ?_)
    | (go_at_call 12; refine (hS.out _).mono ?_; rintro e w3 ⟨rfl, hb3⟩; replace HV := hide (HV.out.kept hb3); clear hb3 l0 l1 l2 l3 l4 l5))
  obtain ⟨l0, l1, l2, l3, l4, l5⟩ := HV.out.1.all
  go_upto_region 12 with (go_at_call 22; refine (hU.out _ HV.out.2.2.2.2).mono ?_; rintro e w4 ⟨g4, c4, rfl, hc4, hm4, hr4, hb4⟩; replace HV := hide (HV.out.kept hb4); replace hr4 := hide hr4; replace hc4 := hide hc4; replace hm4 := hide hm4; clear hb4 l0 l1 l2 l3 l4 l5)
  obtain ⟨l0, l1, l2, l3, l4, l5⟩ := HV.out.1.all
  go_upto_region 16 with fail
  go_wp2_with (first
    | (refine at_load6x rfl (.tmp 4) rfl rfl HV.out.2.1 ?_)
    | (refine at_load6x rfl (.tmp 5) rfl rfl HV.out.2.2.1 ?_)
    | (refine V6.at_store rfl (.tmp 6) (.tmp 78) rfl rfl HV.out.2.2.2.1 x y (t - 1) k (some ⟨g4, 0, none⟩) n c4 rfl ?_; intro w5 p5 on5; have HB := hide (HV.out.put on5); replace p5 := hide p5; replace hr4 := hide (Row8.only on5 (hr4.out.ne6 hn0 HV.out.2.2.2.1) hr4.out); clear on5 HV))
  try simp only [Exit.inBlock, Exit.then]
  refine bodyPost_ret (V6.results_pk rfl _ _ (w.heap.size + 1 + 1 + 1) x y (t - 1) k (some ⟨g4, 0, none⟩) n c4 rfl p5.out) rfl ?_
  exact ⟨g4, c4, rfl, hc4.out, hm4.out, hr4.out, HB.out⟩
end Go.Proofs.YtfjnioninjllkaaDoor
