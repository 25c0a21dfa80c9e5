/- A segment to a four in the prefix: what a new gate makes of it, and of the answer. TopPlain, walked. TopPlain, walked: what goes there, and comes back. TopPlain, whatever comes. -/
import Derived.Test.YtkhahbghmdccaaaGreatP46
import Derived.Test.YtkhahbghmdccaaaGreatP47
import Derived.Below
import Derived.OpenShut
import Derived.Test.YtkhahbghmdccaaaGreatProg
import Derived.WalkKit
import Derived.LaidEql
import Derived.BigQuiet
import Derived.Laws.AppendOwnNone
import Derived.Laws.MakeOwn
import Derived.Deep.RegionLaw
import Derived.Lib.Bytes
import Derived.Deep.MidRow
import Derived.Laws.ResultCell
import Derived.Deep.CutBlock
import Derived.Deep.QuietTactic
import Derived.OwnWalk
import Derived.Deep.RegionHeld3
import Derived.Deep.DrawnRows
import Derived.Laws.StructEq
import Derived.Maps.AppendAt
import Derived.Maps.RangeWalk
import Derived.Stop.Asserts
import Derived.RowKitTokens
import Derived.Test.YtkhahbghmdccaaaGreatShelf
import Derived.Shelf.Abstract
import Derived.Lib.SliceRun
import Derived.Lib.AppendZerosOnto
import Derived.Lib.AppendZeros
import Derived.Laws.CopyOwn
import Derived.RangeFuncNested
import Derived.RangeFuncBound
import Derived.RangeFuncCalls
import Derived.RangeFuncLeaves
import Derived.RangeFuncFrom
import Derived.Shelf.RegionOpen
import Derived.OwnWalkIn
import Derived.TacticsInMore
import Derived.LoopNIn
import Derived.LoopIn
import Derived.Deep.RegionWith
import Derived.ArgAppend
import Derived.Lib.SlBytesConst
import Derived.Lib.AppendStr
import Derived.Test.YtkhahbghmdccaaaGreatP49
namespace Go.Proofs.YtkhahbghmdccaaaGreat
open Go.RowKit
open Em in
theorem Em.tz_in' (p : List Int) (q : Nat) (f : Int) (h : Ok6 p) : Em.inF (Em.tz p q f) p (8 * q) = true := by
  unfold inF
  rw [List.all_eq_true]
  intro j hj
  rw [List.mem_range] at hj
  rw [beq_iff_eq]
  have h1 := nb_in p q f h (2 * j) (by omega)
  have h2 := nb_in p q f h (2 * j + 1) (by omega)
  have b1 := byt_in p h (2 * j) (by omega)
  have b2 := byt_in p h (2 * j + 1) (by omega)
  unfold fel
  rw [el_tz p q f j hj, el_byt p j]
  unfold tw
  rcases (by omega : 2 * j + 2 ≤ q ∨ 2 * j + 1 = q ∨ q ≤ 2 * j) with e | e | e
  · rw [nb_old p q f (2 * j) (by omega), nb_old p q f (2 * j + 1) (by omega)]
  · rw [nb_old p q f (2 * j) (by omega)]
    rw [show shf (8 * q) j = 8 by unfold shf; omega, show (2 : Int) ^ 8 = 256 from rfl]
    omega
  · rw [show shf (8 * q) j = 16 by unfold shf; omega, show (2 : Int) ^ 16 = 65536 from rfl]
    omega
theorem tk_new (z : List Int) (n : Nat) (h : 0 < n) : tk (fun _ => []) (fun _ => false) z n = some 0 := by
  have h0 : (List.range n).find? (f0 (fun _ => []) (fun _ => false) z) = none := List.find?_eq_none.2 fun i _ => by simp [f0, om, pofo, show ∀ l : List Nat, l.find? (fun _ => false) = none from fun l => List.find?_eq_none.2 (fun _ _ => by simp), ome]
  have h1 : (List.range n).find? (f1 (fun _ => false)) = some 0 := by
    obtain ⟨k, rfl⟩ : ∃ k, n = k + 1 := ⟨n - 1, by omega⟩
    rw [List.range_succ_eq_map, List.find?_cons_of_pos (by simp [f1, pofo, show ∀ l : List Nat, l.find? (fun _ => false) = none from fun l => List.find?_eq_none.2 (fun _ _ => by simp)])]
  unfold tk
  rw [h0, h1]
  rfl
/-- the gate behind it. -/
def GPl (c : List Int) (inj : Bool) (bk : List (List Int)) (m : Nat) (f : List Int) (x : Int) : GS := (gz0 c inj bk m).tab (upd (fun _ => []) 0 (cli f)) (upd (fun _ => false) 0 true) [mkb f 1024 x (el f 18) 0]
theorem plain_ldo {c f : List Int} {q : Nat} {x : Int} (hp : Ok6 (pfx c)) (h17 : el c 17 = 8 * (q : Int)) (hq : q ≤ 12) (hs : Em.shp (pfx c) q = false) (hx : Em.IsF x) (hv : Em.inF (vip c) (pfx c) (el c 17) = false) (hd : dst f = Em.tz (pfx c) q x) : ldo c f = (0, false, x) := by
  have hin : Em.inF (dst f) (pfx c) (el c 17) = true := by rw [hd, h17]; exact Em.tz_in' _ _ _ hp
  have hne : ¬ (eqz (dst f) (vip c) = true ∧ el f 18 = el c 8) := fun h => by
    have e := (eqz_iff _ _).1 h.1
    have hdv : dst f = vip c := by
      unfold dst vip at e ⊢
      rw [show el f 10 = el c 0 from e 0 (by omega), show el f 11 = el c 1 from e 1 (by omega), show el f 12 = el c 2 from e 2 (by omega), show el f 13 = el c 3 from e 3 (by omega), show el f 14 = el c 4 from e 4 (by omega), show el f 15 = el c 5 from e 5 (by omega), show el f 16 = el c 6 from e 6 (by omega), show el f 17 = el c 7 from e 7 (by omega)]
    rw [hdv, hv] at hin
    cases hin
  have ho : oto (dst f) (el c 17) = (x, 0) := by
    unfold oto
    rw [h17, show ((8 * (q : Int)) / 8).toNat = q by omega, hd, Em.tz_shp _ _ _ hp hs, if_neg (by decide), Em.tz_gat _ _ _ hp hq hx]
  unfold ldo
  rw [if_neg hne, ho, if_pos ⟨hin, rfl⟩]
theorem plain_g6s {c : List Int} {inj : Bool} {bk : List (List Int)} {m : Nat} {f : List Int} {x : Int} (hm : 1 ≤ m) (h0 : el f 0 = 17) (hl : ldo c f = (0, false, x)) (hop : Int) (z D : List Int) :
    g6s (gz0 c inj bk m) f hop z D = (0, p4o (el c 18) x (hop - 1) (zft z 1024 (el f 18)) D, GPl c inj bk m f x) := by
  have ht : tell c inj f = false := by
    unfold tell
    rw [h0]
    cases inj <;> rfl
  have hb : bdo (gz0 c inj bk m) f (el z 5) (whr (gz0 c inj bk m) f (false, x)) = (0, mkb f 1024 x (el f 18) 0, GPl c inj bk m f x) := by
    rw [show whr (gz0 c inj bk m) f (false, x) = (x, el f 18, 0) from if_neg (by simp), bdo_none (show fnd (gz0 c inj bk m).bs f = none from rfl), if_neg (fun h => by rw [h0] at h; exact absurd h.1 (by decide)), if_neg (by simp)]
    rw [show tk (gz0 c inj bk m).ws (gz0 c inj bk m).ts (cli f) (8 * (gz0 c inj bk m).m) = some 0 from tk_new _ _ (by show 0 < 8 * m; omega)]
    rfl
  unfold g6s
  rw [show (gz0 c inj bk m).c = c from rfl, hl]
  dsimp only
  rw [if_neg (by simp), show tell c (gz0 c inj bk m).inj f = false from ht, if_neg (by simp), hb]
  dsimp only
  rw [if_neg (by simp)]
  unfold g6b
  have hg : guo (GPl c inj bk m f x) (mkb f 1024 x (el f 18) 0) z D = (0, z, D, GPl c inj bk m f x) := by
    unfold guo
    rw [if_neg]
    have : tell c inj (mkb f 1024 x (el f 18) 0) = false := by
      unfold tell
      rw [show el (mkb f 1024 x (el f 18) 0) 0 = el f 0 from rfl, h0]
      cases inj <;> rfl
    rw [show (GPl c inj bk m f x).c = c from rfl, show (GPl c inj bk m f x).inj = inj from rfl, this]
    simp
  rw [hg]
  dsimp only
  rw [if_neg (by simp)]
  rfl
theorem plain_g4s {c : List Int} {inj : Bool} {bk : List (List Int)} {m : Nat} {f : List Int} {x : Int} (h0 : el f 0 = 17) (ttl : Int) (z D : List Int) (h1 : el z 1 = el f 18) (h2 : el z 2 = 1024) :
    g4s (GPl c inj bk m f x) x (el c 18) ttl 17 z D = (0, p6o (dst f) (cli f) (ttl - 1) (zft z (el f 18) (el f 9)) D, GPl c inj bk m f x) := by
  have hp : prt (GPl c inj bk m f x).bs 1024 = some 0 := rfl
  unfold g4s nrk
  rw [h2, hp]
  dsimp only
  rw [if_pos (show el ((GPl c inj bk m f x).bs.getD 0 []) 0 = 17 from h0)]
  dsimp only
  rw [if_pos ⟨rfl, rfl, h1⟩]
  rfl
end Go.Proofs.YtkhahbghmdccaaaGreat

namespace Go.Proofs.YtkhahbghmdccaaaGreat
open Go.RowKit
theorem at_store66 {ops : Array Oper} {rest : List Oper} {o : Oper} {f : Act} {w : World} {Q : Exit → Act → World → Prop} (hgd : o.guard = none) (x y : Operand) (ho : o.op = .store 23 x y)
    {B : Nat} {z0 : List Int} (hx : f.eval x = .pointer (some ⟨B, 0, none⟩)) (p : SixIn B z0 w) (z : List Int) (hy : f.eval y = .agg (sixC z))
    (hK : ∀ w', SixIn B z w' → Only B w w' → wpList Tryz.prog ops Q rest (f.put o.dst undef) w') : wpList Tryz.prog ops Q (o :: rest) f w :=
  wpList_store_row hgd 23 x y ho B _ hx hy 23 _ p (by kernel_rfl) rfl (by unfold sixC; simp [Value.oneCell']) (hK _ (setRow_heap w B _ _ _ (0, 0) p) (only_setRow _ _ _))
theorem six_z (w : World) : SixIn w.heap.size [] (w.alloc (.cells #[.int .i64 0, .int .i64 0, .int .i64 0, .int .i64 0, .int .i64 0, .int .i64 0, .int .i64 0, .int .i64 0] 23)) := six_new [] w
/-- a gate goes on; what it does not own stays. -/
theorem OG.step2 {w : World} {G : Nat} {a : Option Addr} {cap : Nat} {tv : Value} {S : Nat} {Ot : Nat → Prop} {β : Int → Nat} {g g' : GS} {W W' : World} (h : OG w G a cap tv S Ot β g W) (q : GQ W G a cap tv S Ot β g g' W') :
    ∃ Ot' β', OG w G a cap tv S Ot' β' g' W' ∧ ∀ B, B < W.heap.size → ¬ GO G a Ot (SO S β g.ss) B → W'.heap[B]? = W.heap[B]? ∧ ¬ GO G a Ot' (SO S β' g'.ss) B := by
  obtain ⟨Ot', β', q1, q2, q3⟩ := q
  have hs := h.2.2.size
  exact ⟨Ot', β', ⟨q1, fun k hk => (q3 k hk).elim (h.2.1 k) (fun h => by omega), q2.below h.2.2 h.2.1 hs⟩, fun B hl hn => ⟨q2.1.2.2.2.2 _ hl hn, fun ho => (q3 B ho).elim hn (fun h => by omega)⟩⟩
/-- a config and an address, in their blocks. -/
def Kpl (w : World) (c : List Int) (inj : Bool) (ka : Option Addr) (bk : List (List Int)) (kc : Nat) (s : List Int) (W : World) : Prop := CfIn w.heap.size c inj ka bk.length kc W ∧ SixIn (w.heap.size + 1) s W ∧ Below w.heap.size w W
theorem Kpl.kept {w : World} {c : List Int} {inj : Bool} {ka : Option Addr} {bk : List (List Int)} {kc : Nat} {s : List Int} {W W' : World} (h : Kpl w c inj ka bk kc s W) (hb : Below W.heap.size W W') : Kpl w c inj ka bk kc s W' := ⟨h.1.kept hb, h.2.1.kept hb, bt h.2.2 hb⟩
theorem Kpl.start (w : World) (c : List Int) (inj : Bool) (ka : Option Addr) (bk : List (List Int)) (kc : Nat) (s : List Int) : Kpl w c inj ka bk kc s ((w.alloc (.cells (cfC c inj ka bk.length kc) 26)).alloc (.cells (sixC s) 23)) := by
  have b1 := al_below w (.cells (cfC c inj ka bk.length kc) 26)
  have b2 := al_below (w.alloc (.cells (cfC c inj ka bk.length kc) 26)) (.cells (sixC s) 23)
  exact ⟨(cf_new w c inj ka bk.length kc).kept b2, six_al2 s w _, bt b1 b2⟩
attribute [local go_sem ↓] hload_shut cload_shut
set_option maxRecDepth 100000 in
set_option maxHeartbeats 4000000 in
/-- no gate, or too much to say. -/
theorem tpl_a (c : List Int) (inj : Bool) (ka : Option Addr) (kc : Nat) (bk : List (List Int)) (s : List Int) (p x y : Int) (a : Option Addr) (len cap : Nat) (w : World) (j : Int)
    (hN : ∀ W, Below w.heap.size w W → Calls Tryz.prog 13 #[.agg (cfC c inj ka bk.length kc)] W fun e w' => e = .returned (.tuple #[.pointer none, .iface 47 (.int .i64 j)]) ∧ Below W.heap.size W w') :
    Calls Tryz.prog 9 #[.agg (cfC c inj ka bk.length kc), .agg (sixC s), .int .i64 p, .int .i64 x, .int .i64 y, .slice a len cap] w fun e w' => e = .returned (.bool true) ∧ Below w.heap.size w w' := by
  have HF := hide one_any
  have HK := hide (Kpl.start w c inj ka bk kc s)
  have HN := hide hN
  clear hN
  go_enter Tryz.func9, Tryz.ntmps9
  go_upto_region 1 with fail
  generalize (World.alloc _ _).alloc _ = W0 at HK ⊢
  go_upto_region 4 with (go_at_call 31; refine (HF.out _).mono ?_; rintro e w1 ⟨rfl, hb1⟩; replace HK := hide (HK.out.kept hb1); clear hb1)
  have q1 := HK.out.1.cl
  go_wp2_with (go_at_call 13; refine (HN.out _ HK.out.2.2).mono ?_; rintro e w2 ⟨rfl, hb2⟩; replace HK := hide (HK.out.kept hb2); clear hb2 q1)
  go_ret
  exact ⟨rfl, HK.out.2.2⟩
set_option maxRecDepth 100000 in
set_option maxHeartbeats 4000000 in
theorem tpl_b (c : List Int) (inj : Bool) (ka : Option Addr) (kc : Nat) (bk : List (List Int)) (m : Nat) (s : List Int) (p x y : Int) (a : Option Addr) (len cap : Nat) (w : World) (hl : (200 : Int) < (len : Int))
    (hN : ∀ W, Below w.heap.size w W → Calls Tryz.prog 13 #[.agg (cfC c inj ka bk.length kc)] W fun e w' => NG W c inj bk m e w') :
    Calls Tryz.prog 9 #[.agg (cfC c inj ka bk.length kc), .agg (sixC s), .int .i64 p, .int .i64 x, .int .i64 y, .slice a len cap] w fun e w' => e = .returned (.bool true) ∧ Below w.heap.size w w' := by
  have HF := hide one_any
  have HK := hide (Kpl.start w c inj ka bk kc s)
  have HN := hide hN
  clear hN
  go_enter Tryz.func9, Tryz.ntmps9
  go_upto_region 1 with fail
  generalize (World.alloc _ _).alloc _ = W0 at HK ⊢
  go_upto_region 4 with (go_at_call 31; refine (HF.out _).mono ?_; rintro e w1 ⟨rfl, hb1⟩; replace HK := hide (HK.out.kept hb1); clear hb1)
  have q1 := HK.out.1.cl
  go_wp2_with (go_at_call 13; refine (HN.out _ HK.out.2.2).mono ?_; rintro e w2 ⟨G, a2, c2, tv, S, Ot, rfl, g2, o2, hb2⟩; replace HK := hide (HK.out.kept hb2); clear hb2 q1 g2 o2)
  go_ret
  exact ⟨rfl, HK.out.2.2⟩
set_option maxRecDepth 100000 in
set_option maxHeartbeats 4000000 in
/-- no such four, or none that may say it. -/
theorem tpl_c (c : List Int) (inj : Bool) (ka : Option Addr) (kc : Nat) (bk : List (List Int)) (m : Nat) (s d : List Int) (ev : Value) (p x y : Int) (a : Option Addr) (len cap : Nat) (w : World) (hl : ¬ (200 : Int) < (len : Int))
    (hN : ∀ W, Below w.heap.size w W → Calls Tryz.prog 13 #[.agg (cfC c inj ka bk.length kc)] W fun e w' => NG W c inj bk m e w')
    (hI : ∀ W, Calls Tryz.prog 40 #[.agg (sixC (pfx c)), .int .i64 (el c 17), .int .i64 x] W fun e w' => e = .returned (.tuple #[.agg (sixC d), ev]) ∧ Below W.heap.size W w')
    (hS : ∀ W, Below w.heap.size w W → Calls Tryz.prog 32 #[.agg #[.int .i64 17, .int .i64 p, .int .i64 y, .int .i64 0, .int .i64 0, .int .i64 0, .int .i64 0, .slice a len cap], .agg (sixC s), .agg (sixC d), .int .i64 9] W fun e w' => ∃ b l k, e = .returned (.slice b l k) ∧ (ev = .nilIface ∧ l = 0 ∨ ev = .iface 47 (.int .i64 1)) ∧ Below W.heap.size W w') :
    Calls Tryz.prog 9 #[.agg (cfC c inj ka bk.length kc), .agg (sixC s), .int .i64 p, .int .i64 x, .int .i64 y, .slice a len cap] w fun e w' => e = .returned (.bool true) ∧ Below w.heap.size w w' := by
  have HF := hide one_any
  have HK := hide (Kpl.start w c inj ka bk kc s)
  have HN := hide hN
  have HI := hide hI
  have HS := hide hS
  have HZ := hide six_z
  clear hN hI hS
  go_enter Tryz.func9, Tryz.ntmps9
  go_upto_region 1 with fail
  generalize (World.alloc _ _).alloc _ = W0 at HK ⊢
  go_upto_region 4 with (go_at_call 31; refine (HF.out _).mono ?_; rintro e w1 ⟨rfl, hb1⟩; replace HK := hide (HK.out.kept hb1); clear hb1)
  have q1 := HK.out.1.cl
  go_upto_region 7 with (go_at_call 13; refine (HN.out _ HK.out.2.2).mono ?_; rintro e w2 ⟨G, a2, c2, tv, S, Ot, rfl, g2, o2, hb2⟩; replace HK := hide (HK.out.kept hb2); clear hb2 q1 g2 o2)
  have q1 := HK.out.1.hp
  have q2 := HK.out.1.c17
  go_upto_region 8 with (first
    | (go_at_call 40; refine (HI.out _).mono ?_; rintro e w3 ⟨rfl, hb3⟩; replace HK := hide (HK.out.kept hb3); clear hb3 q1 q2; have HZ3 := hide (HZ.out w3))
    | (refine at_store66 rfl (.tmp 16) (.tmp 46) rfl rfl HZ3.out d rfl ?_; intro w4 p4 on4; replace HK := hide (HK.out.kept (new_below _ on4)); have HD4 := hide p4; clear p4 on4))
  have q1 := HK.out.2.1.hl
  have q2 := HD4.out.hl
  go_upto_region 9 with (go_at_call 32; refine (HS.out _ HK.out.2.2).mono ?_; rintro e w5 ⟨b5, l5, k5, rfl, hev, hb5⟩; have HE := hide hev; replace HK := hide (HK.out.kept hb5); clear hb5 q1 q2 hev)
  rcases HE.out with ⟨rfl, rfl⟩ | rfl
  all_goals
    clear HE
    go_wp2
    go_ret
    exact ⟨rfl, HK.out.2.2⟩
end Go.Proofs.YtkhahbghmdccaaaGreat

namespace Go.Proofs.YtkhahbghmdccaaaGreat
open Go.RowKit
theorem ok6_dst {f : List Int} {d : List Int} (h : Ok6 d) (e : ∀ j, j < 8 → el (dst f) j = el d j) : Ok6 (dst f) := fun j hj => by rw [e j hj]; exact h j hj
theorem six_el8 (s : List Int) (j : Nat) (hj : j < 8) : el [el s 0, el s 1, el s 2, el s 3, el s 4, el s 5, el s 6, el s 7] j = el s j := by
  rcases (by omega : j = 0 ∨ j = 1 ∨ j = 2 ∨ j = 3 ∨ j = 4 ∨ j = 5 ∨ j = 6 ∨ j = 7) with rfl | rfl | rfl | rfl | rfl | rfl | rfl | rfl <;> rfl
attribute [local go_sem ↓] hload_shut cload_shut
set_option maxRecDepth 100000 in
set_option maxHeartbeats 8000000 in
/-- it goes there, and the answer comes back. -/
theorem tpl_d (c : List Int) (inj : Bool) (ka : Option Addr) (kc : Nat) (bk : List (List Int)) (g0 g1 : GS) (m : Nat) (s s8 d d8 : List Int) (p x y near : Int) (a : Option Addr) (len cap : Nat) (D Y6 Y4 Y7 Y8 : List Int) (w : World) (hl : ¬ (200 : Int) < (len : Int)) (hg0 : g0 = gz0 c inj bk m) (hr : Row8 w a len cap D) (hnear : el c 18 = near) (hY6 : 0 < Y6.length) (hY7 : 0 < Y7.length) (hss : eqz s8 s = true) (hdd : eqz d8 d = true)
    (hN : ∀ W, Below w.heap.size w W → Calls Tryz.prog 13 #[.agg (cfC c inj ka bk.length kc)] W fun e w' => NG W c inj bk m e w')
    (hI : ∀ W, Calls Tryz.prog 40 #[.agg (sixC (pfx c)), .int .i64 (el c 17), .int .i64 x] W fun e w' => e = .returned (.tuple #[.agg (sixC d), .nilIface]) ∧ Below W.heap.size W w')
    (hS : ∀ W, Below w.heap.size w W → Calls Tryz.prog 32 #[.agg #[.int .i64 17, .int .i64 p, .int .i64 y, .int .i64 0, .int .i64 0, .int .i64 0, .int .i64 0, .slice a len cap], .agg (sixC s), .agg (sixC d), .int .i64 9] W fun e w' => ∃ v, e = .returned v ∧ Own W.heap.size w' v Y6 ∧ Below W.heap.size W w')
    (hI6 : ∀ G a cap tv S Ot β W b l k, GC G a cap tv S Ot β g0 W → Row8 W b l k Y6 → l ≤ k → k ≤ maxLen → Calls Tryz.prog 16 #[.pointer (some ⟨G, 0, none⟩), .slice b l k] W fun e w' => ∃ a2 l2 c2, e = .returned (.tuple #[.slice a2 l2 c2, .nilIface]) ∧ (Row8 w' a2 l2 c2 Y4 ∧ l2 ≤ c2 ∧ c2 ≤ maxLen) ∧ GQ W G a cap tv S Ot β g0 g1 w')
    (hO : ∀ W b l k, Row8 W b l k Y4 → l ≤ k → k ≤ maxLen → Calls Tryz.prog 33 #[.slice b l k] W fun e w' => ∃ a1 l1 c1 a2 l2 c2, e = .returned (.tuple #[.agg #[.int .i64 near, .int .i64 x, .int .i64 8, .int .i64 17, .int .i64 0, .slice a1 l1 c1], .agg (sgC [17, 1024, y, 0, 0, 0, 0] a2 l2 c2), .bool true]) ∧ Row8 w' a2 l2 c2 D ∧ Below W.heap.size W w')
    (hB : ∀ W, Row8 W a len cap D → Calls Tryz.prog 34 #[.agg #[.int .i64 17, .int .i64 y, .int .i64 1024, .int .i64 0, .int .i64 0, .int .i64 0, .int .i64 0, .slice a len cap], .int .i64 x, .int .i64 near, .int .i64 9] W fun e w' => ∃ v, e = .returned v ∧ Own W.heap.size w' v Y7 ∧ Below W.heap.size W w')
    (hI4 : ∀ G a cap tv S Ot β W b l k, GC G a cap tv S Ot β g1 W → Row8 W b l k Y7 → l ≤ k → k ≤ maxLen → Calls Tryz.prog 19 #[.pointer (some ⟨G, 0, none⟩), .slice b l k] W fun e w' => ∃ a2 l2 c2, e = .returned (.tuple #[.slice a2 l2 c2, .nilIface]) ∧ (Row8 w' a2 l2 c2 Y8 ∧ l2 ≤ c2 ∧ c2 ≤ maxLen) ∧ GQ W G a cap tv S Ot β g1 g1 w')
    (hO6 : ∀ W b l k, Row8 W b l k Y8 → l ≤ k → k ≤ maxLen → Calls Tryz.prog 35 #[.slice b l k] W fun e w' => ∃ a1 l1 c1 a2 l2 c2, e = .returned (.tuple #[.agg (V6.pkC d8 s8 8 17 a1 l1 c1), .agg (sgC [17, y, p, 0, 0, 0, 0] a2 l2 c2), .bool true]) ∧ Row8 w' a2 l2 c2 D ∧ Below W.heap.size W w') :
    Calls Tryz.prog 9 #[.agg (cfC c inj ka bk.length kc), .agg (sixC s), .int .i64 p, .int .i64 x, .int .i64 y, .slice a len cap] w fun e w' => e = .returned (.bool true) ∧ Below w.heap.size w w' := by
  have HF := hide one_any
  have HK := hide (Kpl.start w c inj ka bk kc s)
  have HN := hide hN
  have HI := hide hI
  have HS := hide hS
  have HI6 := hide hI6
  have HO := hide hO
  have HBk := hide hB
  have HI4 := hide hI4
  have HO6 := hide hO6
  have HZ := hide six_z
  have HZ4 := hide (fun W => R4.start W)
  have HZ6 := hide (fun W => R6.start W)
  have HY6 := hide hY6
  have HY7 := hide hY7
  have HRw := hide hr
  have HSS := hide hss
  have HDD := hide hdd
  have hY6n : ¬ ((Y6.length : Nat) : Int) = 0 := by omega
  unfold V4.zero4 zero7 at HZ4
  unfold V6.zero6 zero7 at HZ6
  subst hg0
  subst hnear
  clear hN hI hS hI6 hO hB hI4 hO6 hY6 hY7 hr hss hdd
  go_enter Tryz.func9, Tryz.ntmps9
  go_upto_region 1 with fail
  generalize (World.alloc _ _).alloc _ = W0 at HK ⊢
  go_upto_region 4 with (go_at_call 31; refine (HF.out _).mono ?_; rintro e w1 ⟨rfl, hb1⟩; replace HK := hide (HK.out.kept hb1); clear hb1)
  have q1 := HK.out.1.cl
  go_upto_region 7 with (go_at_call 13; refine (HN.out _ HK.out.2.2).mono ?_; rintro e w2 ⟨G, a2, c2, tv, S, Ot, rfl, g2, o2, hb2⟩; have HG := hide (show OG w1 G a2 c2 tv S Ot (fun _ => 0) (gz0 c inj bk m) w2 from ⟨g2, o2, hb2⟩); have HK1 := HK; replace HK := hide (HK.out.kept hb2); clear hb2 q1 g2 o2)
  have q1 := HK.out.1.hp
  have q2 := HK.out.1.c17
  go_upto_region 8 with (first
    | (go_at_call 40; refine (HI.out _).mono ?_; rintro e w3 ⟨rfl, hb3⟩; replace HK := hide (HK.out.kept hb3); replace HG := hide (HG.out.kept hb3); clear hb3 q1 q2; have HZ3 := hide (HZ.out w3))
    | (refine at_store66 rfl (.tmp 16) (.tmp 46) rfl rfl HZ3.out d rfl ?_; intro w4 p4 on4; have HNo := hide (show ¬ GO G a2 Ot (SO S (fun _ => 0) (gz0 c inj bk m).ss) w3.heap.size from fun ho => Nat.lt_irrefl _ (HG.out.1.lt ho)); replace HK := hide (HK.out.kept (new_below _ on4)); replace HG := hide (HG.out.kept (new_below _ on4)); have HD4 := hide p4; clear p4 on4))
  clear HZ3
  generalize w3.heap.size = B3 at HD4 HNo ⊢
  have q1 := HK.out.2.1.hl
  have q2 := HD4.out.hl
  go_upto_region 11 with (go_at_call 32; refine (HS.out _ HK.out.2.2).mono ?_; rintro e w5 ⟨v5, rfl, o5, hb5⟩; obtain ⟨g5, k5, rfl, e1, e2, -, -, r5⟩ := o5.form HY6.out; have HR5 := hide (And.intro r5 (And.intro e1 e2)); replace HK := hide (HK.out.kept hb5); replace HG := hide (HG.out.kept hb5); replace HD4 := hide (HD4.out.kept hb5); clear hb5 q1 q2 o5 r5 e1 e2)
  clear HK
  go_upto_region 14 with (go_at_call 16; refine (HI6.out _ _ _ _ _ _ _ _ _ _ _ HG.out.1 HR5.out.1 HR5.out.2.1 HR5.out.2.2).mono ?_; rintro e w6 ⟨a6, l6, c6, rfl, r6, q6⟩; obtain ⟨Ot6, β6, g6, f6⟩ := HG.out.step2 q6; have f6' := f6 B3 HD4.out.lt HNo.out; have HD6 := hide (show SixIn B3 d w6 from f6'.1.trans HD4.out); have HN6 := hide f6'.2; have HG6 := hide g6; have HR6 := hide r6; clear r6 q6 g6 f6 f6')
  clear HG HR5 HD4 HNo HS HI6 HI HN hY6n
  go_upto_region 15 with (first
    | (go_at_call 33; refine (HO.out _ _ _ _ HR6.out.1 HR6.out.2.1 HR6.out.2.2).mono ?_; rintro e w7 ⟨a7, l7, c7, a8, l8, c8, rfl, r7, hb7⟩; have HZ7 := hide (HZ4.out w7); replace HG6 := hide (HG6.out.kept hb7); replace HD6 := hide (HD6.out.kept hb7); have HR7 := hide r7; have HL7 := hide (show ∀ k, GO G a2 Ot6 (SO S β6 g1.ss) k → k < w7.heap.size from fun k hk => HG6.out.1.lt hk); clear r7 hb7)
    | (refine V4.at_store rfl (.tmp 19) (.tmp 73) rfl rfl HZ7.out.1 (el c 18) x 8 17 0 a7 l7 c7 rfl ?_; intro w8 p8 on8; have HS8 := hide (on8.sg HZ7.out.2.1 (by omega)); have HP8 := hide p8; have HB8 := hide (on8.below HZ7.out.2.2 (Nat.le_refl _)); clear p8 on8)
    | (refine at_store rfl (.tmp 20) (.tmp 74) rfl rfl HS8.out [17, 1024, y, 0, 0, 0, 0] a8 l8 c8 rfl ?_; intro w9 p9 on9; have HP9 := hide (show V4.PkIn w7.heap.size (el c 18) x 8 17 0 a7 l7 c7 w9 from (on9.2.2.2.2 _ (by omega)).trans HP8.out); have HS9 := hide p9; have HB9 := hide (on9.below HB8.out (Nat.le_succ _)); clear p9 on9))
  replace HG6 := hide (HG6.out.kept HB9.out)
  replace HD6 := hide (HD6.out.kept HB9.out)
  replace HR7 := hide (HR7.out.below HB9.out)
  have HK := hide (HK1.out.kept HG6.out.2.2)
  clear HZ7 HB9 HB8 HP8 HS8 HR6
  generalize w7.heap.size = B7 at HP9 HS9 HL7 ⊢
  have q1 : w9.cell? ⟨B7, 1, none⟩ = some (.int .i64 x) := HP9.out.all.2.1
  have q2 : w9.cell? ⟨B7 + 1, 2, none⟩ = some (.int .i64 y) := HS9.out.c2
  have q3 : w9.cell? ⟨B7 + 1, 7, none⟩ = some (.slice a8 l8 c8) := HS9.out.c7
  have v1 := conv8 HR7.out
  have v2 := conv8 (HRw.out.below HK.out.2.2)
  have qs := str8_eq HR7.out.2.2.1 HRw.out.2.2.1 true (by simp)
  go_upto_region 17 with fail
  clear q1 q2 q3 v1 v2 HP9 HR7
  have q1 : w9.cell? ⟨B7 + 1, 1, none⟩ = some (.int .i64 1024) := HS9.out.c1
  have q2 := HK.out.1.c18
  go_upto_region 20 with (first
    | (go_at_call 34; refine (HBk.out _ (HRw.out.below HK.out.2.2)).mono ?_; rintro e wa ⟨va, rfl, oa, hba⟩; obtain ⟨ga, ca, rfl, e1, e2, -, -, ra⟩ := oa.form HY7.out; have HRa := hide (And.intro ra (And.intro e1 e2)); replace HG6 := hide (HG6.out.kept hba); replace HD6 := hide (HD6.out.kept hba); clear oa hba e1 e2 ra q1 q2)
    | (go_at_call 19; refine (HI4.out _ _ _ _ _ _ _ _ _ _ _ HG6.out.1 HRa.out.1 HRa.out.2.1 HRa.out.2.2).mono ?_; rintro e wb ⟨ab, lb, cb, rfl, rb, qb⟩; obtain ⟨Otb, βb, gb, fb⟩ := HG6.out.step2 qb; have fb' := fb B3 HD6.out.lt HN6.out; have HDb := hide (show SixIn B3 d wb from fb'.1.trans HD6.out); have HGb := hide gb; have HRb := hide rb; clear rb qb gb fb fb'))
  clear HRa HG6 HD6 HN6 HL7 HS9 HK
  go_upto_region 21 with (first
    | (go_at_call 35; refine (HO6.out _ _ _ _ HRb.out.1 HRb.out.2.1 HRb.out.2.2).mono ?_; rintro e wc ⟨ac, lc, cc, ad, ld, cd, rfl, rc, hbc⟩; have HZc := hide (HZ6.out wc); replace HGb := hide (HGb.out.kept hbc); replace HDb := hide (HDb.out.kept hbc); have HRc := hide rc; clear rc hbc)
    | (refine V6.at_store rfl (.tmp 22) (.tmp 117) rfl rfl HZc.out.1 d8 s8 8 17 ac lc cc rfl ?_; intro wd pd ond; have HSd := hide (show SgIn (wc.heap.size + 1) [] none 0 0 wd from (ond.2.2.2.2 _ (by omega)).trans HZc.out.2.1); have HPd := hide pd; have HBd := hide (ond.below HZc.out.2.2 (Nat.le_refl _)); clear pd ond)
    | (refine at_store rfl (.tmp 23) (.tmp 118) rfl rfl HSd.out [17, y, p, 0, 0, 0, 0] ad ld cd rfl ?_; intro we pe one; have HPe := hide (show V6.PkIn wc.heap.size d8 s8 8 17 ac lc cc we from (one.2.2.2.2 _ (by omega)).trans HPd.out); have HSe := hide pe; have HBe := hide (one.below HBd.out (Nat.le_succ _)); clear pe one))
  replace HGb := hide (HGb.out.kept HBe.out)
  replace HDb := hide (HDb.out.kept HBe.out)
  replace HRc := hide (HRc.out.below HBe.out)
  have HK := hide (HK1.out.kept HGb.out.2.2)
  clear HZc HBe HBd HPd HSd HRb
  generalize wc.heap.size = Bc at HPe HSe ⊢
  have q1 := HPe.out.hsrc
  have q2 := HPe.out.hdst
  have q3 : we.cell? ⟨Bc + 1, 2, none⟩ = some (.int .i64 p) := HSe.out.c2
  have q4 : we.cell? ⟨Bc + 1, 7, none⟩ = some (.slice ad ld cd) := HSe.out.c7
  have q5 := HDb.out.hl
  have q6 := HK.out.2.1.hl
  have e1 := seq_run d8 d we
  have e2 := seq_run s8 s we
  rw [HDD.out] at e1
  rw [HSS.out] at e2
  have v1 := conv8 HRc.out
  have v2 := conv8 (HRw.out.below HK.out.2.2)
  go_wp2
  go_ret
  exact ⟨rfl, HK.out.2.2⟩
end Go.Proofs.YtkhahbghmdccaaaGreat

namespace Go.Proofs.YtkhahbghmdccaaaGreat
open Go.RowKit
theorem up_of {m n : Int} (h : 0 ≤ n ∧ n ≤ m) : up m n = true := decide_eq_true h
theorem tpl_walk (c : List Int) (inj : Bool) (ka : Option Addr) (kc : Nat) (bk : List (List Int)) (s : List Int) (p x y : Int) (a : Option Addr) (len cap : Nat) (D : List Int) (w : World) (hb : Bks ka bk w) (h1 : bk.length ≤ kc) (h2 : kc ≤ maxLen) (ha : ka = none → bk = [] ∧ kc = 0) (hr : Row8 w a len cap D) :
    Calls Tryz.prog 9 #[.agg (cfC c inj ka bk.length kc), .agg (sixC s), .int .i64 p, .int .i64 x, .int .i64 y, .slice a len cap] w fun e w' => e = .returned (.bool true) ∧ Below w.heap.size w w' := by
  rcases gnew_dich c inj ka kc bk w hb h1 h2 ha with ⟨j, hj, hN⟩ | ⟨m, hm1, hm2, hm3, hl8, hpf, hck, hN⟩
  · exact tpl_a c inj ka kc bk s p x y a len cap w j hN
  · by_cases hl : (200 : Int) < (len : Int)
    · exact tpl_b c inj ka kc bk m s p x y a len cap w hl hN
    · have hig : IG (gz0 c inj bk m) := gz0_ig hm2 hpf hck
      by_cases hx : Em.IsF x
      case neg =>
        have hI : ∀ W, Calls Tryz.prog 40 #[.agg (sixC (pfx c)), .int .i64 (el c 17), .int .i64 x] W fun e w' => e = .returned (.tuple #[.agg (sixC []), .iface 47 (.int .i64 1)]) ∧ Below W.heap.size W w' := fun W => Em.into_bad2 (pfx c) (el c 17) x W hpf hx
        refine tpl_c c inj ka kc bk m s [] _ p x y a len cap w hl hN hI ?_
        rcases sent_any [17, p, y, 0, 0, 0, 0] a len cap D s [] 9 w hr with h | ⟨hs, hd, ht, hz, h⟩
        · exact fun W hW => (h W hW).mono fun e w' ⟨e1, e2⟩ => ⟨_, _, _, e1, .inr rfl, e2⟩
        · exact fun W hW => (h W hW).mono fun e w' ⟨v, e1, o, e2⟩ => by
            obtain ⟨g, k, rfl, _⟩ := o.form p6o_len
            exact ⟨_, _, _, e1, .inr rfl, e2⟩
      case pos =>
        obtain ⟨hp, hlp, hsh⟩ : Ok6 (pfx c) ∧ Em.LongP (el c 17) ∧ Em.shp (pfx c) (el c 17 / 8).toNat = false := by
          rcases hpf with ⟨_, h⟩ | ⟨_, _, h⟩ | ⟨_, _, _, h⟩ | ⟨q1, q2, q3, _⟩
          · cases h
          · cases h
          · cases h
          · exact ⟨q1, q2, q3⟩
        obtain ⟨q, h17, hq, _, hq12⟩ := Em.long_q hlp
        rw [hq] at hsh
        have hI : ∀ W, Calls Tryz.prog 40 #[.agg (sixC (pfx c)), .int .i64 (el c 17), .int .i64 x] W fun e w' => e = .returned (.tuple #[.agg (sixC (Em.tz (pfx c) q x)), .nilIface]) ∧ Below W.heap.size W w' := fun W => by
          have h := Em.into_ok (pfx c) q x W hp (h17 ▸ hlp) hsh hx
          rw [Em.into_six (pfx c) q x hp (h17 ▸ hlp) hsh, ← h17] at h
          exact h
        rcases sent_any [17, p, y, 0, 0, 0, 0] a len cap D s (Em.tz (pfx c) q x) 9 w hr with h | ⟨hs, hd, ht, hz, h⟩
        · exact tpl_c c inj ka kc bk m s _ _ p x y a len cap w hl hN hI fun W hW => (h W hW).mono fun e w' ⟨e1, e2⟩ => ⟨_, _, _, e1, .inl ⟨rfl, rfl⟩, e2⟩
        · obtain ⟨f, hf⟩ : ∃ f, f = fl5 17 s p (Em.tz (pfx c) q x) y := ⟨_, rfl⟩
          have hdf : dst f = Em.tz (pfx c) q x := by rw [hf]; rfl
          have hld : ldo c f = (0, false, x) := plain_ldo hp h17 hq12 hsh hx (cko_vip hck) hdf
          have f0' : el f 0 = 17 := by rw [hf]; rfl
          have f9 : el f 9 = p := by rw [hf]; rfl
          have f18 : el f 18 = y := by rw [hf]; rfl
          have hlen : len = D.length := hr.1.symm
          have hux : up 4294967295 x = true := up_of hx
          have hun : up 4294967295 (el c 18) = true := hig.2.2.2.2.2.1
          have hz4 : Okg [17, y, 1024, 0, 0, 0, 0] D.length := ⟨hz.2.1, ⟨(by decide : (0 : Int) ≤ 1024), (by decide : (1024 : Int) ≤ 65535)⟩, hz.2.2.1, .inr ⟨rfl, rfl, rfl, rfl, rfl⟩⟩
          have hz5 : Okg [17, 1024, y, 0, 0, 0, 0] D.length := ⟨⟨(by decide : (0 : Int) ≤ 1024), (by decide : (1024 : Int) ≤ 65535)⟩, hz.2.1, hz.2.2.1, .inr ⟨rfl, rfl, rfl, rfl, rfl⟩⟩
          have hz8 : Okg [17, y, p, 0, 0, 0, 0] D.length := ⟨hz.2.1, hz.1, hz.2.2.1, .inr ⟨rfl, rfl, rfl, rfl, rfl⟩⟩
          have hE6 : g6 (gz0 c inj bk m) (p6o s (Em.tz (pfx c) q x) 9 [17, p, y, 0, 0, 0, 0] D) = (0, p4o (el c 18) x 8 [17, 1024, y, 0, 0, 0, 0] D, GPl c inj bk m f x) := by
            rw [g6_p6o _ hs hd ht hz, if_neg (by decide)]
            have := plain_g6s (inj := inj) (bk := bk) (D := D) hm1 f0' hld 9 (z7 [17, p, y, 0, 0, 0, 0])
            rw [f18] at this
            rw [hf] at this ⊢
            exact this
          have hE4 : g4 (GPl c inj bk m f x) (p4o x (el c 18) 9 [17, y, 1024, 0, 0, 0, 0] D) = (0, p6o (dst f) (cli f) 8 [17, y, p, 0, 0, 0, 0] D, GPl c inj bk m f x) := by
            rw [g4_p4o _ hux hun (by decide) hz4, if_neg (by decide)]
            have := plain_g4s (c := c) (inj := inj) (bk := bk) (m := m) (x := x) f0' 9 (z7 [17, y, 1024, 0, 0, 0, 0]) D (by rw [f18]; rfl) rfl
            rw [f18, f9] at this
            exact this
          have hig1 : IG (GPl c inj bk m f x) := by
            have h := (g6_ig hig (p6o_oct hs hd ht hz hr.2.2.1)).1
            rw [hE6] at h
            exact h
          have hcl : ∀ j, j < 8 → el (cli f) j = el s j := fun j hj => by rw [hf]; exact six_el8 s j hj
          refine tpl_d c inj ka kc bk _ (GPl c inj bk m f x) m s (cli f) (Em.tz (pfx c) q x) (dst f) p x y (el c 18) a len cap D _ (p4o (el c 18) x 8 [17, 1024, y, 0, 0, 0, 0] D) (p4o x (el c 18) 9 [17, y, 1024, 0, 0, 0, 0] D) (p6o (dst f) (cli f) 8 [17, y, p, 0, 0, 0, 0] D) w hl rfl hr rfl p6o_len p4o_len ((eqz_iff _ _).2 hcl) ((eqz_iff _ _).2 (fun j hj => by rw [hdf])) hN hI h ?_ ?_ ?_ ?_ ?_
          · intro G a' cap' tv S Ot β W b l k hG r e1 e2
            have := in6_any G a' cap' tv S Ot β _ b l k _ W hG hig.1 hig.2.1 hig.2.2 r e1 e2
            rw [hE6] at this
            exact this
          · intro W b l k r e1 e2
            exact opened_ok b l k (el c 18) x 8 [17, 1024, y, 0, 0, 0, 0] D W r e1 e2 hun hux (by decide) hz5
          · intro W r
            exact bk_ok [17, y, 1024, 0, 0, 0, 0] a len cap D x (el c 18) 9 W hux hun (by decide) (hlen ▸ hz4) r
          · intro G a' cap' tv S Ot β W b l k hG r e1 e2
            have := in4_any G a' cap' tv S Ot β _ b l k _ W hG hig1.1 hig1.2.1 r e1 e2
            rw [hE4] at this
            exact this
          · intro W b l k r e1 e2
            exact opened6_ok b l k (dst f) (cli f) 8 [17, y, p, 0, 0, 0, 0] D W r e1 e2 (ok6_dst hd (fun j _ => by rw [hdf])) (fun j hj => by rw [hcl j hj]; exact hs j hj) (by decide) hz8
end Go.Proofs.YtkhahbghmdccaaaGreat
