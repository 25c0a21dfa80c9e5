/- Package seg: known, head, checkAt, upTo, write and number, by contracts. Package seg: overOf, Over4 and Over6, by contracts. seg.Over6, by contracts. -/
import Derived.Test.YtkhahbghmdccaaaGreatDoorF02
import Derived.Below
import Derived.OpenShut
import Derived.Test.YtkhahbghmdccaaaGreatDoorProg
import Derived.WalkKit
import Derived.LaidEql
import Derived.BigQuiet
import Derived.Laws.AppendOwnNone
import Derived.Laws.MakeOwn
import Derived.Deep.RegionLaw
import Derived.Lib.Bytes
import Derived.Deep.MidRow
import Derived.Laws.ResultCell
import Derived.Deep.CutBlock
import Derived.Deep.QuietTactic
import Derived.OwnWalk
import Derived.Deep.RegionHeld3
import Derived.Deep.DrawnRows
namespace Go.Proofs.YtkhahbghmdccaaaGreatDoor
open Go.RowKit
def Ints (B : Nat) (l : List Int) (w : World) : Prop := w.heap[B]? = some (.cells (l.map (Value.int .i64)).toArray 3 (0, 0))
theorem Ints.lt {B : Nat} {l : List Int} {w : World} (h : Ints B l w) : B < w.heap.size := (Array.getElem?_eq_some_iff.1 h).1
theorem Ints.kept {B : Nat} {l : List Int} {w w' : World} (h : Ints B l w) (hb : Below w.heap.size w w') : Ints B l w' := (hb.block B h.lt).trans h
theorem ints_new (w : World) (l : List Int) : Ints w.heap.size l (w.alloc (.cells (l.map (Value.int .i64)).toArray 3)) := heap_alloc_new w _
theorem Ints.cell {B : Nat} {l : List Int} {w : World} (h : Ints B l w) (j : Nat) (hj : j < l.length) : w.cell? ⟨B, j, none⟩ = some (.int .i64 (l.getD j 0)) := by
  unfold Ints at h
  simp [World.cell?, h, hj]
theorem Ints.ne {B : Nat} {l : List Int} {w : World} (h : Ints B l w) {base : Nat} {v : Value} {zs : List Int} (o : Own base w v zs) : some B ≠ v.ownBlock := by
  intro e
  rcases o.2.2 with ⟨rfl, _⟩ | ⟨g, cap, cur, rfl, _, hg, _⟩
  · cases e
  · have : B = g := by simpa [Value.ownBlock] using e
    subst this
    unfold Ints at h
    rw [h] at hg
    injection hg with hg
    injection hg with _ hg
    cases hg
theorem Ints.grown {B : Nat} {l : List Int} {w w' : World} (h : Ints B l w) {base : Nat} {v : Value} {zs : List Int} (o : Own base w v zs) (hg : w.grownBy w' v.ownBlock) : Ints B l w' := (hg.block _ h.lt (h.ne o)).trans h
def kn (k : Int) : Bool := k == 6 || k == 17
theorem known_any (k : Int) (w : World) : Calls Tryz.prog 186 #[.int .i64 k] w fun e w' => e = .returned (.bool (kn k)) ∧ w' = w := by
  by_cases h0 : k = 6
  · subst h0
    go_enter Tryz.func186, Tryz.ntmps186
    go_wp2
    go_ret
    exact ⟨rfl, rfl⟩
  · have e : (k == 6) = false := by simpa using h0
    rw [show kn k = (k == 17) by unfold kn; rw [e]; rfl]
    go_enter Tryz.func186, Tryz.ntmps186
    go_wp2
    go_ret
    exact ⟨rfl, rfl⟩
def hn (k : Int) : Nat := if k = 6 then 20 else 8
def cn (k : Int) : Nat := if k = 6 then 16 else 6
theorem head_any (k : Int) (w : World) : Calls Tryz.prog 179 #[.int .i64 k] w fun e w' => e = .returned (.int .i64 (hn k)) ∧ w' = w := by
  by_cases h0 : k = 6
  · subst h0
    go_enter Tryz.func179, Tryz.ntmps179
    go_wp2
    go_ret
    exact ⟨rfl, rfl⟩
  · have e : (k == 6) = false := by simpa using h0
    rw [show hn k = 8 by unfold hn; rw [if_neg h0]]
    go_enter Tryz.func179, Tryz.ntmps179
    go_wp2
    go_ret
    exact ⟨rfl, rfl⟩
theorem checkat_any (k : Int) (w : World) : Calls Tryz.prog 144 #[.int .i64 k] w fun e w' => e = .returned (.int .i64 (cn k)) ∧ w' = w := by
  by_cases h0 : k = 6
  · subst h0
    go_enter Tryz.func144, Tryz.ntmps144
    go_wp2
    go_ret
    exact ⟨rfl, rfl⟩
  · have e : (k == 6) = false := by simpa using h0
    rw [show cn k = 6 by unfold cn; rw [if_neg h0]]
    go_enter Tryz.func144, Tryz.ntmps144
    go_wp2
    go_ret
    exact ⟨rfl, rfl⟩
def ups (m : Int) (l : List Int) : Bool := l.all (up m)
theorem ups_iff (m : Int) (l : List Int) : ups m l = true ↔ ∀ i, i < l.length → up m (l.getD i 0) = true := by
  unfold ups
  rw [List.all_eq_true]
  constructor
  · intro h i hi
    exact h _ (by simp [List.getD_eq_getElem?_getD, hi])
  · intro h x hx
    obtain ⟨i, hi, rfl⟩ := List.mem_iff_getElem.1 hx
    have := h i hi
    simpa [List.getD_eq_getElem?_getD, hi] using this
set_option maxHeartbeats 400000 in
theorem upto_any (m : Int) (B n : Nat) (l : List Int) (w : World) (hn : l.length = n) (hm : n ≤ 1000) (hc : Ints B l w) :
    Calls Tryz.prog 141 #[.int .i64 m, .slice (some ⟨B, 0, none⟩) n n] w fun e w' => e = .returned (.bool (ups m l)) ∧ w' = w := by
  have HU := hide (ups_iff m l)
  have HC := hide hc
  have HN := hide hn
  clear hc
  generalize ups m l = u at HU ⊢
  go_enter Tryz.func141, Tryz.ntmps141
  go_wp2
  go_loop [9] (fun t => ∃ k : Nat, k ≤ n ∧ Hid (∀ i, i < k → up m (l.getD i 0) = true) ∧ t = .int .i64 k) (fun t => n - (intOf t).toNat)
  case atStart => exact ⟨0, by omega, fun i hi => absurd hi (by omega), rfl⟩
  case round =>
    obtain ⟨k, hk, HI, rfl⟩ := hrel
    by_cases hlt : k < n
    · have hck := HC.out.cell k (by omega)
      generalize hzk : l.getD k 0 = z at hck
      have HZ := hide hzk
      clear hzk hn
      by_cases hz0 : z < 0
      · go_wp2
        go_ret
        exact ⟨congrArg (fun b => Ending.returned (.bool b)) (Eq.symm (Bool.eq_false_iff.2 fun h => by have := up_true (HU.out.1 h k (by rw [HN.out]; exact hlt)); rw [HZ.out] at this; omega)), rfl⟩
      · by_cases hz1 : m < z
        · go_wp2
          go_ret
          exact ⟨congrArg (fun b => Ending.returned (.bool b)) (Eq.symm (Bool.eq_false_iff.2 fun h => by have := up_true (HU.out.1 h k (by rw [HN.out]; exact hlt)); rw [HZ.out] at this; omega)), rfl⟩
        · go_wp2
          go_round
          case rel => exact ⟨k + 1, by omega, fun i hi => if h : i = k then by subst h; rw [HZ.out]; exact decide_eq_true ⟨by omega, by omega⟩ else HI.out i (by omega), by go_num⟩
          case measure => simp [intOf]; omega
    · go_wp2
      go_ret
      obtain rfl : k = n := by omega
      exact ⟨congrArg (fun b => Ending.returned (.bool b)) (Eq.symm (HU.out.2 fun i hi => HI.out i (by rw [← HN.out]; exact hi))), rfl⟩
def nb : Nat → Int → List Int
  | 0, _ => []
  | k + 1, n => n / 256 ^ k % 256 :: nb k n
theorem nb_len (k : Nat) (n : Int) : (nb k n).length = k := by
  induction k with
  | zero => rfl
  | succ k ih => simp [nb, ih]
theorem nb_oct (k : Nat) (n : Int) : SM.Oct (nb k n) := by
  induction k with
  | zero => exact SM.oct_nil
  | succ k ih =>
    intro j
    match j with
    | 0 => show 0 ≤ n / 256 ^ k % 256 ∧ n / 256 ^ k % 256 ≤ 255; omega
    | j + 1 => exact ih j
def wsn (s : Nat) (l : List Int) : Nat → List Int
  | 0 => []
  | k + 1 => wsn s l k ++ nb s (l.getD k 0)
theorem wsn_len (s : Nat) (l : List Int) (k : Nat) : (wsn s l k).length = k * s := by
  induction k with
  | zero => simp [wsn]
  | succ k ih => simp only [wsn, List.length_append, ih, nb_len, Nat.succ_mul]
theorem row_one (w : World) (x : Int) (hx : 0 ≤ x ∧ x ≤ 255) : Row8 (w.alloc (.cells #[.int .u8 x] 5)) (some ⟨w.heap.size, 0, none⟩) 1 1 [x] := by
  refine ⟨rfl, by simp [maxLen], ?_, (fun h => by cases h), fun _ => ⟨w.heap.size, 0, rfl, fun i hi => ?_⟩⟩
  · intro k
    match k with
    | 0 => simpa using hx
    | k + 1 => simp
  · obtain rfl : i = 0 := by omega
    simp
theorem gr_appi {w : World} {ops : Array Oper} {rest : List Oper} {o : Oper} {a : Act} {Q : Exit → Act → World → Prop} (hgd : o.guard = none) (s x : Operand)
    (ho : o.op = .call { callee := .builtin .append, args := #[s, x], argTypes := #[37, 37] })
    {W0 : World} {v : Value} {zs : List Int} (hs : a.eval s = v) (hg : Gr W0 w v zs) {B : Nat} {l : List Int} (hi : Ints B l w) {ao : Option Addr} {len cap : Nat} {ys : List Int}
    (hx : a.eval x = .slice ao len cap) (hrow : Row8 w ao len cap ys) (hlen : zs.length + len ≤ 1000000000)
    (h : ∀ v' w', Gr W0 w' v' (zs ++ ys) → Ints B l w' → wpList Tryz.prog ops Q rest (a.put o.dst v') w') : wpList Tryz.prog ops Q (o :: rest) a w :=
  wpList_app hgd s x ho W0.heap.size v zs hs hg.1 ao len cap ys hx hrow hlen hg.2.size (fun v' w' h1 h2 => h v' w' ⟨h1, hg.2.grown h2 hg.2.size (fun k e => (hg.1.2.lt k e).1)⟩ (hi.grown hg.1 h2))
set_option maxHeartbeats 4000000 in
set_option maxRecDepth 100000 in
theorem write_any (W0 : World) (v : Value) (zs : List Int) (s B n : Nat) (l : List Int) (w : World) (hg : Gr W0 w v zs) (hl : Ints B l w) (hn : l.length = n) (hs : s ≤ 4) (hm : n ≤ 100) (hz : zs.length ≤ 1000000) :
    Calls Tryz.prog 180 #[v, .int .i64 s, .slice (some ⟨B, 0, none⟩) n n] w fun e w' => ∃ v', e = .returned v' ∧ Gr W0 w' v' (zs ++ wsn s l n) := by
  have HG := hide hg
  have HL := hide hl
  have HN := hide hn
  clear hg hl hn
  go_enter Tryz.func180, Tryz.ntmps180
  go_wp2
  go_loopw [0, 12] (fun v i wr => ∃ k : Nat, k ≤ n ∧ i = .int .i64 k ∧ Hid (Gr W0 wr v (zs ++ wsn s l k)) ∧ Hid (Ints B l wr)) (fun _ i _ => n - (intOf i).toNat)
  case atStart => exact ⟨0, by omega, rfl, by simpa [wsn] using HG, HL⟩
  case round =>
    obtain ⟨k, hk, rfl, HO, HI⟩ := hrel
    clear HG HL
    by_cases hlt : k < n
    · have hck := HI.out.cell k (by rw [HN.out]; exact hlt)
      have HLN := hide (wsn_len s l k)
      have HKS := hide (show k * s ≤ 400 from Nat.le_trans (Nat.mul_le_mul hk hs) (by omega))
      have HS := hide (show wsn s l (k + 1) = wsn s l k ++ nb s (l.getD k 0) from rfl)
      generalize l.getD k 0 = x at hck HS
      have HZL := hide (show (zs ++ wsn s l k).length ≤ 1000400 by rw [List.length_append, HLN.out]; have := HKS.out; omega)
      have HSS := hide (show zs ++ wsn s l (k + 1) = (zs ++ wsn s l k) ++ nb s x by rw [HS.out, List.append_assoc])
      generalize zs ++ wsn s l k = Z at HO HZL HSS
      clear HLN HKS HS
      go_wp2
      go_loopw [0, 9] (fun v i wq => ∃ (j : Nat) (P : List Int), j ≤ s ∧ i = .int .i64 ((j : Int) - 1) ∧ Hid (Gr W0 wq v (Z ++ P)) ∧ Hid (Ints B l wq) ∧ Hid (P ++ nb j x = nb s x)) (fun _ i _ => (intOf i + 1).toNat)
      case atStart => exact ⟨s, [], Nat.le_refl _, rfl, by rw [List.append_nil]; exact HO, HI, rfl⟩
      case round =>
        obtain ⟨j, P, hj, rfl, HP, HQ, HE⟩ := hrel
        clear HO HI hck
        have HPL := hide (show (Z ++ P).length ≤ 1000404 by
          have h1 := congrArg List.length HE.out
          rw [List.length_append, nb_len, nb_len] at h1
          have h2 := HZL.out
          rw [List.length_append]
          omega)
        by_cases hj0 : 0 < j
        · obtain ⟨m, rfl⟩ : ∃ m, j = m + 1 := ⟨j - 1, by omega⟩
          have HEE := hide (show (P ++ [x / 256 ^ m % 256]) ++ nb m x = nb s x by rw [List.append_assoc]; exact HE.out)
          clear HE
          rcases (by omega : m = 0 ∨ m = 1 ∨ m = 2 ∨ m = 3) with rfl | rfl | rfl | rfl
          · replace HEE := hide (show (P ++ [x % 256]) ++ nb 0 x = nb s x by have h := HEE.out; simpa only [Int.reducePow, Int.pow_zero, Int.ediv_one] using h)
            go_wp2_with (at_builtin; refine gr_appi rfl (.tmp 22) (.tmp 28) rfl rfl (HP.out.below (al_below _ _)) (HQ.out.kept (al_below _ _)) rfl (row_one wr (x % 256) (by omega)) (by have := HPL.out; omega) ?_; intro v' w' HG2 HI2; replace HG2 := hide HG2; replace HI2 := hide HI2)
            go_roundw
            case rel => exact ⟨0, _, by omega, rfl, List.append_assoc _ _ _ ▸ HG2, HI2, HEE⟩
            case measure => simp [intOf]
          · replace HEE := hide (show (P ++ [x / 256 % 256]) ++ nb 1 x = nb s x by have h := HEE.out; simpa only [Int.reducePow, Int.pow_zero, Int.ediv_one] using h)
            go_wp2_with (at_builtin; refine gr_appi rfl (.tmp 22) (.tmp 28) rfl rfl (HP.out.below (al_below _ _)) (HQ.out.kept (al_below _ _)) rfl (row_one wr (x / 256 % 256) (by omega)) (by have := HPL.out; omega) ?_; intro v' w' HG2 HI2; replace HG2 := hide HG2; replace HI2 := hide HI2)
            go_roundw
            case rel => exact ⟨1, _, by omega, rfl, List.append_assoc _ _ _ ▸ HG2, HI2, HEE⟩
            case measure => simp [intOf]
          · replace HEE := hide (show (P ++ [x / 65536 % 256]) ++ nb 2 x = nb s x by have h := HEE.out; simpa only [Int.reducePow, Int.pow_zero, Int.ediv_one] using h)
            go_wp2_with (at_builtin; refine gr_appi rfl (.tmp 22) (.tmp 28) rfl rfl (HP.out.below (al_below _ _)) (HQ.out.kept (al_below _ _)) rfl (row_one wr (x / 65536 % 256) (by omega)) (by have := HPL.out; omega) ?_; intro v' w' HG2 HI2; replace HG2 := hide HG2; replace HI2 := hide HI2)
            go_roundw
            case rel => exact ⟨2, _, by omega, rfl, List.append_assoc _ _ _ ▸ HG2, HI2, HEE⟩
            case measure => simp [intOf]
          · replace HEE := hide (show (P ++ [x / 16777216 % 256]) ++ nb 3 x = nb s x by have h := HEE.out; simpa only [Int.reducePow, Int.pow_zero, Int.ediv_one] using h)
            go_wp2_with (at_builtin; refine gr_appi rfl (.tmp 22) (.tmp 28) rfl rfl (HP.out.below (al_below _ _)) (HQ.out.kept (al_below _ _)) rfl (row_one wr (x / 16777216 % 256) (by omega)) (by have := HPL.out; omega) ?_; intro v' w' HG2 HI2; replace HG2 := hide HG2; replace HI2 := hide HI2)
            go_roundw
            case rel => exact ⟨3, _, by omega, rfl, List.append_assoc _ _ _ ▸ HG2, HI2, HEE⟩
            case measure => simp [intOf]
        · obtain rfl : j = 0 := by omega
          have HE2 := hide (show Z ++ P = zs ++ wsn s l (k + 1) by rw [HSS.out, ← HE.out]; simp [nb])
          go_wp2
          go_roundw
          case rel => exact ⟨k + 1, by omega, by go_num, HE2.out ▸ HP.out, HQ⟩
          case measure => simp [intOf]; omega
    · obtain rfl : k = n := by omega
      go_wp2
      go_ret
      exact ⟨_, rfl, HO.out⟩
end Go.Proofs.YtkhahbghmdccaaaGreatDoor

namespace Go.Proofs.YtkhahbghmdccaaaGreatDoor
open Go.RowKit
theorem upto1 (m x : Int) (B : Nat) (w : World) (h : Ints B [x] w) : Calls Tryz.prog 141 #[.int .i64 m, .slice (some ⟨B, 0, none⟩) 1 1] w fun e w' => e = .returned (.bool (up m x)) ∧ w' = w := by
  have h := upto_any m B 1 [x] w rfl (by omega) h
  rw [show ups m [x] = up m x by simp [ups]] at h
  exact h
theorem ints_al (w : World) (o : Obj) (l : List Int) : Ints (w.heap.size + 1) l ((w.alloc o).alloc (.cells (l.map (Value.int .i64)).toArray 3)) := by
  have := ints_new (w.alloc o) l
  rw [World.size_alloc] at this
  exact this
theorem write22 (W0 : World) (v : Value) (zs : List Int) (x y : Int) (B : Nat) (w : World) (hg : Gr W0 w v zs) (hl : Ints B [x, y] w) (hz : zs.length ≤ 1000000) :
    Calls Tryz.prog 180 #[v, .int .i64 2, .slice (some ⟨B, 0, none⟩) 2 2] w fun e w' => ∃ v', e = .returned v' ∧ Gr W0 w' v' (zs ++ wsn 2 [x, y] 2) :=
  write_any W0 v zs 2 B 2 [x, y] w hg hl rfl (by omega) (by omega) hz
theorem write24 (W0 : World) (v : Value) (zs : List Int) (x y : Int) (B : Nat) (w : World) (hg : Gr W0 w v zs) (hl : Ints B [x, y] w) (hz : zs.length ≤ 1000000) :
    Calls Tryz.prog 180 #[v, .int .i64 4, .slice (some ⟨B, 0, none⟩) 2 2] w fun e w' => ∃ v', e = .returned v' ∧ Gr W0 w' v' (zs ++ wsn 4 [x, y] 2) :=
  write_any W0 v zs 4 B 2 [x, y] w hg hl rfl (by omega) (by omega) hz
theorem ints2 (w : World) (x y : Int) : Ints w.heap.size [x, y] (w.alloc (.cells #[.int .i64 x, .int .i64 y] 3)) := ints_new w [x, y]
def err (n : Int) : Value := .iface 28 (.int .i64 n)
def ovs (zs : List Int) (k n : Int) : Int := SM.fold (SM.tot (zs ++ wsn 2 [k, n] 2) (zs.length + 4))
set_option maxHeartbeats 2000000 in
theorem overof_ok (W0 w : World) (v : Value) (zs : List Int) (k n : Int) (hg : Gr W0 w v zs) (hz : zs.length ≤ 40) (hk : up 255 k = true) (hn : up 320 n = true) :
    Calls Tryz.prog 139 #[v, .int .i64 k, .int .i64 n] w fun e w' => e = .returned (.tuple #[.int .i64 (ovs zs k n), .nilIface]) ∧ Below W0.heap.size W0 w' := by
  have hb1 := al_below w (.cells #[.int .i64 k] 3)
  have hb2 := bt hb1 (al_below _ (.cells #[.int .i64 n] 3))
  have HG := hide (hg.below hb2)
  have HO := hide (show ovs zs k n = SM.fold (SM.tot (zs ++ wsn 2 [k, n] 2) (zs.length + 4)) from rfl)
  have HL0 := hide (show (zs ++ wsn 2 [k, n] 2).length = zs.length + 4 by rw [List.length_append, wsn_len])
  obtain ⟨N, hN⟩ : ∃ N, N = zs.length + 4 := ⟨_, rfl⟩
  have HL := hide (show (zs ++ wsn 2 [k, n] 2).length = N by rw [hN]; exact HL0.out)
  have HN2 := hide (show N ≤ 2000 by omega)
  rw [← hN] at HO
  have HZ := hide hz
  have I1 := hide (show Ints w.heap.size [k] (w.alloc (.cells #[.int .i64 k] 3)) from ints_new w [k])
  have I2 := hide (show Ints (w.heap.size + 1) [n] ((w.alloc (.cells #[.int .i64 k] 3)).alloc (.cells #[.int .i64 n] 3)) from ints_al w _ [n])
  clear hb1 hb2 hg hz hN HL0
  go_enter Tryz.func139, Tryz.ntmps139
  go_upto_region 3 with (first | (go_at_call 141; with_reducible refine (upto1 _ _ _ _ I1.out).mono ?_; rintro e w' ⟨rfl, rfl⟩) | (go_at_call 141; with_reducible refine (upto1 _ _ _ _ I2.out).mono ?_; rintro e w' ⟨rfl, rfl⟩))
  generalize (w.alloc (.cells #[.int .i64 k] 3)).alloc (.cells #[.int .i64 n] 3) = W at HG ⊢
  go_wp2_with (first
    | (go_at_call 180; refine (write22 W0 v zs k n W.heap.size _ (HG.out.below (al_below _ _)) (ints2 W k n) (by have := HZ.out; omega)).mono ?_; rintro e w1 ⟨v1, rfl, hg1⟩; obtain ⟨a1, c1, hv1, hr1, -⟩ := hg1.1.row8; rw [HL.out] at hv1 hr1; subst hv1; replace hg1 := hide hg1; replace hr1 := hide hr1)
    | (go_at_call 182; with_reducible refine (of_ok _ _ _ _ _ hr1.out HN2.out).mono ?_; rintro e w2 ⟨rfl, rfl⟩))
  go_ret2
  exact ⟨by rw [HO.out]; rfl, hg1.out.2⟩
def c4v (x : Int) : Value := if up 4294967295 x = true then .nilIface else err 1
theorem c4_any (x : Int) (w : World) : Calls Tryz.prog 97 #[.int .i64 x] w fun e w' => e = .returned (c4v x) ∧ w' = w := by
  by_cases h0 : x < 0
  · rw [show c4v x = err 1 from if_neg (fun h => by have := (up_true h).1; omega)]
    unfold err
    go_enter Tryz.func97, Tryz.ntmps97
    go_wp2
    go_ret
    exact ⟨rfl, rfl⟩
  · by_cases h1 : 4294967295 < x
    · rw [show c4v x = err 1 from if_neg (fun h => by have := (up_true h).2; omega)]
      unfold err
      go_enter Tryz.func97, Tryz.ntmps97
      go_wp2
      go_ret
      exact ⟨rfl, rfl⟩
    · rw [show c4v x = .nilIface from if_pos (decide_eq_true ⟨by omega, by omega⟩)]
      go_enter Tryz.func97, Tryz.ntmps97
      go_wp2
      go_ret
      exact ⟨rfl, rfl⟩
theorem c4v_ok {x : Int} (h : up 4294967295 x = true) : c4v x = .nilIface := if_pos h
theorem c4v_bad {x : Int} (h : up 4294967295 x = false) : c4v x = .iface 28 (.int .i64 1) := if_neg (by rw [h]; decide)
set_option maxHeartbeats 2000000 in
theorem over4_ok (s d k n : Int) (w : World) (hs : up 4294967295 s = true) (hd : up 4294967295 d = true) (hk : up 255 k = true) (hn : up 320 n = true) :
    Calls Tryz.prog 127 #[.int .i64 s, .int .i64 d, .int .i64 k, .int .i64 n] w fun e w' => e = .returned (.tuple #[.int .i64 (ovs (wsn 4 [s, d] 2) k n), .nilIface]) ∧ Below w.heap.size w w' := by
  have es := c4v_ok hs
  have ed := c4v_ok hd
  have HL := hide (show (wsn 4 [s, d] 2).length ≤ 40 by rw [wsn_len]; omega)
  have HW := hide (fun W B h hi => write24 w (.slice none 0 0) [] s d B W h hi (by simp))
  have HO := hide (fun W v h hz => overof_ok w W v (wsn 4 [s, d] 2) k n h hz hk hn)
  simp only [List.nil_append] at HW
  have HG := hide ((Gr.nil w).below (al_below w (.cells #[.int .i64 s, .int .i64 d] 3)))
  clear hs hd hk hn
  generalize wsn 4 [s, d] 2 = Z at HL HW HO ⊢
  go_enter Tryz.func127, Tryz.ntmps127
  go_wp2_with (first
    | (go_at_call 97; refine (c4_any _ _).mono ?_; rintro e w' ⟨rfl, rfl⟩)
    | (go_at_call 180; refine (HW.out _ _ HG.out (ints2 _ s d)).mono ?_; rintro e w1 ⟨v1, rfl, hg1⟩; replace hg1 := hide hg1)
    | (go_at_call 139; refine (HO.out _ _ hg1.out HL.out).mono ?_; rintro e w2 ⟨rfl, hb2⟩; replace hb2 := hide hb2))
  go_ret2
  exact ⟨rfl, hb2.out⟩
end Go.Proofs.YtkhahbghmdccaaaGreatDoor

namespace Go.Proofs.YtkhahbghmdccaaaGreatDoor
open Go.RowKit
attribute [local go_sem ↓] Go.wp_at_zero Go.wp_at_succ
theorem at_load6 {ops : Array Oper} {rest : List Oper} {o : Oper} {f : Act} {w : World} {Q : Exit → Act → World → Prop} (hgd : o.guard = none) (x : Operand) (ho : o.op = .load 23 x)
    {B : Nat} {z : List Int} (hx : f.eval x = .pointer (some ⟨B, 0, none⟩)) (p : SixIn B z w)
    (hK : wpList Tryz.prog ops Q rest (f.put o.dst (.agg (sixC z))) w) : wpList Tryz.prog ops Q (o :: rest) f w :=
  wpList_load_row hgd 23 x ho B hx 23 _ (0, 0) _ p Tryz.underlying23 rfl (by kernel_rfl) hK
theorem step_app {w : World} {ops : Array Oper} {o : Oper} {a : Act} {K : Act → World → Prop} {Q : Exit → Act → World → Prop} {E : Prop} (hgd : o.guard = none) (s x : Operand)
    (ho : o.op = .call { callee := .builtin .append, args := #[s, x], argTypes := #[37, 37] })
    (base : Nat) (v : Value) (zs : List Int) (hs : a.eval s = v) (hown : Own base w v zs) (ao : Option Addr) (hao : ∃ ad, ao = some ad) (len cap : Nat) (ys : List Int) (n : Nat) (hn : (zs ++ ys).length = n)
    (hx : a.eval x = .slice ao len cap) (hrow : Row8 w ao len cap ys) (hlen : zs.length + len ≤ 1000000000) (hbase : base ≤ w.heap.size)
    (h : ∀ a' c' w', Own base w' (.slice a' n c') (zs ++ ys) → w.grownBy w' v.ownBlock → K (a.put o.dst (.slice a' n c')) w') : if Region.wanted o (yielded ops a.tmps) = true then Oper.wp Tryz.prog o a w K Q else E := by
  have hw : Region.wanted o (yielded ops a.tmps) = true := by simp [Region.wanted, hgd]
  rw [if_pos hw]
  obtain ⟨ad, rfl⟩ := hao
  obtain ⟨i0, hi, hz0, hz1, hz2⟩ := info_parts Tryz.infoByte
  obtain ⟨r1, r2, r3, r4, r5⟩ := hrow
  refine wp_append_own w s x 37 ho base 5 i0 (.int .u8 0) 1 1 Tryz.underlying37 hi hz0 hz1 hz2 rfl (by decide) v zs.length _ hs hown.2 ad len cap (ys.map (Value.int .u8)) hx (by simp [r1]) ?_ (ints_oneCell .u8 ys) (by unfold maxLen; omega) (by omega) hbase ?_
  · intro j u hu
    have hj : j < ys.length := by
      have := (List.getElem?_eq_some_iff.1 hu).1
      simpa using this
    obtain ⟨b, off, h6, h7⟩ := r5 (by omega)
    have hc := h7 j (by omega)
    obtain rfl : ad = ⟨b, off, none⟩ := by simpa using h6
    have e : (⟨b, off, none⟩ : Addr).add j = ⟨b, off + j, none⟩ := by unfold Addr.add; split <;> simp_all
    rw [e, hc]
    rw [List.getElem?_map] at hu
    simp [hj] at hu ⊢
    exact hu
  · intro v' w' h1 h2 _
    have ho : Own base w' v' (zs ++ ys) := by
      refine ⟨SM.oct_append _ _ hown.1 r3, ?_⟩
      rw [List.map_append, List.length_append, r1]
      exact h1
    obtain ⟨a', c', e, _, _⟩ := ho.row8
    rw [hn] at e
    rw [e] at ho ⊢
    exact h a' c' w' ho h2
def hload (x : Value) : Sem Value := Instr.loadAt 23 x
theorem hload_shut (x : Value) : Instr.loadAt 23 x = hload x := rfl
theorem nb2 (x : Int) (h0 : 0 ≤ x) (h1 : x ≤ 65535) : nb 2 x = [x / 256, x % 256] := by
  show [x / 256 ^ 1 % 256, x / 256 ^ 0 % 256] = _
  rw [show x / 256 ^ 1 % 256 = x / 256 by omega, show x / 256 ^ 0 % 256 = x % 256 by omega]
theorem six_al (z : List Int) (w : World) : SixIn w.heap.size z (w.alloc (.cells (sixC z) 23)) := six_new z w
theorem six_al2 (z : List Int) (w : World) (o : Obj) : SixIn (w.heap.size + 1) z ((w.alloc o).alloc (.cells (sixC z) 23)) := by
  have := six_al z (w.alloc o)
  rw [World.size_alloc] at this
  exact this
theorem abytes_own (z : List Int) (w : World) (hz : Ok6 z) : Calls Tryz.prog 138 #[.agg (sixC z)] w fun e w' => ∃ a c, e = .returned (.tuple #[.slice a 16 c, .nilIface]) ∧ Gr w w' (.slice a 16 c) (by16 z 8) := by
  refine (bytes_ok z w hz).mono ?_
  rintro e w' ⟨v, rfl, ho, hb⟩
  have ho' : Own w.heap.size w' v (by16 z 8) := ⟨oct_by16 z hz 8 (by omega), by
    unfold OwnG u8s at ho
    rw [List.length_map] at ho
    exact ho⟩
  obtain ⟨a, c, hv, hr, _⟩ := ho'.row8
  rw [by16_len] at hv
  subst hv
  exact ⟨a, c, rfl, ho', hb⟩
set_option maxRecDepth 100000 in
set_option maxHeartbeats 2000000 in
theorem over6_any (s d : List Int) (k n : Int) (w : World) (hs : Ok6 s) (hd : Ok6 d) (R : Int) (E : Value) (hO : ∀ W0 W v, Gr W0 W v (by16 s 8 ++ by16 d 8) → Calls Tryz.prog 139 #[v, .int .i64 k, .int .i64 n] W fun e w' => e = .returned (.tuple #[.int .i64 R, E]) ∧ Below W0.heap.size W0 w') :
    Calls Tryz.prog 88 #[.agg (sixC s), .agg (sixC d), .int .i64 k, .int .i64 n] w fun e w' => e = .returned (.tuple #[.int .i64 R, E]) ∧ Below w.heap.size w w' := by
  have HS := hide (fun w => abytes_own s w hs)
  have HD := hide (fun w => abytes_own d w hd)
  have HO := hide hO
  have HLs := hide (by16_len s 8)
  clear hs hd hO
  generalize by16 s 8 = S at HS HO HLs
  generalize by16 d 8 = D at HD HO
  have b1 := al_below w (.cells (sixC s) 23)
  have b2 := al_below (w.alloc (.cells (sixC s) 23)) (.cells (sixC d) 23)
  have HB := hide (bt b1 b2)
  have P1 := hide ((six_al s w).kept b2)
  have P2 := hide (six_al2 d w (.cells (sixC s) 23))
  clear b1 b2
  go_enter Tryz.func88, Tryz.ntmps88
  go_upto_region 1 with fail
  generalize (w.alloc (.cells (sixC s) 23)).alloc (.cells (sixC d) 23) = W at HB P1 P2 ⊢
  go_upto_region 4 with (first
    | (refine at_load6 rfl (.tmp 4) rfl rfl P1.out ?_)
    | (go_at_call 138; (with_reducible refine (HS.out _).mono ?_); rintro e w1 ⟨a1, c1, rfl, hg1⟩; replace hg1 := hide hg1))
  replace P2 := hide (P2.out.kept hg1.out.2)
  go_upto_region 7 with (first
    | (refine at_load6 rfl (.tmp 5) rfl rfl P2.out ?_)
    | (go_at_call 138; (with_reducible refine (HD.out _).mono ?_); rintro e w2 ⟨a2, c2, rfl, hg2⟩; replace hg1 := hide (hg1.out.below hg2.2); replace hg2 := hide hg2))
  go_wp2_with (first
    | (at_builtin; refine gr_app rfl (.tmp 29) (.tmp 30) rfl rfl hg1.out rfl hg2.out.1.toRow (by rw [HLs.out]; omega) ?_; intro v3 w3 hg3; replace hg3 := hide hg3)
    | (go_at_call 139; refine (HO.out _ _ _ hg3.out).mono ?_; rintro e w4 ⟨rfl, hb4⟩; replace HB := hide (HB.out.trans (hb4.mono HB.out.size)); clear hb4))
  go_ret2
  exact ⟨rfl, HB.out⟩
theorem SixIn.hl {B : Nat} {z : List Int} {w : World} (p : SixIn B z w) : (hload (.pointer (some ⟨B, 0, none⟩))).run Tryz.prog w = .ok (.agg (sixC z)) w :=
  run_loadAt_mid w B 0 23 (sixC z).toList _ (fun j v hv => by
    rw [Nat.zero_add]
    have hj : j < 8 := (List.getElem?_eq_some_iff.1 hv).1
    rw [(p.facts j hj).1]
    rcases (by omega : j = 0 ∨ j = 1 ∨ j = 2 ∨ j = 3 ∨ j = 4 ∨ j = 5 ∨ j = 6 ∨ j = 7) with rfl | rfl | rfl | rfl | rfl | rfl | rfl | rfl <;> exact hv) Tryz.underlying23 rfl (by kernel_rfl)
end Go.Proofs.YtkhahbghmdccaaaGreatDoor
