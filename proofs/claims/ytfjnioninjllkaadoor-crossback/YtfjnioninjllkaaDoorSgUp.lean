/- Package seg: known, head, checkAt, upTo, write and number, by contracts. -/
import Derived.Test.YtfjnioninjllkaaDoorSgSum
namespace Go.Proofs.YtfjnioninjllkaaDoor
open Go.RowKit

/-- a block of ints, all of it. -/
def Ints (B : Nat) (l : List Int) (w : World) : Prop := w.heap[B]? = some (.cells (l.map (Value.int .i64)).toArray 3 (0, 0))
theorem Ints.lt {B : Nat} {l : List Int} {w : World} (h : Ints B l w) : B < w.heap.size := (Array.getElem?_eq_some_iff.1 h).1
theorem Ints.kept {B : Nat} {l : List Int} {w w' : World} (h : Ints B l w) (hb : Below w.heap.size w w') : Ints B l w' := (hb.block B h.lt).trans h
theorem ints_new (w : World) (l : List Int) : Ints w.heap.size l (w.alloc (.cells (l.map (Value.int .i64)).toArray 3)) := heap_alloc_new w _
theorem Ints.cell {B : Nat} {l : List Int} {w : World} (h : Ints B l w) (j : Nat) (hj : j < l.length) : w.cell? ⟨B, j, none⟩ = some (.int .i64 (l.getD j 0)) := by
  unfold Ints at h
  simp [World.cell?, h, hj]
/-- a block of ints is no slice of bytes. -/
theorem Ints.ne {B : Nat} {l : List Int} {w : World} (h : Ints B l w) {base : Nat} {v : Value} {zs : List Int} (o : Own base w v zs) : some B ≠ v.ownBlock := by
  intro e
  rcases o.2.2 with ⟨rfl, _⟩ | ⟨g, cap, cur, rfl, _, hg, _⟩
  · cases e
  · have : B = g := by simpa [Value.ownBlock] using e
    subst this
    unfold Ints at h
    rw [h] at hg
    injection hg with hg
    injection hg with _ hg
    cases hg
theorem Ints.grown {B : Nat} {l : List Int} {w w' : World} (h : Ints B l w) {base : Nat} {v : Value} {zs : List Int} (o : Own base w v zs) (hg : w.grownBy w' v.ownBlock) : Ints B l w' := (hg.block _ h.lt (h.ne o)).trans h

/-- a kind that is known. -/
def kn (k : Int) : Bool := k == 6 || k == 17
theorem known_any (k : Int) (w : World) : Calls Tryd.prog 57 #[.int .i64 k] w fun e w' => e = .returned (.bool (kn k)) ∧ w' = w := by
  by_cases h0 : k = 6
  · subst h0
    go_enter Tryd.func57, Tryd.ntmps57
    go_wp2
    go_ret
    exact ⟨rfl, rfl⟩
  · have e : (k == 6) = false := by simpa using h0
    rw [show kn k = (k == 17) by unfold kn; rw [e]; rfl]
    go_enter Tryd.func57, Tryd.ntmps57
    go_wp2
    go_ret
    exact ⟨rfl, rfl⟩
/-- how many bytes a head has, and where its check begins. -/
def hn (k : Int) : Nat := if k = 6 then 20 else 8
def cn (k : Int) : Nat := if k = 6 then 16 else 6
theorem head_any (k : Int) (w : World) : Calls Tryd.prog 59 #[.int .i64 k] w fun e w' => e = .returned (.int .i64 (hn k)) ∧ w' = w := by
  by_cases h0 : k = 6
  · subst h0
    go_enter Tryd.func59, Tryd.ntmps59
    go_wp2
    go_ret
    exact ⟨rfl, rfl⟩
  · have e : (k == 6) = false := by simpa using h0
    rw [show hn k = 8 by unfold hn; rw [if_neg h0]]
    go_enter Tryd.func59, Tryd.ntmps59
    go_wp2
    go_ret
    exact ⟨rfl, rfl⟩
theorem checkat_any (k : Int) (w : World) : Calls Tryd.prog 35 #[.int .i64 k] w fun e w' => e = .returned (.int .i64 (cn k)) ∧ w' = w := by
  by_cases h0 : k = 6
  · subst h0
    go_enter Tryd.func35, Tryd.ntmps35
    go_wp2
    go_ret
    exact ⟨rfl, rfl⟩
  · have e : (k == 6) = false := by simpa using h0
    rw [show cn k = 6 by unfold cn; rw [if_neg h0]]
    go_enter Tryd.func35, Tryd.ntmps35
    go_wp2
    go_ret
    exact ⟨rfl, rfl⟩
/-- all of these are up to m. -/
def ups (m : Int) (l : List Int) : Bool := l.all (up m)
theorem ups_iff (m : Int) (l : List Int) : ups m l = true ↔ ∀ i, i < l.length → up m (l.getD i 0) = true := by
  unfold ups
  rw [List.all_eq_true]
  constructor
  · intro h i hi
    exact h _ (by simp [List.getD_eq_getElem?_getD, hi])
  · intro h x hx
    obtain ⟨i, hi, rfl⟩ := List.mem_iff_getElem.1 hx
    have := h i hi
    simpa [List.getD_eq_getElem?_getD, hi] using this
set_option maxHeartbeats 400000 in
theorem upto_any (m : Int) (B n : Nat) (l : List Int) (w : World) (hn : l.length = n) (hm : n ≤ 1000) (hc : Ints B l w) :
    Calls Tryd.prog 32 #[.int .i64 m, .slice (some ⟨B, 0, none⟩) n n] w fun e w' => e = .returned (.bool (ups m l)) ∧ w' = w := by
  have HU := hide (ups_iff m l)
  have HC := hide hc
  have HN := hide hn
  clear hc
  generalize ups m l = u at HU ⊢
  go_enter Tryd.func32, Tryd.ntmps32
  go_wp2
  go_loop [9] (fun t => ∃ k : Nat, k ≤ n ∧ Hid (∀ i, i < k → up m (l.getD i 0) = true) ∧ t = .int .i64 k) (fun t => n - (intOf t).toNat)
  case atStart => exact ⟨0, by omega, fun i hi => absurd hi (by omega), rfl⟩
  case round =>
    obtain ⟨k, hk, HI, rfl⟩ := hrel
    by_cases hlt : k < n
    · have hck := HC.out.cell k (by omega)
      generalize hzk : l.getD k 0 = z at hck
      have HZ := hide hzk
      clear hzk hn
      by_cases hz0 : z < 0
      · go_wp2
        go_ret
        exact ⟨congrArg (fun b => Ending.returned (.bool b)) (Eq.symm (Bool.eq_false_iff.2 fun h => by have := up_true (HU.out.1 h k (by rw [HN.out]; exact hlt)); rw [HZ.out] at this; omega)), rfl⟩
      · by_cases hz1 : m < z
        · go_wp2
          go_ret
          exact ⟨congrArg (fun b => Ending.returned (.bool b)) (Eq.symm (Bool.eq_false_iff.2 fun h => by have := up_true (HU.out.1 h k (by rw [HN.out]; exact hlt)); rw [HZ.out] at this; omega)), rfl⟩
        · go_wp2
          go_round
          case rel => exact ⟨k + 1, by omega, fun i hi => if h : i = k then by subst h; rw [HZ.out]; exact decide_eq_true ⟨by omega, by omega⟩ else HI.out i (by omega), by go_num⟩
          case measure => simp [intOf]; omega
    · go_wp2
      go_ret
      obtain rfl : k = n := by omega
      exact ⟨congrArg (fun b => Ending.returned (.bool b)) (Eq.symm (HU.out.2 fun i hi => HI.out i (by rw [← HN.out]; exact hi))), rfl⟩
/-- the bytes of a number, the high one first. -/
def nb : Nat → Int → List Int
  | 0, _ => []
  | k + 1, n => n / 256 ^ k % 256 :: nb k n
theorem nb_len (k : Nat) (n : Int) : (nb k n).length = k := by
  induction k with
  | zero => rfl
  | succ k ih => simp [nb, ih]
theorem nb_oct (k : Nat) (n : Int) : SM.Oct (nb k n) := by
  induction k with
  | zero => exact SM.oct_nil
  | succ k ih =>
    intro j
    match j with
    | 0 => show 0 ≤ n / 256 ^ k % 256 ∧ n / 256 ^ k % 256 ≤ 255; omega
    | j + 1 => exact ih j
/-- numbers, of so many bytes each. -/
def wsn (s : Nat) (l : List Int) : Nat → List Int
  | 0 => []
  | k + 1 => wsn s l k ++ nb s (l.getD k 0)
theorem wsn_len (s : Nat) (l : List Int) (k : Nat) : (wsn s l k).length = k * s := by
  induction k with
  | zero => simp [wsn]
  | succ k ih => simp only [wsn, List.length_append, ih, nb_len, Nat.succ_mul]
theorem row_one (w : World) (x : Int) (hx : 0 ≤ x ∧ x ≤ 255) : Row8 (w.alloc (.cells #[.int .u8 x] 5)) (some ⟨w.heap.size, 0, none⟩) 1 1 [x] := by
  refine ⟨rfl, by simp [maxLen], ?_, (fun h => by cases h), fun _ => ⟨w.heap.size, 0, rfl, fun i hi => ?_⟩⟩
  · intro k
    match k with
    | 0 => simpa using hx
    | k + 1 => simp
  · obtain rfl : i = 0 := by omega
    simp

theorem gr_appi {w : World} {ops : Array Oper} {rest : List Oper} {o : Oper} {a : Act} {Q : Exit → Act → World → Prop} (hgd : o.guard = none) (s x : Operand)
    (ho : o.op = .call { callee := .builtin .append, args := #[s, x], argTypes := #[24, 24] })
    {W0 : World} {v : Value} {zs : List Int} (hs : a.eval s = v) (hg : Gr W0 w v zs) {B : Nat} {l : List Int} (hi : Ints B l w) {ao : Option Addr} {len cap : Nat} {ys : List Int}
    (hx : a.eval x = .slice ao len cap) (hrow : Row8 w ao len cap ys) (hlen : zs.length + len ≤ 1000000000)
    (h : ∀ v' w', Gr W0 w' v' (zs ++ ys) → Ints B l w' → wpList Tryd.prog ops Q rest (a.put o.dst v') w') : wpList Tryd.prog ops Q (o :: rest) a w :=
  wpList_app hgd s x ho W0.heap.size v zs hs hg.1 ao len cap ys hx hrow hlen hg.2.size (fun v' w' h1 h2 => h v' w' ⟨h1, hg.2.grown h2 hg.2.size (fun k e => (hg.1.2.lt k e).1)⟩ (hi.grown hg.1 h2))
set_option maxHeartbeats 4000000 in
set_option maxRecDepth 100000 in
theorem write_any (W0 : World) (v : Value) (zs : List Int) (s B n : Nat) (l : List Int) (w : World) (hg : Gr W0 w v zs) (hl : Ints B l w) (hn : l.length = n) (hs : s ≤ 4) (hm : n ≤ 100) (hz : zs.length ≤ 1000000) :
    Calls Tryd.prog 51 #[v, .int .i64 s, .slice (some ⟨B, 0, none⟩) n n] w fun e w' => ∃ v', e = .returned v' ∧ Gr W0 w' v' (zs ++ wsn s l n) := by
  have HG := hide hg
  have HL := hide hl
  have HN := hide hn
  clear hg hl hn
  go_enter Tryd.func51, Tryd.ntmps51
  go_wp2
  go_loopw [0, 12] (fun v i wr => ∃ k : Nat, k ≤ n ∧ i = .int .i64 k ∧ Hid (Gr W0 wr v (zs ++ wsn s l k)) ∧ Hid (Ints B l wr)) (fun _ i _ => n - (intOf i).toNat)
  case atStart => exact ⟨0, by omega, rfl, by simpa [wsn] using HG, HL⟩
  case round =>
    obtain ⟨k, hk, rfl, HO, HI⟩ := hrel
    clear HG HL
    by_cases hlt : k < n
    · have hck := HI.out.cell k (by rw [HN.out]; exact hlt)
      have HLN := hide (wsn_len s l k)
      have HKS := hide (show k * s ≤ 400 from Nat.le_trans (Nat.mul_le_mul hk hs) (by omega))
      have HS := hide (show wsn s l (k + 1) = wsn s l k ++ nb s (l.getD k 0) from rfl)
      generalize l.getD k 0 = x at hck HS
      have HZL := hide (show (zs ++ wsn s l k).length ≤ 1000400 by rw [List.length_append, HLN.out]; have := HKS.out; omega)
      have HSS := hide (show zs ++ wsn s l (k + 1) = (zs ++ wsn s l k) ++ nb s x by rw [HS.out, List.append_assoc])
      generalize zs ++ wsn s l k = Z at HO HZL HSS
      clear HLN HKS HS
      go_wp2
      go_loopw [0, 9] (fun v i wq => ∃ (j : Nat) (P : List Int), j ≤ s ∧ i = .int .i64 ((j : Int) - 1) ∧ Hid (Gr W0 wq v (Z ++ P)) ∧ Hid (Ints B l wq) ∧ Hid (P ++ nb j x = nb s x)) (fun _ i _ => (intOf i + 1).toNat)
      case atStart => exact ⟨s, [], Nat.le_refl _, rfl, by rw [List.append_nil]; exact HO, HI, rfl⟩
      case round =>
        obtain ⟨j, P, hj, rfl, HP, HQ, HE⟩ := hrel
        clear HO HI hck
        have HPL := hide (show (Z ++ P).length ≤ 1000404 by
          have h1 := congrArg List.length HE.out
          rw [List.length_append, nb_len, nb_len] at h1
          have h2 := HZL.out
          rw [List.length_append]
          omega)
        by_cases hj0 : 0 < j
        · obtain ⟨m, rfl⟩ : ∃ m, j = m + 1 := ⟨j - 1, by omega⟩
          have HEE := hide (show (P ++ [x / 256 ^ m % 256]) ++ nb m x = nb s x by rw [List.append_assoc]; exact HE.out)
          clear HE
          rcases (by omega : m = 0 ∨ m = 1 ∨ m = 2 ∨ m = 3) with rfl | rfl | rfl | rfl
          · replace HEE := hide (show (P ++ [x % 256]) ++ nb 0 x = nb s x by have h := HEE.out; simpa only [Int.reducePow, Int.pow_zero, Int.ediv_one] using h)
            go_wp2_with (at_builtin; refine gr_appi rfl (.tmp 22) (.tmp 28) rfl rfl (HP.out.below (al_below _ _)) (HQ.out.kept (al_below _ _)) rfl (row_one wr (x % 256) (by omega)) (by have := HPL.out; omega) ?_; intro v' w' HG2 HI2; replace HG2 := hide HG2; replace HI2 := hide HI2)
            go_roundw
            case rel => exact ⟨0, _, by omega, rfl, List.append_assoc _ _ _ ▸ HG2, HI2, HEE⟩
            case measure => simp [intOf]
          · replace HEE := hide (show (P ++ [x / 256 % 256]) ++ nb 1 x = nb s x by have h := HEE.out; simpa only [Int.reducePow, Int.pow_zero, Int.ediv_one] using h)
            go_wp2_with (at_builtin; refine gr_appi rfl (.tmp 22) (.tmp 28) rfl rfl (HP.out.below (al_below _ _)) (HQ.out.kept (al_below _ _)) rfl (row_one wr (x / 256 % 256) (by omega)) (by have := HPL.out; omega) ?_; intro v' w' HG2 HI2; replace HG2 := hide HG2; replace HI2 := hide HI2)
            go_roundw
            case rel => exact ⟨1, _, by omega, rfl, List.append_assoc _ _ _ ▸ HG2, HI2, HEE⟩
            case measure => simp [intOf]
          · replace HEE := hide (show (P ++ [x / 65536 % 256]) ++ nb 2 x = nb s x by have h := HEE.out; simpa only [Int.reducePow, Int.pow_zero, Int.ediv_one] using h)
            go_wp2_with (at_builtin; refine gr_appi rfl (.tmp 22) (.tmp 28) rfl rfl (HP.out.below (al_below _ _)) (HQ.out.kept (al_below _ _)) rfl (row_one wr (x / 65536 % 256) (by omega)) (by have := HPL.out; omega) ?_; intro v' w' HG2 HI2; replace HG2 := hide HG2; replace HI2 := hide HI2)
            go_roundw
            case rel => exact ⟨2, _, by omega, rfl, List.append_assoc _ _ _ ▸ HG2, HI2, HEE⟩
            case measure => simp [intOf]
          · replace HEE := hide (show (P ++ [x / 16777216 % 256]) ++ nb 3 x = nb s x by have h := HEE.out; simpa only [Int.reducePow, Int.pow_zero, Int.ediv_one] using h)
            go_wp2_with (at_builtin; refine gr_appi rfl (.tmp 22) (.tmp 28) rfl rfl (HP.out.below (al_below _ _)) (HQ.out.kept (al_below _ _)) rfl (row_one wr (x / 16777216 % 256) (by omega)) (by have := HPL.out; omega) ?_; intro v' w' HG2 HI2; replace HG2 := hide HG2; replace HI2 := hide HI2)
            go_roundw
            case rel => exact ⟨3, _, by omega, rfl, List.append_assoc _ _ _ ▸ HG2, HI2, HEE⟩
            case measure => simp [intOf]
        · obtain rfl : j = 0 := by omega
          have HE2 := hide (show Z ++ P = zs ++ wsn s l (k + 1) by rw [HSS.out, ← HE.out]; simp [nb])
          go_wp2
          go_roundw
          case rel => exact ⟨k + 1, by omega, by go_num, HE2.out ▸ HP.out, HQ⟩
          case measure => simp [intOf]; omega
    · obtain rfl : k = n := by omega
      go_wp2
      go_ret
      exact ⟨_, rfl, HO.out⟩
end Go.Proofs.YtfjnioninjllkaaDoor
