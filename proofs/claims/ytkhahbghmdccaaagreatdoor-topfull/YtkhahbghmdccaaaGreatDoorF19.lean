/- An address of eight numbers as a value of the program's, and Check by a contract; slices of bytes that the call itself has made; Bytes by contracts. In by contracts: the first bits of two addresses, held side by side; two addresses held side by side. -/
import Derived.Test.YtkhahbghmdccaaaGreatDoorProg
import Derived.WalkKit
import Derived.LaidEql
import Derived.BigQuiet
import Derived.Below
import Derived.Laws.AppendOwnNone
import Derived.Laws.MakeOwn
import Derived.Deep.RegionLaw
import Derived.Laws.CopyOwn
import Derived.RangeFuncNested
import Derived.RangeFuncBound
import Derived.RangeFuncCalls
import Derived.RangeFuncLeaves
import Derived.RangeFuncFrom
import Derived.Shelf.Abstract
import Derived.Shelf.RegionOpen
import Derived.OwnWalkIn
import Derived.TacticsInMore
import Derived.LoopNIn
import Derived.LoopIn
import Derived.Deep.RegionWith
namespace Go.Proofs.YtkhahbghmdccaaaGreatDoor.Em
open Go.RowKit Go.Shelf
theorem add_pl (b o j : Nat) : (⟨b, o, none⟩ : Addr).add j = ⟨b, o + j, none⟩ := by simp [Addr.add]
def el (z : List Int) (k : Nat) : Int := z.getD k 0
theorem hide {p : Prop} (h : p) : Hid p := h
theorem bt {a b c : World} (h1 : Below a.heap.size a b) (h2 : Below b.heap.size b c) : Below a.heap.size a c := h1.trans (h2.mono h1.size)
def six (z : List Int) : Value := .agg #[.int .i64 (el z 0), .int .i64 (el z 1), .int .i64 (el z 2), .int .i64 (el z 3), .int .i64 (el z 4), .int .i64 (el z 5), .int .i64 (el z 6), .int .i64 (el z 7)]
def sixC (z : List Int) : Array Value := #[.int .i64 (el z 0), .int .i64 (el z 1), .int .i64 (el z 2), .int .i64 (el z 3), .int .i64 (el z 4), .int .i64 (el z 5), .int .i64 (el z 6), .int .i64 (el z 7)]
theorem six_index (z : List Int) (k : Nat) (hk : k < 8) (w : World) : (Instr.index 23 (six z) (.int .i64 k)).run Tryz.prog w = .ok (.int .i64 (el z k)) w := by
  rcases (by omega : k = 0 ∨ k = 1 ∨ k = 2 ∨ k = 3 ∨ k = 4 ∨ k = 5 ∨ k = 6 ∨ k = 7) with rfl | rfl | rfl | rfl | rfl | rfl | rfl | rfl <;> kernel_rfl
def Word (n : Int) : Prop := 0 ≤ n ∧ n ≤ 65535
def Ok6 (z : List Int) : Prop := ∀ k, k < 8 → Word (el z k)
set_option maxHeartbeats 1000000 in
theorem check_any (z : List Int) (w : World) : Calls Tryz.prog 95 #[six z] w fun e w' => ((Ok6 z ∧ e = .returned .nilIface) ∨ (¬ Ok6 z ∧ e = .returned (.iface 28 (.int .i64 1)))) ∧ w' = w.alloc (.cells (sixC z) 23) := by
  unfold six
  go_enter Tryz.func95, Tryz.ntmps95
  go_wp2
  go_loop [6] (fun t => ∃ k : Nat, k ≤ 8 ∧ (∀ j, j < k → Word (el z j)) ∧ t = .int .i64 k) (fun t => 8 - (intOf t).toNat)
  case atStart => exact ⟨0, by omega, fun i hi => absurd hi (by omega), rfl⟩
  case round =>
    obtain ⟨k, hk, hin, rfl⟩ := hrel
    have HI := hide hin
    clear hin
    by_cases hlt : k < 8
    · have hi := fun w => six_index z k hlt w
      unfold six at hi
      generalize hzk : el z k = x at hi
      have HZ := hide hzk
      clear hzk
      by_cases hz0 : x < 0
      · go_wp2
        go_ret
        exact ⟨.inr ⟨fun h => absurd (h k hlt).1 (by rw [HZ.out]; omega), rfl⟩, rfl⟩
      · by_cases hz1 : 65535 < x
        · go_wp2
          go_ret
          exact ⟨.inr ⟨fun h => absurd (h k hlt).2 (by rw [HZ.out]; omega), rfl⟩, rfl⟩
        · go_wp2
          go_round
          case rel => exact ⟨k + 1, by omega, fun i hi => if h : i = k then by subst h; rw [HZ.out]; exact ⟨by omega, by omega⟩ else HI.out i (by omega), by go_num⟩
          case measure => simp [intOf]; omega
    · go_wp2
      go_ret
      obtain rfl : k = 8 := by omega
      exact ⟨.inl ⟨HI.out, rfl⟩, rfl⟩
theorem check_ok (z : List Int) (w : World) (h : Ok6 z) : Calls Tryz.prog 95 #[six z] w fun e w' => e = .returned .nilIface ∧ w' = w.alloc (.cells (sixC z) 23) :=
  (check_any z w).mono fun e w' hh => by
    rcases hh with ⟨⟨_, he⟩ | ⟨hn, _⟩, hw⟩
    · exact ⟨he, hw⟩
    · exact absurd h hn
theorem check_bad (z : List Int) (w : World) (h : ¬ Ok6 z) : Calls Tryz.prog 95 #[six z] w fun e w' => e = .returned (.iface 28 (.int .i64 1)) ∧ w' = w.alloc (.cells (sixC z) 23) :=
  (check_any z w).mono fun e w' hh => by
    rcases hh with ⟨⟨hn, _⟩ | ⟨_, he⟩, hw⟩
    · exact absurd hn h
    · exact ⟨he, hw⟩
def SixIn (B : Nat) (z : List Int) (w : World) : Prop := w.heap[B]? = some (.cells (sixC z) 23 (0, 0))
theorem SixIn.lt {B : Nat} {z : List Int} {w : World} (h : SixIn B z w) : B < w.heap.size := (Array.getElem?_eq_some_iff.1 h).1
theorem SixIn.kept {B : Nat} {z : List Int} {w w' : World} (h : SixIn B z w) (hb : Below w.heap.size w w') : SixIn B z w' := (hb.block B h.lt).trans h
theorem SixIn.facts {B : Nat} {z : List Int} {w : World} (h : SixIn B z w) (j : Nat) (hj : j < 8) : w.cell? ⟨B, j, none⟩ = some (.int .i64 (el z j)) ∧ w.frozen? ⟨B, j, none⟩ = false ∧ w.setCell ⟨B, j, none⟩ (.int .i64 (el z j)) = w := by
  unfold SixIn at h
  have hc : (sixC z)[j]? = some (.int .i64 (el z j)) := by
    rcases (by omega : j = 0 ∨ j = 1 ∨ j = 2 ∨ j = 3 ∨ j = 4 ∨ j = 5 ∨ j = 6 ∨ j = 7) with rfl | rfl | rfl | rfl | rfl | rfl | rfl | rfl <;> rfl
  refine ⟨by simp [World.cell?, h, hc], by simp [World.frozen?, h], ?_⟩
  rw [setCell_eq_setRow w B j (sixC z) 23 (0, 0) _ h]
  have : (sixC z).setIfInBounds j (.int .i64 (el z j)) = sixC z := by
    rcases (by omega : j = 0 ∨ j = 1 ∨ j = 2 ∨ j = 3 ∨ j = 4 ∨ j = 5 ∨ j = 6 ∨ j = 7) with rfl | rfl | rfl | rfl | rfl | rfl | rfl | rfl <;> rfl
  rw [this]
  exact setRow_self w B (sixC z) _ _ h
def noughts (w : World) : World := w.alloc (.cells #[.int .i64 0, .int .i64 0, .int .i64 0, .int .i64 0, .int .i64 0, .int .i64 0, .int .i64 0, .int .i64 0] 23)
theorem noughts_in (w : World) : SixIn w.heap.size [] (noughts w) := by
  unfold SixIn noughts
  show (w.heap.push _)[w.heap.size]? = _
  rw [Array.getElem?_push_size]
  rfl
def SixAll (B : Nat) (z : List Int) (w : World) : Prop :=
  (w.cell? ⟨B, 0, none⟩ = some (.int .i64 (el z 0)) ∧ w.frozen? ⟨B, 0, none⟩ = false ∧ w.setCell ⟨B, 0, none⟩ (.int .i64 (el z 0)) = w) ∧
  (w.cell? ⟨B, 1, none⟩ = some (.int .i64 (el z 1)) ∧ w.frozen? ⟨B, 1, none⟩ = false ∧ w.setCell ⟨B, 1, none⟩ (.int .i64 (el z 1)) = w) ∧
  (w.cell? ⟨B, 2, none⟩ = some (.int .i64 (el z 2)) ∧ w.frozen? ⟨B, 2, none⟩ = false ∧ w.setCell ⟨B, 2, none⟩ (.int .i64 (el z 2)) = w) ∧
  (w.cell? ⟨B, 3, none⟩ = some (.int .i64 (el z 3)) ∧ w.frozen? ⟨B, 3, none⟩ = false ∧ w.setCell ⟨B, 3, none⟩ (.int .i64 (el z 3)) = w) ∧
  (w.cell? ⟨B, 4, none⟩ = some (.int .i64 (el z 4)) ∧ w.frozen? ⟨B, 4, none⟩ = false ∧ w.setCell ⟨B, 4, none⟩ (.int .i64 (el z 4)) = w) ∧
  (w.cell? ⟨B, 5, none⟩ = some (.int .i64 (el z 5)) ∧ w.frozen? ⟨B, 5, none⟩ = false ∧ w.setCell ⟨B, 5, none⟩ (.int .i64 (el z 5)) = w) ∧
  (w.cell? ⟨B, 6, none⟩ = some (.int .i64 (el z 6)) ∧ w.frozen? ⟨B, 6, none⟩ = false ∧ w.setCell ⟨B, 6, none⟩ (.int .i64 (el z 6)) = w) ∧
  (w.cell? ⟨B, 7, none⟩ = some (.int .i64 (el z 7)) ∧ w.frozen? ⟨B, 7, none⟩ = false ∧ w.setCell ⟨B, 7, none⟩ (.int .i64 (el z 7)) = w)
theorem SixIn.all {B : Nat} {z : List Int} {w : World} (h : SixIn B z w) : SixAll B z w :=
  ⟨h.facts 0 (by omega), h.facts 1 (by omega), h.facts 2 (by omega), h.facts 3 (by omega), h.facts 4 (by omega), h.facts 5 (by omega), h.facts 6 (by omega), h.facts 7 (by omega)⟩
theorem six_new (z : List Int) (w : World) : SixIn w.heap.size z (w.alloc (.cells #[.int .i64 (el z 0), .int .i64 (el z 1), .int .i64 (el z 2), .int .i64 (el z 3), .int .i64 (el z 4), .int .i64 (el z 5), .int .i64 (el z 6), .int .i64 (el z 7)] 23)) := by
  unfold SixIn
  show (w.heap.push _)[w.heap.size]? = _
  rw [Array.getElem?_push_size]
  rfl
theorem SixIn.set {B : Nat} {z : List Int} {w : World} (h : SixIn B z w) (k : Nat) (hk : k < 8) (v : Int) (z' : List Int) (hz : ∀ j, j < 8 → el z' j = if j = k then v else el z j) : SixIn B z' (w.setCell ⟨B, k, none⟩ (.int .i64 v)) := by
  have e := setCell_eq_setRow w B k (sixC z) 23 (0, 0) (.int .i64 v) h
  have e2 := setRow_heap w B (sixC z) ((sixC z).setIfInBounds k (.int .i64 v)) 23 (0, 0) h
  unfold SixIn
  rw [e, e2]
  congr 2
  have h0 := hz 0 (by omega); have h1 := hz 1 (by omega); have h2 := hz 2 (by omega); have h3 := hz 3 (by omega); have h4 := hz 4 (by omega); have h5 := hz 5 (by omega); have h6 := hz 6 (by omega); have h7 := hz 7 (by omega)
  unfold sixC
  rcases (by omega : k = 0 ∨ k = 1 ∨ k = 2 ∨ k = 3 ∨ k = 4 ∨ k = 5 ∨ k = 6 ∨ k = 7) with rfl | rfl | rfl | rfl | rfl | rfl | rfl | rfl <;> simp [h0, h1, h2, h3, h4, h5, h6, h7]
theorem SixIn.other {B : Nat} {z : List Int} {w : World} (h : SixIn B z w) (p : Addr) (hp : B ≠ p.block) (v : Value) : SixIn B z (w.setCell p v) := (Below.heap_setCell w p v B hp).trans h
def OwnG (e : TypeId) (base : Nat) (w : World) (v : Value) (xs : List Value) : Prop := w.ownsRow base e 1 v xs.length xs
theorem OwnG.nil (e : TypeId) (base : Nat) (w : World) : OwnG e base w (.slice none 0 0) [] := World.ownsRow_nil _ _ _ _
theorem OwnG.base {e : TypeId} {base : Nat} {w : World} {v : Value} {xs : List Value} (h : OwnG e base w v xs) : ∀ k, v.ownBlock = some k → base ≤ k := by
  intro k hk
  rcases h.2 with ⟨rfl, _⟩ | ⟨g, cap, cur, rfl, hb, _⟩
  · simp [Value.ownBlock] at hk
  · have : g = k := by simpa [Value.ownBlock] using hk
    omega
theorem OwnG.kept {e : TypeId} {base : Nat} {w w' : World} {v : Value} {xs : List Value} (h : OwnG e base w v xs) (hb : Below w.heap.size w w') : OwnG e base w' v xs := by
  refine ⟨h.1, ?_⟩
  rcases h.2 with h2 | ⟨g, cap, cur, rfl, hb', hg, rest⟩
  · exact .inl h2
  · exact .inr ⟨g, cap, cur, rfl, hb', by rw [hb.block g (Array.getElem?_eq_some_iff.1 hg).1]; exact hg, rest⟩
theorem OwnG.other {e : TypeId} {base : Nat} {w w' : World} {v : Value} {xs : List Value} (h : OwnG e base w v xs) {row : Option Nat} (hg : w.grownBy w' row) (hne : v.ownBlock = none ∨ v.ownBlock ≠ row) : OwnG e base w' v xs := World.ownsRow.kept h hg hne
theorem Tryz.infoByte : (Tryz.prog.info? 5).map (fun i => (i.zero, i.size, i.bytes)) = some (some (.int .u8 0), 1, 1) := by kernel_rfl
theorem app_byte {w : World} {ops : Array Oper} {rest : List Oper} {o : Oper} {a : Act} {Q : Exit → Act → World → Prop} (hgd : o.guard = none) (s x : Operand)
    (ho : o.op = .call { callee := .builtin .append, args := #[s, x], argTypes := #[37, 37] })
    (base : Nat) (v : Value) (xs : List Value) (hs : a.eval s = v) (hown : OwnG 5 base w v xs) (B m : Nat) (ys : List Value) (hx : a.eval x = .slice (some ⟨B, 0, none⟩) m m) (hm : ys.length = m)
    (hc : ∀ (j : Nat) u, ys[j]? = some u → w.cell? ⟨B, j, none⟩ = some u) (h1 : ∀ u ∈ ys, u.oneCell' = true) (hlen : xs.length + m ≤ 4000000) (hbase : base ≤ w.heap.size)
    (h : ∀ v' w', OwnG 5 base w' v' (xs ++ ys) → w.grownBy w' v.ownBlock → wpList Tryz.prog ops Q rest (a.put o.dst v') w') : wpList Tryz.prog ops Q (o :: rest) a w := by
  obtain ⟨i0, hi, hz0, hz1, hz2⟩ := info_parts Tryz.infoByte
  refine wpList_append_own _ hgd s x 37 ho base 5 i0 (.int .u8 0) 1 1 Tryz.underlying37 hi hz0 hz1 hz2 rfl (by decide) v xs.length xs hs hown ⟨B, 0, none⟩ m m ys hx (by omega) ?_ h1 (by unfold maxLen; omega) (by omega) hbase ?_
  · intro j u hu
    rw [add_pl, Nat.zero_add]
    exact hc j u hu
  · intro v' w' h2 h3 _
    refine h v' w' ?_ h3
    unfold OwnG
    rw [List.length_append, hm]
    exact h2
def by16 (z : List Int) (k : Nat) : List Int := (List.range k).flatMap fun j => [el z j / 256, el z j % 256]
theorem by16_succ (z : List Int) (k : Nat) : by16 z (k + 1) = by16 z k ++ [el z k / 256, el z k % 256] := by
  simp [by16, List.range_succ]
theorem by16_len (z : List Int) (k : Nat) : (by16 z k).length = 2 * k := by
  induction k with
  | zero => rfl
  | succ k ih => rw [by16_succ]; simp [ih]; omega
def u8s (l : List Int) : List Value := l.map (Value.int .u8)
theorem bytes_bad (z : List Int) (w : World) (h : ¬ Ok6 z) : Calls Tryz.prog 138 #[six z] w fun e w' => e = .returned (.tuple #[.slice none 0 0, .iface 28 (.int .i64 1)]) ∧ Below w.heap.size w w' := by
  have hC := fun w => check_bad z w h
  unfold six sixC at hC
  unfold six
  go_enter Tryz.func138, Tryz.ntmps138
  go_wp2_with (go_at_call 95; refine (hC _).mono ?_; rintro e w1 ⟨rfl, rfl⟩)
  go_ret2
  exact ⟨rfl, ((Below.refl _ _).alloc (Nat.le_refl _) _).alloc (by simp) _⟩
set_option maxHeartbeats 4000000 in
set_option maxRecDepth 100000 in
theorem bytes_ok (z : List Int) (w : World) (hz : Ok6 z) : Calls Tryz.prog 138 #[six z] w fun e w' => ∃ v, e = .returned (.tuple #[v, .nilIface]) ∧ OwnG 5 w.heap.size w' v (u8s (by16 z 8)) ∧ Below w.heap.size w w' := by
  have hC := fun w => check_ok z w hz
  unfold six sixC at hC
  unfold six
  have hB0 : Below w.heap.size w ((w.alloc (.cells #[.int .i64 (el z 0), .int .i64 (el z 1), .int .i64 (el z 2), .int .i64 (el z 3), .int .i64 (el z 4), .int .i64 (el z 5), .int .i64 (el z 6), .int .i64 (el z 7)] 23)).alloc (.cells #[.int .i64 (el z 0), .int .i64 (el z 1), .int .i64 (el z 2), .int .i64 (el z 3), .int .i64 (el z 4), .int .i64 (el z 5), .int .i64 (el z 6), .int .i64 (el z 7)] 23)) := ((Below.refl _ _).alloc (Nat.le_refl _) _).alloc (by simp) _
  have hS0 := (six_new z w).kept ((Below.refl _ _).alloc (Nat.le_refl _) (.cells #[.int .i64 (el z 0), .int .i64 (el z 1), .int .i64 (el z 2), .int .i64 (el z 3), .int .i64 (el z 4), .int .i64 (el z 5), .int .i64 (el z 6), .int .i64 (el z 7)] 23))
  obtain ⟨W, hW⟩ : ∃ W, W = (w.alloc (.cells #[.int .i64 (el z 0), .int .i64 (el z 1), .int .i64 (el z 2), .int .i64 (el z 3), .int .i64 (el z 4), .int .i64 (el z 5), .int .i64 (el z 6), .int .i64 (el z 7)] 23)).alloc (.cells #[.int .i64 (el z 0), .int .i64 (el z 1), .int .i64 (el z 2), .int .i64 (el z 3), .int .i64 (el z 4), .int .i64 (el z 5), .int .i64 (el z 6), .int .i64 (el z 7)] 23) := ⟨_, rfl⟩
  rw [← hW] at hB0 hS0
  obtain ⟨i0, hi, hz0, hz1, hz2⟩ := info_parts Tryz.infoByte
  obtain ⟨W1, hmk, hown, hgr⟩ := run_make_own (P := Tryz.prog) W w.heap.size 37 5 i0 _ 1 Tryz.underlying37 hi hz0 hz1 .i64 .i64 16 (by rw [hz2]; omega) (by simp [maxLen]) hB0.size
  have hB1 := hB0.grown hgr hB0.size (fun k h => by cases h)
  have hS1 : SixIn w.heap.size z W1 := (hgr.block _ hS0.lt (by simp)).trans hS0
  have hmk' : (Instr.makeSlice 37 (.int .i64 0) (.int .i64 16)).run Tryz.prog W = .ok (.slice (some ⟨W.heap.size, 0, none⟩) 0 16) W1 := hmk
  have HW := hide hW
  have cz := fun j hj => (hS1.facts j hj).1
  clear hW hmk
  go_enter Tryz.func138, Tryz.ntmps138
  go_wp2_with (go_at_call 95; refine (hC _).mono ?_; rintro e w1 ⟨rfl, rfl⟩; rw [← HW.out])
  go_loopw [5, 15] (fun v i wr => ∃ k : Nat, k ≤ 8 ∧ i = .int .i64 k ∧ Hid (OwnG 5 w.heap.size wr v (u8s (by16 z k))) ∧ Hid (Below w.heap.size w wr)) (fun _ i _ => 8 - (intOf i).toNat)
  case atStart => exact ⟨0, by omega, rfl, hown, hB1⟩
  case round =>
    obtain ⟨k, hk, rfl, HO, HB⟩ := hrel
    clear cz
    by_cases hlt : k < 8
    · have hix := six_index z k hlt
      unfold six at hix
      have hx := hz k hlt
      have HS := hide (by16_succ z k)
      have hlen := by16_len z k
      have HLN := hide (show (u8s (by16 z k)).length = 2 * k by unfold u8s; rw [List.length_map, hlen])
      clear hlen
      generalize el z k = x at hix hx HS
      obtain ⟨hx0, hx1⟩ := hx
      have hb1 : Below wr.heap.size wr (wr.alloc (.cells #[.int .u8 (x / 256), .int .u8 (x % 256)] 5)) := (Below.refl _ _).alloc (Nat.le_refl _) _
      have HO2 := hide (HO.out.kept hb1)
      have HB2 := hide (bt HB.out hb1)
      go_wp2_with (at_builtin; refine app_byte rfl (.tmp 18) (.tmp 24) rfl w.heap.size _ (u8s (by16 z k)) rfl HO2.out wr.heap.size 2 [.int .u8 (x / 256), .int .u8 (x % 256)] rfl rfl (fun j u hu => by match j with | 0 => simp at hu; subst hu; simp | 1 => simp at hu; subst hu; simp | j + 2 => simp at hu) (fun u hu => by simp at hu; rcases hu with rfl | rfl <;> rfl) (by rw [HLN.out]; omega) HB2.out.size ?_; intro v' w' HO3 hg3)
      have HB3 := hide (HB2.out.grown hg3 HB2.out.size (HO2.out.base))
      go_roundw
      case rel =>
        refine ⟨k + 1, by omega, by go_num, ?_, HB3⟩
        rw [HS.out]
        unfold u8s
        rw [List.map_append]
        exact HO3
      case measure => simp [intOf]; omega
    · obtain rfl : k = 8 := by omega
      go_wp2
      go_ret2
      exact ⟨_, rfl, HO.out, HB.out⟩
end Go.Proofs.YtkhahbghmdccaaaGreatDoor.Em

namespace Go.Proofs.YtkhahbghmdccaaaGreatDoor.Em
open Go.RowKit Go.Shelf
set_option maxHeartbeats 4000000 in
set_option maxRecDepth 100000 in
theorem eq_agg (x0 x1 x2 x3 x4 x5 x6 x7 y0 y1 y2 y3 y4 y5 y6 y7 : Int) (w : World) : (Op.equalIn 10000 23 (.agg #[.int .i64 x0, .int .i64 x1, .int .i64 x2, .int .i64 x3, .int .i64 x4, .int .i64 x5, .int .i64 x6, .int .i64 x7]) (.agg #[.int .i64 y0, .int .i64 y1, .int .i64 y2, .int .i64 y3, .int .i64 y4, .int .i64 y5, .int .i64 y6, .int .i64 y7])).run Tryz.prog w = .ok (x0 == y0 && x1 == y1 && x2 == y2 && x3 == y3 && x4 == y4 && x5 == y5 && x6 == y6 && x7 == y7) w := by
  have u3 := Tryz.underlying3
  have a3 := Tryz.isAgg3
  have z3 := Tryz.sizeOf3
  rw [show (10000 : Nat) = 9999 + 1 from rfl, Op.equalIn]
  simp only [Sem.run_bind, run_underlying Tryz.underlying23, Result.andThen_ok]
  simp only [Std.Legacy.Range.forIn_eq_forIn_range', Std.Legacy.Range.size, Nat.sub_zero, Nat.add_sub_cancel, Nat.div_one, List.range'_succ, List.range'_zero, List.forIn_cons, List.forIn_nil]
  go_simp
  by_cases h0 : x0 = y0
  case neg => simp [h0]
  by_cases h1 : x1 = y1
  case neg => simp [h0, h1]
  by_cases h2 : x2 = y2
  case neg => simp [h0, h1, h2]
  by_cases h3 : x3 = y3
  case neg => simp [h0, h1, h2, h3]
  by_cases h4 : x4 = y4
  case neg => simp [h0, h1, h2, h3, h4]
  by_cases h5 : x5 = y5
  case neg => simp [h0, h1, h2, h3, h4, h5]
  by_cases h6 : x6 = y6
  case neg => simp [h0, h1, h2, h3, h4, h5, h6]
  by_cases h7 : x7 = y7
  case neg => simp [h0, h1, h2, h3, h4, h5, h6, h7]
  simp [h0, h1, h2, h3, h4, h5, h6, h7]
def eqz (a b : List Int) : Bool := el a 0 == el b 0 && el a 1 == el b 1 && el a 2 == el b 2 && el a 3 == el b 3 && el a 4 == el b 4 && el a 5 == el b 5 && el a 6 == el b 6 && el a 7 == el b 7
theorem eqz_iff (a b : List Int) : eqz a b = true ↔ ∀ j, j < 8 → el a j = el b j := by
  unfold eqz
  simp only [Bool.and_eq_true, beq_iff_eq]
  refine ⟨fun ⟨⟨⟨⟨⟨⟨⟨h0, h1⟩, h2⟩, h3⟩, h4⟩, h5⟩, h6⟩, h7⟩ j hj => ?_, fun h => ⟨⟨⟨⟨⟨⟨⟨h 0 (by omega), h 1 (by omega)⟩, h 2 (by omega)⟩, h 3 (by omega)⟩, h 4 (by omega)⟩, h 5 (by omega)⟩, h 6 (by omega)⟩, h 7 (by omega)⟩⟩
  rcases (by omega : j = 0 ∨ j = 1 ∨ j = 2 ∨ j = 3 ∨ j = 4 ∨ j = 5 ∨ j = 6 ∨ j = 7) with rfl | rfl | rfl | rfl | rfl | rfl | rfl | rfl <;> assumption
theorem eq_six (a b : List Int) (w : World) : (Op.equalIn 10000 23 (.agg #[.int .i64 (el a 0), .int .i64 (el a 1), .int .i64 (el a 2), .int .i64 (el a 3), .int .i64 (el a 4), .int .i64 (el a 5), .int .i64 (el a 6), .int .i64 (el a 7)]) (.agg #[.int .i64 (el b 0), .int .i64 (el b 1), .int .i64 (el b 2), .int .i64 (el b 3), .int .i64 (el b 4), .int .i64 (el b 5), .int .i64 (el b 6), .int .i64 (el b 7)])).run Tryz.prog w = .ok (eqz a b) w := eq_agg _ _ _ _ _ _ _ _ _ _ _ _ _ _ _ _ w
theorem clamp16 (a : Int) : (if 16 < if a < 0 then 0 else a then 16 else if a < 0 then 0 else a) = min (max a 0) 16 := by
  split <;> split at * <;> omega
def shf (n : Int) (k : Nat) : Nat := (16 - min (max (n - 16 * (k : Int)) 0) 16).toNat
def fel (z : List Int) (n : Int) (k : Nat) : Int := el z k / (2 : Int) ^ shf n k
def fz (z : List Int) (n : Int) (k : Nat) : List Int := (List.range 8).map fun j => if j < k then fel z n j else el z j
theorem el_fz (z : List Int) (n : Int) (k j : Nat) (hj : j < 8) : el (fz z n k) j = if j < k then fel z n j else el z j := by
  simp [el, fz, List.getD, hj]
set_option maxHeartbeats 2000000 in
theorem first_any (z : List Int) (n : Int) (w : World) (h0 : 0 ≤ n) (h1 : n ≤ 128) (hz : Ok6 z) : Calls Tryz.prog 153 #[six z, .int .i64 n] w fun e w' => e = .returned (six (fz z n 8)) ∧ Below w.heap.size w w' := by
  unfold six
  go_enter Tryz.func153, Tryz.ntmps153
  go_wp2
  go_loopw [7] (fun t wr => ∃ k : Nat, k ≤ 8 ∧ t = .int .i64 k ∧ Hid (SixIn w.heap.size (fz z n k) wr) ∧ Hid (SixIn (w.heap.size + 1) [] wr) ∧ Below w.heap.size w wr) (fun t _ => 8 - (intOf t).toNat)
  case atStart =>
    refine ⟨0, by omega, rfl, ?_, ?_, ?_⟩
    · have e : SixIn w.heap.size (fz z n 0) ((w.alloc (.cells (sixC z) 23)).alloc (.cells #[.int .i64 0, .int .i64 0, .int .i64 0, .int .i64 0, .int .i64 0, .int .i64 0, .int .i64 0, .int .i64 0] 23)) := by
        have h8 : SixIn w.heap.size z (w.alloc (.cells (sixC z) 23)) := by
          unfold SixIn
          show (w.heap.push _)[w.heap.size]? = _
          rw [Array.getElem?_push_size]
        have h9 := h8.kept ((Below.refl _ _).alloc (Nat.le_refl _) (.cells #[.int .i64 0, .int .i64 0, .int .i64 0, .int .i64 0, .int .i64 0, .int .i64 0, .int .i64 0, .int .i64 0] 23))
        have e2 : sixC (fz z n 0) = sixC z := by
          unfold sixC
          simp [el_fz]
        unfold SixIn at h9 ⊢
        rw [e2]; exact h9
      exact e
    · have := noughts_in (w.alloc (.cells (sixC z) 23))
      unfold noughts at this
      simp only [World.size_alloc] at this
      exact this
    · exact ((Below.refl _ _).alloc (Nat.le_refl _) _).alloc (by simp) _
  case round =>
    obtain ⟨k, hk, rfl, HS, HT, hB⟩ := hrel
    by_cases hlt : k < 8
    · have hc := (HS.out.facts k hlt).1
      rw [el_fz z n k k hlt, if_neg (by omega)] at hc
      have hf := (HS.out.facts k hlt).2.1
      have hx := hz k hlt
      have HS2 := hide (HS.out.set k hlt (fel z n k) (fz z n (k + 1)) (fun j hj => by
        rw [el_fz z n (k + 1) j hj, el_fz z n k j hj]
        by_cases e : j = k
        · subst e; rw [if_pos (by omega), if_pos rfl]
        · rw [if_neg e]
          by_cases h : j < k
          · rw [if_pos h, if_pos (by omega)]
          · rw [if_neg h, if_neg (by omega)]))
      have HT2 := hide (HT.out.other ⟨w.heap.size, k, none⟩ (by simp) (.int .i64 (fel z n k)))
      have hB2 := hB.setCell (p := ⟨w.heap.size, k, none⟩) (Nat.le_refl _) (.int .i64 (fel z n k))
      unfold fel shf at HS2 HT2 hB2
      rw [← clamp16] at HS2 HT2 hB2
      generalize el z k = x at hc hx HS2 HT2 hB2
      go_wp2
      go_roundw
      case rel => exact ⟨k + 1, by omega, by go_num, HS2, HT2, hB2⟩
      case measure => simp [intOf]; omega
    · obtain rfl : k = 8 := by omega
      obtain ⟨⟨q0, -, -⟩, ⟨q1, -, -⟩, ⟨q2, -, -⟩, ⟨q3, -, -⟩, ⟨q4, -, -⟩, ⟨q5, -, -⟩, ⟨q6, -, -⟩, ⟨q7, -, -⟩⟩ := HS.out.all
      obtain ⟨⟨c0, f0, -⟩, ⟨c1, f1, -⟩, ⟨c2, f2, -⟩, ⟨c3, f3, -⟩, ⟨c4, f4, -⟩, ⟨c5, f5, -⟩, ⟨c6, f6, -⟩, ⟨c7, f7, -⟩⟩ := HT.out.all
      clear HS HT
      go_wp2
      refine bodyPost_ret (v := .agg #[.int .i64 (el (fz z n 8) 0), .int .i64 (el (fz z n 8) 1), .int .i64 (el (fz z n 8) 2), .int .i64 (el (fz z n 8) 3), .int .i64 (el (fz z n 8) 4), .int .i64 (el (fz z n 8) 5), .int .i64 (el (fz z n 8) 6), .int .i64 (el (fz z n 8) 7)]) (by simp [results, Tryz.results153, go_sem, c0, c1, c2, c3, c4, c5, c6, c7]) rfl ⟨rfl, ?_⟩
      exact (((((((hB.setCell (Nat.le_succ _) _).setCell (Nat.le_succ _) _).setCell (Nat.le_succ _) _).setCell (Nat.le_succ _) _).setCell (Nat.le_succ _) _).setCell (Nat.le_succ _) _).setCell (Nat.le_succ _) _).setCell (Nat.le_succ _) _
def inF (a p : List Int) (n : Int) : Bool := (List.range 8).all fun j => fel a n j == fel p n j
theorem eq_inF (a p : List Int) (n : Int) : eqz (fz a n 8) (fz p n 8) = inF a p n := by
  rw [Bool.eq_iff_iff, eqz_iff]
  unfold inF
  rw [List.all_eq_true]
  constructor
  · intro h j hj
    have := h j (List.mem_range.1 hj)
    rw [el_fz a n 8 j (List.mem_range.1 hj), el_fz p n 8 j (List.mem_range.1 hj), if_pos (List.mem_range.1 hj), if_pos (List.mem_range.1 hj)] at this
    simpa using this
  · intro h j hj
    have := h j (List.mem_range.2 hj)
    rw [el_fz a n 8 j hj, el_fz p n 8 j hj, if_pos hj, if_pos hj]
    simpa using this
set_option maxHeartbeats 8000000 in
set_option maxRecDepth 100000 in
theorem in_ok (a p : List Int) (n : Int) (w : World) (ha : Ok6 a) (hp : Ok6 p) (h0 : 0 ≤ n) (h1 : n ≤ 128) : Calls Tryz.prog 99 #[six a, six p, .int .i64 n] w fun e w' => e = .returned (.tuple #[.bool (inF a p n), .nilIface]) ∧ Below w.heap.size w w' := by
  have hC := fun w => check_ok a w ha
  have hD := fun w => check_ok p w hp
  have hX := fun w => first_any a n w h0 h1 ha
  have hY := fun w => first_any p n w h0 h1 hp
  have hS : SixIn (w.heap.size + 1) p ((((w.alloc (.cells #[.int .i64 (el a 0), .int .i64 (el a 1), .int .i64 (el a 2), .int .i64 (el a 3), .int .i64 (el a 4), .int .i64 (el a 5), .int .i64 (el a 6), .int .i64 (el a 7)] 23)).alloc (.cells #[.int .i64 (el p 0), .int .i64 (el p 1), .int .i64 (el p 2), .int .i64 (el p 3), .int .i64 (el p 4), .int .i64 (el p 5), .int .i64 (el p 6), .int .i64 (el p 7)] 23)).alloc (.cells #[.int .i64 (el a 0), .int .i64 (el a 1), .int .i64 (el a 2), .int .i64 (el a 3), .int .i64 (el a 4), .int .i64 (el a 5), .int .i64 (el a 6), .int .i64 (el a 7)] 23)).alloc (.cells #[.int .i64 (el p 0), .int .i64 (el p 1), .int .i64 (el p 2), .int .i64 (el p 3), .int .i64 (el p 4), .int .i64 (el p 5), .int .i64 (el p 6), .int .i64 (el p 7)] 23)) :=
    ((by have := six_new p (w.alloc (.cells #[.int .i64 (el a 0), .int .i64 (el a 1), .int .i64 (el a 2), .int .i64 (el a 3), .int .i64 (el a 4), .int .i64 (el a 5), .int .i64 (el a 6), .int .i64 (el a 7)] 23)); simp only [World.size_alloc] at this; exact this : SixIn (w.heap.size + 1) p ((w.alloc (.cells #[.int .i64 (el a 0), .int .i64 (el a 1), .int .i64 (el a 2), .int .i64 (el a 3), .int .i64 (el a 4), .int .i64 (el a 5), .int .i64 (el a 6), .int .i64 (el a 7)] 23)).alloc (.cells #[.int .i64 (el p 0), .int .i64 (el p 1), .int .i64 (el p 2), .int .i64 (el p 3), .int .i64 (el p 4), .int .i64 (el p 5), .int .i64 (el p 6), .int .i64 (el p 7)] 23))).kept ((Below.refl _ _).alloc (Nat.le_refl _) _)).kept ((Below.refl _ _).alloc (Nat.le_refl _) _)
  have hB : Below w.heap.size w ((((w.alloc (.cells #[.int .i64 (el a 0), .int .i64 (el a 1), .int .i64 (el a 2), .int .i64 (el a 3), .int .i64 (el a 4), .int .i64 (el a 5), .int .i64 (el a 6), .int .i64 (el a 7)] 23)).alloc (.cells #[.int .i64 (el p 0), .int .i64 (el p 1), .int .i64 (el p 2), .int .i64 (el p 3), .int .i64 (el p 4), .int .i64 (el p 5), .int .i64 (el p 6), .int .i64 (el p 7)] 23)).alloc (.cells #[.int .i64 (el a 0), .int .i64 (el a 1), .int .i64 (el a 2), .int .i64 (el a 3), .int .i64 (el a 4), .int .i64 (el a 5), .int .i64 (el a 6), .int .i64 (el a 7)] 23)).alloc (.cells #[.int .i64 (el p 0), .int .i64 (el p 1), .int .i64 (el p 2), .int .i64 (el p 3), .int .i64 (el p 4), .int .i64 (el p 5), .int .i64 (el p 6), .int .i64 (el p 7)] 23)) := ((((Below.refl _ _).alloc (Nat.le_refl _) _).alloc (by simp) _).alloc (by simp; omega) _).alloc (by simp; omega) _
  have hE := eq_six (fz a n 8) (fz p n 8)
  have hI : eqz (fz a n 8) (fz p n 8) = inF a p n := eq_inF a p n
  rw [hI] at hE
  clear hI
  generalize inF a p n = r at hE ⊢
  unfold six sixC at hC hD
  unfold six at hX hY ⊢
  go_enter Tryz.func99, Tryz.ntmps99
  go_wp2_with (first
    | (go_at_call_of 95 (Value.agg #[.int .i64 (el a 0), .int .i64 (el a 1), .int .i64 (el a 2), .int .i64 (el a 3), .int .i64 (el a 4), .int .i64 (el a 5), .int .i64 (el a 6), .int .i64 (el a 7)]); refine (hC _).mono ?_; rintro e w1 ⟨rfl, rfl⟩)
    | (go_at_call_of 95 (Value.agg #[.int .i64 (el p 0), .int .i64 (el p 1), .int .i64 (el p 2), .int .i64 (el p 3), .int .i64 (el p 4), .int .i64 (el p 5), .int .i64 (el p 6), .int .i64 (el p 7)]); refine (hD _).mono ?_; rintro e w1 ⟨rfl, rfl⟩))
  go_region_with (first
    | (go_at_call_of 153 (Value.agg #[.int .i64 (el a 0), .int .i64 (el a 1), .int .i64 (el a 2), .int .i64 (el a 3), .int .i64 (el a 4), .int .i64 (el a 5), .int .i64 (el a 6), .int .i64 (el a 7)]); refine (hX _).mono ?_; rintro e w5 ⟨rfl, hb5⟩; have hb6 := Below.trans ((Below.refl _ _).drew) hb5; obtain ⟨⟨q0, -, -⟩, ⟨q1, -, -⟩, ⟨q2, -, -⟩, ⟨q3, -, -⟩, ⟨q4, -, -⟩, ⟨q5, -, -⟩, ⟨q6, -, -⟩, ⟨q7, -, -⟩⟩ := (hS.kept hb6).all)
    | (go_at_call_of 153 (Value.agg #[.int .i64 (el p 0), .int .i64 (el p 1), .int .i64 (el p 2), .int .i64 (el p 3), .int .i64 (el p 4), .int .i64 (el p 5), .int .i64 (el p 6), .int .i64 (el p 7)]); refine (hY _).mono ?_; rintro e w7 ⟨rfl, hb7⟩))
  all_goals
    go_wp2_with fail
    go_ret2
    exact ⟨rfl, bt hB (bt hb6 hb7)⟩
end Go.Proofs.YtkhahbghmdccaaaGreatDoor.Em
