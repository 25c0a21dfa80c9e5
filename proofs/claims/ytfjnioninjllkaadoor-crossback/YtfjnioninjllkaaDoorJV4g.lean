/- Package ip4: read, by a contract. Package ip4: alike, by a contract. -/
import Derived.Test.YtfjnioninjllkaaDoorJV4e
import Derived.Deep.RegionHeld3
import Derived.Deep.DrawnRows
import Derived.Test.YtfjnioninjllkaaDoorJV4c
import Derived.Deep.CutBlock
import Derived.Deep.QuietTactic
namespace Go.Proofs.YtfjnioninjllkaaDoor.V4
open Go.RowKit
attribute [local go_sem ↓] Go.wp_at_zero Go.wp_at_succ

theorem num_congr (xs ys : List Int) (n : Nat) (h : ∀ j, j < n → xs.getD j 0 = ys.getD j 0) : num xs n = num ys n := by
  induction n with
  | zero => rfl
  | succ n ih => simp only [num]; rw [ih (fun j hj => h j (by omega)), h n (by omega)]
/-- number of a part of bytes. -/
theorem number_at (g off len cap : Nat) (zs : List Int) (w : World) (j n c : Nat) (hr : Row8 w (some ⟨g, off, none⟩) len cap zs) (h1 : j + n ≤ len) (h2 : n ≤ 4) (h3 : 0 < n) :
    Calls Tryd.prog 62 #[.slice (some ⟨g, off + j, none⟩) n c] w fun e w' => e = .returned (.int .i64 (num (zs.drop j) n)) ∧ w' = w := by
  have h := hr.part j (j + n) (by omega) h1 (some ⟨g, off + j, none⟩) c (fun b o _ e => by cases e; rfl) (fun e => by cases e)
  rw [show j + n - j = n by omega] at h
  exact number_any _ n c _ w h2 h3 h _ (num_congr _ _ n fun i hi => P4.getD_take hi)
/-- append onto a slice of bytes of the call's own, as a step of a region that draws its order. -/
theorem step_app {w : World} {ops : Array Oper} {o : Oper} {a : Act} {K : Act → World → Prop} {Q : Exit → Act → World → Prop} {E : Prop} (hgd : o.guard = none) (s x : Operand)
    (ho : o.op = .call { callee := .builtin .append, args := #[s, x], argTypes := #[24, 24] })
    (base : Nat) (v : Value) (zs : List Int) (hs : a.eval s = v) (hown : Own base w v zs) (ao : Option Addr) (hao : ∃ ad, ao = some ad) (len cap : Nat) (ys : List Int) (n : Nat) (hn : (zs ++ ys).length = n)
    (hx : a.eval x = .slice ao len cap) (hrow : Row8 w ao len cap ys) (hlen : zs.length + len ≤ 1000000000) (hbase : base ≤ w.heap.size)
    (h : ∀ a' c' w', Own base w' (.slice a' n c') (zs ++ ys) → w.grownBy w' v.ownBlock → K (a.put o.dst (.slice a' n c')) w') : if Region.wanted o (yielded ops a.tmps) = true then Oper.wp Tryd.prog o a w K Q else E := by
  have hw : Region.wanted o (yielded ops a.tmps) = true := by simp [Region.wanted, hgd]
  rw [if_pos hw]
  obtain ⟨ad, rfl⟩ := hao
  obtain ⟨i0, hi, hz0, hz1, hz2⟩ := info_parts Tryd.infoByte
  obtain ⟨r1, r2, r3, r4, r5⟩ := hrow
  refine wp_append_own w s x 24 ho base 5 i0 (.int .u8 0) 1 1 Tryd.underlying24 hi hz0 hz1 hz2 rfl (by decide) v zs.length _ hs hown.2 ad len cap (ys.map (Value.int .u8)) hx (by simp [r1]) ?_ (ints_oneCell .u8 ys) (by unfold maxLen; omega) (by omega) hbase ?_
  · intro j u hu
    have hj : j < ys.length := by
      have := (List.getElem?_eq_some_iff.1 hu).1
      simpa using this
    obtain ⟨b, off, h6, h7⟩ := r5 (by omega)
    have hc := h7 j (by omega)
    obtain rfl : ad = ⟨b, off, none⟩ := by simpa using h6
    have e : (⟨b, off, none⟩ : Addr).add j = ⟨b, off + j, none⟩ := by unfold Addr.add; split <;> simp_all
    rw [e, hc]
    rw [List.getElem?_map] at hu
    simp [hj] at hu ⊢
    exact hu
  · intro v' w' h1 h2 _
    have ho : Own base w' v' (zs ++ ys) := by
      refine ⟨SM.oct_append _ _ hown.1 r3, ?_⟩
      rw [List.map_append, List.length_append, r1]
      exact h1
    obtain ⟨a', c', e, _, _⟩ := ho.row8
    rw [hn] at e
    rw [e] at ho ⊢
    exact h a' c' w' ho h2

theorem PkIn.frz {B : Nat} {s d t k i : Int} {a : Option Addr} {len cap : Nat} {w : World} (h : PkIn B s d t k i a len cap w) :
    w.frozen? ⟨B, 0, none⟩ = false ∧ w.frozen? ⟨B, 1, none⟩ = false ∧ w.frozen? ⟨B, 2, none⟩ = false ∧ w.frozen? ⟨B, 3, none⟩ = false ∧ w.frozen? ⟨B, 4, none⟩ = false ∧ w.frozen? ⟨B, 5, none⟩ = false := by
  unfold PkIn at h
  refine ⟨?_, ?_, ?_, ?_, ?_, ?_⟩ <;> simp [World.frozen?, h]
/-- a packet stored, cell by cell. -/
def put6 (w : World) (B : Nat) (s d t k i : Int) (a : Option Addr) (len cap : Nat) : World := (((((w.setCell ⟨B, 0, none⟩ (.int .i64 s)).setCell ⟨B, 1, none⟩ (.int .i64 d)).setCell ⟨B, 2, none⟩ (.int .i64 t)).setCell ⟨B, 3, none⟩ (.int .i64 k)).setCell ⟨B, 4, none⟩ (.int .i64 i)).setCell ⟨B, 5, none⟩ (.slice a len cap)
theorem put6_below {base : Nat} {w0 w : World} (h : Below base w0 w) {B : Nat} (hB : base ≤ B) (s d t k i : Int) (a : Option Addr) (len cap : Nat) : Below base w0 (put6 w B s d t k i a len cap) :=
  (((((h.setCell (p := ⟨B, 0, none⟩) hB _).setCell (p := ⟨B, 1, none⟩) hB _).setCell (p := ⟨B, 2, none⟩) hB _).setCell (p := ⟨B, 3, none⟩) hB _).setCell (p := ⟨B, 4, none⟩) hB _).setCell (p := ⟨B, 5, none⟩) hB _
theorem put6_heap (w : World) (B g : Nat) (hg : g ≠ B) (s d t k i : Int) (a : Option Addr) (len cap : Nat) : (put6 w B s d t k i a len cap).heap[g]? = w.heap[g]? := by
  unfold put6
  rw [Below.heap_setCell _ _ _ g hg, Below.heap_setCell _ _ _ g hg, Below.heap_setCell _ _ _ g hg, Below.heap_setCell _ _ _ g hg, Below.heap_setCell _ _ _ g hg, Below.heap_setCell _ _ _ g hg]
theorem setCell_heap_same (w : World) (B j : Nat) (cs : Array Value) (t : TypeId) (v : Value) (h : w.heap[B]? = some (.cells cs t (0, 0))) : (w.setCell ⟨B, j, none⟩ v).heap[B]? = some (.cells (cs.setIfInBounds j v) t (0, 0)) := by
  rw [setCell_eq_setRow w B j _ t (0, 0) v h, setRow_heap w B _ _ t (0, 0) h]
theorem put6_pk {w : World} {B : Nat} {s0 d0 t0 k0 i0 : Int} {a0 : Option Addr} {len0 cap0 : Nat} (h : PkIn B s0 d0 t0 k0 i0 a0 len0 cap0 w) (s d t k i : Int) (a : Option Addr) (len cap : Nat) : PkIn B s d t k i a len cap (put6 w B s d t k i a len cap) :=
  setCell_heap_same _ B 5 _ _ _ (setCell_heap_same _ B 4 _ _ _ (setCell_heap_same _ B 3 _ _ _ (setCell_heap_same _ B 2 _ _ _ (setCell_heap_same _ B 1 _ _ _ (setCell_heap_same _ B 0 _ _ _ h)))))
theorem Own.heap {base : Nat} {w w' : World} {v : Value} {zs : List Int} (h : Own base w v zs) (he : ∀ g, base ≤ g → g < w.heap.size → w'.heap[g]? = w.heap[g]?) : Own base w' v zs := by
  refine ⟨h.1, h.2.1, ?_⟩
  rcases h.2.2 with h2 | ⟨g, cap, cur, rfl, hb', hg, rest⟩
  · exact .inl h2
  · exact .inr ⟨g, cap, cur, rfl, hb', by rw [he g hb' (Array.getElem?_eq_some_iff.1 hg).1]; exact hg, rest⟩
theorem Own.mono {base base' : Nat} {w : World} {v : Value} {zs : List Int} (h : Own base w v zs) (hb : base' ≤ base) : Own base' w v zs := by
  refine ⟨h.1, h.2.1, ?_⟩
  rcases h.2.2 with h2 | ⟨g, cap, cur, rfl, hb', hg, rest⟩
  · exact .inl h2
  · exact .inr ⟨g, cap, cur, rfl, by omega, hg, rest⟩
theorem PkIn.grown {B : Nat} {s d t k i : Int} {a : Option Addr} {len cap : Nat} {w w' : World} (h : PkIn B s d t k i a len cap w) (hg : w.grownBy w' none) : PkIn B s d t k i a len cap w' := (hg.block _ h.lt (fun e => by cases e)).trans h

set_option maxRecDepth 100000 in
set_option maxHeartbeats 4000000 in
theorem read_raw (g off len cap : Nat) (zs : List Int) (w : World) (hr : Row8 w (some ⟨g, off, none⟩) len cap zs) (h20 : 20 ≤ len) (h340 : len ≤ 340) (hcl : len ≤ cap) (hcm : cap ≤ maxLen) :
    Calls Tryd.prog 38 #[.slice (some ⟨g, off, none⟩) len cap] w fun e w' => ∃ v, e = .returned (.agg #[.int .i64 (num (zs.drop 12) 4), .int .i64 (num (zs.drop 16) 4), .int .i64 (zs.getD 8 0), .int .i64 (zs.getD 9 0), .int .i64 (num (zs.drop 4) 2), v]) ∧ Own w.heap.size w' v (zs.drop 20) ∧ Below w.heap.size w w' := by
  unfold maxLen at hcm
  have hcl' : (len : Int) ≤ (cap : Int) := by omega
  have h20' : (20 : Int) ≤ (len : Int) := by omega
  have h8' : (8 : Int) < (len : Int) := by omega
  have h9' : (9 : Int) < (len : Int) := by omega
  have h6' : (6 : Int) ≤ (cap : Int) := by omega
  have h16' : (16 : Int) ≤ (cap : Int) := by omega
  have h20c : (20 : Int) ≤ (cap : Int) := by omega
  have hn12 : cap ≠ 12 := by omega
  have hn16 : cap ≠ 16 := by omega
  have hn4 : cap ≠ 4 := by omega
  have hb0 : Below w.heap.size w (w.alloc (.cells #[.int .i64 0, .int .i64 0, .int .i64 0, .int .i64 0, .int .i64 0, .slice none 0 0] 28)).drew := ((Below.refl _ _).alloc (Nat.le_refl _) _).drew
  have HR0 := hide (hr.below hb0)
  have HPK := hide (show PkIn w.heap.size 0 0 0 0 0 none 0 0 (w.alloc (.cells #[.int .i64 0, .int .i64 0, .int .i64 0, .int .i64 0, .int .i64 0, .slice none 0 0] 28)).drew from pk_new w 0 0 0 0 0 none 0 0)
  have hx8 : w.cell? ⟨g, off + 8, none⟩ = some (.int .u8 (zs.getD 8 0)) := by
    obtain ⟨-, -, -, -, h5⟩ := hr
    obtain ⟨b, o, e, hcell⟩ := h5 (by omega)
    cases e
    exact hcell 8 (by omega)
  have hx9 : w.cell? ⟨g, off + 9, none⟩ = some (.int .u8 (zs.getD 9 0)) := by
    obtain ⟨-, -, -, -, h5⟩ := hr
    obtain ⟨b, o, e, hcell⟩ := h5 (by omega)
    cases e
    exact hcell 9 (by omega)
  have hw8 := hr.2.2.1 8
  have hw9 := hr.2.2.1 9
  have hpart := (HR0.out.part 20 len h20 (Nat.le_refl _) (if cap = 20 then some ⟨g, off, none⟩ else some ⟨g, off + 20, none⟩) (cap - 20) (fun b o hlt e => by cases e; rw [if_neg (by omega)]) (fun e => by split at e <;> cases e))
  have had : ∃ ad, (if cap = 20 then some (⟨g, off, none⟩ : Addr) else some ⟨g, off + 20, none⟩) = some ad := by split <;> exact ⟨_, rfl⟩
  obtain ⟨ao, hao⟩ : ∃ ao, (if cap = 20 then some (⟨g, off, none⟩ : Addr) else some ⟨g, off + 20, none⟩) = ao := ⟨_, rfl⟩
  rw [hao] at hpart had
  have HPart := hide (hpart.congr (show (zs.drop 20).take (len - 20) = zs.drop 20 from List.take_of_length_le (by rw [List.length_drop, hr.1]; exact Nat.le_refl _)))
  have HAD := hide had
  clear hpart had
  have HL := hide (show ([] ++ zs.drop 20).length = len - 20 by rw [List.nil_append, List.length_drop, hr.1])
  have HLen := hide (show ([] : List Int).length + (len - 20) ≤ 1000000000 by simp; omega)
  have HB0 := hide hb0
  have HSZ := hide (show w.heap.size + 1 ≤ (w.alloc (.cells #[.int .i64 0, .int .i64 0, .int .i64 0, .int .i64 0, .int .i64 0, .slice none 0 0] 28)).drew.heap.size by simp)
  have hge : w.heap.size ≠ g := World.new_ne w _ hx8
  clear hr hb0
  generalize zs.getD 8 0 = z8 at hx8 hw8 ⊢
  generalize zs.getD 9 0 = z9 at hx9 hw9 ⊢
  have hz8 : IntKind.i64.wrap z8 = z8 := by rw [IntKind.wrap_i64]; omega
  have hz9 : IntKind.i64.wrap z9 = z9 := by rw [IntKind.wrap_i64]; omega
  go_enter Tryd.func38, Tryd.ntmps38
  go_upto_region 1 with fail
  go_region_held3 (fun w' => w'.cell? ⟨g, off + 8, none⟩ = some (.int .u8 z8) ∧ w'.cell? ⟨g, off + 9, none⟩ = some (.int .u8 z9))
    (first
      | go_keep
      | (go_split_ands; exact ⟨g5.cell (by simp [*]) (by intro e; cases e), g5.cell (by simp [*]) (by intro e; cases e)⟩))
    (first
      | (go_at_call 62; refine (number_at g off len cap zs _ _ _ _ HR0.out (by omega) (by omega) (by omega)).mono ?_; rintro e w' ⟨rfl, rfl⟩)
      | (refine step_app rfl (.const (.slice none 0 0)) (.tmp 21) rfl (w.heap.size + 1) _ [] (by rfl) (Own.nil _ _) _ HAD.out (len - 20) (cap - 20) _ (len - 20) HL.out (by rfl) HPart.out HLen.out HSZ.out ?_; intro a5 c5 w5 o5 g5; replace HPK := hide (HPK.out.grown g5); obtain ⟨f0, f1, f2, f3, f4, f5⟩ := HPK.out.all; obtain ⟨k0, k1, k2, k3, k4, k5⟩ := HPK.out.frz))
  replace HB0 := hide (put6_below (HB0.out.grown g5 HB0.out.size (fun k h => by cases h)) (Nat.le_refl _) (num (zs.drop 12) 4) (num (zs.drop 16) 4) z8 z9 (num (zs.drop 4) 2) a5 (len - 20) c5)
  have HO5 := hide ((o5.heap (fun g hg _ => put6_heap w5 w.heap.size g (by omega) (num (zs.drop 12) 4) (num (zs.drop 16) 4) z8 z9 (num (zs.drop 4) 2) a5 (len - 20) c5)).mono (Nat.le_succ _))
  replace HPK := hide (put6_pk HPK.out (num (zs.drop 12) 4) (num (zs.drop 16) 4) z8 z9 (num (zs.drop 4) 2) a5 (len - 20) c5)
  unfold put6 at HB0 HO5 HPK
  go_wp2
  try simp only [Exit.inBlock, Exit.then]
  refine bodyPost_ret (results_cell_row rfl _ _ w.heap.size 28 _ (0, 0) _ rfl HPK.out Tryd.underlying28 rfl (by kernel_rfl)) rfl ?_
  exact ⟨_, rfl, by simpa using HO5.out, HB0.out⟩
end Go.Proofs.YtfjnioninjllkaaDoor.V4

namespace Go.Proofs.YtfjnioninjllkaaDoor.V4
open Go.RowKit

theorem Row8.drewN {w : World} {a : Option Addr} {len cap : Nat} {zs : List Int} (h : Row8 w a len cap zs) (n : Nat) : Row8 (w.drewN n) a len cap zs := h.below ((Below.refl _ _).trans ⟨rfl, rfl, rfl, Nat.le_refl _, fun _ _ => rfl⟩)
theorem row_take {w : World} {g off len cap : Nat} {zs : List Int} (h : Row8 w (some ⟨g, off, none⟩) len cap zs) (n c : Nat) (hn : n ≤ len) : Row8 w (some ⟨g, off, none⟩) n c (zs.take n) := by
  have := h.part 0 n (by omega) hn (some ⟨g, off, none⟩) c (fun b o _ e => by cases e; rfl) (fun e => by cases e)
  simpa using this
theorem row_drop {w : World} {g off len cap : Nat} {zs : List Int} (h : Row8 w (some ⟨g, off, none⟩) len cap zs) (n c : Nat) (hn : n ≤ len) : Row8 w (some ⟨g, off + n, none⟩) (len - n) c (zs.drop n) := by
  have := h.part n len hn (Nat.le_refl _) (some ⟨g, off + n, none⟩) c (fun b o _ e => by cases e; rfl) (fun e => by cases e)
  exact this.congr (List.take_of_length_le (by rw [List.length_drop, h.1]; exact Nat.le_refl _))

set_option maxRecDepth 100000 in
set_option maxHeartbeats 4000000 in
theorem alike_any (gx ox lx cx gz oz lz cz : Nat) (xs zs : List Int) (w : World) (rx : Row8 w (some ⟨gx, ox, none⟩) lx cx xs) (rz : Row8 w (some ⟨gz, oz, none⟩) lz cz zs) (hx : 20 ≤ lx) (hz : 20 ≤ lz) (hxc : lx ≤ cx) (hzc : lz ≤ cz) (hxm : cx ≤ maxLen) (hzm : cz ≤ maxLen)
    (r : Bool) (hr : (xs.take 10 = zs.take 10 ∧ xs.drop 12 = zs.drop 12) ↔ r = true) :
    Calls Tryd.prog 39 #[.slice (some ⟨gx, ox, none⟩) lx cx, .slice (some ⟨gz, oz, none⟩) lz cz] w fun e w' => e = .returned (.bool r) ∧ ∃ n, w' = w.drewN n := by
  have a1 := fun n => row_take (rx.drewN n) 10 cx (by omega)
  have a2 := fun n => row_take (rz.drewN n) 10 cz (by omega)
  have b1 := fun n => row_drop (rx.drewN n) 12 (cx - 12) (by omega)
  have b2 := fun n => row_drop (rz.drewN n) 12 (cz - 12) (by omega)
  have H1 := hide (fun r hr n => equal_any _ _ _ _ _ _ _ _ _ (a1 n) (a2 n) r hr)
  have H2 := hide (fun r hr n => equal_any _ _ _ _ _ _ _ _ _ (b1 n) (b2 n) r hr)
  clear a1 a2 b1 b2 rx rz
  unfold maxLen at hxm hzm
  have i1 : (10 : Int) ≤ (cx : Int) := by omega
  have i2 : (10 : Int) ≤ (cz : Int) := by omega
  have i3 : (12 : Int) ≤ (lx : Int) := by omega
  have i4 : (12 : Int) ≤ (lz : Int) := by omega
  have i5 : (lx : Int) ≤ (cx : Int) := by omega
  have i6 : (lz : Int) ≤ (cz : Int) := by omega
  have i7 : cx ≠ 12 := by omega
  have i8 : cz ≠ 12 := by omega
  by_cases h1 : xs.take 10 = zs.take 10
  · have H1' := hide (H1.out true (by simp [h1]))
    have H2' := hide (H2.out r (by rw [← hr]; simp [h1]))
    clear H1 H2 h1 hr
    go_enter Tryd.func39, Tryd.ntmps39
    go_upto_region 1 with fail
    go_quiet (first
      | (go_at_call 40; with_reducible refine Calls.quiet_of_same (H1'.out _))
      | (go_at_call 40; with_reducible refine Calls.quiet_of_same (H2'.out _)))
    go_wp2
    go_ret
    exact ⟨rfl, _, rfl⟩
  · have H1' := hide (H1.out false (by simp [h1]))
    have hf : r = false := by
      cases r
      · rfl
      · exact absurd (hr.2 rfl).1 h1
    subst hf
    clear H1 H2 h1 hr
    go_enter Tryd.func39, Tryd.ntmps39
    go_upto_region 1 with fail
    go_quiet (first | (go_at_call 40; with_reducible refine Calls.quiet_of_same (H1'.out _)))
    go_wp2
    go_ret
    exact ⟨rfl, _, rfl⟩
end Go.Proofs.YtfjnioninjllkaaDoor.V4
