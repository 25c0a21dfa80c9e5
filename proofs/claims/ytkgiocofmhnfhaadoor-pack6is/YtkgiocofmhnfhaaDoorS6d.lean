/- Package ip6: read, by a contract. -/
import Derived.Test.YtkgiocofmhnfhaaDoorS6c
namespace Go.Proofs.YtkgiocofmhnfhaaDoor
open Go.RowKit
attribute [local go_sem ↓] Go.wp_at_zero Go.wp_at_succ

theorem adr_part (zs : List Int) (j : Nat) : adr ((zs.drop j).take 16) 0 = adr zs j := by
  unfold adr
  refine List.map_congr_left fun k hk => ?_
  have hk : k < 8 := by simpa using hk
  rw [Nat.zero_add, Nat.zero_add, P4.getD_take (by omega), P4.getD_take (by omega), P4.getD_drop, P4.getD_drop]
/-- six of a part of bytes. -/
theorem six_at (g off len cap : Nat) (zs : List Int) (w : World) (j c : Nat) (hr : Row8 w (some ⟨g, off, none⟩) len cap zs) (h1 : j + 16 ≤ len) :
    Calls Tryd.prog 28 #[.slice (some ⟨g, off + j, none⟩) 16 c] w fun e w' => e = .returned (.agg (sixC (adr zs j))) ∧ Below w.heap.size w w' := by
  have h := hr.part j (j + 16) (by omega) h1 (some ⟨g, off + j, none⟩) c (fun b o _ e => by cases e; rfl) (fun e => by cases e)
  rw [show j + 16 - j = 16 by omega] at h
  have := six_any g (off + j) c _ w h
  rw [adr_part] at this
  exact this
theorem rsixat_at (g off len cap : Nat) (zs : List Int) (w : World) (j c : Nat) (hr : Row8 w (some ⟨g, off, none⟩) len cap zs) (h1 : j + 16 ≤ len) :
    Calls Tryd.prog 23 #[.slice (some ⟨g, off + j, none⟩) 16 c] w fun e w' => e = .returned (.agg (sixC (adr zs j))) ∧ Below w.heap.size w w' := by
  have h := hr.part j (j + 16) (by omega) h1 (some ⟨g, off + j, none⟩) c (fun b o _ e => by cases e; rfl) (fun e => by cases e)
  rw [show j + 16 - j = 16 by omega] at h
  have := rsixat_any g (off + j) c _ w h
  rw [adr_part] at this
  exact this
/-- append onto a slice of bytes of the call's own, as a step of a region that draws its order. -/
theorem step_app {w : World} {ops : Array Oper} {o : Oper} {a : Act} {K : Act → World → Prop} {Q : Exit → Act → World → Prop} {E : Prop} (hgd : o.guard = none) (s x : Operand)
    (ho : o.op = .call { callee := .builtin .append, args := #[s, x], argTypes := #[24, 24] })
    (base : Nat) (v : Value) (zs : List Int) (hs : a.eval s = v) (hown : Own base w v zs) (ao : Option Addr) (hao : ∃ ad, ao = some ad) (len cap : Nat) (ys : List Int) (n : Nat) (hn : (zs ++ ys).length = n)
    (hx : a.eval x = .slice ao len cap) (hrow : Row8 w ao len cap ys) (hlen : zs.length + len ≤ 1000000000) (hbase : base ≤ w.heap.size)
    (h : ∀ a' c' w', Own base w' (.slice a' n c') (zs ++ ys) → w.grownBy w' v.ownBlock → K (a.put o.dst (.slice a' n c')) w') : if Region.wanted o (yielded ops a.tmps) = true then Oper.wp Tryd.prog o a w K Q else E := by
  have hw : Region.wanted o (yielded ops a.tmps) = true := by simp [Region.wanted, hgd]
  rw [if_pos hw]
  obtain ⟨ad, rfl⟩ := hao
  obtain ⟨i0, hi, hz0, hz1, hz2⟩ := info_parts Tryd.infoByte
  obtain ⟨r1, r2, r3, r4, r5⟩ := hrow
  refine wp_append_own w s x 24 ho base 5 i0 (.int .u8 0) 1 1 Tryd.underlying24 hi hz0 hz1 hz2 rfl (by decide) v zs.length _ hs hown.2 ad len cap (ys.map (Value.int .u8)) hx (by simp [r1]) ?_ (ints_oneCell .u8 ys) (by unfold maxLen; omega) (by omega) hbase ?_
  · intro j u hu
    have hj : j < ys.length := by
      have := (List.getElem?_eq_some_iff.1 hu).1
      simpa using this
    obtain ⟨b, off, h6, h7⟩ := r5 (by omega)
    have hc := h7 j (by omega)
    obtain rfl : ad = ⟨b, off, none⟩ := by simpa using h6
    have e : (⟨b, off, none⟩ : Addr).add j = ⟨b, off + j, none⟩ := by unfold Addr.add; split <;> simp_all
    rw [e, hc]
    rw [List.getElem?_map] at hu
    simp [hj] at hu ⊢
    exact hu
  · intro v' w' h1 h2 _
    have ho : Own base w' v' (zs ++ ys) := by
      refine ⟨SM.oct_append _ _ hown.1 r3, ?_⟩
      rw [List.map_append, List.length_append, r1]
      exact h1
    obtain ⟨a', c', e, _, _⟩ := ho.row8
    rw [hn] at e
    rw [e] at ho ⊢
    exact h a' c' w' ho h2
/-- a packet stored, as a step of a region that draws its order. -/
theorem step_store {w : World} {ops : Array Oper} {o : Oper} {f : Act} {K : Act → World → Prop} {Q : Exit → Act → World → Prop} {E : Prop} (hgd : o.guard = none) (x y : Operand) (ho : o.op = .store 26 x y)
    {B : Nat} {s0 d0 : List Int} {h0 k0 : Int} {a0 : Option Addr} {len0 cap0 : Nat} (hx : f.eval x = .pointer (some ⟨B, 0, none⟩)) (p : PkIn B s0 d0 h0 k0 a0 len0 cap0 w)
    (s d : List Int) (h k : Int) (a : Option Addr) (len cap : Nat) (hy : f.eval y = .agg (pkC s d h k a len cap))
    (hK : ∀ w', PkIn B s d h k a len cap w' → Only B w w' → K (f.put o.dst undef) w') : if Region.wanted o (yielded ops f.tmps) = true then Oper.wp Tryd.prog o f w K Q else E := by
  have hw : Region.wanted o (yielded ops f.tmps) = true := by simp [Region.wanted, hgd]
  rw [if_pos hw]
  exact wp_store_row 26 x y ho B _ hx hy 26 _ p (by kernel_rfl) rfl (by unfold pkC; simp [Value.oneCell']) (hK _ (p.stored s d h k a len cap) (only_setRow _ _ _))
theorem pk_result {fn : Func} {p : Tmp} (h : fn.results = #[.cell p 26]) (tmps : Array Value) (w : World) (B : Nat) (s d : List Int) (hp k : Int) (a : Option Addr) (len cap : Nat)
    (ht : tmps.getD p undef = .pointer (some ⟨B, 0, none⟩)) (hg : PkIn B s d hp k a len cap w) : (results fn tmps).run Tryd.prog w = .ok (.agg (pkC s d hp k a len cap)) w :=
  results_cell_row h tmps w B 26 _ (0, 0) _ ht hg Tryd.underlying26 rfl (by kernel_rfl)
/-- a new packet of noughts. -/
def zero6 : Array Value := #[.int .i64 0, .int .i64 0, .int .i64 0, .int .i64 0, .int .i64 0, .int .i64 0, .int .i64 0, .int .i64 0, .int .i64 0, .int .i64 0, .int .i64 0, .int .i64 0, .int .i64 0, .int .i64 0, .int .i64 0, .int .i64 0, .int .i64 0, .int .i64 0, .slice none 0 0]
theorem zero_new (w : World) : PkIn w.heap.size [] [] 0 0 none 0 0 (w.alloc (.cells zero6 26)) := pk_new w [] [] 0 0 none 0 0

theorem Row8.at_ {w : World} {g off len cap : Nat} {zs : List Int} (h : Row8 w (some ⟨g, off, none⟩) len cap zs) (i : Nat) (hi : i < len) : w.cell? ⟨g, off + i, none⟩ = some (.int .u8 (zs.getD i 0)) := by
  obtain ⟨-, -, -, -, h5⟩ := h
  obtain ⟨b, o, e, hcell⟩ := h5 (by omega)
  cases e
  exact hcell i hi
theorem Only.row {B : Nat} {w w' : World} (h : Only B w w') {g off len cap : Nat} {zs : List Int} (r : Row8 w (some ⟨g, off, none⟩) len cap zs) (hg : g ≠ B) : Row8 w' (some ⟨g, off, none⟩) len cap zs := by
  obtain ⟨h1, h2, h3, h4, h5⟩ := r
  refine ⟨h1, h2, h3, h4, fun hp => ?_⟩
  obtain ⟨b, o, e, hc⟩ := h5 hp
  cases e
  exact ⟨g, off, rfl, fun i hi => (World.cell?_of_block (a := ⟨g, off + i, none⟩) (h.2.2.2.2 g hg)).trans (hc i hi)⟩
/-- a packet's store, held shut for a walk. -/
def hstore (x y : Value) : Sem Unit := Instr.storeAt 26 x y
theorem hstore_shut (x y : Value) : Instr.storeAt 26 x y = hstore x y := rfl
theorem PkIn.held {B : Nat} {s0 d0 : List Int} {h0 k0 : Int} {a0 : Option Addr} {len0 cap0 : Nat} {w : World} (p : PkIn B s0 d0 h0 k0 a0 len0 cap0 w) (s d : List Int) (h k : Int) (a : Option Addr) (len cap : Nat) :
    ∃ w', (hstore (.pointer (some ⟨B, 0, none⟩)) (.agg (pkC s d h k a len cap))).run Tryd.prog w = .ok () w' ∧ PkIn B s d h k a len cap w' ∧ Only B w w' := by
  refine ⟨w.setRow B (pkC s d h k a len cap), ?_, p.stored s d h k a len cap, only_setRow _ _ _⟩
  unfold hstore
  simp only [Instr.storeAt, Instr.sureAddr, Sem.run_bind, Sem.run_pure, Result.andThen_ok]
  exact run_storeVar_row w B 26 26 _ (pkC s d h k a len cap) p (by kernel_rfl) rfl (by unfold pkC; simp [Value.oneCell'])
attribute [local go_sem ↓] hstore_shut
set_option maxRecDepth 100000 in
set_option maxHeartbeats 4000000 in
theorem read_raw (g off len cap : Nat) (zs : List Int) (w : World) (hr : Row8 w (some ⟨g, off, none⟩) len cap zs) (h40 : 40 ≤ len) (h360 : len ≤ 360) (hcl : len ≤ cap) (hcm : cap ≤ maxLen) :
    Calls Tryd.prog 24 #[.slice (some ⟨g, off, none⟩) len cap] w fun e w' => ∃ a' c', e = .returned (.agg (pkC (adr zs 8) (adr zs 24) (zs.getD 7 0) (zs.getD 6 0) a' (len - 40) c')) ∧ Own w.heap.size w' (.slice a' (len - 40) c') (zs.drop 40) ∧ Below w.heap.size w w' := by
  unfold maxLen at hcm
  have hcl' : (len : Int) ≤ (cap : Int) := by omega
  have h40' : (40 : Int) ≤ (len : Int) := by omega
  have h6' : (6 : Int) < (len : Int) := by omega
  have h7' : (7 : Int) < (len : Int) := by omega
  have h24' : (24 : Int) ≤ (cap : Int) := by omega
  have h40c : (40 : Int) ≤ (cap : Int) := by omega
  have hn8 : cap ≠ 8 := by omega
  have hn24 : cap ≠ 24 := by omega
  have hb0 : Below w.heap.size w (w.alloc (.cells zero6 26)).drew := ((Below.refl _ _).alloc (Nat.le_refl _) _).drew
  have HR0 := hide (hr.below hb0)
  have HPK := hide (show PkIn w.heap.size [] [] 0 0 none 0 0 (w.alloc (.cells zero6 26)).drew from zero_new w)
  have hcel : ∀ i, i < len → w.cell? ⟨g, off + i, none⟩ = some (.int .u8 (zs.getD i 0)) := by
    obtain ⟨-, -, -, -, h5⟩ := hr
    obtain ⟨b, o, e, hcell⟩ := h5 (by omega)
    cases e
    exact hcell
  have hx6 := hcel 6 (by omega)
  have hx7 := hcel 7 (by omega)
  clear hcel
  have HK := hide (fun W (h : Row8 W (some ⟨g, off, none⟩) len cap zs) => show W.cell? ⟨g, off + 6, none⟩ = some (.int .u8 (zs.getD 6 0)) ∧ W.cell? ⟨g, off + 7, none⟩ = some (.int .u8 (zs.getD 7 0)) from ⟨h.at_ 6 (by omega), h.at_ 7 (by omega)⟩)
  have hw6 := hr.2.2.1 6
  have hw7 := hr.2.2.1 7
  have had : ∃ ad, (if cap = 40 then some (⟨g, off, none⟩ : Addr) else some ⟨g, off + 40, none⟩) = some ad := by split <;> exact ⟨_, rfl⟩
  have hpart := fun W (h : Row8 W (some ⟨g, off, none⟩) len cap zs) => (h.part 40 len h40 (Nat.le_refl _) (if cap = 40 then some ⟨g, off, none⟩ else some ⟨g, off + 40, none⟩) (cap - 40) (fun b o hlt e => by cases e; rw [if_neg (by omega)]) (fun e => by split at e <;> cases e)).congr (show (zs.drop 40).take (len - 40) = zs.drop 40 from List.take_of_length_le (by rw [List.length_drop, hr.1]; exact Nat.le_refl _))
  obtain ⟨ao, hao⟩ : ∃ ao, (if cap = 40 then some (⟨g, off, none⟩ : Addr) else some ⟨g, off + 40, none⟩) = ao := ⟨_, rfl⟩
  rw [hao] at hpart had
  have HPart := hide hpart
  have HAD := hide had
  clear hpart had
  have HL := hide (show ([] ++ zs.drop 40).length = len - 40 by rw [List.nil_append, List.length_drop, hr.1])
  have HLen := hide (show ([] : List Int).length + (len - 40) ≤ 1000000000 by simp; omega)
  have HB0 := hide hb0
  have hge : w.heap.size ≠ g := World.new_ne w _ hx6
  have HS := hide (fun W c (h : Row8 W (some ⟨g, off, none⟩) len cap zs) => six_at g off len cap zs W 8 c h (by omega))
  have HD := hide (fun W c (h : Row8 W (some ⟨g, off, none⟩) len cap zs) => six_at g off len cap zs W 24 c h (by omega))
  unfold sixC at HS HD
  generalize adr zs 8 = S at HS ⊢
  generalize adr zs 24 = D at HD ⊢
  clear hr hb0
  generalize zs.getD 6 0 = z6 at hx6 hw6 HK ⊢
  generalize zs.getD 7 0 = z7 at hx7 hw7 HK ⊢
  have hz6 : IntKind.i64.wrap z6 = z6 := by rw [IntKind.wrap_i64]; omega
  have hz7 : IntKind.i64.wrap z7 = z7 := by rw [IntKind.wrap_i64]; omega
  unfold zero6 at HR0 HPK HB0
  go_enter Tryd.func24, Tryd.ntmps24
  go_upto_region 1 with fail
  go_region_held3 (fun w' => w'.cell? ⟨g, off + 6, none⟩ = some (.int .u8 z6) ∧ w'.cell? ⟨g, off + 7, none⟩ = some (.int .u8 z7))
    (first
      | go_keep
      | exact HK.out _ HR0.out
      | exact HK.out _ HR6.out)
    (first
      | (go_at_call 28; with_reducible refine (HS.out _ _ HR0.out).mono ?_; rintro e w1 ⟨rfl, hb1⟩; replace HPK := hide (HPK.out.kept hb1); replace HB0 := hide (bt HB0.out hb1); replace HR0 := hide (HR0.out.below hb1); clear hb1)
      | (go_at_call 28; with_reducible refine (HD.out _ _ HR0.out).mono ?_; rintro e w2 ⟨rfl, hb2⟩; replace HPK := hide (HPK.out.kept hb2); replace HB0 := hide (bt HB0.out hb2); replace HR0 := hide (HR0.out.below hb2); clear hb2)
      | (refine step_app rfl (.const (.slice none 0 0)) (.tmp 18) rfl (w.heap.size + 1) _ [] (by rfl) (Own.nil _ _) _ HAD.out (len - 40) (cap - 40) _ (len - 40) HL.out (by rfl) (HPart.out _ HR0.out) HLen.out HPK.out.lt ?_; intro a5 c5 w5 o5 g5; replace HPK := hide (HPK.out.grown g5 (by intro e; cases e)); replace HB0 := hide (HB0.out.grown g5 HB0.out.size (fun k h => by cases h)); replace HR0 := hide (HR0.out.grown g5 (fun _ _ _ e => by cases e)); obtain ⟨w6, hst, p6, on6⟩ := HPK.out.held S D z7 z6 a5 (len - 40) c5; unfold pkC at hst; replace p6 := hide p6; have HR6 := hide (on6.row HR0.out hge.symm); replace on6 := hide on6))
  have HB1 := hide (on6.out.below HB0.out (Nat.le_refl _))
  have HO1 := hide (on6.out.own o5 (Nat.lt_succ_self _))
  go_wp2
  try simp only [Exit.inBlock, Exit.then]
  refine bodyPost_ret (pk_result rfl _ _ w.heap.size S D z7 z6 a5 (len - 40) c5 rfl p6.out) rfl ?_
  exact ⟨_, _, rfl, by simpa using HO1.out.mono (Nat.le_succ _), HB1.out⟩
end Go.Proofs.YtkgiocofmhnfhaaDoor
