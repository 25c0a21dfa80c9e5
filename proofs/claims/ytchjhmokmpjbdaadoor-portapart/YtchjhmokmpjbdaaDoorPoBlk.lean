/- The document's own Blocks of somebody, by a contract. -/
import Derived.Test.YtchjhmokmpjbdaaDoorPoGive
namespace Go.Proofs.YtchjhmokmpjbdaaDoor
open Go.RowKit

theorem Tryd.infoInt : (Tryd.prog.info? 3).map (fun i => (i.zero, i.size, i.bytes)) = some (some (.int .i64 0), 1, 8) := by kernel_rfl
theorem app_int {w : World} {ops : Array Oper} {rest : List Oper} {o : Oper} {a : Act} {Q : Exit → Act → World → Prop} (hgd : o.guard = none) (s x : Operand)
    (ho : o.op = .call { callee := .builtin .append, args := #[s, x], argTypes := #[53, 53] })
    (base : Nat) (v : Value) (xs : List Value) (hs : a.eval s = v) (hown : OwnG 3 base w v xs) (B m : Nat) (ys : List Value) (hx : a.eval x = .slice (some ⟨B, 0, none⟩) m m) (hm : ys.length = m)
    (hc : ∀ (j : Nat) u, ys[j]? = some u → w.cell? ⟨B, j, none⟩ = some u) (h1 : ∀ u ∈ ys, u.oneCell' = true) (hlen : xs.length + m ≤ 4000000) (hbase : base ≤ w.heap.size)
    (h : ∀ v' w', OwnG 3 base w' v' (xs ++ ys) → w.grownBy w' v.ownBlock → wpList Tryd.prog ops Q rest (a.put o.dst v') w') : wpList Tryd.prog ops Q (o :: rest) a w := by
  obtain ⟨i0, hi, hz0, hz1, hz2⟩ := info_parts Tryd.infoInt
  refine wpList_append_own _ hgd s x 53 ho base 3 i0 (.int .i64 0) 1 8 Tryd.underlying53 hi hz0 hz1 hz2 rfl (by decide) v xs.length xs hs hown ⟨B, 0, none⟩ m m ys hx (by omega) ?_ h1 (by unfold maxLen; omega) (by omega) hbase ?_
  · intro j u hu
    rw [add_pl, Nat.zero_add]
    exact hc j u hu
  · intro v' w' h2 h3 _
    refine h v' w' ?_ h3
    unfold OwnG
    rw [List.length_append, hm]
    exact h2
/-- is a block somebody's? -/
def ome (ws : Nat → List Int) (z : List Int) (o : Option Nat) : Bool := match o with | some i => eqz (ws i) z | none => false
def om (ws : Nat → List Int) (ts : Nat → Bool) (z : List Int) (k : Nat) : Bool := ome ws z (fo ts k)
/-- the numbers of somebody's blocks. -/
def bl (ws : Nat → List Int) (ts : Nat → Bool) (z : List Int) : Nat → List Nat
  | 0 => []
  | k + 1 => bl ws ts z k ++ (if om ws ts z k = true then [k] else [])
theorem bl_len (ws : Nat → List Int) (ts : Nat → Bool) (z : List Int) (k : Nat) : (bl ws ts z k).length ≤ k := by
  induction k with
  | zero => exact Nat.le_refl _
  | succ k ih => simp only [bl]; rw [List.length_append]; split <;> simp <;> omega
def iv (l : List Nat) : List Value := l.map fun x => Value.int .i64 (x : Nat)
/-- what is kept in the loop. -/
def Kb (w : World) (B BW BT n : Nat) (ws : Nat → List Int) (ts : Nat → Bool) (z : List Int) (W : World) : Prop := RP B BW BT n ws ts W ∧ SixIn w.heap.size z W ∧ Below w.heap.size w W ∧ B < w.heap.size ∧ BW < w.heap.size ∧ BT < w.heap.size
theorem Kb.kept {w : World} {B BW BT n : Nat} {ws : Nat → List Int} {ts : Nat → Bool} {z : List Int} {W W' : World} (h : Kb w B BW BT n ws ts z W) (hb : Below W.heap.size W W') : Kb w B BW BT n ws ts z W' := ⟨h.1.kept hb, h.2.1.kept hb, bt h.2.2.1 hb, h.2.2.2⟩
theorem Kb.grown {w : World} {B BW BT n : Nat} {ws : Nat → List Int} {ts : Nat → Bool} {z : List Int} {W W' : World} (h : Kb w B BW BT n ws ts z W) {r : Option Nat} (hg : W.grownBy W' r) (hr : ∀ k, r = some k → w.heap.size + 1 ≤ k) : Kb w B BW BT n ws ts z W' := by
  have hne : ∀ g, g ≤ w.heap.size → some g ≠ r := fun g hgl e => by have := hr g e.symm; omega
  have hs := h.2.2.1.size
  have hz := h.2.1.lt
  obtain ⟨e1, e2, e3⟩ := h.2.2.2
  refine ⟨⟨(hg.block _ (by omega) (hne B (by omega))).trans h.1.1, h.1.2.1.same (hg.block _ (by omega) (hne BW (by omega))), h.1.2.2.same (hg.block _ (by omega) (hne BT (by omega)))⟩, (hg.block _ hz (hne _ (Nat.le_refl _))).trans h.2.1, h.2.2.1.grown hg hs (fun k e => by have := hr k e; omega), h.2.2.2⟩
attribute [local go_sem ↓] hload_shut
set_option maxRecDepth 100000 in
set_option maxHeartbeats 4000000 in
theorem rblocks_any (B BW BT n m : Nat) (ws : Nat → List Int) (ts : Nat → Bool) (z : List Int) (w : World) (h : RP B BW BT n ws ts w) (hn : n ≤ 128) (hm : n = 8 * m) :
    Calls Tryd.prog 17 #[.pointer (some ⟨B, 0, none⟩), .agg (sixC z)] w fun e w' => ∃ v, e = .returned v ∧ OwnG 3 (w.heap.size + 1) w' v (iv (bl ws ts z m)) ∧ Below w.heap.size w w' := by
  have HK := hide (show Kb w B BW BT n ws ts z (w.alloc (.cells (sixC z) 33)) from ⟨h.kept (al_below _ _), six_new z w, al_below _ _, h.lt, h.2.1.lt, h.2.2.lt⟩)
  have hwz : w.heap.size + 1 ≤ (w.alloc (.cells (sixC z) 33)).heap.size := by simp
  have HOw := hide (fun k W (hp : RP B BW BT n ws ts W) (hk : 8 * k + 8 ≤ n) R hR => rowner_any B BW BT n ws ts k W hp hn hk R hR)
  have HZ := hide zero_new
  unfold zero6 at HZ
  have hn' : (n : Int) ≤ 128 := by omega
  have hd : (n : Int).tdiv 8 = (m : Int) := by rw [hm, Int.tdiv_eq_ediv_of_nonneg (by omega)]; omega
  clear h
  go_enter Tryd.func17, Tryd.ntmps17
  go_upto_region 1 with fail
  generalize w.alloc _ = W at HK hwz ⊢
  go_wp2
  go_loopw [5, 6] (fun v i wr => ∃ k : Nat, k ≤ m ∧ i = .int .i64 k ∧ Hid (OwnG 3 (w.heap.size + 1) wr v (iv (bl ws ts z k))) ∧ Hid (Kb w B BW BT n ws ts z wr) ∧ Hid (w.heap.size + 1 ≤ wr.heap.size)) (fun _ i _ => m - (intOf i).toNat)
  case atStart => exact ⟨0, by omega, rfl, OwnG.nil _ _ _, HK, hwz⟩
  case round =>
    obtain ⟨k, hk, rfl, HO, HV, HW⟩ := hrel
    have l1 := HV.out.1.taken
    by_cases hlt : k < m
    · have j1 : (k : Int) < (m : Int) := by omega
      have HLN := hide (bl_len ws ts z k)
      have HBS := hide (show bl ws ts z (k + 1) = bl ws ts z k ++ (if om ws ts z k = true then [k] else []) from rfl)
      obtain ⟨R, hR⟩ : ∃ R, fo ts k = R := ⟨_, rfl⟩
      have HO2 := hide (HOw.out k · · (by omega) R hR)
      have hom : om ws ts z k = ome ws z R := by unfold om; rw [hR]
      have HR2 := hide hR
      clear hR
      go_upto_region 6 with (first
        | (go_at_call 22; refine (HO2.out _ HV.out.1).mono ?_; rintro e w1 ⟨rfl, hb1⟩; replace HV := hide (HV.out.kept hb1); replace HO := hide (HO.out.kept hb1); replace HW := hide (Nat.le_trans HW.out hb1.size); clear hb1)
        | (refine at_store6 rfl (.tmp 7) (.tmp 23) rfl rfl (HZ.out w1) (ozo ws R) rfl ?_; intro w2 p2 on2; have hb2 := new_below _ on2; replace HV := hide (HV.out.kept hb2); replace HO := hide (HO.out.kept hb2); replace HW := hide (Nat.le_trans HW.out hb2.size); replace p2 := hide p2; clear hb2 on2))
      generalize w1.heap.size = B2 at p2 ⊢
      have g1 := p2.out.hl
      have g2 := HV.out.2.1.hl
      have q0 := eq_six (ozo ws R) z
      cases R with
      | none =>
        have hB : bl ws ts z (k + 1) = bl ws ts z k := by rw [HBS.out, hom]; simp [ome]
        go_wp2
        go_roundw
        case rel => exact ⟨k + 1, by omega, by go_num, by rw [hB]; exact HO, HV, HW⟩
        case measure => simp [intOf]; omega
      | some i =>
        replace q0 : ∀ w, (Op.equalIn 10000 33 (.agg (sixC (ws i))) (.agg (sixC z))).run Tryd.prog w = .ok (eqz (ws i) z) w := q0
        replace hom : om ws ts z k = eqz (ws i) z := hom
        replace g1 : (hload (.pointer (some ⟨B2, 0, none⟩))).run Tryd.prog w2 = .ok (.agg (sixC (ws i))) w2 := g1
        cases hq : eqz (ws i) z
        · rw [hq] at q0 hom
          have hB : bl ws ts z (k + 1) = bl ws ts z k := by rw [HBS.out, hom]; simp
          clear hq
          go_wp2
          go_roundw
          case rel => exact ⟨k + 1, by omega, by go_num, by rw [hB]; exact HO, HV, HW⟩
          case measure => simp [intOf]; omega
        · rw [hq] at q0 hom
          have HB' := hide (show iv (bl ws ts z (k + 1)) = iv (bl ws ts z k) ++ [.int .i64 (k : Int)] by rw [HBS.out, hom]; simp [iv])
          clear hq
          have hb3 := al_below w2 (.cells #[.int .i64 (k : Int)] 3)
          have HO3 := hide (HO.out.kept hb3)
          have HV3 := hide (HV.out.kept hb3)
          have HW3 := hide (Nat.le_trans HW.out hb3.size)
          have HC3 := hide (show ∀ (j : Nat) u, [Value.int .i64 (k : Int)][j]? = some u → (w2.alloc (.cells #[.int .i64 (k : Int)] 3)).cell? ⟨w2.heap.size, j, none⟩ = some u from fun j u hu => by match j with | 0 => simp at hu; subst hu; simp | j + 1 => simp at hu)
          have HL3 := hide (show (iv (bl ws ts z k)).length + 1 ≤ 4000000 by have := HLN.out; unfold iv; rw [List.length_map]; omega)
          clear hb3
          go_wp2_with (at_builtin; refine app_int rfl (.tmp 31) (.tmp 33) rfl (w.heap.size + 1) _ _ rfl HO3.out w2.heap.size 1 [.int .i64 (k : Int)] rfl rfl HC3.out (fun u hu => by simp at hu; subst hu; rfl) HL3.out HW3.out ?_; intro v4 w4 o4 g4; have HV4 := hide (HV3.out.grown g4 HO3.out.base); have HW4 := hide (Nat.le_trans HW3.out g4.size); replace o4 := hide o4)
          go_roundw
          case rel => exact ⟨k + 1, by omega, by go_num, by rw [HB'.out]; exact o4, HV4, HW4⟩
          case measure => simp [intOf]; omega
    · obtain rfl : m = k := by omega
      go_wp2
      go_ret
      exact ⟨_, rfl, HO.out, HV.out.2.2.1⟩
end Go.Proofs.YtchjhmokmpjbdaaDoor
