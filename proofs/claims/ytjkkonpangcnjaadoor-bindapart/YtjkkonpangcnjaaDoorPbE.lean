/- The program's Owner and Give of a port, by contracts. -/
import Derived.Test.YtjkkonpangcnjaaDoorPbD
import Derived.Test.YtjkkonpangcnjaaDoorPoTell
namespace Go.Proofs.YtjkkonpangcnjaaDoor
open Go.RowKit

theorem find_no (B BB m : Nat) (ow : Nat → List Int) (ts : Nat → Bool) (p : Int) (w : World) (h : BP B BB m ow ts w) (hm : m ≤ 16) (hp : hs ts (8 * m) p = false) :
    Calls Tryd.prog 59 #[.pointer (some ⟨B, 0, none⟩), .int .i64 p] w fun e w' => e = .returned (.tuple #[.pointer none, .int .i64 0]) ∧ w' = w := by
  rcases port_cases (8 * m) p with h1 | h1 | ⟨i, hi, rfl⟩
  · exact find_out B BB m ow ts p w h hm (.inl h1)
  · exact find_out B BB m ow ts p w h hm (.inr h1)
  · rw [hs_in i hi] at hp
    have := find_in B BB m ow ts (i / 8) (i % 8) w h hm (by omega) (by omega)
    rw [show 8 * (i / 8) + i % 8 = i by omega, hp] at this
    exact this
theorem find_yes (B BB m : Nat) (ow : Nat → List Int) (ts : Nat → Bool) (k j : Nat) (w : World) (h : BP B BB m ow ts w) (hm : m ≤ 16) (hk : k < m) (hj : j < 8) (ht : ts (8 * k + j) = true) :
    Calls Tryd.prog 59 #[.pointer (some ⟨B, 0, none⟩), .int .i64 (1024 + ((8 * k + j : Nat) : Int))] w fun e w' => e = .returned (.tuple #[.pointer (some ⟨BB, 16 * k, none⟩), .int .i64 j]) ∧ w' = w := by
  have := find_in B BB m ow ts k j w h hm hk hj
  rw [ht] at this
  exact this
theorem at_bwho {ops : Array Oper} {rest : List Oper} {o : Oper} {f : Act} {w : World} {Q : Exit → Act → World → Prop} (hgd : o.guard = none) (x : Operand) (ho : o.op = .load 33 x)
    {B m : Nat} {ow : Nat → List Int} {ts : Nat → Bool} (k off : Nat) (hx : f.eval x = .pointer (some ⟨B, off, none⟩)) (hoff : off = 16 * k) (hk : k < m) (p : BRow B m ow ts w)
    (hK : wpList Tryd.prog ops Q rest (f.put o.dst (.agg (sixC (ow k)))) w) : wpList Tryd.prog ops Q (o :: rest) f w := by
  subst hoff
  exact wpList_load_mid hgd 33 x ho B (16 * k) hx (sixC (ow k)).toList _ (p.who k hk) Tryd.underlying33 rfl (by kernel_rfl) hK
set_option maxRecDepth 100000 in
set_option maxHeartbeats 1000000 in
theorem pgive_no (B BB m : Nat) (ow : Nat → List Int) (ts : Nat → Bool) (p : Int) (w : World) (h : BP B BB m ow ts w) (hm : m ≤ 16) (hp : hs ts (8 * m) p = false) :
    Calls Tryd.prog 48 #[.pointer (some ⟨B, 0, none⟩), .int .i64 p] w fun e w' => e = .returned (err 4) ∧ w' = w := by
  have HP := hide (find_no B BB m ow ts p w h hm hp)
  clear h hp
  go_enter Tryd.func48, Tryd.ntmps48
  go_wp2_with (go_at_call 59; refine HP.out.mono ?_; rintro e w' ⟨rfl, rfl⟩)
  go_ret
  exact ⟨rfl, rfl⟩
theorem BRow.set {B m : Nat} {ow : Nat → List Int} {ts : Nat → Bool} {w : World} (h : BRow B m ow ts w) (k j : Nat) (hk : k < m) (hj : j < 8) (x : Bool) : BRow B m ow (upd ts (8 * k + j) x) (w.setCell ⟨B, 16 * k + 8 + j, none⟩ (.bool x)) := by
  obtain ⟨cs, h1, h2, h3⟩ := h
  refine ⟨cs.setIfInBounds (16 * k + 8 + j) (.bool x), ?_, by simpa using h2, fun k' hk' j' hj' => ⟨?_, ?_⟩⟩
  · rw [setCell_eq_setRow w B _ _ 103 (0, 0) (.bool x) h1, setRow_heap w B _ _ 103 (0, 0) h1]
  · rw [Array.getElem?_setIfInBounds_ne (by omega)]
    exact (h3 k' hk' j' hj').1
  · unfold upd
    by_cases e : 8 * k' + j' = 8 * k + j
    · rw [if_pos e, show 16 * k' + 8 + j' = 16 * k + 8 + j by omega, Array.getElem?_setIfInBounds_self_of_lt (by omega)]
    · rw [if_neg e, Array.getElem?_setIfInBounds_ne (by omega)]
      exact (h3 k' hk' j' hj').2
theorem BRow.held {B m : Nat} {ow : Nat → List Int} {ts : Nat → Bool} {w : World} (h : BRow B m ow ts w) (k : Nat) (hk : k < m) (z : List Int) :
    ∃ w', (qstore (.pointer (some ⟨B, 16 * k, none⟩)) (.agg (sixC z))).run Tryd.prog w = .ok () w' ∧ BRow B m (upd ow k z) ts w' ∧ Only B w w' := by
  obtain ⟨cs, h1, h2, h3⟩ := h
  refine ⟨w.setCells B (16 * k) (sixC z).toList, ?_, ?_, setCells_only B _ _ w⟩
  · exact run_storeAt_mid w B (16 * k) 33 (sixC z) (fun j hj => by
      have hj8 : j < 8 := hj
      rw [cell_of_row w B (16 * k + j) _ _ _ h1, (h3 k hk j hj8).1]
      refine ⟨rfl, by simp [World.frozen?, h1]⟩) (by kernel_rfl) (by unfold sixC; simp [Value.oneCell'])
  · obtain ⟨cs', e1, e2, e3⟩ := setCells_row B 103 (sixC z).toList (16 * k) w cs h1
    have hl : (sixC z).toList.length = 8 := rfl
    refine ⟨cs', e1, e2.trans h2, fun k' hk' j hj => ⟨?_, ?_⟩⟩
    · rw [e3 (16 * k' + j) (by omega)]
      unfold upd
      by_cases e : k' = k
      · subst e
        rw [if_pos (by rw [hl]; omega), if_pos rfl, show 16 * k' + j - 16 * k' = j by omega, ← sixC_at z j hj]
        simp
      · rw [if_neg (by rw [hl]; omega), if_neg e]
        exact (h3 k' hk' j hj).1
    · rw [e3 (16 * k' + 8 + j) (by omega), if_neg (by rw [hl]; omega)]
      exact (h3 k' hk' j hj).2
theorem BP.setT {B BB m : Nat} {ow : Nat → List Int} {ts : Nat → Bool} {w : World} (h : BP B BB m ow ts w) (k j : Nat) (hk : k < m) (hj : j < 8) (x : Bool) : BP B BB m ow (upd ts (8 * k + j) x) (w.setCell ⟨BB, 16 * k + 8 + j, none⟩ (.bool x)) :=
  ⟨(Below.heap_setCell w ⟨BB, _, none⟩ _ B h.ne).trans h.1, h.2.set k j hk hj x⟩
theorem BP.only {B BB m : Nat} {ow ow' : Nat → List Int} {ts : Nat → Bool} {w w' : World} (h : BP B BB m ow ts w) (on : Only BB w w') (hw : BRow BB m ow' ts w') : BP B BB m ow' ts w' := ⟨(on.2.2.2.2 B h.ne).trans h.1, hw⟩
/-- who has the blocks when a port was given back. -/
def gv (ow : Nat → List Int) (ts : Nat → Bool) (k : Nat) : Nat → List Int := if nob (sb ts k) = true then upd ow k [] else ow
attribute [local go_sem ↓] qstore_shut
set_option maxRecDepth 100000 in
set_option maxHeartbeats 1000000 in
theorem pgive_yes (B BB m : Nat) (ow : Nat → List Int) (ts : Nat → Bool) (k j : Nat) (w : World) (h : BP B BB m ow ts w) (hm : m ≤ 16) (hk : k < m) (hj : j < 8) (ht : ts (8 * k + j) = true) :
    Calls Tryd.prog 48 #[.pointer (some ⟨B, 0, none⟩), .int .i64 (1024 + ((8 * k + j : Nat) : Int))] w fun e w' => e = .returned .nilIface ∧ BP B BB m (gv ow (upd ts (8 * k + j) false) k) (upd ts (8 * k + j) false) w' ∧ Fr (fun g => g = BB) w w' := by
  have HP := hide (find_yes B BB m ow ts k j _ h hm hk hj ht)
  obtain ⟨c1, c2⟩ := h.2.bit k hk j hj
  have HS := hide (h.setT k j hk hj false)
  have HF := hide (setCell_fr w BB (16 * k + 8 + j) (.bool false))
  have HG := hide (show gv ow (upd ts (8 * k + j) false) k = if nob (sb (upd ts (8 * k + j) false) k) = true then upd ow k [] else ow from rfl)
  clear h ht
  have j7 : (j : Int) < 8 := by omega
  generalize upd ts (8 * k + j) false = ts' at HS HG ⊢
  have HN := hide (nob_any (ow k) (sb ts' k))
  generalize gv ow ts' k = ow' at HG ⊢
  generalize 1024 + ((8 * k + j : Nat) : Int) = p at HP ⊢
  go_enter Tryd.func48, Tryd.ntmps48
  go_upto_region 5 with (go_at_call 59; refine HP.out.mono ?_; rintro e w' ⟨rfl, rfl⟩)
  clear c1 c2 HP
  generalize w'.setCell _ _ = w1 at HS HF ⊢
  generalize nob (sb ts' k) = b at HN HG
  cases b
  · go_wp2_with (first
      | (refine at_brow rfl (.tmp 22) rfl k _ rfl (by omega) hk HS.out.2 ?_)
      | (go_at_call 55; refine (HN.out _).mono ?_; rintro e w2 ⟨rfl, hb2⟩; replace HS := hide (HS.out.kept hb2); replace HF := hide (HF.out.trans (Fr.of hb2)); clear hb2))
    go_ret
    exact ⟨rfl, by rw [HG.out]; exact HS.out, HF.out⟩
  · go_upto_region 6 with (first
      | (refine at_brow rfl (.tmp 22) rfl k _ rfl (by omega) hk HS.out.2 ?_)
      | (go_at_call 55; refine (HN.out _).mono ?_; rintro e w2 ⟨rfl, hb2⟩; replace HS := hide (HS.out.kept hb2); replace HF := hide (HF.out.trans (Fr.of hb2)); clear hb2))
    obtain ⟨w5, hst, p5, on5⟩ := HS.out.2.held k hk []
    replace p5 := hide (HS.out.only on5 p5)
    replace HF := hide (HF.out.trans (on5.fr rfl))
    clear on5
    replace hst : (qstore (.pointer (some ⟨BB, 16 * k, none⟩)) (.agg zero6)).run Tryd.prog w2 = .ok () w5 := hst
    unfold zero6 at hst
    go_wp2
    go_ret
    exact ⟨rfl, by rw [HG.out]; exact p5.out, HF.out⟩
end Go.Proofs.YtjkkonpangcnjaaDoor
