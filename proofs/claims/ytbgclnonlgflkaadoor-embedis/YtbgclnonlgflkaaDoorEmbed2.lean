/- The range over places, by the iterator's own contract: the four places behind so many bytes, the ninth byte left out. -/
import Derived.Test.YtbgclnonlgflkaaDoorEmbed1
namespace Go.Proofs.YtbgclnonlgflkaaDoor
open Go.RowKit Go.Shelf
attribute [local go_sem] Oper.semAt_some

/-- an operation that is no 'defer' goes in a round as it goes outside. -/
theorem opIn_out {F : Fence} {l n : Nat} {P : Program} {o : Oper} {a : Act} {w : World} {K : Act → World → Prop} {Q : Exit → Act → World → Prop} (hd : ∀ c, o.op ≠ .defer c) (h : o.wpIn F n P a w K Q) : o.wpIn (F.inRound l) n P a w K Q := by
  unfold Oper.wpIn at h ⊢
  rw [Oper.semAt_eq _ _ _ hd] at h ⊢
  refine ⟨h.1, ?_⟩
  have h2 := h.2
  generalize (execOp a.eval o).run P w = r at h2 ⊢
  cases r with
  | ok x w' => cases x <;> exact h2
  | halt x w' => cases x <;> exact h2
theorem anyIn_out {F : Fence} {l n : Nat} {P : Program} {md : Region.Mode} {ops : Array Oper} {Q : Exit → Act → World → Prop} (hops : ∀ (i : Nat) o, ops[i]? = some o → ∀ c, o.op ≠ .defer c) :
    ∀ (fuel : Nat) (listed : Array Bool) (a : Act) (w : World), wpAnyIn F n P md ops Q fuel listed a w → wpAnyIn (F.inRound l) n P md ops Q fuel listed a w := by
  intro fuel
  induction fuel with
  | zero => intro listed a w h; exact h
  | succ fuel ih =>
    intro listed a w h
    refine ⟨h.1, fun i hi => ?_⟩
    have h2 := wpOpIn_mono (fun a w => ih (listed.setIfInBounds i true) a w) (h.2 i hi)
    unfold wpOpIn at h2 ⊢
    split
    · rename_i e; simpa [e] using h2
    · rename_i o ho
      simp only [ho] at h2
      split
      · rename_i hw; simp only [hw, if_true] at h2; exact opIn_out (hops i o ho) h2
      · rename_i hw; simp only [hw] at h2; exact h2
/-- no operation of a region is a 'defer'. -/
def noDefer (ops : Array Oper) : Bool := ops.toList.all fun o => match o.op with | .defer _ => false | _ => true
theorem noDefer_spec {ops : Array Oper} (h : noDefer ops = true) : ∀ (i : Nat) o, ops[i]? = some o → ∀ c, o.op ≠ .defer c := by
  intro i o ho c e
  unfold noDefer at h
  rw [List.all_eq_true] at h
  have := h o (Array.mem_toList_iff.2 (Array.mem_of_getElem? ho))
  rw [e] at this
  cases this

/-- where the byte i of a four stands, behind q bytes. -/
def pos (q i : Nat) : Nat := if q ≤ 8 ∧ 8 ≤ q + i then q + i + 1 else q + i
def top (q k : Nat) : Nat := if q ≤ 8 ∧ 8 < q + k then q + k + 1 else q + k
theorem top_eight {q k : Nat} (h : top q k = 8) : pos q k = 9 ∧ top q (k + 1) = 10 := by
  unfold top at h ⊢
  unfold pos
  split at h
  · omega
  · constructor
    · rw [if_pos (by omega)]; omega
    · rw [if_pos (by omega)]; omega
theorem top_other {q k : Nat} (h : top q k ≠ 8) : pos q k = top q k ∧ top q (k + 1) = top q k + 1 := by
  unfold top at h ⊢
  unfold pos
  by_cases h1 : q ≤ 8 ∧ 8 < q + k
  · rw [if_pos h1] at h
    rw [if_pos (by omega), if_pos h1, if_pos (by omega)]
    omega
  · rw [if_neg h1] at h
    rw [if_neg h1, if_neg (by omega), if_neg (by omega)]
    omega
theorem top_le (q k : Nat) : top q k ≤ q + k + 1 := by unfold top; split <;> omega
theorem pos_le (q k : Nat) : pos q k ≤ q + k + 1 := by unfold pos; split <;> omega
def encP (q : Nat) (x : Fin 4) : Array Value := #[.int .i64 (x.val : Int), .int .i64 (pos q x.val : Int)]
def four4 : List (Fin 4) := [0, 1, 2, 3]
def first4 (k : Nat) : List (Fin 4) := four4.take k
theorem first4_succ (k : Nat) (h : k < 4) : first4 (k + 1) = first4 k ++ [⟨k, h⟩] := by
  rcases (by omega : k = 0 ∨ k = 1 ∨ k = 2 ∨ k = 3) with rfl | rfl | rfl | rfl <;> rfl
theorem first4_len (k : Nat) (h : k ≤ 4) : (first4 k).length = k := by
  rcases (by omega : k = 0 ∨ k = 1 ∨ k = 2 ∨ k = 3 ∨ k = 4) with rfl | rfl | rfl | rfl | rfl <;> rfl

set_option maxHeartbeats 1000000 in
theorem places_in (n : Nat) (l Bn n₀ : Nat) (q : Nat) (hq : q ≤ 12) (J Jx : List (Fin 4) → World → Prop) (hn : 1 ≤ n)
    (hY : ∀ pre x W, J pre W → pre.length < 4 → YieldAt Fence.wide (n - 1) Tryd.prog l (encP q x) W fun e W' =>
      (e = .returned (.bool true) ∧ J (pre ++ [x]) W' ∧ Below n₀ W W') ∨ (e = .returned (.bool false) ∧ Jx (pre ++ [x]) W'))
    (W : World) (hBn : W.cell? ⟨Bn, 0, none⟩ = some (.int .i64 (8 * q))) (h0 : J [] W) :
    CallsIn Fence.wide n Tryd.prog 26 #[.func (.yield l) #[] #[], .pointer (some ⟨Bn, 0, none⟩)] W fun e W' => (∃ v, e = .returned v) ∧
      ((∃ ys, ys = four4 ∧ J ys W') ∨ (∃ pre, True ∧ Jx pre W')) := by
  have hd : (8 * (q : Int)).tdiv 8 = q := by rw [Int.tdiv_eq_ediv_of_nonneg (by omega)]; omega
  refine callsIn_of_wp Tryd.func26 rfl trivial ?_ rfl
  simp only [Tryd.ntmps26, List.size_toArray, List.length_cons, List.length_nil, Nat.reduceAdd, Nat.reduceSub, Array.replicate_succ, Array.replicate_zero, List.push_toArray, List.append_toArray, List.nil_append, List.cons_append]
  gi_wp2
  gi_loopw [3, 7] (fun p i wr => ∃ (k P : Nat), k ≤ 4 ∧ P ≤ 17 ∧ Hid (P = top q k) ∧ p = .int .i64 P ∧ i = .int .i64 k ∧ Hid (J (first4 k) wr)) (fun _ i _ => 4 - (intOf i).toNat)
  case atStart => exact ⟨0, q, by omega, by omega, hide (by unfold top; rw [if_neg (by omega)]; rfl), rfl, rfl, h0⟩
  case round =>
    obtain ⟨k, P, hk, hP, HP, rfl, rfl, HJ⟩ := hrel
    clear hd hBn
    by_cases hlt : k < 4
    · obtain ⟨fn, tmps, assign, body, hy, hR⟩ := hY (first4 k) ⟨k, hlt⟩ wr HJ.out (by rw [first4_len k hk]; exact hlt)
      dsimp only [encP] at hy
      rw [← first4_succ k hlt] at hR
      by_cases h8 : P = 8
      · have h9 := top_eight (HP.out.symm.trans h8)
        have HT := hide h9.2
        rw [h9.1, show ((9 : Nat) : Int) = 9 from rfl] at hy
        subst h8
        clear h9
        gi_wp2
        refine hR.mono ?_
        rintro e W3 (⟨rfl, hJ3, hk3⟩ | ⟨rfl, hJx3⟩)
        · have HJ3 := hide hJ3
          gi_wp2
          go_roundw
          case rel => exact ⟨k + 1, 10, by omega, by omega, hide HT.out.symm, by go_num, by go_num, HJ3⟩
          case measure => simp [intOf]; omega
        · have HJ3 := hide hJx3
          gi_wp2
          refine bodyPost_ret (results_none rfl _ _ _) rfl ?_
          exact ⟨⟨_, rfl⟩, .inr ⟨_, trivial, HJ3.out⟩⟩
      · have h9 := top_other (fun h => h8 (HP.out.trans h))
        rw [← HP.out] at h9
        have HT := hide h9.2
        rw [h9.1] at hy
        clear h9
        have h8b : ((P : Int) == 8) = false := by rw [beq_eq_false_iff_ne]; omega
        gi_wp2
        refine hR.mono ?_
        rintro e W3 (⟨rfl, hJ3, hk3⟩ | ⟨rfl, hJx3⟩)
        · have HJ3 := hide hJ3
          gi_wp2
          go_roundw
          case rel => exact ⟨k + 1, P + 1, by omega, by have := top_le q (k + 1); rw [HT.out] at this; omega, hide HT.out.symm, by go_num, by go_num, HJ3⟩
          case measure => simp [intOf]; omega
        · have HJ3 := hide hJx3
          gi_wp2
          refine bodyPost_ret (results_none rfl _ _ _) rfl ?_
          exact ⟨⟨_, rfl⟩, .inr ⟨_, trivial, HJ3.out⟩⟩
    · obtain rfl : k = 4 := by omega
      gi_wp2
      go_end0
      exact ⟨⟨_, rfl⟩, .inl ⟨_, rfl, HJ.out⟩⟩
theorem places_stops (n : Nat) (hn : 1 ≤ n) (Bn n₀ q : Nat) (hq : q ≤ 12) (w : World) (hBn : Bn < w.heap.size) (hc : w.cell? ⟨Bn, 0, none⟩ = some (.int .i64 (8 * q))) :
    SeqStopsK Fence.wide n Tryd.prog 26 #[.pointer (some ⟨Bn, 0, none⟩)] (encP q) (Below n₀) (fun ys => ys = four4) (fun _ => True) 4 w := fun l J Jx W hW _ _ hY h0 =>
  places_in n l Bn n₀ q hq J Jx hn hY W ((hW.cell (p := ⟨Bn, 0, none⟩) hBn).trans hc) h0
end Go.Proofs.YtbgclnonlgflkaaDoor
