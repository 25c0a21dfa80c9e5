/- What the statement ShiftSeen asks, in numbers and lists; rows of ints; parts of slices of bytes, held shut. -/
import Derived.Test.YtbbbcfihnjidaaaShT
namespace Go.Proofs.Ytbbbcfihnjidaaa
open Go.RowKit

theorem seen_up (hd ds : List Int) (isn : Int) (h : Bool) (A N : Nat) (_i0 : 0 ≤ isn) (_i1 : isn < 4294967296) (hl : hd.length ≤ 100) (hA : A + N ≤ ds.length) (hD : ds.length ≤ 150) :
    ∃ (q : Int) (d : List Int) (At : Nat), upo hd (md (isn + 1)) true h [6, 0, 0, (isn + 1 + A) % 4294967296, 0, 16, 0] ((ds.drop A).take N) = (0, [6, 0, 0, q, 0, 16, 0], d, md (isn + 1), true, h) ∧ (0 ≤ q ∧ q < 4294967296) ∧
      (q - (md (isn - hd.length) + 1) % 4294967296 + 4294967296) % 4294967296 = (At : Int) ∧ At + d.length ≤ hd.length + ds.length ∧ ((hd ++ ds).drop At).take d.length = d ∧ d.length ≤ 300 := by
  have hlen : ((ds.drop A).take N).length = N := by rw [List.length_take, List.length_drop]; omega
  have hc : cf [6, 0, 0, (isn + 1 + A) % 4294967296, 0, 16, 0] ((ds.drop A).take N).length = 0 := cf_in rfl rfl rfl (show 0 ≤ (isn + 1 + A) % 4294967296 ∧ (isn + 1 + A) % 4294967296 ≤ 4294967295 by omega) (show (0 : Int) ≤ 0 ∧ (0 : Int) ≤ 4294967295 by decide) (show (0 : Int) ≤ 16 ∧ (16 : Int) ≤ 31 by decide) rfl (by omega)
  have hu : upo hd (md (isn + 1)) true h [6, 0, 0, (isn + 1 + A) % 4294967296, 0, 16, 0] ((ds.drop A).take N) = if (isn + 1 + A) % 4294967296 = md (isn + 1) ∧ h = false then fio hd (md (isn + 1)) true h [6, 0, 0, (isn + 1 + A) % 4294967296, 0, 16, 0] ((ds.drop A).take N) else (0, [6, 0, 0, (isn + 1 + A) % 4294967296, 0, 16, 0], (ds.drop A).take N, md (isn + 1), true, h) := by
    unfold upo
    rw [if_neg (by rw [hc]; decide), if_neg (by show ¬ (16 : Int) / 2 % 2 = 1; decide), if_neg (by decide)]
    rfl
  by_cases hq : (isn + 1 + A) % 4294967296 = md (isn + 1) ∧ h = false
  · rw [if_pos hq] at hu
    have hA0 : A = 0 := by have := hq.1; unfold md at this; omega
    subst hA0
    refine ⟨md ((isn + 1 + (0 : Nat)) % 4294967296 - hd.length), hd ++ (ds.drop 0).take N, 0, ?_, md_in _, ?_, ?_, ?_, ?_⟩
    · rw [hu]
      unfold fio
      rw [if_neg (by rw [hlen]; omega)]
      rfl
    · unfold md; omega
    · rw [List.length_append, hlen]; omega
    · rw [List.length_append, hlen, List.drop_zero, List.drop_zero, List.take_append, List.take_of_length_le (by omega)]
      congr 2
      omega
    · rw [List.length_append, hlen]; omega
  · rw [if_neg hq] at hu
    refine ⟨_, _, hd.length + A, hu, by omega, ?_, by rw [hlen]; omega, ?_, by rw [hlen]; omega⟩
    · unfold md; omega
    · rw [hlen, List.drop_append, List.drop_of_length_le (by omega), List.nil_append]
      congr 2
      omega
theorem seen_dn (hl : Nat) (isn : Int) (h : Bool) (C : Nat) (_i0 : 0 ≤ isn) (_i1 : isn < 4294967296) (hh : hl ≤ 100) (hC : C ≤ 250) :
    ∃ (K : Int) (h' : Bool), dno (md (isn + 1)) true h [6, 0, 0, 0, ((md (isn - hl) + 1) % 4294967296 + C) % 4294967296, 16, 0] [] = (0, [6, 0, 0, 0, K, 16, 0], [], md (isn + 1), true, h') ∧ (0 ≤ K ∧ K < 4294967296) ∧
      (K - isn - 1 + 8589934592) % 4294967296 = if (C : Int) < hl then 0 else (C : Int) - hl := by
  have hc : cf [6, 0, 0, 0, ((md (isn - hl) + 1) % 4294967296 + C) % 4294967296, 16, 0] ([] : List Int).length = 0 := cf_in rfl rfl rfl (show (0 : Int) ≤ 0 ∧ (0 : Int) ≤ 4294967295 by decide) (show 0 ≤ ((md (isn - hl) + 1) % 4294967296 + C) % 4294967296 ∧ ((md (isn - hl) + 1) % 4294967296 + C) % 4294967296 ≤ 4294967295 by omega) (show (0 : Int) ≤ 16 ∧ (16 : Int) ≤ 31 by decide) rfl (by simp)
  have hu : dno (md (isn + 1)) true h [6, 0, 0, 0, ((md (isn - hl) + 1) % 4294967296 + C) % 4294967296, 16, 0] [] = if ah (((md (isn - hl) + 1) % 4294967296 + C) % 4294967296) (md (isn + 1)) = true then (0, [6, 0, 0, 0, md (isn + 1), 16, 0], [], md (isn + 1), true, h) else (0, [6, 0, 0, 0, ((md (isn - hl) + 1) % 4294967296 + C) % 4294967296, 16, 0], [], md (isn + 1), true, true) := by
    unfold dno
    rw [if_neg (by rw [hc]; decide), if_neg (by decide), if_neg (by show ¬ (16 : Int) / 16 % 2 = 0; decide)]
    rfl
  by_cases hlt : (C : Int) < hl
  · have ha : ah (((md (isn - hl) + 1) % 4294967296 + C) % 4294967296) (md (isn + 1)) = true := decide_eq_true (by unfold md; omega)
    rw [if_pos ha] at hu
    exact ⟨_, _, hu, md_in _, by rw [if_pos hlt]; unfold md; omega⟩
  · have ha : ah (((md (isn - hl) + 1) % 4294967296 + C) % 4294967296) (md (isn + 1)) = false := decide_eq_false (by unfold md; omega)
    rw [ha, if_neg (by decide)] at hu
    exact ⟨_, _, hu, by omega, by rw [if_neg hlt]; unfold md; omega⟩
theorem x_up : upo [104, 105] 10 true false [6, 0, 0, 10, 0, 0, 0] [120] = (0, [6, 0, 0, 8, 0, 0, 0], [104, 105, 120], 10, true, false) := by decide +kernel
/-- a row of ints. -/
def Ir (a : Option Addr) (n : Nat) (w : World) : Prop := 0 < n → ∃ g off, a = some ⟨g, off, none⟩ ∧ ∀ k, k < n → ∃ x : Int, w.cell? ⟨g, off + k, none⟩ = some (.int .i64 x)
theorem IsRow.ir {w : World} {a : Option Addr} {len cap : Nat} {zs : List Int} (h : IsRow .i64 w a len cap zs) : Ir a len w ∧ len ≤ maxLen := by
  refine ⟨fun hp => ?_, ?_⟩
  · have hl := h.len_le
    obtain ⟨b, off, h0, h1, h2, h3, h4⟩ := h.opened hp
    exact ⟨b, off, h0, fun k hk => ⟨_, h4 k (by omega)⟩⟩
  · rcases h with ⟨_, rfl, _, _⟩ | ⟨_, _, h1, h2, _⟩
    · exact Nat.zero_le _
    · omega
theorem Ir.below {a : Option Addr} {n : Nat} {w w' : World} (h : Ir a n w) (hb : Below w.heap.size w w') : Ir a n w' := by
  intro hp
  obtain ⟨g, off, e, hx⟩ := h hp
  refine ⟨g, off, e, fun k hk => ?_⟩
  obtain ⟨x, h1⟩ := hx k hk
  exact ⟨x, by rw [hb.cell (p := ⟨g, off + k, none⟩) (cell_lt h1)]; exact h1⟩
/-- a part of a slice, held shut for a walk. -/
def slq (t : TypeId) (x : Value) (lo hi mx : Option Value) : Sem Value := Instr.sliceAt t x lo hi mx
theorem slq_shut (t : TypeId) (x : Value) (lo hi mx : Option Value) : Instr.sliceAt t x lo hi mx = slq t x lo hi mx := rfl
theorem part_run (a : Option Addr) (len cap : Nat) (hlc : len ≤ cap) (hcm : cap ≤ maxLen) (hna : a = none → cap = 0) (lo n : Nat) (hp : lo + n ≤ len) :
    ∃ (a' : Option Addr), (∀ w, (slq 22 (.slice a len cap) (some (.int .i64 (lo : Int))) (some (.int .i64 ((lo : Int) + (n : Int)))) none).run Try.prog w = .ok (.slice a' n (cap - lo)) w) ∧ (∀ b off, 0 < n → a = some ⟨b, off, none⟩ → a' = some ⟨b, off + lo, none⟩) ∧ (a' = none → n = 0 ∧ cap - lo = 0) := by
  unfold maxLen at hcm
  have u := Try.underlying22
  have z := Try.sizeOf5
  cases a with
  | none =>
    obtain rfl : cap = 0 := hna rfl
    obtain rfl : len = 0 := by omega
    obtain rfl : lo = 0 := by omega
    obtain rfl : n = 0 := by omega
    refine ⟨none, fun w => ?_, fun b off h => by omega, fun _ => ⟨rfl, rfl⟩⟩
    unfold slq
    go_simp
  | some ad =>
    have j1 : (lo : Int) + (n : Int) ≤ (cap : Int) := by omega
    by_cases h : cap = lo
    · subst h
      obtain rfl : n = 0 := by omega
      refine ⟨some ad, fun w => ?_, fun b off h => by omega, fun e => by cases e⟩
      unfold slq
      go_simp
    · refine ⟨some (ad.add lo), fun w => ?_, fun b off hn e => by cases e; rw [add_pl], fun e => by cases e⟩
      unfold slq
      go_simp
      rw [if_pos (by omega), if_pos (by omega), show ((lo : Int) + (n : Int)).toNat - lo = n by omega]
end Go.Proofs.Ytbbbcfihnjidaaa
