/- Rows of servers of the call's own: append, parts of a slice, what is built. -/
import Derived.Test.YtdnfpekcipigbaaPkA
import Derived.Laws.AppendOwnNone
import Derived.Maps.AppendAt
namespace Go.Proofs.Ytdnfpekcipigbaa
open Go.RowKit

theorem owns_same {w w' : World} {base : Nat} {e : TypeId} {size : Nat} {v : Value} {n : Nat} {xs : List Value} (h : w.ownsRow base e size v n xs) (hb : ∀ g, v.ownBlock = some g → w'.heap[g]? = w.heap[g]?) : w'.ownsRow base e size v n xs := by
  refine ⟨h.1, ?_⟩
  rcases h.2 with h2 | ⟨g, cap, cur, rfl, hb', hg, rest⟩
  · exact .inl h2
  · exact .inr ⟨g, cap, cur, rfl, hb', (hb g rfl).trans hg, rest⟩
theorem owns_lt {w : World} {base : Nat} {e : TypeId} {size : Nat} {v : Value} {n : Nat} {xs : List Value} (h : w.ownsRow base e size v n xs) (g : Nat) (hg : v.ownBlock = some g) : g < w.heap.size ∧ base ≤ g := by
  rcases h.2 with ⟨rfl, _⟩ | ⟨g', cap, cur, rfl, hb', hgc, _⟩
  · simp [Value.ownBlock] at hg
  · have : g' = g := by simpa [Value.ownBlock] using hg
    subst this
    exact ⟨(Array.getElem?_eq_some_iff.1 hgc).1, hb'⟩
def kvs (bs : List (List Int)) : List Value := bs.flatMap fun b => (bkC b).toList
/-- a slice of servers, of the call's own. -/
def OwK (base : Nat) (w : World) (v : Value) (bs : List (List Int)) : Prop := w.ownsRow base 28 6 v bs.length (kvs bs)
theorem OwK.nil (base : Nat) (w : World) : OwK base w (.slice none 0 0) [] := World.ownsRow_nil _ _ _ _
theorem kvs_len (bs : List (List Int)) : (kvs bs).length = bs.length * 6 := by
  induction bs with
  | nil => rfl
  | cons z r ih => unfold kvs at ih ⊢; rw [List.flatMap_cons, List.length_append, ih, List.length_cons, show (bkC z).toList.length = 6 from rfl]; omega
theorem kvs_app (a b : List (List Int)) : kvs (a ++ b) = kvs a ++ kvs b := List.flatMap_append
theorem kvs_at (bs : List (List Int)) (k j : Nat) (h : k < bs.length) (hj : j < 6) : (kvs bs)[k * 6 + j]? = (bkC (bs.getD k [])).toList[j]? := by
  induction bs generalizing k with
  | nil => exact absurd h (by simp)
  | cons z r ih =>
    unfold kvs at ih ⊢
    rw [List.flatMap_cons]
    have hl : (bkC z).toList.length = 6 := rfl
    cases k with
    | zero =>
      rw [List.getElem?_append_left (by omega), Nat.zero_mul, Nat.zero_add]
      rfl
    | succ k =>
      rw [List.getElem?_append_right (by omega), hl, show (k + 1) * 6 + j - 6 = k * 6 + j by omega, ih k (by simpa using h)]
      rfl
/-- it is a row of servers. -/
theorem OwK.bks {base : Nat} {w : World} {v : Value} {bs : List (List Int)} (h : OwK base w v bs) : ∃ a cap, v = .slice a bs.length cap ∧ bs.length ≤ cap ∧ Bks a bs w := by
  have h' : w.ownsRow base 28 6 v bs.length (kvs bs) := h
  rcases h.2 with ⟨rfl, hn⟩ | ⟨g, cap, cur, rfl, _, hg, hnc, _⟩
  · exact ⟨none, 0, by rw [hn], by omega, fun hp => by omega⟩
  · refine ⟨_, cap, rfl, hnc, fun _ => ⟨g, 0, rfl, (Array.getElem?_eq_some_iff.1 hg).1, fun k hk j v hv => ?_⟩⟩
    have hj : j < 6 := (List.getElem?_eq_some_iff.1 hv).1
    rw [Nat.zero_add, World.ownsRow.cellAt h' (k * 6 + j) (by omega), kvs_at bs k j hk hj]
    exact hv
theorem Try.infoBack : (Try.prog.info? 28).map (fun i => (i.zero, i.size, i.bytes)) = some (some (.agg zero4b), 6, 40) := by kernel_rfl
/-- servers put behind others. -/
theorem ap_K {w : World} {ops : Array Oper} {rest : List Oper} {o : Oper} {a : Act} {Q : Exit → Act → World → Prop} (hgd : o.guard = none) (s x : Operand)
    (ho : o.op = .call { callee := .builtin .append, args := #[s, x], argTypes := #[26, 26] })
    (base : Nat) (v : Value) (l : List (List Int)) (hs : a.eval s = v) (hown : OwK base w v l) (g off m c : Nat) (l2 : List (List Int)) (hx : a.eval x = .slice (some ⟨g, off, none⟩) m c) (hl : l2.length = m)
    (hc : ∀ j, j < m → w.rangeAt g (off + j * 6) (bkC (l2.getD j [])).toList) (hlen : l.length + m ≤ 1000000) (hbase : base ≤ w.heap.size)
    (h : ∀ v' w', OwK base w' v' (l ++ l2) → w.grownBy w' v.ownBlock → wpList Try.prog ops Q rest (a.put o.dst v') w') : wpList Try.prog ops Q (o :: rest) a w := by
  obtain ⟨i0, hi, hz0, hz1, hz2⟩ := info_parts Try.infoBack
  have hown' : w.ownsRow base 28 6 v l.length (kvs l) := hown
  refine wpList_append_own_at _ hgd s x 26 ho base 28 i0 _ 6 40 Try.underlying26 hi hz0 hz1 hz2 rfl (by decide) v l.length (kvs l) hs hown' ⟨g, off, none⟩ m c (kvs l2) hx (by rw [kvs_len, hl]) ?_ ?_ (by unfold maxLen; omega) (by omega) hbase ?_
  · intro j u hu
    have hj : j < l2.length * 6 := by have := (List.getElem?_eq_some_iff.1 hu).1; rwa [kvs_len] at this
    have h8 := kvs_at l2 (j / 6) (j % 6) (by omega) (by omega)
    rw [show j / 6 * 6 + j % 6 = j by omega, hu] at h8
    have h9 := hc (j / 6) (by omega) (j % 6) u h8.symm
    rw [add_pl, show off + j = off + j / 6 * 6 + j % 6 by omega]
    exact h9
  · intro u hu
    unfold kvs at hu
    obtain ⟨z, _, h2⟩ := List.mem_flatMap.1 hu
    unfold bkC at h2
    simp at h2
    rcases h2 with rfl | rfl | rfl | rfl | rfl | rfl <;> rfl
  · intro v' w' h1 h2 _ h5
    refine h v' w' ?_ h2
    unfold OwK
    rw [kvs_app, List.length_append, hl]
    exact h1
/-- a slice's part, held shut for a walk. -/
def slq (t : TypeId) (x : Value) (lo hi mx : Option Value) : Sem Value := Instr.sliceAt t x lo hi mx
theorem slq_shut (t : TypeId) (x : Value) (lo hi mx : Option Value) : Instr.sliceAt t x lo hi mx = slq t x lo hi mx := rfl
theorem headK (g off n ca q : Nat) (hq : q ≤ ca) (w : World) : (slq 26 (.slice (some ⟨g, off, none⟩) n ca) none (some (.int .i64 (q : Int))) none).run Try.prog w = .ok (.slice (some ⟨g, off, none⟩) q ca) w := by
  have j1 : (q : Int) ≤ (ca : Int) := by omega
  have u := Try.underlying26
  have z := Try.sizeOf28
  unfold slq
  go_simp
theorem tailK (g off n ca q : Nat) (hq : q + 1 ≤ n) (hn : n ≤ ca) : ∃ o2 : Nat, (∀ w, (slq 26 (.slice (some ⟨g, off, none⟩) n ca) (some (.int .i64 ((q : Int) + 1))) none none).run Try.prog w = .ok (.slice (some ⟨g, o2, none⟩) (n - (q + 1)) (ca - (q + 1))) w) ∧ (q + 1 < n → o2 = off + (q + 1) * 6) := by
  have j1 : (q : Int) + 1 ≤ (n : Int) := by omega
  have u := Try.underlying26
  have z := Try.sizeOf28
  by_cases h : ca = q + 1
  · subst h
    refine ⟨off, fun w => ?_, fun h => by omega⟩
    unfold slq
    go_simp
    intro h9
    omega
  · refine ⟨off + (q + 1) * 6, fun w => ?_, fun _ => rfl⟩
    unfold slq
    go_simp
    intro h9
    omega
/-- slices of one and of two made, servers and a flow built: held shut. -/
def ksl (n : Nat) (ps : Array (Nat × Value)) : Sem Value := Instr.buildSlice 26 n ps
theorem ksl_shut (n : Nat) (ps : Array (Nat × Value)) : Instr.buildSlice 26 n ps = ksl n ps := rfl
theorem ksl1 (b : List Int) (w : World) : (ksl 1 #[(0, .agg (bkC b))]).run Try.prog w = .ok (.slice (some ⟨w.heap.size, 0, none⟩) 1 1) (w.alloc (.cells (bkC b) 28)) := by kernel_rfl
theorem ksl2 (b c : List Int) (w : World) : (ksl 2 #[(0, .agg (bkC b)), (1, .agg (bkC c))]).run Try.prog w = .ok (.slice (some ⟨w.heap.size, 0, none⟩) 2 2) (w.alloc (.cells (bkC b ++ bkC c) 28)) := by kernel_rfl
theorem bks1 (b : List Int) (w : World) : Bks (some ⟨w.heap.size, 0, none⟩) [b] (w.alloc (.cells (bkC b) 28)) := by
  intro _
  refine ⟨w.heap.size, 0, rfl, (bk_new b w).lt, fun k hk => ?_⟩
  obtain rfl : k = 0 := by simpa using hk
  exact (bk_new b w).rng
theorem bks2 (b c : List Int) (w : World) : Bks (some ⟨w.heap.size, 0, none⟩) [b, c] (w.alloc (.cells (bkC b ++ bkC c) 28)) := by
  intro _
  have hn : (w.alloc (.cells (bkC b ++ bkC c) 28)).heap[w.heap.size]? = some (.cells (bkC b ++ bkC c) 28 (0, 0)) := heap_alloc_new w _
  refine ⟨w.heap.size, 0, rfl, (Array.getElem?_eq_some_iff.1 hn).1, fun k hk j v hv => ?_⟩
  have hj : j < 6 := (List.getElem?_eq_some_iff.1 hv).1
  rw [cell_of_row _ _ _ _ _ _ hn]
  rcases (by simp at hk; omega : k = 0 ∨ k = 1) with rfl | rfl
  · rw [Array.getElem?_append_left (by show _ < 6; omega), show 0 + 0 * 6 + j = j by omega]
    simpa using hv
  · rw [Array.getElem?_append_right (by show 6 ≤ _; omega), show 0 + 1 * 6 + j - (bkC b).size = j from (by show 0 + 1 * 6 + j - 6 = j; omega)]
    simpa using hv
def kbl (ps : Array (Nat × Value)) : Sem Value := Instr.build 28 ps
theorem kbl_shut (ps : Array (Nat × Value)) : Instr.build 28 ps = kbl ps := rfl
theorem kbl1 (w : World) : (kbl #[(0, .int .i64 1), (3, .int .i64 1)]).run Try.prog w = .ok (.agg (bkC [1, 0, 0, 1, 0, 0])) w := by kernel_rfl
theorem kbl2 (w : World) : (kbl #[(0, .int .i64 2), (3, .int .i64 1), (4, .bool true)]).run Try.prog w = .ok (.agg (bkC [2, 0, 0, 1, 1, 0])) w := by kernel_rfl
def fbl (ps : Array (Nat × Value)) : Sem Value := Instr.build 25 ps
theorem fbl_shut (ps : Array (Nat × Value)) : Instr.build 25 ps = fbl ps := rfl
theorem fbl1 (w : World) : (fbl #[(0, .int .i64 6)]).run Try.prog w = .ok (.agg (flC [6])) w := by kernel_rfl
end Go.Proofs.Ytdnfpekcipigbaa
