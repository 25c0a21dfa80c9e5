/- A server's score for a flow, as a number. -/
import Derived.Test.YtdnfpekcipigbaaDoorPkA
namespace Go.Proofs.YtdnfpekcipigbaaDoor
open Go.RowKit

/-- may a score be asked for? -/
def sok (seed : Int) (f : List Int) (id : Int) : Bool := decide (0 ≤ seed) && decide (seed ≤ 2147483647) && wd id && okf f
theorem sok_iff {seed : Int} {f : List Int} {id : Int} : sok seed f id = true ↔ 0 ≤ seed ∧ seed ≤ 2147483647 ∧ wd id = true ∧ okf f = true := by
  unfold sok
  rw [Bool.and_eq_true, Bool.and_eq_true, Bool.and_eq_true, decide_eq_true_eq, decide_eq_true_eq]
  constructor
  · rintro ⟨⟨⟨a, b⟩, c⟩, d⟩; exact ⟨a, b, c, d⟩
  · rintro ⟨a, b, c, d⟩; exact ⟨⟨⟨a, b⟩, c⟩, d⟩
theorem sok_cases {seed : Int} {f : List Int} {id : Int} (h : sok seed f id = false) : seed < 0 ∨ (¬ seed < 0 ∧ 2147483647 < seed) ∨ (¬ seed < 0 ∧ ¬ 2147483647 < seed ∧ wd id = false) ∨ (¬ seed < 0 ∧ ¬ 2147483647 < seed ∧ wd id = true ∧ okf f = false) := by
  by_cases h1 : seed < 0
  · exact .inl h1
  · by_cases h2 : 2147483647 < seed
    · exact .inr (.inl ⟨h1, h2⟩)
    · cases h3 : wd id
      · exact .inr (.inr (.inl ⟨h1, h2, rfl⟩))
      · cases h4 : okf f
        · exact .inr (.inr (.inr ⟨h1, h2, rfl, rfl⟩))
        · rw [sok_iff.2 ⟨by omega, by omega, h3, h4⟩] at h; cases h
/-- the first numbers of a flow; all of them, and the server's. -/
def nl (f : List Int) (n : Nat) : List Int := (List.range n).map (el f)
def nums (f : List Int) (id : Int) : List Int := nl f 19 ++ [id]
theorem nl_succ (f : List Int) (n : Nat) : nl f (n + 1) = nl f n ++ [el f n] := by unfold nl; rw [List.range_succ, List.map_append]; rfl
theorem nl_len (f : List Int) (n : Nat) : (nl f n).length = n := by unfold nl; simp
theorem nums_len (f : List Int) (id : Int) : (nums f id).length = 20 := by unfold nums; rw [List.length_append, nl_len]; rfl
theorem okf_el {f : List Int} (h : okf f = true) (j : Nat) (hj : j < 19) : 0 ≤ el f j ∧ el f j ≤ 65535 := by
  unfold okf at h
  simp only [Bool.and_eq_true, Bool.or_eq_true, beq_iff_eq] at h
  obtain ⟨⟨⟨⟨h0, h1⟩, h2⟩, h3⟩, h4⟩ := h
  rw [wd_iff] at h3 h4
  rw [s6_iff] at h1 h2
  rcases (by omega : j = 0 ∨ (1 ≤ j ∧ j < 9) ∨ j = 9 ∨ (10 ≤ j ∧ j < 18) ∨ j = 18) with rfl | ⟨a, b⟩ | rfl | ⟨a, b⟩ | rfl
  · rcases h0 with e | e <;> rw [e] <;> omega
  · have := h1 (j - 1) (by omega)
    rw [cli_el f _ (by omega), show 1 + (j - 1) = j by omega] at this
    exact this
  · exact h3
  · have := h2 (j - 10) (by omega)
    rw [dst_el f _ (by omega), show 10 + (j - 10) = j by omega] at this
    exact this
  · exact h4
theorem nums_in {seed : Int} {f : List Int} {id : Int} (h : sok seed f id = true) : ∀ x ∈ nums f id, 0 ≤ x ∧ x ≤ 65535 := by
  obtain ⟨-, -, h3, h4⟩ := sok_iff.1 h
  intro x hx
  unfold nums at hx
  rcases List.mem_append.1 hx with hx | hx
  · unfold nl at hx
    obtain ⟨j, hj, rfl⟩ := List.mem_map.1 hx
    exact okf_el h4 j (List.mem_range.1 hj)
  · rw [List.mem_singleton] at hx
    subst hx
    exact (wd_iff _).1 h3
/-- a number more is mixed in. -/
def mx (x n : Int) : Int := (x * 69069 + n + 1).tmod 2147483648
theorem mx_in {x n : Int} (h1 : 0 ≤ x) (h2 : 0 ≤ n) : 0 ≤ mx x n ∧ mx x n < 2147483648 := by
  unfold mx
  have h : 0 ≤ x * 69069 + n + 1 := by omega
  rw [Int.tmod_eq_emod_of_nonneg h]
  omega
def mxs (seed : Int) (l : List Int) : Int := l.foldl mx seed
theorem mxs_snoc (seed : Int) (l : List Int) (n : Int) : mxs seed (l ++ [n]) = mx (mxs seed l) n := by unfold mxs; rw [List.foldl_append]; rfl
theorem mxs_in {seed : Int} (h0 : 0 ≤ seed ∧ seed < 2147483648) : ∀ l : List Int, (∀ x ∈ l, 0 ≤ x) → 0 ≤ mxs seed l ∧ mxs seed l < 2147483648 := by
  intro l
  unfold mxs
  induction l generalizing seed with
  | nil => intro _; exact h0
  | cons a r ih =>
    intro h
    rw [List.foldl_cons]
    exact ih (mx_in h0.1 (h a (List.mem_cons_self ..))) (fun x hx => h x (List.mem_cons_of_mem _ hx))
/-- the score. -/
def sc (seed : Int) (f : List Int) (id : Int) : Int := (mxs seed (nums f id)).tdiv 256
theorem sc_in {seed : Int} {f : List Int} {id : Int} (h : sok seed f id = true) : 0 ≤ sc seed f id ∧ sc seed f id < 8388608 := by
  obtain ⟨h1, h2, -, -⟩ := sok_iff.1 h
  have := mxs_in (seed := seed) ⟨h1, by omega⟩ (nums f id) (fun x hx => (nums_in h x hx).1)
  unfold sc
  rw [Int.tdiv_eq_ediv_of_nonneg this.1]
  omega
/-- the score, or nothing. -/
def sv (seed : Int) (f : List Int) (id : Int) : Int := if sok seed f id = true then sc seed f id else 0
theorem sv_in (seed : Int) (f : List Int) (id : Int) : 0 ≤ sv seed f id ∧ sv seed f id < 8388608 := by
  unfold sv
  split
  · rename_i h; exact sc_in h
  · omega
/-- may a server be picked; with what; is it better. -/
def cand (b : List Int) : Bool := (el b 4 == 1) && !(el b 5 == 1) && !(el b 3 == 0)
def pv (seed : Int) (f : List Int) (b : List Int) : Int := sv seed f (el b 0) * el b 3
def btr (bs : List (List Int)) (o : Option Nat) (m n : Int) (k : Nat) : Bool := match o with | none => true | some i => decide (m < n) || ((n == m) && decide (el (bs.getD k []) 0 < el (bs.getD i []) 0))
/-- the best of the first ones. -/
def pst (seed : Int) (f : List Int) (bs : List (List Int)) : Nat → Option Nat × Int
  | 0 => (none, 0)
  | k + 1 => if cand (bs.getD k []) = true then (if btr bs (pst seed f bs k).1 (pst seed f bs k).2 (pv seed f (bs.getD k [])) k = true then (some k, pv seed f (bs.getD k [])) else pst seed f bs k) else pst seed f bs k
theorem pst_lt (seed : Int) (f : List Int) (bs : List (List Int)) : ∀ k i, (pst seed f bs k).1 = some i → i < k
  | 0, i, h => by cases h
  | k + 1, i, h => by
    simp only [pst] at h
    split at h
    · split at h
      · injection h with h; omega
      · have := pst_lt seed f bs k i h; omega
    · have := pst_lt seed f bs k i h; omega
/-- who is picked, and what is wrong. -/
def pkr (o : Option Nat) (bs : List (List Int)) : List Int × Int := match o with | none => ([], 4) | some i => (bs.getD i [], 0)
def pko (seed : Int) (f : List Int) (bs : List (List Int)) : List Int × Int := if (bf bs).2 = 0 then (if sok seed f 0 = true then pkr (pst seed f bs bs.length).1 bs else ([], 1)) else ([], (bf bs).2)
/-- ints of the call's own. -/
def ints (l : List Int) : List Value := l.map (Value.int .i64)
theorem ints_len (l : List Int) : (ints l).length = l.length := by unfold ints; simp
theorem ints_app (a b : List Int) : ints (a ++ b) = ints a ++ ints b := by unfold ints; simp
theorem own_nil (base : Nat) (w : World) : OwnG 3 base w (.slice none 0 0) (ints []) := World.ownsRow_nil _ _ _ _
theorem own_same {e : TypeId} {base : Nat} {w w' : World} {v : Value} {xs : List Value} (h : OwnG e base w v xs) (hb : ∀ g, v.ownBlock = some g → w'.heap[g]? = w.heap[g]?) : OwnG e base w' v xs := by
  refine ⟨h.1, ?_⟩
  rcases h.2 with h2 | ⟨g, cap, cur, rfl, hb', hg, rest⟩
  · exact .inl h2
  · exact .inr ⟨g, cap, cur, rfl, hb', (hb g rfl).trans hg, rest⟩
theorem own_lt {e : TypeId} {base : Nat} {w : World} {v : Value} {xs : List Value} (h : OwnG e base w v xs) (g : Nat) (hg : v.ownBlock = some g) : g < w.heap.size ∧ base ≤ g := by
  rcases h.2 with ⟨rfl, _⟩ | ⟨g', cap, cur, rfl, hb', hgc, _⟩
  · simp [Value.ownBlock] at hg
  · have : g' = g := by simpa [Value.ownBlock] using hg
    subst this
    exact ⟨(Array.getElem?_eq_some_iff.1 hgc).1, hb'⟩
theorem own_cell {base : Nat} {w : World} {v : Value} {l : List Int} (h : OwnG 3 base w v (ints l)) (hl : 0 < l.length) : ∃ g cap, v = .slice (some ⟨g, 0, none⟩) l.length cap ∧ ∀ k, k < l.length → w.cell? ⟨g, k, none⟩ = some (.int .i64 (l.getD k 0)) := by
  have h' : w.ownsRow base 3 1 v (ints l).length (ints l) := h
  rcases h.2 with ⟨rfl, hn⟩ | ⟨g, cap, cur, rfl, _⟩
  · rw [ints_len] at hn; omega
  · refine ⟨g, cap, by rw [ints_len], fun k hk => ?_⟩
    rw [World.ownsRow.cellAt h' k (by rw [ints_len]; omega)]
    unfold ints
    simp [hk]
end Go.Proofs.YtdnfpekcipigbaaDoor
