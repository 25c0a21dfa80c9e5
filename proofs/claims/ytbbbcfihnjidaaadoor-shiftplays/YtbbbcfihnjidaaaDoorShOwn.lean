/- A slice of bytes that the call itself has made, and append onto it, as laws for a walk; string(b) of bytes, and parts of slices. -/
import Derived.Test.YtbbbcfihnjidaaaDoorSumMath
import Derived.Test.YtbbbcfihnjidaaaDoorShBase
import Derived.Test.YtbbbcfihnjidaaaDoorP4Math2
import Derived.Laws.AppendOwnNone
import Derived.Lib.Bytes
namespace Go.Proofs.YtbbbcfihnjidaaaDoor
open Go.RowKit

/-- v is a slice of the call's own (or nil), of the bytes zs. -/
def Own (base : Nat) (w : World) (v : Value) (zs : List Int) : Prop :=
  SM.Oct zs ∧ w.ownsRow base 5 1 v zs.length (zs.map (Value.int .u8))
theorem Own.nil (base : Nat) (w : World) : Own base w (.slice none 0 0) [] := ⟨SM.oct_nil, World.ownsRow_nil _ _ _ _⟩
theorem Own.row8 {base : Nat} {w : World} {v : Value} {zs : List Int} (h : Own base w v zs) : ∃ a cap, v = .slice a zs.length cap ∧ Row8 w a zs.length cap zs ∧ ∀ b off, a = some ⟨b, off, none⟩ → base ≤ b ∧ b < w.heap.size ∧ v.ownBlock = some b ∧ off = 0 := by
  obtain ⟨ho, h1, h2⟩ := h
  rcases h2 with ⟨rfl, hn⟩ | ⟨g, cap, cur, rfl, hb, hg, hnc, hcm, hcs, htake⟩
  · have : zs = [] := List.eq_nil_of_length_eq_zero hn
    subst this
    exact ⟨none, 0, rfl, ⟨rfl, by simp [maxLen], ho, fun _ => ⟨rfl, rfl⟩, fun hp => absurd hp (by simp)⟩, fun b off h => by cases h⟩
  · refine ⟨_, cap, rfl, ⟨rfl, by omega, ho, fun h => by (cases h), fun hp => ⟨g, 0, rfl, fun i hi => ?_⟩⟩, fun b off h => ?_⟩
    · have hc := (World.ownsRow.cellAt (w := w) (base := base) (e := 5) (size := 1) (g := g) (n := zs.length) (cap := cap) (xs := zs.map (Value.int .u8)) ⟨h1, .inr ⟨g, cap, cur, rfl, hb, hg, hnc, hcm, hcs, htake⟩⟩ i (by omega))
      rw [Nat.zero_add, hc]
      simp [hi]
    · simp at h
      obtain ⟨rfl, rfl⟩ := h
      exact ⟨hb, (Array.getElem?_eq_some_iff.1 hg).1, rfl, rfl⟩
theorem Own.kept {base : Nat} {w w' : World} {v : Value} {zs : List Int} (h : Own base w v zs) (hb : Below w.heap.size w w') : Own base w' v zs := by
  refine ⟨h.1, h.2.1, ?_⟩
  rcases h.2.2 with h2 | ⟨g, cap, cur, rfl, hb', hg, rest⟩
  · exact .inl h2
  · exact .inr ⟨g, cap, cur, rfl, hb', by rw [hb.block g (Array.getElem?_eq_some_iff.1 hg).1]; exact hg, rest⟩
/-- an own slice is as it was where another own one, of later blocks, has grown. -/
theorem Own.other {base : Nat} {w w' : World} {v : Value} {zs : List Int} (h : Own base w v zs) {row : Option Nat} (hg : w.grownBy w' row) (hne : v.ownBlock = none ∨ v.ownBlock ≠ row) : Own base w' v zs :=
  ⟨h.1, h.2.kept hg hne⟩
/-- append(v, x...) where v is the call's own. -/
theorem wpList_app {w : World} {ops : Array Oper} {rest : List Oper} {o : Oper} {a : Act} {Q : Exit → Act → World → Prop} (hgd : o.guard = none) (s x : Operand)
    (ho : o.op = .call { callee := .builtin .append, args := #[s, x], argTypes := #[22, 22] })
    (base : Nat) (v : Value) (zs : List Int) (hs : a.eval s = v) (hown : Own base w v zs) (ao : Option Addr) (len cap : Nat) (ys : List Int)
    (hx : a.eval x = .slice ao len cap) (hrow : Row8 w ao len cap ys) (hlen : zs.length + len ≤ 1000000000) (hbase : base ≤ w.heap.size)
    (h : ∀ v' w', Own base w' v' (zs ++ ys) → w.grownBy w' v.ownBlock → wpList Tryd.prog ops Q rest (a.put o.dst v') w') : wpList Tryd.prog ops Q (o :: rest) a w := by
  obtain ⟨i0, hi, hz0, hz1, hz2⟩ := info_parts Tryd.infoByte
  obtain ⟨r1, r2, r3, r4, r5⟩ := hrow
  cases ao with
  | none =>
    obtain ⟨rfl, rfl⟩ := r4 rfl
    have : ys = [] := List.eq_nil_of_length_eq_zero r1
    subst this
    refine wpList_append_own_none hgd s x 22 ho base 5 i0 1 Tryd.underlying22 hi v zs.length _ hs hown.2 hx ?_
    exact h v w (by simpa using hown) (World.grownBy.refl _ _)
  | some ad =>
    refine wpList_append_own _ hgd s x 22 ho base 5 i0 (.int .u8 0) 1 1 Tryd.underlying22 hi hz0 hz1 hz2 rfl (by decide) v zs.length _ hs hown.2 ad len cap (ys.map (Value.int .u8)) hx (by simp [r1]) ?_ (ints_oneCell .u8 ys) (by unfold maxLen; omega) (by omega) hbase ?_
    · intro j u hu
      have hj : j < ys.length := by
        have := (List.getElem?_eq_some_iff.1 hu).1
        simpa using this
      obtain ⟨b, off, h6, h7⟩ := r5 (by omega)
      have hc := h7 j (by omega)
      obtain rfl : ad = ⟨b, off, none⟩ := by simpa using h6
      have e : (⟨b, off, none⟩ : Addr).add j = ⟨b, off + j, none⟩ := by unfold Addr.add; split <;> simp_all
      rw [e, hc]
      rw [List.getElem?_map] at hu
      simp [hj] at hu ⊢
      exact hu
    · intro v' w' h1 h2 _
      refine h v' w' ⟨SM.oct_append _ _ hown.1 r3, ?_⟩ h2
      rw [List.map_append, List.length_append, r1]
      exact h1
theorem conv8 {w : World} {a : Option Addr} {len cap : Nat} {zs : List Int} (h : Row8 w a len cap zs) : (convert 22 9 (.slice a len cap)).run Tryd.prog w = .ok (.string (P4.str8 zs)) w := by
  obtain ⟨h1, h2, h3, h4, h5⟩ := h
  by_cases hp : 0 < len
  · obtain ⟨b, off, rfl, hc⟩ := h5 hp
    exact run_convert_bytes_arg w 22 5 Tryd.underlying22 Tryd.underlying5 b off len cap zs h1 hc 9 Tryd.underlying9
  · obtain rfl : len = 0 := by omega
    obtain rfl : zs = [] := List.eq_nil_of_length_eq_zero h1
    cases a with
    | none => exact run_convert_bytes_nil w 22 5 Tryd.underlying22 Tryd.underlying5 0 cap 9 Tryd.underlying9
    | some ad =>
      have := run_convert_bytes_string w 22 9 5 (some ad) 0 cap Tryd.underlying22 Tryd.underlying5 Tryd.underlying9
      rw [this]
      rfl
theorem str8_list (xs : List Int) : (P4.str8 xs).toList = Lib.bytesOf xs := Lib.strOfNums_toList xs
/-- what '==' answers of the letters of bytes. -/
theorem str8_eq {xs ys : List Int} (hx : SM.Oct xs) (hy : SM.Oct ys) (r : Bool) (hr : (xs = ys) ↔ r = true) : ((P4.str8 xs).toList == (P4.str8 ys).toList) = r := by
  rw [str8_list, str8_list]
  cases r
  · have hn : ¬ Lib.bytesOf xs = Lib.bytesOf ys := fun h => by
      have := hr.1 (P4.str8_inj hx hy (by unfold P4.str8; exact congrArg (fun l => ByteArray.mk (List.toArray l)) h))
      cases this
    simpa using hn
  · rw [hr.2 rfl]
    simp
/-- a part of a slice of bytes. -/
theorem Row8.part {w : World} {a : Option Addr} {len cap : Nat} {zs : List Int} (h : Row8 w a len cap zs) (lo hi : Nat) (hlo : lo ≤ hi) (hhi : hi ≤ len) (a' : Option Addr) (cap' : Nat) (ha : ∀ b off, lo < hi → a = some ⟨b, off, none⟩ → a' = some ⟨b, off + lo, none⟩) (hn : a' = none → hi = lo ∧ cap' = 0) : Row8 w a' (hi - lo) cap' ((zs.drop lo).take (hi - lo)) := by
  obtain ⟨h1, h2, h3, h4, h5⟩ := h
  refine ⟨by simp; omega, by omega, SM.oct_take _ (P4.oct_drop _ h3 _) _, fun e => ?_, fun hp => ?_⟩
  · have := hn e
    exact ⟨by omega, this.2⟩
  · obtain ⟨b, off, rfl, hc⟩ := h5 (by omega)
    refine ⟨b, off + lo, ha b off (by omega) rfl, fun i hi' => ?_⟩
    have := hc (lo + i) (by omega)
    rw [P4.getD_take hi', P4.getD_drop, Nat.add_assoc]
    exact this
theorem Row8.congr {w : World} {a : Option Addr} {len cap : Nat} {zs ys : List Int} (h : Row8 w a len cap zs) (e : zs = ys) : Row8 w a len cap ys := e ▸ h
/-- a block of bytes, all of it. -/
def Blk (B : Nat) (zs : List Int) (w : World) : Prop := w.heap[B]? = some (.cells (zs.map (Value.int .u8)).toArray 5 (0, 0))
theorem Blk.lt {B : Nat} {zs : List Int} {w : World} (h : Blk B zs w) : B < w.heap.size := (Array.getElem?_eq_some_iff.1 h).1
theorem Blk.kept {B : Nat} {zs : List Int} {w w' : World} (h : Blk B zs w) (hb : Below w.heap.size w w') : Blk B zs w' := (hb.block B h.lt).trans h
theorem blk_new (w : World) (zs : List Int) : Blk w.heap.size zs (w.alloc (.cells (zs.map (Value.int .u8)).toArray 5)) := heap_alloc_new w _
theorem Blk.cell {B : Nat} {zs : List Int} {w : World} (h : Blk B zs w) (j : Nat) (hj : j < zs.length) : w.cell? ⟨B, j, none⟩ = some (.int .u8 (zs.getD j 0)) := by
  unfold Blk at h
  simp [World.cell?, h, hj]
theorem Blk.frozen {B : Nat} {zs : List Int} {w : World} (h : Blk B zs w) (j : Nat) : w.frozen? ⟨B, j, none⟩ = false := by
  unfold Blk at h
  simp [World.frozen?, h]
theorem Blk.set {B : Nat} {zs : List Int} {w : World} (h : Blk B zs w) (j : Nat) (v : Int) : Blk B (zs.set j v) (w.setCell ⟨B, j, none⟩ (.int .u8 v)) := by
  unfold Blk at h ⊢
  rw [setCell_eq_setRow w B j _ 5 (0, 0) (.int .u8 v) h, setRow_heap w B _ _ 5 (0, 0) h]
  simp [List.map_set]
theorem Blk.row8 {B : Nat} {zs : List Int} {w : World} (h : Blk B zs w) (ho : SM.Oct zs) (n cap : Nat) (hn : zs.length = n) (hm : n ≤ maxLen) : Row8 w (some ⟨B, 0, none⟩) n cap zs :=
  ⟨hn, hm, ho, (fun e => by cases e), fun _ => ⟨B, 0, rfl, fun i hi => by rw [Nat.zero_add]; exact h.cell i (by omega)⟩⟩
theorem Blk.own {B : Nat} {zs : List Int} {w : World} (h : Blk B zs w) (ho : SM.Oct zs) (base n : Nat) (hn : zs.length = n) (hm : n ≤ maxLen) (hb : base ≤ B) : Own base w (.slice (some ⟨B, 0, none⟩) n n) zs := by
  subst hn
  exact ⟨ho, by simp, .inr ⟨B, zs.length, _, rfl, hb, h, Nat.le_refl _, hm, by simp, by simp [← List.map_take]⟩⟩
theorem Own.heap {base : Nat} {w w' : World} {v : Value} {zs : List Int} (h : Own base w v zs) (he : ∀ g, base ≤ g → g < w.heap.size → w'.heap[g]? = w.heap[g]?) : Own base w' v zs := by
  refine ⟨h.1, h.2.1, ?_⟩
  rcases h.2.2 with h2 | ⟨g, cap, cur, rfl, hb', hg, rest⟩
  · exact .inl h2
  · exact .inr ⟨g, cap, cur, rfl, hb', by rw [he g hb' (Array.getElem?_eq_some_iff.1 hg).1]; exact hg, rest⟩
theorem Own.mono {base base' : Nat} {w : World} {v : Value} {zs : List Int} (h : Own base w v zs) (hb : base' ≤ base) : Own base' w v zs := by
  refine ⟨h.1, h.2.1, ?_⟩
  rcases h.2.2 with h2 | ⟨g, cap, cur, rfl, hb', hg, rest⟩
  · exact .inl h2
  · exact .inr ⟨g, cap, cur, rfl, by omega, hg, rest⟩
theorem setCell_heap_same (w : World) (B j : Nat) (cs : Array Value) (t : TypeId) (v : Value) (h : w.heap[B]? = some (.cells cs t (0, 0))) : (w.setCell ⟨B, j, none⟩ v).heap[B]? = some (.cells (cs.setIfInBounds j v) t (0, 0)) := by
  rw [setCell_eq_setRow w B j _ t (0, 0) v h, setRow_heap w B _ _ t (0, 0) h]
theorem Own.form {base : Nat} {w : World} {v : Value} {zs : List Int} (h : Own base w v zs) (hp : 0 < zs.length) : ∃ g cap, v = .slice (some ⟨g, 0, none⟩) zs.length cap ∧ zs.length ≤ cap ∧ cap ≤ maxLen ∧ base ≤ g ∧ g < w.heap.size ∧ Row8 w (some ⟨g, 0, none⟩) zs.length cap zs := by
  obtain ⟨a, cap0, hv, hrow, hlt⟩ := h.row8
  rcases h.2.2 with ⟨rfl, hn⟩ | ⟨g, cap, cur, rfl, hb', hg, h1, h2, rest⟩
  · omega
  · injection hv with e1 _ e3
    subst e1
    subst e3
    exact ⟨g, _, rfl, h1, h2, hb', (Array.getElem?_eq_some_iff.1 hg).1, hrow⟩
theorem Own.toRow {base : Nat} {w : World} {a : Option Addr} {n c : Nat} {zs : List Int} (h : Own base w (.slice a n c) zs) : Row8 w a n c zs := by
  obtain ⟨a', c', e, hr, _⟩ := h.row8
  injection e with e1 e2 e3
  subst e1 e2 e3
  exact hr
theorem Row8.drewN {w : World} {a : Option Addr} {len cap : Nat} {zs : List Int} (h : Row8 w a len cap zs) (n : Nat) : Row8 (w.drewN n) a len cap zs := h.below ((Below.refl _ _).trans ⟨rfl, rfl, rfl, Nat.le_refl _, fun _ _ => rfl⟩)
theorem row_take {w : World} {g off len cap : Nat} {zs : List Int} (h : Row8 w (some ⟨g, off, none⟩) len cap zs) (n c : Nat) (hn : n ≤ len) : Row8 w (some ⟨g, off, none⟩) n c (zs.take n) := by
  have := h.part 0 n (by omega) hn (some ⟨g, off, none⟩) c (fun b o _ e => by cases e; rfl) (fun e => by cases e)
  simpa using this
theorem row_drop {w : World} {g off len cap : Nat} {zs : List Int} (h : Row8 w (some ⟨g, off, none⟩) len cap zs) (n c : Nat) (hn : n ≤ len) : Row8 w (some ⟨g, off + n, none⟩) (len - n) c (zs.drop n) := by
  have := h.part n len hn (Nat.le_refl _) (some ⟨g, off + n, none⟩) c (fun b o _ e => by cases e; rfl) (fun e => by cases e)
  exact this.congr (List.take_of_length_le (by rw [List.length_drop, h.1]; exact Nat.le_refl _))
end Go.Proofs.YtbbbcfihnjidaaaDoor
