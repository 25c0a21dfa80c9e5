/- A slice of bytes that the call itself has made, and append onto it, as laws for a walk; string(b) of bytes, and parts of slices. How much room an own slice of bytes has. Package sum by contracts (fold, check16, Of, Add, Not); bytes.Equal; a slice that the call has made, and append onto it. -/
import Derived.Test.YtkhahbghmdccaaaGreatDoorF01
import Derived.Below
import Derived.OpenShut
import Derived.Test.YtkhahbghmdccaaaGreatDoorProg
import Derived.WalkKit
import Derived.LaidEql
import Derived.BigQuiet
import Derived.Laws.AppendOwnNone
import Derived.Laws.MakeOwn
import Derived.Deep.RegionLaw
import Derived.Lib.Bytes
import Derived.Deep.MidRow
import Derived.Laws.ResultCell
import Derived.Deep.CutBlock
import Derived.Deep.QuietTactic
import Derived.OwnWalk
namespace Go.Proofs.YtkhahbghmdccaaaGreatDoor
open Go.RowKit
def Own (base : Nat) (w : World) (v : Value) (zs : List Int) : Prop :=
  SM.Oct zs ∧ w.ownsRow base 5 1 v zs.length (zs.map (Value.int .u8))
theorem Own.nil (base : Nat) (w : World) : Own base w (.slice none 0 0) [] := ⟨SM.oct_nil, World.ownsRow_nil _ _ _ _⟩
theorem Own.row8 {base : Nat} {w : World} {v : Value} {zs : List Int} (h : Own base w v zs) : ∃ a cap, v = .slice a zs.length cap ∧ Row8 w a zs.length cap zs ∧ ∀ b off, a = some ⟨b, off, none⟩ → base ≤ b ∧ b < w.heap.size ∧ v.ownBlock = some b ∧ off = 0 := by
  obtain ⟨ho, h1, h2⟩ := h
  rcases h2 with ⟨rfl, hn⟩ | ⟨g, cap, cur, rfl, hb, hg, hnc, hcm, hcs, htake⟩
  · have : zs = [] := List.eq_nil_of_length_eq_zero hn
    subst this
    exact ⟨none, 0, rfl, ⟨rfl, by simp [maxLen], ho, fun _ => ⟨rfl, rfl⟩, fun hp => absurd hp (by simp)⟩, fun b off h => by cases h⟩
  · refine ⟨_, cap, rfl, ⟨rfl, by omega, ho, fun h => by (cases h), fun hp => ⟨g, 0, rfl, fun i hi => ?_⟩⟩, fun b off h => ?_⟩
    · have hc := (World.ownsRow.cellAt (w := w) (base := base) (e := 5) (size := 1) (g := g) (n := zs.length) (cap := cap) (xs := zs.map (Value.int .u8)) ⟨h1, .inr ⟨g, cap, cur, rfl, hb, hg, hnc, hcm, hcs, htake⟩⟩ i (by omega))
      rw [Nat.zero_add, hc]
      simp [hi]
    · simp at h
      obtain ⟨rfl, rfl⟩ := h
      exact ⟨hb, (Array.getElem?_eq_some_iff.1 hg).1, rfl, rfl⟩
theorem Own.kept {base : Nat} {w w' : World} {v : Value} {zs : List Int} (h : Own base w v zs) (hb : Below w.heap.size w w') : Own base w' v zs := by
  refine ⟨h.1, h.2.1, ?_⟩
  rcases h.2.2 with h2 | ⟨g, cap, cur, rfl, hb', hg, rest⟩
  · exact .inl h2
  · exact .inr ⟨g, cap, cur, rfl, hb', by rw [hb.block g (Array.getElem?_eq_some_iff.1 hg).1]; exact hg, rest⟩
theorem Own.other {base : Nat} {w w' : World} {v : Value} {zs : List Int} (h : Own base w v zs) {row : Option Nat} (hg : w.grownBy w' row) (hne : v.ownBlock = none ∨ v.ownBlock ≠ row) : Own base w' v zs :=
  ⟨h.1, h.2.kept hg hne⟩
theorem wpList_app {w : World} {ops : Array Oper} {rest : List Oper} {o : Oper} {a : Act} {Q : Exit → Act → World → Prop} (hgd : o.guard = none) (s x : Operand)
    (ho : o.op = .call { callee := .builtin .append, args := #[s, x], argTypes := #[37, 37] })
    (base : Nat) (v : Value) (zs : List Int) (hs : a.eval s = v) (hown : Own base w v zs) (ao : Option Addr) (len cap : Nat) (ys : List Int)
    (hx : a.eval x = .slice ao len cap) (hrow : Row8 w ao len cap ys) (hlen : zs.length + len ≤ 1000000000) (hbase : base ≤ w.heap.size)
    (h : ∀ v' w', Own base w' v' (zs ++ ys) → w.grownBy w' v.ownBlock → wpList Tryz.prog ops Q rest (a.put o.dst v') w') : wpList Tryz.prog ops Q (o :: rest) a w := by
  obtain ⟨i0, hi, hz0, hz1, hz2⟩ := info_parts Tryz.infoByte
  obtain ⟨r1, r2, r3, r4, r5⟩ := hrow
  cases ao with
  | none =>
    obtain ⟨rfl, rfl⟩ := r4 rfl
    have : ys = [] := List.eq_nil_of_length_eq_zero r1
    subst this
    refine wpList_append_own_none hgd s x 37 ho base 5 i0 1 Tryz.underlying37 hi v zs.length _ hs hown.2 hx ?_
    exact h v w (by simpa using hown) (World.grownBy.refl _ _)
  | some ad =>
    refine wpList_append_own _ hgd s x 37 ho base 5 i0 (.int .u8 0) 1 1 Tryz.underlying37 hi hz0 hz1 hz2 rfl (by decide) v zs.length _ hs hown.2 ad len cap (ys.map (Value.int .u8)) hx (by simp [r1]) ?_ (ints_oneCell .u8 ys) (by unfold maxLen; omega) (by omega) hbase ?_
    · intro j u hu
      have hj : j < ys.length := by
        have := (List.getElem?_eq_some_iff.1 hu).1
        simpa using this
      obtain ⟨b, off, h6, h7⟩ := r5 (by omega)
      have hc := h7 j (by omega)
      obtain rfl : ad = ⟨b, off, none⟩ := by simpa using h6
      have e : (⟨b, off, none⟩ : Addr).add j = ⟨b, off + j, none⟩ := by unfold Addr.add; split <;> simp_all
      rw [e, hc]
      rw [List.getElem?_map] at hu
      simp [hj] at hu ⊢
      exact hu
    · intro v' w' h1 h2 _
      refine h v' w' ⟨SM.oct_append _ _ hown.1 r3, ?_⟩ h2
      rw [List.map_append, List.length_append, r1]
      exact h1
theorem conv8 {w : World} {a : Option Addr} {len cap : Nat} {zs : List Int} (h : Row8 w a len cap zs) : (convert 37 9 (.slice a len cap)).run Tryz.prog w = .ok (.string (P4.str8 zs)) w := by
  obtain ⟨h1, h2, h3, h4, h5⟩ := h
  by_cases hp : 0 < len
  · obtain ⟨b, off, rfl, hc⟩ := h5 hp
    exact run_convert_bytes_arg w 37 5 Tryz.underlying37 Tryz.underlying5 b off len cap zs h1 hc 9 Tryz.underlying9
  · obtain rfl : len = 0 := by omega
    obtain rfl : zs = [] := List.eq_nil_of_length_eq_zero h1
    cases a with
    | none => exact run_convert_bytes_nil w 37 5 Tryz.underlying37 Tryz.underlying5 0 cap 9 Tryz.underlying9
    | some ad =>
      have := run_convert_bytes_string w 37 9 5 (some ad) 0 cap Tryz.underlying37 Tryz.underlying5 Tryz.underlying9
      rw [this]
      rfl
theorem str8_list (xs : List Int) : (P4.str8 xs).toList = Lib.bytesOf xs := Lib.strOfNums_toList xs
theorem str8_eq {xs ys : List Int} (hx : SM.Oct xs) (hy : SM.Oct ys) (r : Bool) (hr : (xs = ys) ↔ r = true) : ((P4.str8 xs).toList == (P4.str8 ys).toList) = r := by
  rw [str8_list, str8_list]
  cases r
  · have hn : ¬ Lib.bytesOf xs = Lib.bytesOf ys := fun h => by
      have := hr.1 (P4.str8_inj hx hy (by unfold P4.str8; exact congrArg (fun l => ByteArray.mk (List.toArray l)) h))
      cases this
    simpa using hn
  · rw [hr.2 rfl]
    simp
theorem Row8.part {w : World} {a : Option Addr} {len cap : Nat} {zs : List Int} (h : Row8 w a len cap zs) (lo hi : Nat) (hlo : lo ≤ hi) (hhi : hi ≤ len) (a' : Option Addr) (cap' : Nat) (ha : ∀ b off, lo < hi → a = some ⟨b, off, none⟩ → a' = some ⟨b, off + lo, none⟩) (hn : a' = none → hi = lo ∧ cap' = 0) : Row8 w a' (hi - lo) cap' ((zs.drop lo).take (hi - lo)) := by
  obtain ⟨h1, h2, h3, h4, h5⟩ := h
  refine ⟨by simp; omega, by omega, SM.oct_take _ (P4.oct_drop _ h3 _) _, fun e => ?_, fun hp => ?_⟩
  · have := hn e
    exact ⟨by omega, this.2⟩
  · obtain ⟨b, off, rfl, hc⟩ := h5 (by omega)
    refine ⟨b, off + lo, ha b off (by omega) rfl, fun i hi' => ?_⟩
    have := hc (lo + i) (by omega)
    rw [P4.getD_take hi', P4.getD_drop, Nat.add_assoc]
    exact this
theorem Row8.congr {w : World} {a : Option Addr} {len cap : Nat} {zs ys : List Int} (h : Row8 w a len cap zs) (e : zs = ys) : Row8 w a len cap ys := e ▸ h
def Blk (B : Nat) (zs : List Int) (w : World) : Prop := w.heap[B]? = some (.cells (zs.map (Value.int .u8)).toArray 5 (0, 0))
theorem Blk.lt {B : Nat} {zs : List Int} {w : World} (h : Blk B zs w) : B < w.heap.size := (Array.getElem?_eq_some_iff.1 h).1
theorem Blk.kept {B : Nat} {zs : List Int} {w w' : World} (h : Blk B zs w) (hb : Below w.heap.size w w') : Blk B zs w' := (hb.block B h.lt).trans h
theorem blk_new (w : World) (zs : List Int) : Blk w.heap.size zs (w.alloc (.cells (zs.map (Value.int .u8)).toArray 5)) := heap_alloc_new w _
theorem Blk.cell {B : Nat} {zs : List Int} {w : World} (h : Blk B zs w) (j : Nat) (hj : j < zs.length) : w.cell? ⟨B, j, none⟩ = some (.int .u8 (zs.getD j 0)) := by
  unfold Blk at h
  simp [World.cell?, h, hj]
theorem Blk.frozen {B : Nat} {zs : List Int} {w : World} (h : Blk B zs w) (j : Nat) : w.frozen? ⟨B, j, none⟩ = false := by
  unfold Blk at h
  simp [World.frozen?, h]
theorem Blk.set {B : Nat} {zs : List Int} {w : World} (h : Blk B zs w) (j : Nat) (v : Int) : Blk B (zs.set j v) (w.setCell ⟨B, j, none⟩ (.int .u8 v)) := by
  unfold Blk at h ⊢
  rw [setCell_eq_setRow w B j _ 5 (0, 0) (.int .u8 v) h, setRow_heap w B _ _ 5 (0, 0) h]
  simp [List.map_set]
theorem Blk.row8 {B : Nat} {zs : List Int} {w : World} (h : Blk B zs w) (ho : SM.Oct zs) (n cap : Nat) (hn : zs.length = n) (hm : n ≤ maxLen) : Row8 w (some ⟨B, 0, none⟩) n cap zs :=
  ⟨hn, hm, ho, (fun e => by cases e), fun _ => ⟨B, 0, rfl, fun i hi => by rw [Nat.zero_add]; exact h.cell i (by omega)⟩⟩
theorem Blk.own {B : Nat} {zs : List Int} {w : World} (h : Blk B zs w) (ho : SM.Oct zs) (base n : Nat) (hn : zs.length = n) (hm : n ≤ maxLen) (hb : base ≤ B) : Own base w (.slice (some ⟨B, 0, none⟩) n n) zs := by
  subst hn
  exact ⟨ho, by simp, .inr ⟨B, zs.length, _, rfl, hb, h, Nat.le_refl _, hm, by simp, by simp [← List.map_take]⟩⟩
theorem Own.heap {base : Nat} {w w' : World} {v : Value} {zs : List Int} (h : Own base w v zs) (he : ∀ g, base ≤ g → g < w.heap.size → w'.heap[g]? = w.heap[g]?) : Own base w' v zs := by
  refine ⟨h.1, h.2.1, ?_⟩
  rcases h.2.2 with h2 | ⟨g, cap, cur, rfl, hb', hg, rest⟩
  · exact .inl h2
  · exact .inr ⟨g, cap, cur, rfl, hb', by rw [he g hb' (Array.getElem?_eq_some_iff.1 hg).1]; exact hg, rest⟩
theorem Own.mono {base base' : Nat} {w : World} {v : Value} {zs : List Int} (h : Own base w v zs) (hb : base' ≤ base) : Own base' w v zs := by
  refine ⟨h.1, h.2.1, ?_⟩
  rcases h.2.2 with h2 | ⟨g, cap, cur, rfl, hb', hg, rest⟩
  · exact .inl h2
  · exact .inr ⟨g, cap, cur, rfl, by omega, hg, rest⟩
theorem setCell_heap_same (w : World) (B j : Nat) (cs : Array Value) (t : TypeId) (v : Value) (h : w.heap[B]? = some (.cells cs t (0, 0))) : (w.setCell ⟨B, j, none⟩ v).heap[B]? = some (.cells (cs.setIfInBounds j v) t (0, 0)) := by
  rw [setCell_eq_setRow w B j _ t (0, 0) v h, setRow_heap w B _ _ t (0, 0) h]
theorem Own.form {base : Nat} {w : World} {v : Value} {zs : List Int} (h : Own base w v zs) (hp : 0 < zs.length) : ∃ g cap, v = .slice (some ⟨g, 0, none⟩) zs.length cap ∧ zs.length ≤ cap ∧ cap ≤ maxLen ∧ base ≤ g ∧ g < w.heap.size ∧ Row8 w (some ⟨g, 0, none⟩) zs.length cap zs := by
  obtain ⟨a, cap0, hv, hrow, hlt⟩ := h.row8
  rcases h.2.2 with ⟨rfl, hn⟩ | ⟨g, cap, cur, rfl, hb', hg, h1, h2, rest⟩
  · omega
  · injection hv with e1 _ e3
    subst e1
    subst e3
    exact ⟨g, _, rfl, h1, h2, hb', (Array.getElem?_eq_some_iff.1 hg).1, hrow⟩
theorem Own.toRow {base : Nat} {w : World} {a : Option Addr} {n c : Nat} {zs : List Int} (h : Own base w (.slice a n c) zs) : Row8 w a n c zs := by
  obtain ⟨a', c', e, hr, _⟩ := h.row8
  injection e with e1 e2 e3
  subst e1 e2 e3
  exact hr
theorem Row8.drewN {w : World} {a : Option Addr} {len cap : Nat} {zs : List Int} (h : Row8 w a len cap zs) (n : Nat) : Row8 (w.drewN n) a len cap zs := h.below ((Below.refl _ _).trans ⟨rfl, rfl, rfl, Nat.le_refl _, fun _ _ => rfl⟩)
theorem row_take {w : World} {g off len cap : Nat} {zs : List Int} (h : Row8 w (some ⟨g, off, none⟩) len cap zs) (n c : Nat) (hn : n ≤ len) : Row8 w (some ⟨g, off, none⟩) n c (zs.take n) := by
  have := h.part 0 n (by omega) hn (some ⟨g, off, none⟩) c (fun b o _ e => by cases e; rfl) (fun e => by cases e)
  simpa using this
theorem row_drop {w : World} {g off len cap : Nat} {zs : List Int} (h : Row8 w (some ⟨g, off, none⟩) len cap zs) (n c : Nat) (hn : n ≤ len) : Row8 w (some ⟨g, off + n, none⟩) (len - n) c (zs.drop n) := by
  have := h.part n len hn (Nat.le_refl _) (some ⟨g, off + n, none⟩) c (fun b o _ e => by cases e; rfl) (fun e => by cases e)
  exact this.congr (List.take_of_length_le (by rw [List.length_drop, h.1]; exact Nat.le_refl _))
end Go.Proofs.YtkhahbghmdccaaaGreatDoor

namespace Go.Proofs.YtkhahbghmdccaaaGreatDoor
open Go.RowKit
theorem Own.caps {base : Nat} {w : World} {a : Option Addr} {n c : Nat} {zs : List Int} (h : Own base w (.slice a n c) zs) : n ≤ c ∧ c ≤ maxLen := by
  rcases h.2.2 with ⟨e, hn⟩ | ⟨g, cap, cur, e, _, _, h1, h2, _⟩
  · injection e with e1 e2 e3
    exact ⟨by omega, by unfold maxLen; omega⟩
  · injection e with e1 e2 e3
    subst e3
    exact ⟨by omega, h2⟩
end Go.Proofs.YtkhahbghmdccaaaGreatDoor

namespace Go.Proofs.YtkhahbghmdccaaaGreatDoor
open Go.RowKit
theorem i64_and65535 (n : Int) : bits .and .i64 n 65535 = n % 65536 := by
  have h : (BitVec.ofInt 64 65535).toNat = 2 ^ 16 - 1 := by decide
  have key : (BitVec.ofInt 64 n &&& BitVec.ofInt 64 65535).toNat = (n % ((2 ^ 64 : Nat) : Int)).toNat % 2 ^ 16 := by
    rw [BitVec.toNat_and, BitVec.toNat_ofInt, h, Nat.and_two_pow_sub_one_eq_mod]
  show IntKind.i64.wrap ((BitVec.ofInt 64 n &&& BitVec.ofInt 64 65535).toNat : Nat) = n % 65536
  rw [key, IntKind.wrap_i64]
  omega
theorem ret_int {k : IntKind} {a b : Int} (h : a = b) : Ending.returned (.int k a) = .returned (.int k b) := by rw [h]
set_option maxHeartbeats 400000 in
theorem fold_any (n : Int) (w : World) (h0 : 0 ≤ n) (h1 : n ≤ 1000000000000) :
    Calls Tryz.prog 210 #[.int .i64 n] w fun e w' => e = .returned (.int .i64 (SM.fold n)) ∧ w' = w := by
  go_enter Tryz.func210, Tryz.ntmps210
  go_wp2
  go_loop [0] (fun t => ∃ m : Int, 0 ≤ m ∧ m ≤ 1000000000000 ∧ SM.fold m = SM.fold n ∧ t = .int .i64 m) (fun t => (intOf t).toNat)
  case atStart => exact ⟨n, h0, h1, rfl, rfl⟩
  case round =>
    obtain ⟨m, hm0, hm1, hm, rfl⟩ := hrel
    have H : Hid (SM.fold m = SM.fold n) := hm
    clear hm
    by_cases hlt : 65535 < m
    · have hs := SM.fold_step m hlt
      have HS : Hid (SM.fold (m / 65536 + m % 65536) = SM.fold m) := hs
      clear hs
      go_wp2
      go_round
      case rel => exact ⟨m / 65536 + m % 65536, by omega, by omega, HS.out.trans H.out, by rw [i64_and65535, IntWalk.wrap64_in _ (by omega)]⟩
      case measure => rw [i64_and65535, IntWalk.wrap64_in _ (by omega)]; simp only [intOf]; omega
    · go_wp2
      go_ret
      exact ⟨ret_int ((SM.fold_small m hm0 (by omega)).symm.trans H.out), rfl⟩
def AllIn (zs : List Int) (n : Nat) : Prop := ∀ i, i < n → 0 ≤ zs.getD i 0 ∧ zs.getD i 0 ≤ 65535
set_option maxHeartbeats 400000 in
theorem check16_any (b n : Nat) (zs : List Int) (w : World) (hn : n ≤ 1000) (hc : ∀ i, i < n → w.cell? ⟨b, i, none⟩ = some (.int .i64 (zs.getD i 0))) :
    Calls Tryz.prog 211 #[.slice (some ⟨b, 0, none⟩) n n] w fun e w' => ((AllIn zs n ∧ e = .returned .nilIface) ∨ (¬ AllIn zs n ∧ e = .returned (.iface 28 (.int .i64 1)))) ∧ w' = w := by
  go_enter Tryz.func211, Tryz.ntmps211
  go_wp2
  go_loop [7] (fun t => ∃ k : Nat, k ≤ n ∧ AllIn zs k ∧ t = .int .i64 k) (fun t => n - (intOf t).toNat)
  case atStart => exact ⟨0, by omega, fun i hi => absurd hi (by omega), rfl⟩
  case round =>
    obtain ⟨k, hk, hin, rfl⟩ := hrel
    have HI : Hid (AllIn zs k) := hin
    clear hin
    by_cases hlt : k < n
    · have hck := hc k hlt
      clear hc
      generalize hzk : zs.getD k 0 = z at hck
      have HZ : Hid (zs.getD k 0 = z) := hzk
      clear hzk
      by_cases hz0 : z < 0
      · go_wp2
        go_ret
        exact ⟨.inr ⟨fun h => absurd (h k hlt).1 (by rw [HZ.out]; omega), rfl⟩, rfl⟩
      · by_cases hz1 : 65535 < z
        · go_wp2
          go_ret
          exact ⟨.inr ⟨fun h => absurd (h k hlt).2 (by rw [HZ.out]; omega), rfl⟩, rfl⟩
        · go_wp2
          go_round
          case rel => exact ⟨k + 1, by omega, fun i hi => if h : i = k then by subst h; rw [HZ.out]; omega else HI.out i (by omega), by go_num⟩
          case measure => simp [intOf]; omega
    · go_wp2
      go_ret
      obtain rfl : k = n := by omega
      exact ⟨.inl ⟨HI.out, rfl⟩, rfl⟩
set_option maxHeartbeats 400000 in
theorem of_ok (a : Option Addr) (len cap : Nat) (zs : List Int) (w : World) (w0 : Row8 w a len cap zs) (h : len ≤ 2000) :
    Calls Tryz.prog 182 #[.slice a len cap] w fun e w' => e = .returned (.tuple #[.int .i64 (SM.fold (SM.tot zs len)), .nilIface]) ∧ w' = w := by
  obtain ⟨hz, hm, hoct, _, hcs⟩ := w0
  by_cases hp : 0 < len
  · obtain ⟨b, off, rfl, hcell⟩ := hcs hp
    clear hcs
    go_enter Tryz.func182, Tryz.ntmps182
    go_wp2
    go_loop [4, 13] (fun t i => ∃ k : Nat, k ≤ len ∧ t = .int .i64 (SM.tot zs k) ∧ i = .int .i64 k) (fun _ i => len - (intOf i).toNat)
    case atStart => exact ⟨0, by omega, rfl, rfl⟩
    case round =>
      obtain ⟨k, hk, rfl, rfl⟩ := hrel
      have hb := SM.tot_bd zs hoct k
      by_cases hlt : k < len
      · have hck := hcell k (by omega)
        have hok := hoct k
        clear hcell
        have he := SM.tot_even zs k
        have ho := SM.tot_odd zs k
        have HE : Hid (k % 2 = 0 → SM.tot zs (k + 1) = SM.tot zs k + zs.getD k 0 * 256) := he
        have HO : Hid (k % 2 = 1 → SM.tot zs (k + 1) = SM.tot zs k + zs.getD k 0) := ho
        clear he ho hoct
        generalize zs.getD k 0 = z at hck hok HE HO
        generalize SM.tot zs k = t at hb HE HO ⊢
        by_cases hpar : k % 2 = 0
        · go_wp2
          go_round
          case rel => exact ⟨k + 1, by omega, by rw [HE.out hpar], by go_num⟩
          case measure => simp [intOf]; omega
        · go_wp2
          go_round
          case rel => exact ⟨k + 1, by omega, by rw [HO.out (by omega)], by go_num⟩
          case measure => simp [intOf]; omega
      · obtain rfl : k = len := by omega
        go_wp2_with (go_at_call 210; refine (fold_any _ _ (by omega) (by omega)).mono ?_; rintro e w' ⟨rfl, rfl⟩)
        go_ret2
        exact ⟨rfl, rfl⟩
  · obtain rfl : len = 0 := by omega
    go_enter Tryz.func182, Tryz.ntmps182
    go_wp2
    refine wp_loop_rounds 1 ?_
    rw [rounds_succ]
    go_wp2_with (go_at_call 210; refine (fold_any _ _ (by omega) (by omega)).mono ?_; rintro e w' ⟨rfl, rfl⟩)
    go_ret2
    exact ⟨rfl, rfl⟩
theorem check16_ok (b n : Nat) (zs : List Int) (w : World) (hn : n ≤ 1000) (hc : ∀ i, i < n → w.cell? ⟨b, i, none⟩ = some (.int .i64 (zs.getD i 0))) (hin : AllIn zs n) :
    Calls Tryz.prog 211 #[.slice (some ⟨b, 0, none⟩) n n] w fun e w' => e = .returned .nilIface ∧ w' = w :=
  (check16_any b n zs w hn hc).mono fun e w' h => by
    rcases h with ⟨⟨_, h⟩ | ⟨h, _⟩, hw⟩
    · exact ⟨h, hw⟩
    · exact absurd hin h
theorem allIn1 (x : Int) : AllIn [x] 1 ↔ Word x :=
  ⟨fun h => h 0 (by omega), fun h i hi => by obtain rfl : i = 0 := by omega
                                             exact h⟩
theorem cells1 (x : Int) (w : World) : ∀ i, i < 1 → (w.alloc (.cells #[.int .i64 x] 3)).cell? ⟨w.heap.size, i, none⟩ = some (.int .i64 ([x].getD i 0)) := by
  intro i hi
  obtain rfl : i = 0 := by omega
  simp
theorem not_ok (x : Int) (w : World) (h : Word x) : Calls Tryz.prog 183 #[.int .i64 x] w fun e w' => e = .returned (.tuple #[.int .i64 (65535 - x), .nilIface]) ∧ Below w.heap.size w w' := by
  have hc := cells1 x w
  have HC := check16_ok _ 1 _ _ (by omega) hc ((allIn1 x).2 h)
  have h1 := h.1
  have h2 := h.2
  clear hc
  have H := hide HC
  clear HC
  go_enter Tryz.func183, Tryz.ntmps183
  go_wp2_with (go_at_call 211; refine (unhide H).mono ?_; rintro e w' ⟨rfl, rfl⟩)
  go_ret2
  exact ⟨rfl, (Below.refl _ _).alloc (Nat.le_refl _) _⟩
theorem allIn2 (x y : Int) : AllIn [x, y] 2 ↔ Word x ∧ Word y :=
  ⟨fun h => ⟨h 0 (by omega), h 1 (by omega)⟩, fun ⟨h1, h2⟩ i hi => by
    rcases (by omega : i = 0 ∨ i = 1) with rfl | rfl
    · exact h1
    · exact h2⟩
theorem cells2 (x y : Int) (w : World) : ∀ i, i < 2 → (w.alloc (.cells #[.int .i64 x, .int .i64 y] 3)).cell? ⟨w.heap.size, i, none⟩ = some (.int .i64 ([x, y].getD i 0)) := by
  intro i hi
  rcases (by omega : i = 0 ∨ i = 1) with rfl | rfl <;> simp
theorem add_ok (x y : Int) (w : World) (h : Word x ∧ Word y) : Calls Tryz.prog 190 #[.int .i64 x, .int .i64 y] w fun e w' => e = .returned (.tuple #[.int .i64 (SM.fold (x + y)), .nilIface]) ∧ Below w.heap.size w w' := by
  have hc := cells2 x y w
  have H := hide (check16_ok _ 2 _ _ (by omega) hc ((allIn2 x y).2 h))
  obtain ⟨⟨h1, h2⟩, h3, h4⟩ := h
  clear hc
  go_enter Tryz.func190, Tryz.ntmps190
  go_wp2_with (first | (go_at_call 211; refine (unhide H).mono ?_; rintro e w' ⟨rfl, rfl⟩) | (go_at_call 210; refine (fold_any _ _ (by omega) (by omega)).mono ?_; rintro e w' ⟨rfl, rfl⟩))
  go_ret2
  exact ⟨rfl, (Below.refl _ _).alloc (Nat.le_refl _) _⟩
theorem al_below (w : World) (o : Obj) : Below w.heap.size w (w.alloc o) := (Below.refl _ _).alloc (Nat.le_refl _) _
theorem add_at (b o j : Nat) : (⟨b, o, none⟩ : Addr).add j = ⟨b, o + j, none⟩ := by unfold Addr.add; split <;> simp_all
def Only (B : Nat) (w w' : World) : Prop := w'.os = w.os ∧ w'.tape = w.tape ∧ w'.output = w.output ∧ w'.heap.size = w.heap.size ∧ ∀ g, g ≠ B → w'.heap[g]? = w.heap[g]?
theorem Only.below {B base : Nat} {w0 w w' : World} (h : Only B w w') (hb : Below base w0 w) (hB : base ≤ B) : Below base w0 w' :=
  ⟨h.1.trans hb.os, h.2.1.trans hb.tape, h.2.2.1.trans hb.output, by rw [h.2.2.2.1]; exact hb.size, fun g hg => (h.2.2.2.2 g (by omega)).trans (hb.block g hg)⟩
theorem Only.own {B base : Nat} {w w' : World} (h : Only B w w') {v : Value} {zs : List Int} (o : Own base w v zs) (hB : B < base) : Own base w' v zs := o.heap (fun g hg _ => h.2.2.2.2 g (by omega))
theorem only_setRow (w : World) (B : Nat) (cs : Array Value) : Only B w (w.setRow B cs) := ⟨rfl, rfl, rfl, setRow_size w B cs, fun g hg => setRow_other w B g cs hg⟩
def up (m n : Int) : Bool := decide (0 ≤ n ∧ n ≤ m)
theorem up_true {m n : Int} (h : up m n = true) : 0 ≤ n ∧ n ≤ m := of_decide_eq_true h
theorem equal_any (a b : Option Addr) (la lb ca cb : Nat) (xs ys : List Int) (w : World) (ra : Row8 w a la ca xs) (rb : Row8 w b lb cb ys) (r : Bool) (hr : (xs = ys) ↔ r = true) : Calls Tryz.prog 72 #[.slice a la ca, .slice b lb cb] w fun e w' => e = .returned (.bool r) ∧ w' = w := by
  have c1 := conv8 ra
  have c2 := conv8 rb
  have hE := str8_eq ra.2.2.1 rb.2.2.1 r hr
  clear hr ra rb
  go_enter Tryz.func72, Tryz.ntmps72
  go_wp2
  go_ret
  exact ⟨rfl, rfl⟩
def Gr (W0 w : World) (v : Value) (zs : List Int) : Prop := Own W0.heap.size w v zs ∧ Below W0.heap.size W0 w
theorem Gr.below {W0 w w' : World} {v : Value} {zs : List Int} (h : Gr W0 w v zs) (hb : Below w.heap.size w w') : Gr W0 w' v zs := ⟨h.1.kept hb, h.2.trans (hb.mono h.2.size)⟩
theorem Gr.nil (w : World) : Gr w w (.slice none 0 0) [] := ⟨Own.nil _ _, Below.refl _ _⟩
theorem gr_make (w : World) {ops : Array Oper} {rest : List Oper} {o : Oper} {a : Act} {Q : Exit → Act → World → Prop} (hg : o.guard = none) (l c : Operand) (hop : o.op = Op.makeSlice 37 l c)
    (C : Int) (n : Nat) (hl : a.eval l = .int .i64 0) (hc : a.eval c = .int .i64 C) (hC : C = (n : Int)) (b2 : n ≤ 1000000000)
    (hK : ∀ b w', Gr w w' (.slice (some ⟨b, 0, none⟩) 0 n) [] → wpList Tryz.prog ops Q rest (a.put o.dst (.slice (some ⟨b, 0, none⟩) 0 n)) w') : wpList Tryz.prog ops Q (o :: rest) a w := by
  obtain ⟨i0, hi, hz0, hz1, hz2⟩ := info_parts Tryz.infoByte
  refine wpList_make_own w hg l c 37 hop w.heap.size 5 i0 _ 1 Tryz.underlying37 hi hz0 hz1 .i64 .i64 C n hl hc hC (by rw [hz2]; omega) (by unfold maxLen; omega) (Nat.le_refl _) ?_
  intro w' h1 h2
  exact hK _ w' ⟨⟨SM.oct_nil, h1⟩, (Below.refl _ _).grown h2 (Nat.le_refl _) (fun k h => by cases h)⟩
theorem gr_app {w : World} {ops : Array Oper} {rest : List Oper} {o : Oper} {a : Act} {Q : Exit → Act → World → Prop} (hgd : o.guard = none) (s x : Operand)
    (ho : o.op = .call { callee := .builtin .append, args := #[s, x], argTypes := #[37, 37] })
    {W0 : World} {v : Value} {zs : List Int} (hs : a.eval s = v) (hg : Gr W0 w v zs) {ao : Option Addr} {len cap : Nat} {ys : List Int}
    (hx : a.eval x = .slice ao len cap) (hrow : Row8 w ao len cap ys) (hlen : zs.length + len ≤ 1000000000)
    (h : ∀ v' w', Gr W0 w' v' (zs ++ ys) → wpList Tryz.prog ops Q rest (a.put o.dst v') w') : wpList Tryz.prog ops Q (o :: rest) a w :=
  wpList_app hgd s x ho W0.heap.size v zs hs hg.1 ao len cap ys hx hrow hlen hg.2.size (fun v' w' h1 h2 => h v' w' ⟨h1, hg.2.grown h2 hg.2.size (fun k e => (hg.1.2.lt k e).1)⟩)
theorem oct_by16 (z : List Int) (h : Ok6 z) (n : Nat) (hn : n ≤ 8) : SM.Oct (by16 z n) := by
  induction n with
  | zero => exact SM.oct_nil
  | succ n ih =>
    rw [by16_succ]
    refine SM.oct_append _ _ (ih (by omega)) ?_
    obtain ⟨h0, h1⟩ := h n (by omega)
    intro k
    match k with
    | 0 => show 0 ≤ el z n / 256 ∧ el z n / 256 ≤ 255; omega
    | 1 => show 0 ≤ el z n % 256 ∧ el z n % 256 ≤ 255; omega
    | k + 2 => simp
theorem abytes_ok (z : List Int) (w : World) (hz : Ok6 z) : Calls Tryz.prog 138 #[.agg (sixC z)] w fun e w' => ∃ a c, e = .returned (.tuple #[.slice a 16 c, .nilIface]) ∧ Row8 w' a 16 c (by16 z 8) ∧ Below w.heap.size w w' := by
  refine (bytes_ok z w hz).mono ?_
  rintro e w' ⟨v, rfl, ho, hb⟩
  have ho' : Own w.heap.size w' v (by16 z 8) := ⟨oct_by16 z hz 8 (by omega), by
    unfold OwnG u8s at ho
    rw [List.length_map] at ho
    exact ho⟩
  obtain ⟨a, c, rfl, hr, _⟩ := ho'.row8
  rw [by16_len] at hr
  exact ⟨a, c, by rw [by16_len], hr, hb⟩
end Go.Proofs.YtkhahbghmdccaaaGreatDoor
