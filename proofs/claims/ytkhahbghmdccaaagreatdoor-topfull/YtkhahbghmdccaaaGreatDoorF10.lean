/- A packet of fours as a value and in its block. A packet of fours loaded and stored whole, at a plain region's list. Package ip4's small ones by contracts: upTo, Check, number, and bytes.Equal. Package ip4: number, Check, header, checkOf and Encode, by contracts. Package ip4: Check and header, by contracts. Package ip4: header, by a contract. Package ip4: Encode, by contracts. Package ip4: read, by a contract. -/
import Derived.Below
import Derived.OpenShut
import Derived.Test.YtkhahbghmdccaaaGreatDoorProg
import Derived.WalkKit
import Derived.LaidEql
import Derived.BigQuiet
import Derived.Laws.AppendOwnNone
import Derived.Laws.MakeOwn
import Derived.Deep.RegionLaw
import Derived.Lib.Bytes
import Derived.Deep.MidRow
import Derived.Laws.ResultCell
import Derived.Deep.CutBlock
import Derived.Deep.QuietTactic
import Derived.OwnWalk
import Derived.Test.YtkhahbghmdccaaaGreatDoorF06
import Derived.Test.YtkhahbghmdccaaaGreatDoorF02
import Derived.Test.YtkhahbghmdccaaaGreatDoorF03
import Derived.Test.YtkhahbghmdccaaaGreatDoorF05
import Derived.Deep.RegionHeld3
import Derived.Deep.DrawnRows
namespace Go.Proofs.YtkhahbghmdccaaaGreatDoor.V4
open Go.RowKit
def pk (s d t k i : Int) (a : Option Addr) (len cap : Nat) : Value := .agg #[.int .i64 s, .int .i64 d, .int .i64 t, .int .i64 k, .int .i64 i, .slice a len cap]
def PkIn (B : Nat) (s d t k i : Int) (a : Option Addr) (len cap : Nat) (w : World) : Prop := w.heap[B]? = some (.cells #[.int .i64 s, .int .i64 d, .int .i64 t, .int .i64 k, .int .i64 i, .slice a len cap] 65 (0, 0))
theorem PkIn.lt {B : Nat} {s d t k i : Int} {a : Option Addr} {len cap : Nat} {w : World} (h : PkIn B s d t k i a len cap w) : B < w.heap.size := (Array.getElem?_eq_some_iff.1 h).1
theorem PkIn.kept {B : Nat} {s d t k i : Int} {a : Option Addr} {len cap : Nat} {w w' : World} (h : PkIn B s d t k i a len cap w) (hb : Below w.heap.size w w') : PkIn B s d t k i a len cap w' := (hb.block B h.lt).trans h
theorem PkIn.other {B : Nat} {s d t k i : Int} {a : Option Addr} {len cap : Nat} {w : World} (h : PkIn B s d t k i a len cap w) (p : Addr) (hp : B ≠ p.block) (v : Value) : PkIn B s d t k i a len cap (w.setCell p v) := (Below.heap_setCell w p v B hp).trans h
theorem pk_new (w : World) (s d t k i : Int) (a : Option Addr) (len cap : Nat) : PkIn w.heap.size s d t k i a len cap (w.alloc (.cells #[.int .i64 s, .int .i64 d, .int .i64 t, .int .i64 k, .int .i64 i, .slice a len cap] 65)) := heap_alloc_new w _
theorem PkIn.all {B : Nat} {s d t k i : Int} {a : Option Addr} {len cap : Nat} {w : World} (h : PkIn B s d t k i a len cap w) :
    w.cell? ⟨B, 0, none⟩ = some (.int .i64 s) ∧ w.cell? ⟨B, 1, none⟩ = some (.int .i64 d) ∧ w.cell? ⟨B, 2, none⟩ = some (.int .i64 t) ∧ w.cell? ⟨B, 3, none⟩ = some (.int .i64 k) ∧ w.cell? ⟨B, 4, none⟩ = some (.int .i64 i) ∧ w.cell? ⟨B, 5, none⟩ = some (.slice a len cap) := by
  unfold PkIn at h
  refine ⟨?_, ?_, ?_, ?_, ?_, ?_⟩ <;> simp [World.cell?, h]
theorem load_pk {B : Nat} {s d t k i : Int} {a : Option Addr} {len cap : Nat} {w : World} (h : PkIn B s d t k i a len cap w) : (loadVar 65 ⟨B, 0, none⟩).run Tryz.prog w = .ok (pk s d t k i a len cap) w :=
  run_loadVar_row w B 65 65 _ (0, 0) _ h Tryz.underlying65 rfl (by kernel_rfl)
theorem results_cr {fn : Func} {p u : Tmp} (h : fn.results = #[.cell p 65, .tmp u]) (tmps : Array Value) (w : World) (B : Nat) (s d t k i : Int) (a : Option Addr) (len cap : Nat)
    (hp : tmps.getD p undef = .pointer (some ⟨B, 0, none⟩)) (hg : PkIn B s d t k i a len cap w) :
    (results fn tmps).run Tryz.prog w = .ok (.tuple #[pk s d t k i a len cap, tmps.getD u undef]) w := by
  rw [results_cell_tmp h, hp]
  simp [asAddr, load_pk hg]
end Go.Proofs.YtkhahbghmdccaaaGreatDoor.V4

namespace Go.Proofs.YtkhahbghmdccaaaGreatDoor.V4
open Go.RowKit
theorem at_load {ops : Array Oper} {rest : List Oper} {o : Oper} {f : Act} {w : World} {Q : Exit → Act → World → Prop} (hgd : o.guard = none) (x : Operand) (ho : o.op = .load 65 x)
    {B : Nat} {s d t k i : Int} {a : Option Addr} {len cap : Nat} (hx : f.eval x = .pointer (some ⟨B, 0, none⟩)) (p : PkIn B s d t k i a len cap w)
    (hK : wpList Tryz.prog ops Q rest (f.put o.dst (pk s d t k i a len cap)) w) : wpList Tryz.prog ops Q (o :: rest) f w :=
  wpList_load_row hgd 65 x ho B hx 65 _ (0, 0) _ p Tryz.underlying65 rfl (by kernel_rfl) hK
theorem PkIn.stored {B : Nat} {s0 d0 t0 k0 i0 : Int} {a0 : Option Addr} {len0 cap0 : Nat} {w : World} (p : PkIn B s0 d0 t0 k0 i0 a0 len0 cap0 w) (s d t k i : Int) (a : Option Addr) (len cap : Nat) : PkIn B s d t k i a len cap (w.setRow B #[.int .i64 s, .int .i64 d, .int .i64 t, .int .i64 k, .int .i64 i, .slice a len cap]) := setRow_heap w B _ _ _ (0, 0) p
theorem at_store {ops : Array Oper} {rest : List Oper} {o : Oper} {f : Act} {w : World} {Q : Exit → Act → World → Prop} (hgd : o.guard = none) (x y : Operand) (ho : o.op = .store 65 x y)
    {B : Nat} {s0 d0 t0 k0 i0 : Int} {a0 : Option Addr} {len0 cap0 : Nat} (hx : f.eval x = .pointer (some ⟨B, 0, none⟩)) (p : PkIn B s0 d0 t0 k0 i0 a0 len0 cap0 w)
    (s d t k i : Int) (a : Option Addr) (len cap : Nat) (hy : f.eval y = pk s d t k i a len cap)
    (hK : ∀ w', PkIn B s d t k i a len cap w' → Only B w w' → wpList Tryz.prog ops Q rest (f.put o.dst undef) w') : wpList Tryz.prog ops Q (o :: rest) f w :=
  wpList_store_row hgd 65 x y ho B _ hx hy 65 _ p (by kernel_rfl) rfl (by simp [Value.oneCell']) (hK _ (p.stored s d t k i a len cap) (only_setRow _ _ _))
def pk0 : Value := pk 0 0 0 0 0 none 0 0
def zero4 : Array Value := #[.int .i64 0, .int .i64 0, .int .i64 0, .int .i64 0, .int .i64 0, .slice none 0 0]
theorem zero_new (w : World) : PkIn w.heap.size 0 0 0 0 0 none 0 0 (w.alloc (.cells zero4 65)) := pk_new w 0 0 0 0 0 none 0 0
end Go.Proofs.YtkhahbghmdccaaaGreatDoor.V4

namespace Go.Proofs.YtkhahbghmdccaaaGreatDoor.V4
open Go.RowKit
def IsF (f : Int) : Prop := 0 ≤ f ∧ f ≤ 4294967295
def IsB (f : Int) : Prop := 0 ≤ f ∧ f ≤ 255
theorem bt {a b c : World} (h1 : Below a.heap.size a b) (h2 : Below b.heap.size b c) : Below a.heap.size a c := h1.trans (h2.mono h1.size)
theorem upto_yes (m n : Int) (w : World) (h0 : 0 ≤ n) (h1 : n ≤ m) : Calls Tryz.prog 181 #[.int .i64 m, .int .i64 n] w fun e w' => e = .returned (.bool true) ∧ w' = w := by
  go_enter Tryz.func181, Tryz.ntmps181
  go_wp2
  go_ret
  exact ⟨rfl, rfl⟩
theorem upto_no (m n : Int) (w : World) (h : ¬ (0 ≤ n ∧ n ≤ m)) : Calls Tryz.prog 181 #[.int .i64 m, .int .i64 n] w fun e w' => e = .returned (.bool false) ∧ w' = w := by
  by_cases h0 : 0 ≤ n
  · have h1 : ¬ n ≤ m := fun h1 => h ⟨h0, h1⟩
    clear h
    go_enter Tryz.func181, Tryz.ntmps181
    go_wp2
    go_ret
    exact ⟨rfl, rfl⟩
  · clear h
    go_enter Tryz.func181, Tryz.ntmps181
    go_wp2
    go_ret
    exact ⟨rfl, rfl⟩
theorem c4_ok (a : Int) (w : World) (h : IsF a) : Calls Tryz.prog 97 #[.int .i64 a] w fun e w' => e = .returned .nilIface ∧ w' = w := by
  obtain ⟨h0, h1⟩ := h
  go_enter Tryz.func97, Tryz.ntmps97
  go_wp2
  go_ret
  exact ⟨rfl, rfl⟩
theorem c4_bad (a : Int) (w : World) (h : ¬ IsF a) : Calls Tryz.prog 97 #[.int .i64 a] w fun e w' => e = .returned (.iface 28 (.int .i64 1)) ∧ w' = w := by
  unfold IsF at h
  by_cases h1 : a < 0
  · clear h
    go_enter Tryz.func97, Tryz.ntmps97
    go_wp2
    go_ret
    exact ⟨rfl, rfl⟩
  · have h2 : 4294967295 < a := by omega
    clear h
    go_enter Tryz.func97, Tryz.ntmps97
    go_wp2
    go_ret
    exact ⟨rfl, rfl⟩
theorem equal_any (a b : Option Addr) (la lb ca cb : Nat) (xs ys : List Int) (w : World) (ra : Row8 w a la ca xs) (rb : Row8 w b lb cb ys) (r : Bool) (hr : (xs = ys) ↔ r = true) : Calls Tryz.prog 72 #[.slice a la ca, .slice b lb cb] w fun e w' => e = .returned (.bool r) ∧ w' = w := by
  have c1 := conv8 ra
  have c2 := conv8 rb
  have hE := str8_eq ra.2.2.1 rb.2.2.1 r hr
  clear hr ra rb
  go_enter Tryz.func72, Tryz.ntmps72
  go_wp2
  go_ret
  exact ⟨rfl, rfl⟩
end Go.Proofs.YtkhahbghmdccaaaGreatDoor.V4

namespace Go.Proofs.YtkhahbghmdccaaaGreatDoor.V4
open Go.RowKit
theorem or8 (a x : Nat) (ha : a < 16777216) (hx : x ≤ 255) : bits .or .i64 ((a * 256 : Nat) : Int) (x : Int) = ((a * 256 + x : Nat) : Int) := by
  have e1 : (BitVec.ofInt 64 ((a * 256 : Nat) : Int)).toNat = a * 256 := by rw [BitVec.toNat_ofInt]; omega
  have e2 : (BitVec.ofInt 64 ((x : Nat) : Int)).toNat = x := by rw [BitVec.toNat_ofInt]; omega
  have key : (BitVec.ofInt 64 ((a * 256 : Nat) : Int) ||| BitVec.ofInt 64 ((x : Nat) : Int)).toNat = a * 256 + x := by
    rw [BitVec.toNat_or, e1, e2]
    have := Nat.shiftLeft_add_eq_or_of_lt (show x < 2 ^ 8 by omega) a
    rw [Nat.shiftLeft_eq] at this
    exact this.symm
  show IntKind.i64.wrap (((BitVec.ofInt 64 ((a * 256 : Nat) : Int) ||| BitVec.ofInt 64 ((x : Nat) : Int)).toNat : Nat) : Int) = _
  rw [key, IntKind.wrap_i64]
  omega
theorem or_lo (a x : Int) (ha : 0 ≤ a) (ha2 : a < 16777216) (hx : 0 ≤ x) (hx2 : x < 256) : bits .or .i64 (a * 256) x = a * 256 + x := by
  obtain ⟨m, rfl⟩ := Int.eq_ofNat_of_zero_le ha
  obtain ⟨k, rfl⟩ := Int.eq_ofNat_of_zero_le hx
  have := or8 m k (by omega) (by omega)
  rw [show ((m * 256 : Nat) : Int) = (m : Int) * 256 by omega, show ((m * 256 + k : Nat) : Int) = (m : Int) * 256 + (k : Int) by omega] at this
  exact this
def num (zs : List Int) : Nat → Int
  | 0 => 0
  | k + 1 => num zs k * 256 + zs.getD k 0
theorem num_bd (zs : List Int) (h : SM.Oct zs) (k : Nat) (hk : k < 4) : 0 ≤ num zs k ∧ num zs k < 16777216 := by
  have h0 := h 0; have h1 := h 1; have h2 := h 2
  rcases (by omega : k = 0 ∨ k = 1 ∨ k = 2 ∨ k = 3) with rfl | rfl | rfl | rfl <;> simp only [num] <;> omega
set_option maxHeartbeats 400000 in
theorem number_any (a : Option Addr) (len cap : Nat) (zs : List Int) (w : World) (hl : len ≤ 4) (hp : 0 < len) (w0 : Row8 w a len cap zs) (r : Int) (hr : num zs len = r) :
    Calls Tryz.prog 128 #[.slice a len cap] w fun e w' => e = .returned (.int .i64 r) ∧ w' = w := by
  obtain ⟨hz, hm, hoct, _, hcs⟩ := w0
  obtain ⟨b, off, rfl, hcell⟩ := hcs hp
  have HR := hide hr
  clear hcs hr
  go_enter Tryz.func128, Tryz.ntmps128
  go_wp2
  go_loop [3, 8] (fun t i => ∃ k : Nat, k ≤ len ∧ t = .int .i64 (num zs k) ∧ i = .int .i64 k) (fun _ i => len - (intOf i).toNat)
  case atStart => exact ⟨0, by omega, rfl, rfl⟩
  case round =>
    obtain ⟨k, hk, rfl, rfl⟩ := hrel
    by_cases hlt : k < len
    · have hb := num_bd zs hoct k (by omega)
      have hck := hcell k hlt
      have hok := hoct k
      clear hcell
      have HS := hide (show num zs (k + 1) = num zs k * 256 + zs.getD k 0 from rfl)
      clear hoct
      generalize zs.getD k 0 = z at hck hok HS
      generalize num zs k = t at hb HS ⊢
      have ho := or_lo t z hb.1 hb.2 hok.1 (by omega)
      go_wp2
      go_round
      case rel => exact ⟨k + 1, by omega, by rw [HS.out], by go_num⟩
      case measure => simp [intOf]; omega
    · obtain rfl : k = len := by omega
      go_wp2
      go_ret
      exact ⟨by rw [HR.out]; rfl, rfl⟩
end Go.Proofs.YtkhahbghmdccaaaGreatDoor.V4

namespace Go.Proofs.YtkhahbghmdccaaaGreatDoor.V4
open Go.RowKit
def Okp (s d t k i : Int) : Prop := IsF s ∧ IsF d ∧ IsB t ∧ IsB k ∧ Word i
def bx (w : World) (s d t k i : Int) (a : Option Addr) (len cap : Nat) : World := w.alloc (.cells #[.int .i64 s, .int .i64 d, .int .i64 t, .int .i64 k, .int .i64 i, .slice a len cap] 65)
theorem bx_below (w : World) (s d t k i : Int) (a : Option Addr) (len cap : Nat) : Below w.heap.size w (bx w s d t k i a len cap) := (Below.refl _ _).alloc (Nat.le_refl _) _
def c4v (x : Int) : Value := if 0 ≤ x ∧ x ≤ 4294967295 then .nilIface else .iface 28 (.int .i64 1)
def up (m n : Int) : Bool := decide (0 ≤ n ∧ n ≤ m)
theorem c4v_ok {x : Int} (h : IsF x) : c4v x = .nilIface := if_pos h
theorem c4v_bad {x : Int} (h : ¬ IsF x) : c4v x = .iface 28 (.int .i64 1) := if_neg h
theorem c4_any (x : Int) (w : World) : Calls Tryz.prog 97 #[.int .i64 x] w fun e w' => e = .returned (c4v x) ∧ w' = w := by
  by_cases h : IsF x
  · rw [c4v_ok h]; exact c4_ok x w h
  · rw [c4v_bad h]; exact c4_bad x w h
theorem upto_any (m n : Int) (w : World) : Calls Tryz.prog 181 #[.int .i64 m, .int .i64 n] w fun e w' => e = .returned (.bool (up m n)) ∧ w' = w := by
  by_cases h : 0 ≤ n ∧ n ≤ m
  · rw [show up m n = true from decide_eq_true h]; exact upto_yes m n w h.1 h.2
  · rw [show up m n = false from decide_eq_false h]; exact upto_no m n w h
set_option maxHeartbeats 1000000 in
theorem check_ok (s d t k i : Int) (a : Option Addr) (len cap : Nat) (w : World) (h : Okp s d t k i) (hl : len ≤ 320) :
    Calls Tryz.prog 129 #[pk s d t k i a len cap] w fun e w' => e = .returned .nilIface ∧ Below w.heap.size w w' := by
  obtain ⟨hs, hd, ht, hk, hi⟩ := h
  replace hs := c4v_ok hs
  replace hd := c4v_ok hd
  replace ht : up 255 t = true := decide_eq_true ht
  replace hk : up 255 k = true := decide_eq_true hk
  replace hi : up 65535 i = true := decide_eq_true hi
  have HB := hide (bx_below w s d t k i a len cap)
  unfold bx at HB
  unfold pk
  go_enter Tryz.func129, Tryz.ntmps129
  go_wp2_with (first
    | (go_at_call 97; refine (c4_any _ _).mono ?_; rintro e w' ⟨rfl, rfl⟩)
    | (go_at_call 181; refine (upto_any _ _ _).mono ?_; rintro e w' ⟨rfl, rfl⟩))
  go_ret
  exact ⟨rfl, HB.out⟩
end Go.Proofs.YtkhahbghmdccaaaGreatDoor.V4

namespace Go.Proofs.YtkhahbghmdccaaaGreatDoor.V4
open Go.RowKit
theorem okp_okh {s d t k i : Int} {len : Nat} (h : Okp s d t k i) (hl : len ≤ 320) : P4.Okh s d t k i (20 + len) := by
  obtain ⟨hs, hd, ht, hk, hi⟩ := h
  exact ⟨hs, hd, ht, hk, hi, by omega, by omega⟩
def Blk (B : Nat) (zs : List Int) (w : World) : Prop := w.heap[B]? = some (.cells (zs.map (Value.int .u8)).toArray 5 (0, 0))
theorem Blk.lt {B : Nat} {zs : List Int} {w : World} (h : Blk B zs w) : B < w.heap.size := (Array.getElem?_eq_some_iff.1 h).1
theorem Blk.kept {B : Nat} {zs : List Int} {w w' : World} (h : Blk B zs w) (hb : Below w.heap.size w w') : Blk B zs w' := (hb.block B h.lt).trans h
theorem blk_new (w : World) (zs : List Int) : Blk w.heap.size zs (w.alloc (.cells (zs.map (Value.int .u8)).toArray 5)) := heap_alloc_new w _
theorem Blk.cell {B : Nat} {zs : List Int} {w : World} (h : Blk B zs w) (j : Nat) (hj : j < zs.length) : w.cell? ⟨B, j, none⟩ = some (.int .u8 (zs.getD j 0)) := by
  unfold Blk at h
  simp [World.cell?, h, hj]
theorem Blk.frozen {B : Nat} {zs : List Int} {w : World} (h : Blk B zs w) (j : Nat) : w.frozen? ⟨B, j, none⟩ = false := by
  unfold Blk at h
  simp [World.frozen?, h]
theorem Blk.set {B : Nat} {zs : List Int} {w : World} (h : Blk B zs w) (j : Nat) (v : Int) : Blk B (zs.set j v) (w.setCell ⟨B, j, none⟩ (.int .u8 v)) := by
  unfold Blk at h ⊢
  rw [setCell_eq_setRow w B j _ 5 (0, 0) (.int .u8 v) h, setRow_heap w B _ _ 5 (0, 0) h]
  simp [List.map_set]
theorem Blk.row8 {B : Nat} {zs : List Int} {w : World} (h : Blk B zs w) (ho : SM.Oct zs) (n cap : Nat) (hn : zs.length = n) (hm : n ≤ maxLen) : Row8 w (some ⟨B, 0, none⟩) n cap zs :=
  ⟨hn, hm, ho, (fun e => by cases e), fun _ => ⟨B, 0, rfl, fun i hi => by rw [Nat.zero_add]; exact h.cell i (by omega)⟩⟩
theorem Blk.own {B : Nat} {zs : List Int} {w : World} (h : Blk B zs w) (ho : SM.Oct zs) (base n : Nat) (hn : zs.length = n) (hm : n ≤ maxLen) (hb : base ≤ B) : Own base w (.slice (some ⟨B, 0, none⟩) n n) zs := by
  subst hn
  exact ⟨ho, by simp, .inr ⟨B, zs.length, _, rfl, hb, h, Nat.le_refl _, hm, by simp, by simp [← List.map_take]⟩⟩
set_option maxHeartbeats 2000000 in
theorem header_ok (s d t k i : Int) (a : Option Addr) (len cap : Nat) (w : World) (h : Okp s d t k i) (hl : len ≤ 320) :
    Calls Tryz.prog 130 #[pk s d t k i a len cap] w fun e w' => ∃ B, e = .returned (.slice (some ⟨B, 0, none⟩) 20 20) ∧ B = w.heap.size + 1 ∧ Blk B (P4.hd s d t k i (20 + len) 0) w' ∧ Below w.heap.size w w' := by
  obtain ⟨hs, hd, ht, hk, hi⟩ := h
  obtain ⟨hs0, hs1⟩ := hs
  obtain ⟨hd0, hd1⟩ := hd
  obtain ⟨ht0, ht1⟩ := ht
  obtain ⟨hk0, hk1⟩ := hk
  obtain ⟨hi0, hi1⟩ := hi
  have hb := bx_below w s d t k i a len cap
  unfold bx at hb
  unfold pk
  go_enter Tryz.func130, Tryz.ntmps130
  go_wp2
  go_ret
  refine ⟨_, rfl, ?_, ?_, ?_⟩
  · simp
  · have e := blk_new (w.alloc (.cells #[.int .i64 s, .int .i64 d, .int .i64 t, .int .i64 k, .int .i64 i, .slice a len cap] 65)) (P4.hd s d t k i (20 + len) 0)
    rw [World.size_alloc] at e
    exact e
  · exact hb.alloc (by simp) _
theorem checkof_ok (a : Option Addr) (len cap : Nat) (zs : List Int) (w : World) (w0 : Row8 w a len cap zs) (h : len ≤ 2000) (r : Int) (hr : 65535 - SM.fold (SM.tot zs len) = r) :
    Calls Tryz.prog 131 #[.slice a len cap] w fun e w' => e = .returned (.tuple #[.int .i64 r, .nilIface]) ∧ Below w.heap.size w w' := by
  have H1 := hide (of_ok a len cap zs w w0 h)
  have hb := SM.tot_bd zs w0.2.2.1 len
  have hw : Word (SM.fold (SM.tot zs len)) := SM.fold_bd _ hb.1
  have H2 := hide (not_ok _ w hw)
  have HR := hide hr
  clear hb hw w0 hr h
  generalize SM.fold (SM.tot zs len) = x at H1 H2 HR
  go_enter Tryz.func131, Tryz.ntmps131
  go_wp2_with (first
    | (go_at_call 182; refine (unhide H1).mono ?_; rintro e w' ⟨rfl, rfl⟩)
    | (go_at_call 183; refine (unhide H2).mono ?_; rintro e w' ⟨rfl, hb⟩))
  go_ret2
  exact ⟨by rw [← HR.out]; rfl, hb⟩
end Go.Proofs.YtkhahbghmdccaaaGreatDoor.V4

namespace Go.Proofs.YtkhahbghmdccaaaGreatDoor.V4
open Go.RowKit
def bys (s d t k i : Int) (body : List Int) : List Int := P4.hd s d t k i (20 + body.length) (P4.ck s d t k i (20 + body.length)) ++ body
set_option maxHeartbeats 4000000 in
theorem encode_ok (s d t k i : Int) (a : Option Addr) (len cap : Nat) (body : List Int) (w : World) (h : Okp s d t k i) (hl : len ≤ 320) (hr : Row8 w a len cap body) :
    Calls Tryz.prog 70 #[pk s d t k i a len cap] w fun e w' => ∃ v, e = .returned (.tuple #[v, .nilIface]) ∧ Own w.heap.size w' v (bys s d t k i body) ∧ Below w.heap.size w w' := by
  have HB := hide (bx_below w s d t k i a len cap)
  have HP := hide (pk_new w s d t k i a len cap)
  have HC := hide (fun w => check_ok s d t k i a len cap w h hl)
  have HH := hide (fun w => header_ok s d t k i a len cap w h hl)
  have HO := hide (okp_okh h hl)
  have hlen := hr.1
  have hck := P4.ck_in _ _ _ _ _ _ HO.out
  have HQ := hide (show 65535 - SM.fold (SM.tot (P4.hd s d t k i (20 + len) 0) 20) = P4.ck s d t k i (20 + len) from rfl)
  have HOC := hide (P4.hd_oct s d t k i (20 + len) 0 HO.out (by omega))
  have HOD := hide (P4.hd_oct s d t k i (20 + len) _ HO.out hck)
  have HBY := hide (show bys s d t k i body = P4.hd s d t k i (20 + len) (P4.ck s d t k i (20 + len)) ++ body by unfold bys; rw [hlen])
  have HR := hide hr
  generalize P4.ck s d t k i (20 + (len : Int)) = c at hck HQ HOD HBY
  clear h hr
  unfold bx at HB
  unfold pk at HC HH ⊢
  go_enter Tryz.func70, Tryz.ntmps70
  go_upto_region 8 with (first
    | (go_at_call 129; refine (HC.out _).mono ?_; rintro e w1 ⟨rfl, hb1⟩; replace HP := hide (HP.out.kept hb1); replace HB := hide (bt HB.out hb1); clear hb1; obtain ⟨c0, c1, c2, c3, c4, c5⟩ := HP.out.all)
    | (go_at_call 130; refine (HH.out _).mono ?_; rintro e w2 ⟨B, rfl, hB, hblk, hb2⟩; clear c0 c1 c2 c3 c4 c5; have HBW := hide (show w.heap.size < B by have := HB.out.size; omega); replace hblk := hide hblk; replace HP := hide (HP.out.kept hb2); replace HB := hide (bt HB.out hb2); clear hb2 hB)
    | (go_at_call 131; refine (checkof_ok _ 20 20 _ _ (hblk.out.row8 HOC.out 20 20 rfl (by decide)) (by omega) c HQ.out).mono ?_; rintro e w3 ⟨rfl, hb3⟩; replace hblk := hide (hblk.out.kept hb3); replace HP := hide (HP.out.kept hb3); replace HB := hide (bt HB.out hb3); clear hb3))
  have x10 := hblk.out.cell 10 (show 10 < 20 by omega)
  have x11 := hblk.out.cell 11 (show 11 < 20 by omega)
  have y10 := hblk.out.frozen 10
  have y11 := hblk.out.frozen 11
  replace x10 : w3.cell? ⟨B, 10, none⟩ = some (.int .u8 0) := x10
  replace x11 : w3.cell? ⟨B, 11, none⟩ = some (.int .u8 0) := x11
  go_upto_region 9 with fail
  have HBF := hide (show Blk B (P4.hd s d t k i (20 + len) c) ((w3.setCell ⟨B, 10, none⟩ (.int .u8 (c / 256))).setCell ⟨B, 11, none⟩ (.int .u8 (c % 256))) from (hblk.out.set 10 (c / 256)).set 11 (c % 256))
  replace HP := hide ((HP.out.other ⟨B, 10, none⟩ (Nat.ne_of_lt HBW.out) (.int .u8 (c / 256))).other ⟨B, 11, none⟩ (Nat.ne_of_lt HBW.out) (.int .u8 (c % 256)))
  replace HB := hide ((HB.out.setCell (p := ⟨B, 10, none⟩) (Nat.le_of_lt HBW.out) (.int .u8 (c / 256))).setCell (p := ⟨B, 11, none⟩) (Nat.le_of_lt HBW.out) (.int .u8 (c % 256)))
  clear x10 x11 y10 y11 hblk
  generalize (w3.setCell ⟨B, 10, none⟩ (.int .u8 (c / 256))).setCell ⟨B, 11, none⟩ (.int .u8 (c % 256)) = w4 at HBF HP HB ⊢
  obtain ⟨-, -, -, -, -, c5⟩ := HP.out.all
  have HOW := hide (HBF.out.own HOD.out w.heap.size 20 rfl (by decide) (Nat.le_of_lt HBW.out))
  have HLN := hide (show (P4.hd s d t k i (20 + len) c).length + len ≤ 1000000000 by rw [P4.hd_len]; omega)
  go_wp2_with (at_builtin; refine wpList_app rfl (.tmp 32) (.tmp 34) rfl _ _ _ rfl HOW.out a len cap body rfl (HR.out.below HB.out) HLN.out HB.out.size ?_; intro v5 w5 o5 g5; replace o5 := hide o5; have HB5 := hide (HB.out.grown g5 HB.out.size (fun k h => (HOW.out.2.lt k h).1)))
  go_ret2
  exact ⟨v5, rfl, HBY.out ▸ o5.out, HB5.out⟩
end Go.Proofs.YtkhahbghmdccaaaGreatDoor.V4

namespace Go.Proofs.YtkhahbghmdccaaaGreatDoor.V4
open Go.RowKit
attribute [local go_sem ↓] Go.wp_at_zero Go.wp_at_succ
theorem num_congr (xs ys : List Int) (n : Nat) (h : ∀ j, j < n → xs.getD j 0 = ys.getD j 0) : num xs n = num ys n := by
  induction n with
  | zero => rfl
  | succ n ih => simp only [num]; rw [ih (fun j hj => h j (by omega)), h n (by omega)]
theorem number_at (g off len cap : Nat) (zs : List Int) (w : World) (j n c : Nat) (hr : Row8 w (some ⟨g, off, none⟩) len cap zs) (h1 : j + n ≤ len) (h2 : n ≤ 4) (h3 : 0 < n) :
    Calls Tryz.prog 128 #[.slice (some ⟨g, off + j, none⟩) n c] w fun e w' => e = .returned (.int .i64 (num (zs.drop j) n)) ∧ w' = w := by
  have h := hr.part j (j + n) (by omega) h1 (some ⟨g, off + j, none⟩) c (fun b o _ e => by cases e; rfl) (fun e => by cases e)
  rw [show j + n - j = n by omega] at h
  exact number_any _ n c _ w h2 h3 h _ (num_congr _ _ n fun i hi => P4.getD_take hi)
theorem step_app {w : World} {ops : Array Oper} {o : Oper} {a : Act} {K : Act → World → Prop} {Q : Exit → Act → World → Prop} {E : Prop} (hgd : o.guard = none) (s x : Operand)
    (ho : o.op = .call { callee := .builtin .append, args := #[s, x], argTypes := #[37, 37] })
    (base : Nat) (v : Value) (zs : List Int) (hs : a.eval s = v) (hown : Own base w v zs) (ao : Option Addr) (hao : ∃ ad, ao = some ad) (len cap : Nat) (ys : List Int) (n : Nat) (hn : (zs ++ ys).length = n)
    (hx : a.eval x = .slice ao len cap) (hrow : Row8 w ao len cap ys) (hlen : zs.length + len ≤ 1000000000) (hbase : base ≤ w.heap.size)
    (h : ∀ a' c' w', Own base w' (.slice a' n c') (zs ++ ys) → w.grownBy w' v.ownBlock → K (a.put o.dst (.slice a' n c')) w') : if Region.wanted o (yielded ops a.tmps) = true then Oper.wp Tryz.prog o a w K Q else E := by
  have hw : Region.wanted o (yielded ops a.tmps) = true := by simp [Region.wanted, hgd]
  rw [if_pos hw]
  obtain ⟨ad, rfl⟩ := hao
  obtain ⟨i0, hi, hz0, hz1, hz2⟩ := info_parts Tryz.infoByte
  obtain ⟨r1, r2, r3, r4, r5⟩ := hrow
  refine wp_append_own w s x 37 ho base 5 i0 (.int .u8 0) 1 1 Tryz.underlying37 hi hz0 hz1 hz2 rfl (by decide) v zs.length _ hs hown.2 ad len cap (ys.map (Value.int .u8)) hx (by simp [r1]) ?_ (ints_oneCell .u8 ys) (by unfold maxLen; omega) (by omega) hbase ?_
  · intro j u hu
    have hj : j < ys.length := by
      have := (List.getElem?_eq_some_iff.1 hu).1
      simpa using this
    obtain ⟨b, off, h6, h7⟩ := r5 (by omega)
    have hc := h7 j (by omega)
    obtain rfl : ad = ⟨b, off, none⟩ := by simpa using h6
    have e : (⟨b, off, none⟩ : Addr).add j = ⟨b, off + j, none⟩ := by unfold Addr.add; split <;> simp_all
    rw [e, hc]
    rw [List.getElem?_map] at hu
    simp [hj] at hu ⊢
    exact hu
  · intro v' w' h1 h2 _
    have ho : Own base w' v' (zs ++ ys) := by
      refine ⟨SM.oct_append _ _ hown.1 r3, ?_⟩
      rw [List.map_append, List.length_append, r1]
      exact h1
    obtain ⟨a', c', e, _, _⟩ := ho.row8
    rw [hn] at e
    rw [e] at ho ⊢
    exact h a' c' w' ho h2
theorem PkIn.frz {B : Nat} {s d t k i : Int} {a : Option Addr} {len cap : Nat} {w : World} (h : PkIn B s d t k i a len cap w) :
    w.frozen? ⟨B, 0, none⟩ = false ∧ w.frozen? ⟨B, 1, none⟩ = false ∧ w.frozen? ⟨B, 2, none⟩ = false ∧ w.frozen? ⟨B, 3, none⟩ = false ∧ w.frozen? ⟨B, 4, none⟩ = false ∧ w.frozen? ⟨B, 5, none⟩ = false := by
  unfold PkIn at h
  refine ⟨?_, ?_, ?_, ?_, ?_, ?_⟩ <;> simp [World.frozen?, h]
def put6 (w : World) (B : Nat) (s d t k i : Int) (a : Option Addr) (len cap : Nat) : World := (((((w.setCell ⟨B, 0, none⟩ (.int .i64 s)).setCell ⟨B, 1, none⟩ (.int .i64 d)).setCell ⟨B, 2, none⟩ (.int .i64 t)).setCell ⟨B, 3, none⟩ (.int .i64 k)).setCell ⟨B, 4, none⟩ (.int .i64 i)).setCell ⟨B, 5, none⟩ (.slice a len cap)
theorem put6_below {base : Nat} {w0 w : World} (h : Below base w0 w) {B : Nat} (hB : base ≤ B) (s d t k i : Int) (a : Option Addr) (len cap : Nat) : Below base w0 (put6 w B s d t k i a len cap) :=
  (((((h.setCell (p := ⟨B, 0, none⟩) hB _).setCell (p := ⟨B, 1, none⟩) hB _).setCell (p := ⟨B, 2, none⟩) hB _).setCell (p := ⟨B, 3, none⟩) hB _).setCell (p := ⟨B, 4, none⟩) hB _).setCell (p := ⟨B, 5, none⟩) hB _
theorem put6_heap (w : World) (B g : Nat) (hg : g ≠ B) (s d t k i : Int) (a : Option Addr) (len cap : Nat) : (put6 w B s d t k i a len cap).heap[g]? = w.heap[g]? := by
  unfold put6
  rw [Below.heap_setCell _ _ _ g hg, Below.heap_setCell _ _ _ g hg, Below.heap_setCell _ _ _ g hg, Below.heap_setCell _ _ _ g hg, Below.heap_setCell _ _ _ g hg, Below.heap_setCell _ _ _ g hg]
theorem setCell_heap_same (w : World) (B j : Nat) (cs : Array Value) (t : TypeId) (v : Value) (h : w.heap[B]? = some (.cells cs t (0, 0))) : (w.setCell ⟨B, j, none⟩ v).heap[B]? = some (.cells (cs.setIfInBounds j v) t (0, 0)) := by
  rw [setCell_eq_setRow w B j _ t (0, 0) v h, setRow_heap w B _ _ t (0, 0) h]
theorem put6_pk {w : World} {B : Nat} {s0 d0 t0 k0 i0 : Int} {a0 : Option Addr} {len0 cap0 : Nat} (h : PkIn B s0 d0 t0 k0 i0 a0 len0 cap0 w) (s d t k i : Int) (a : Option Addr) (len cap : Nat) : PkIn B s d t k i a len cap (put6 w B s d t k i a len cap) :=
  setCell_heap_same _ B 5 _ _ _ (setCell_heap_same _ B 4 _ _ _ (setCell_heap_same _ B 3 _ _ _ (setCell_heap_same _ B 2 _ _ _ (setCell_heap_same _ B 1 _ _ _ (setCell_heap_same _ B 0 _ _ _ h)))))
theorem Own.heap {base : Nat} {w w' : World} {v : Value} {zs : List Int} (h : Own base w v zs) (he : ∀ g, base ≤ g → g < w.heap.size → w'.heap[g]? = w.heap[g]?) : Own base w' v zs := by
  refine ⟨h.1, h.2.1, ?_⟩
  rcases h.2.2 with h2 | ⟨g, cap, cur, rfl, hb', hg, rest⟩
  · exact .inl h2
  · exact .inr ⟨g, cap, cur, rfl, hb', by rw [he g hb' (Array.getElem?_eq_some_iff.1 hg).1]; exact hg, rest⟩
theorem Own.mono {base base' : Nat} {w : World} {v : Value} {zs : List Int} (h : Own base w v zs) (hb : base' ≤ base) : Own base' w v zs := by
  refine ⟨h.1, h.2.1, ?_⟩
  rcases h.2.2 with h2 | ⟨g, cap, cur, rfl, hb', hg, rest⟩
  · exact .inl h2
  · exact .inr ⟨g, cap, cur, rfl, by omega, hg, rest⟩
theorem PkIn.grown {B : Nat} {s d t k i : Int} {a : Option Addr} {len cap : Nat} {w w' : World} (h : PkIn B s d t k i a len cap w) (hg : w.grownBy w' none) : PkIn B s d t k i a len cap w' := (hg.block _ h.lt (fun e => by cases e)).trans h
set_option maxRecDepth 100000 in
set_option maxHeartbeats 4000000 in
theorem read_raw (g off len cap : Nat) (zs : List Int) (w : World) (hr : Row8 w (some ⟨g, off, none⟩) len cap zs) (h20 : 20 ≤ len) (h340 : len ≤ 340) (hcl : len ≤ cap) (hcm : cap ≤ maxLen) :
    Calls Tryz.prog 69 #[.slice (some ⟨g, off, none⟩) len cap] w fun e w' => ∃ v, e = .returned (.agg #[.int .i64 (num (zs.drop 12) 4), .int .i64 (num (zs.drop 16) 4), .int .i64 (zs.getD 8 0), .int .i64 (zs.getD 9 0), .int .i64 (num (zs.drop 4) 2), v]) ∧ Own w.heap.size w' v (zs.drop 20) ∧ Below w.heap.size w w' := by
  unfold maxLen at hcm
  have hcl' : (len : Int) ≤ (cap : Int) := by omega
  have h20' : (20 : Int) ≤ (len : Int) := by omega
  have h8' : (8 : Int) < (len : Int) := by omega
  have h9' : (9 : Int) < (len : Int) := by omega
  have h6' : (6 : Int) ≤ (cap : Int) := by omega
  have h16' : (16 : Int) ≤ (cap : Int) := by omega
  have h20c : (20 : Int) ≤ (cap : Int) := by omega
  have hn12 : cap ≠ 12 := by omega
  have hn16 : cap ≠ 16 := by omega
  have hn4 : cap ≠ 4 := by omega
  have hb0 : Below w.heap.size w (w.alloc (.cells #[.int .i64 0, .int .i64 0, .int .i64 0, .int .i64 0, .int .i64 0, .slice none 0 0] 65)).drew := ((Below.refl _ _).alloc (Nat.le_refl _) _).drew
  have HR0 := hide (hr.below hb0)
  have HPK := hide (show PkIn w.heap.size 0 0 0 0 0 none 0 0 (w.alloc (.cells #[.int .i64 0, .int .i64 0, .int .i64 0, .int .i64 0, .int .i64 0, .slice none 0 0] 65)).drew from pk_new w 0 0 0 0 0 none 0 0)
  have hx8 : w.cell? ⟨g, off + 8, none⟩ = some (.int .u8 (zs.getD 8 0)) := by
    obtain ⟨-, -, -, -, h5⟩ := hr
    obtain ⟨b, o, e, hcell⟩ := h5 (by omega)
    cases e
    exact hcell 8 (by omega)
  have hx9 : w.cell? ⟨g, off + 9, none⟩ = some (.int .u8 (zs.getD 9 0)) := by
    obtain ⟨-, -, -, -, h5⟩ := hr
    obtain ⟨b, o, e, hcell⟩ := h5 (by omega)
    cases e
    exact hcell 9 (by omega)
  have hw8 := hr.2.2.1 8
  have hw9 := hr.2.2.1 9
  have hpart := (HR0.out.part 20 len h20 (Nat.le_refl _) (if cap = 20 then some ⟨g, off, none⟩ else some ⟨g, off + 20, none⟩) (cap - 20) (fun b o hlt e => by cases e; rw [if_neg (by omega)]) (fun e => by split at e <;> cases e))
  have had : ∃ ad, (if cap = 20 then some (⟨g, off, none⟩ : Addr) else some ⟨g, off + 20, none⟩) = some ad := by split <;> exact ⟨_, rfl⟩
  obtain ⟨ao, hao⟩ : ∃ ao, (if cap = 20 then some (⟨g, off, none⟩ : Addr) else some ⟨g, off + 20, none⟩) = ao := ⟨_, rfl⟩
  rw [hao] at hpart had
  have HPart := hide (hpart.congr (show (zs.drop 20).take (len - 20) = zs.drop 20 from List.take_of_length_le (by rw [List.length_drop, hr.1]; exact Nat.le_refl _)))
  have HAD := hide had
  clear hpart had
  have HL := hide (show ([] ++ zs.drop 20).length = len - 20 by rw [List.nil_append, List.length_drop, hr.1])
  have HLen := hide (show ([] : List Int).length + (len - 20) ≤ 1000000000 by simp; omega)
  have HB0 := hide hb0
  have HSZ := hide (show w.heap.size + 1 ≤ (w.alloc (.cells #[.int .i64 0, .int .i64 0, .int .i64 0, .int .i64 0, .int .i64 0, .slice none 0 0] 65)).drew.heap.size by simp)
  have hge : w.heap.size ≠ g := World.new_ne w _ hx8
  clear hr hb0
  generalize zs.getD 8 0 = z8 at hx8 hw8 ⊢
  generalize zs.getD 9 0 = z9 at hx9 hw9 ⊢
  have hz8 : IntKind.i64.wrap z8 = z8 := by rw [IntKind.wrap_i64]; omega
  have hz9 : IntKind.i64.wrap z9 = z9 := by rw [IntKind.wrap_i64]; omega
  go_enter Tryz.func69, Tryz.ntmps69
  go_upto_region 1 with fail
  go_region_held3 (fun w' => w'.cell? ⟨g, off + 8, none⟩ = some (.int .u8 z8) ∧ w'.cell? ⟨g, off + 9, none⟩ = some (.int .u8 z9))
    (first
      | go_keep
      | (go_split_ands; exact ⟨g5.cell (by simp [*]) (by intro e; cases e), g5.cell (by simp [*]) (by intro e; cases e)⟩))
    (first
      | (go_at_call 128; refine (number_at g off len cap zs _ _ _ _ HR0.out (by omega) (by omega) (by omega)).mono ?_; rintro e w' ⟨rfl, rfl⟩)
      | (refine step_app rfl (.const (.slice none 0 0)) (.tmp 21) rfl (w.heap.size + 1) _ [] (by rfl) (Own.nil _ _) _ HAD.out (len - 20) (cap - 20) _ (len - 20) HL.out (by rfl) HPart.out HLen.out HSZ.out ?_; intro a5 c5 w5 o5 g5; replace HPK := hide (HPK.out.grown g5); obtain ⟨f0, f1, f2, f3, f4, f5⟩ := HPK.out.all; obtain ⟨k0, k1, k2, k3, k4, k5⟩ := HPK.out.frz))
  replace HB0 := hide (put6_below (HB0.out.grown g5 HB0.out.size (fun k h => by cases h)) (Nat.le_refl _) (num (zs.drop 12) 4) (num (zs.drop 16) 4) z8 z9 (num (zs.drop 4) 2) a5 (len - 20) c5)
  have HO5 := hide ((o5.heap (fun g hg _ => put6_heap w5 w.heap.size g (by omega) (num (zs.drop 12) 4) (num (zs.drop 16) 4) z8 z9 (num (zs.drop 4) 2) a5 (len - 20) c5)).mono (Nat.le_succ _))
  replace HPK := hide (put6_pk HPK.out (num (zs.drop 12) 4) (num (zs.drop 16) 4) z8 z9 (num (zs.drop 4) 2) a5 (len - 20) c5)
  unfold put6 at HB0 HO5 HPK
  go_wp2
  try simp only [Exit.inBlock, Exit.then]
  refine bodyPost_ret (results_cell_row rfl _ _ w.heap.size 65 _ (0, 0) _ rfl HPK.out Tryz.underlying65 rfl (by kernel_rfl)) rfl ?_
  exact ⟨_, rfl, by simpa using HO5.out, HB0.out⟩
end Go.Proofs.YtkhahbghmdccaaaGreatDoor.V4
