/- A packet of fours as a value and in its block. A packet of fours loaded and stored whole, at a plain region's list. Package ip4's small ones by contracts: upTo, Check, number, and bytes.Equal. Package ip4: number, Check, header, checkOf and Encode, by contracts. Package ip4: Check and header, by contracts. Package ip4: header, by a contract. Package ip4: Encode, by contracts. Package ip4: read, by a contract. Package ip4: alike, by a contract. Package ip4: Decode, by contracts. Package ip4: Decode of bytes that are not too few and not too many, by contracts. Package ip4: Decode of whatever bytes, by one contract; the statements' own question whether two packets are the same. What the statement Pack4Back asks of Encode and Decode, in the forms in which its walk takes them. -/
import Derived.Below
import Derived.OpenShut
import Derived.Test.YtkhahbghmdccaaaGreatDoorProg
import Derived.WalkKit
import Derived.LaidEql
import Derived.BigQuiet
import Derived.Laws.AppendOwnNone
import Derived.Laws.MakeOwn
import Derived.Deep.RegionLaw
import Derived.Lib.Bytes
import Derived.Deep.MidRow
import Derived.Laws.ResultCell
import Derived.Deep.CutBlock
import Derived.Deep.QuietTactic
import Derived.OwnWalk
import Derived.Test.YtkhahbghmdccaaaGreatDoorR03
import Derived.Test.YtkhahbghmdccaaaGreatDoorR02
import Derived.Deep.RegionHeld3
import Derived.Deep.DrawnRows
import Derived.Test.YtkhahbghmdccaaaGreatDoorR04
import Derived.Test.YtkhahbghmdccaaaGreatDoorR01
namespace Go.Proofs.YtkhahbghmdccaaaGreatDoor.V4
open Go.RowKit
def pk (s d t k i : Int) (a : Option Addr) (len cap : Nat) : Value := .agg #[.int .i64 s, .int .i64 d, .int .i64 t, .int .i64 k, .int .i64 i, .slice a len cap]
def PkIn (B : Nat) (s d t k i : Int) (a : Option Addr) (len cap : Nat) (w : World) : Prop := w.heap[B]? = some (.cells #[.int .i64 s, .int .i64 d, .int .i64 t, .int .i64 k, .int .i64 i, .slice a len cap] 65 (0, 0))
theorem PkIn.lt {B : Nat} {s d t k i : Int} {a : Option Addr} {len cap : Nat} {w : World} (h : PkIn B s d t k i a len cap w) : B < w.heap.size := (Array.getElem?_eq_some_iff.1 h).1
theorem PkIn.kept {B : Nat} {s d t k i : Int} {a : Option Addr} {len cap : Nat} {w w' : World} (h : PkIn B s d t k i a len cap w) (hb : Below w.heap.size w w') : PkIn B s d t k i a len cap w' := (hb.block B h.lt).trans h
theorem PkIn.other {B : Nat} {s d t k i : Int} {a : Option Addr} {len cap : Nat} {w : World} (h : PkIn B s d t k i a len cap w) (p : Addr) (hp : B ≠ p.block) (v : Value) : PkIn B s d t k i a len cap (w.setCell p v) := (Below.heap_setCell w p v B hp).trans h
theorem pk_new (w : World) (s d t k i : Int) (a : Option Addr) (len cap : Nat) : PkIn w.heap.size s d t k i a len cap (w.alloc (.cells #[.int .i64 s, .int .i64 d, .int .i64 t, .int .i64 k, .int .i64 i, .slice a len cap] 65)) := heap_alloc_new w _
theorem PkIn.all {B : Nat} {s d t k i : Int} {a : Option Addr} {len cap : Nat} {w : World} (h : PkIn B s d t k i a len cap w) :
    w.cell? ⟨B, 0, none⟩ = some (.int .i64 s) ∧ w.cell? ⟨B, 1, none⟩ = some (.int .i64 d) ∧ w.cell? ⟨B, 2, none⟩ = some (.int .i64 t) ∧ w.cell? ⟨B, 3, none⟩ = some (.int .i64 k) ∧ w.cell? ⟨B, 4, none⟩ = some (.int .i64 i) ∧ w.cell? ⟨B, 5, none⟩ = some (.slice a len cap) := by
  unfold PkIn at h
  refine ⟨?_, ?_, ?_, ?_, ?_, ?_⟩ <;> simp [World.cell?, h]
theorem load_pk {B : Nat} {s d t k i : Int} {a : Option Addr} {len cap : Nat} {w : World} (h : PkIn B s d t k i a len cap w) : (loadVar 65 ⟨B, 0, none⟩).run Tryz.prog w = .ok (pk s d t k i a len cap) w :=
  run_loadVar_row w B 65 65 _ (0, 0) _ h Tryz.underlying65 rfl (by kernel_rfl)
theorem results_cr {fn : Func} {p u : Tmp} (h : fn.results = #[.cell p 65, .tmp u]) (tmps : Array Value) (w : World) (B : Nat) (s d t k i : Int) (a : Option Addr) (len cap : Nat)
    (hp : tmps.getD p undef = .pointer (some ⟨B, 0, none⟩)) (hg : PkIn B s d t k i a len cap w) :
    (results fn tmps).run Tryz.prog w = .ok (.tuple #[pk s d t k i a len cap, tmps.getD u undef]) w := by
  rw [results_cell_tmp h, hp]
  simp [asAddr, load_pk hg]
end Go.Proofs.YtkhahbghmdccaaaGreatDoor.V4

namespace Go.Proofs.YtkhahbghmdccaaaGreatDoor.V4
open Go.RowKit
theorem at_load {ops : Array Oper} {rest : List Oper} {o : Oper} {f : Act} {w : World} {Q : Exit → Act → World → Prop} (hgd : o.guard = none) (x : Operand) (ho : o.op = .load 65 x)
    {B : Nat} {s d t k i : Int} {a : Option Addr} {len cap : Nat} (hx : f.eval x = .pointer (some ⟨B, 0, none⟩)) (p : PkIn B s d t k i a len cap w)
    (hK : wpList Tryz.prog ops Q rest (f.put o.dst (pk s d t k i a len cap)) w) : wpList Tryz.prog ops Q (o :: rest) f w :=
  wpList_load_row hgd 65 x ho B hx 65 _ (0, 0) _ p Tryz.underlying65 rfl (by kernel_rfl) hK
theorem PkIn.stored {B : Nat} {s0 d0 t0 k0 i0 : Int} {a0 : Option Addr} {len0 cap0 : Nat} {w : World} (p : PkIn B s0 d0 t0 k0 i0 a0 len0 cap0 w) (s d t k i : Int) (a : Option Addr) (len cap : Nat) : PkIn B s d t k i a len cap (w.setRow B #[.int .i64 s, .int .i64 d, .int .i64 t, .int .i64 k, .int .i64 i, .slice a len cap]) := setRow_heap w B _ _ _ (0, 0) p
theorem at_store {ops : Array Oper} {rest : List Oper} {o : Oper} {f : Act} {w : World} {Q : Exit → Act → World → Prop} (hgd : o.guard = none) (x y : Operand) (ho : o.op = .store 65 x y)
    {B : Nat} {s0 d0 t0 k0 i0 : Int} {a0 : Option Addr} {len0 cap0 : Nat} (hx : f.eval x = .pointer (some ⟨B, 0, none⟩)) (p : PkIn B s0 d0 t0 k0 i0 a0 len0 cap0 w)
    (s d t k i : Int) (a : Option Addr) (len cap : Nat) (hy : f.eval y = pk s d t k i a len cap)
    (hK : ∀ w', PkIn B s d t k i a len cap w' → Only B w w' → wpList Tryz.prog ops Q rest (f.put o.dst undef) w') : wpList Tryz.prog ops Q (o :: rest) f w :=
  wpList_store_row hgd 65 x y ho B _ hx hy 65 _ p (by kernel_rfl) rfl (by simp [Value.oneCell']) (hK _ (p.stored s d t k i a len cap) (only_setRow _ _ _))
def pk0 : Value := pk 0 0 0 0 0 none 0 0
def zero4 : Array Value := #[.int .i64 0, .int .i64 0, .int .i64 0, .int .i64 0, .int .i64 0, .slice none 0 0]
theorem zero_new (w : World) : PkIn w.heap.size 0 0 0 0 0 none 0 0 (w.alloc (.cells zero4 65)) := pk_new w 0 0 0 0 0 none 0 0
end Go.Proofs.YtkhahbghmdccaaaGreatDoor.V4

namespace Go.Proofs.YtkhahbghmdccaaaGreatDoor.V4
open Go.RowKit
def IsF (f : Int) : Prop := 0 ≤ f ∧ f ≤ 4294967295
def IsB (f : Int) : Prop := 0 ≤ f ∧ f ≤ 255
theorem bt {a b c : World} (h1 : Below a.heap.size a b) (h2 : Below b.heap.size b c) : Below a.heap.size a c := h1.trans (h2.mono h1.size)
theorem upto_yes (m n : Int) (w : World) (h0 : 0 ≤ n) (h1 : n ≤ m) : Calls Tryz.prog 181 #[.int .i64 m, .int .i64 n] w fun e w' => e = .returned (.bool true) ∧ w' = w := by
  go_enter Tryz.func181, Tryz.ntmps181
  go_wp2
  go_ret
  exact ⟨rfl, rfl⟩
theorem upto_no (m n : Int) (w : World) (h : ¬ (0 ≤ n ∧ n ≤ m)) : Calls Tryz.prog 181 #[.int .i64 m, .int .i64 n] w fun e w' => e = .returned (.bool false) ∧ w' = w := by
  by_cases h0 : 0 ≤ n
  · have h1 : ¬ n ≤ m := fun h1 => h ⟨h0, h1⟩
    clear h
    go_enter Tryz.func181, Tryz.ntmps181
    go_wp2
    go_ret
    exact ⟨rfl, rfl⟩
  · clear h
    go_enter Tryz.func181, Tryz.ntmps181
    go_wp2
    go_ret
    exact ⟨rfl, rfl⟩
theorem c4_ok (a : Int) (w : World) (h : IsF a) : Calls Tryz.prog 97 #[.int .i64 a] w fun e w' => e = .returned .nilIface ∧ w' = w := by
  obtain ⟨h0, h1⟩ := h
  go_enter Tryz.func97, Tryz.ntmps97
  go_wp2
  go_ret
  exact ⟨rfl, rfl⟩
theorem c4_bad (a : Int) (w : World) (h : ¬ IsF a) : Calls Tryz.prog 97 #[.int .i64 a] w fun e w' => e = .returned (.iface 28 (.int .i64 1)) ∧ w' = w := by
  unfold IsF at h
  by_cases h1 : a < 0
  · clear h
    go_enter Tryz.func97, Tryz.ntmps97
    go_wp2
    go_ret
    exact ⟨rfl, rfl⟩
  · have h2 : 4294967295 < a := by omega
    clear h
    go_enter Tryz.func97, Tryz.ntmps97
    go_wp2
    go_ret
    exact ⟨rfl, rfl⟩
theorem equal_any (a b : Option Addr) (la lb ca cb : Nat) (xs ys : List Int) (w : World) (ra : Row8 w a la ca xs) (rb : Row8 w b lb cb ys) (r : Bool) (hr : (xs = ys) ↔ r = true) : Calls Tryz.prog 72 #[.slice a la ca, .slice b lb cb] w fun e w' => e = .returned (.bool r) ∧ w' = w := by
  have c1 := conv8 ra
  have c2 := conv8 rb
  have hE := str8_eq ra.2.2.1 rb.2.2.1 r hr
  clear hr ra rb
  go_enter Tryz.func72, Tryz.ntmps72
  go_wp2
  go_ret
  exact ⟨rfl, rfl⟩
end Go.Proofs.YtkhahbghmdccaaaGreatDoor.V4

namespace Go.Proofs.YtkhahbghmdccaaaGreatDoor.V4
open Go.RowKit
theorem or8 (a x : Nat) (ha : a < 16777216) (hx : x ≤ 255) : bits .or .i64 ((a * 256 : Nat) : Int) (x : Int) = ((a * 256 + x : Nat) : Int) := by
  have e1 : (BitVec.ofInt 64 ((a * 256 : Nat) : Int)).toNat = a * 256 := by rw [BitVec.toNat_ofInt]; omega
  have e2 : (BitVec.ofInt 64 ((x : Nat) : Int)).toNat = x := by rw [BitVec.toNat_ofInt]; omega
  have key : (BitVec.ofInt 64 ((a * 256 : Nat) : Int) ||| BitVec.ofInt 64 ((x : Nat) : Int)).toNat = a * 256 + x := by
    rw [BitVec.toNat_or, e1, e2]
    have := Nat.shiftLeft_add_eq_or_of_lt (show x < 2 ^ 8 by omega) a
    rw [Nat.shiftLeft_eq] at this
    exact this.symm
  show IntKind.i64.wrap (((BitVec.ofInt 64 ((a * 256 : Nat) : Int) ||| BitVec.ofInt 64 ((x : Nat) : Int)).toNat : Nat) : Int) = _
  rw [key, IntKind.wrap_i64]
  omega
theorem or_lo (a x : Int) (ha : 0 ≤ a) (ha2 : a < 16777216) (hx : 0 ≤ x) (hx2 : x < 256) : bits .or .i64 (a * 256) x = a * 256 + x := by
  obtain ⟨m, rfl⟩ := Int.eq_ofNat_of_zero_le ha
  obtain ⟨k, rfl⟩ := Int.eq_ofNat_of_zero_le hx
  have := or8 m k (by omega) (by omega)
  rw [show ((m * 256 : Nat) : Int) = (m : Int) * 256 by omega, show ((m * 256 + k : Nat) : Int) = (m : Int) * 256 + (k : Int) by omega] at this
  exact this
def num (zs : List Int) : Nat → Int
  | 0 => 0
  | k + 1 => num zs k * 256 + zs.getD k 0
theorem num_bd (zs : List Int) (h : SM.Oct zs) (k : Nat) (hk : k < 4) : 0 ≤ num zs k ∧ num zs k < 16777216 := by
  have h0 := h 0; have h1 := h 1; have h2 := h 2
  rcases (by omega : k = 0 ∨ k = 1 ∨ k = 2 ∨ k = 3) with rfl | rfl | rfl | rfl <;> simp only [num] <;> omega
set_option maxHeartbeats 400000 in
theorem number_any (a : Option Addr) (len cap : Nat) (zs : List Int) (w : World) (hl : len ≤ 4) (hp : 0 < len) (w0 : Row8 w a len cap zs) (r : Int) (hr : num zs len = r) :
    Calls Tryz.prog 128 #[.slice a len cap] w fun e w' => e = .returned (.int .i64 r) ∧ w' = w := by
  obtain ⟨hz, hm, hoct, _, hcs⟩ := w0
  obtain ⟨b, off, rfl, hcell⟩ := hcs hp
  have HR := hide hr
  clear hcs hr
  go_enter Tryz.func128, Tryz.ntmps128
  go_wp2
  go_loop [3, 8] (fun t i => ∃ k : Nat, k ≤ len ∧ t = .int .i64 (num zs k) ∧ i = .int .i64 k) (fun _ i => len - (intOf i).toNat)
  case atStart => exact ⟨0, by omega, rfl, rfl⟩
  case round =>
    obtain ⟨k, hk, rfl, rfl⟩ := hrel
    by_cases hlt : k < len
    · have hb := num_bd zs hoct k (by omega)
      have hck := hcell k hlt
      have hok := hoct k
      clear hcell
      have HS := hide (show num zs (k + 1) = num zs k * 256 + zs.getD k 0 from rfl)
      clear hoct
      generalize zs.getD k 0 = z at hck hok HS
      generalize num zs k = t at hb HS ⊢
      have ho := or_lo t z hb.1 hb.2 hok.1 (by omega)
      go_wp2
      go_round
      case rel => exact ⟨k + 1, by omega, by rw [HS.out], by go_num⟩
      case measure => simp [intOf]; omega
    · obtain rfl : k = len := by omega
      go_wp2
      go_ret
      exact ⟨by rw [HR.out]; rfl, rfl⟩
end Go.Proofs.YtkhahbghmdccaaaGreatDoor.V4

namespace Go.Proofs.YtkhahbghmdccaaaGreatDoor.V4
open Go.RowKit
def Okp (s d t k i : Int) : Prop := IsF s ∧ IsF d ∧ IsB t ∧ IsB k ∧ Word i
def bx (w : World) (s d t k i : Int) (a : Option Addr) (len cap : Nat) : World := w.alloc (.cells #[.int .i64 s, .int .i64 d, .int .i64 t, .int .i64 k, .int .i64 i, .slice a len cap] 65)
theorem bx_below (w : World) (s d t k i : Int) (a : Option Addr) (len cap : Nat) : Below w.heap.size w (bx w s d t k i a len cap) := (Below.refl _ _).alloc (Nat.le_refl _) _
def c4v (x : Int) : Value := if 0 ≤ x ∧ x ≤ 4294967295 then .nilIface else .iface 28 (.int .i64 1)
def up (m n : Int) : Bool := decide (0 ≤ n ∧ n ≤ m)
theorem c4v_ok {x : Int} (h : IsF x) : c4v x = .nilIface := if_pos h
theorem c4v_bad {x : Int} (h : ¬ IsF x) : c4v x = .iface 28 (.int .i64 1) := if_neg h
theorem c4_any (x : Int) (w : World) : Calls Tryz.prog 97 #[.int .i64 x] w fun e w' => e = .returned (c4v x) ∧ w' = w := by
  by_cases h : IsF x
  · rw [c4v_ok h]; exact c4_ok x w h
  · rw [c4v_bad h]; exact c4_bad x w h
theorem upto_any (m n : Int) (w : World) : Calls Tryz.prog 181 #[.int .i64 m, .int .i64 n] w fun e w' => e = .returned (.bool (up m n)) ∧ w' = w := by
  by_cases h : 0 ≤ n ∧ n ≤ m
  · rw [show up m n = true from decide_eq_true h]; exact upto_yes m n w h.1 h.2
  · rw [show up m n = false from decide_eq_false h]; exact upto_no m n w h
set_option maxHeartbeats 1000000 in
theorem check_ok (s d t k i : Int) (a : Option Addr) (len cap : Nat) (w : World) (h : Okp s d t k i) (hl : len ≤ 320) :
    Calls Tryz.prog 129 #[pk s d t k i a len cap] w fun e w' => e = .returned .nilIface ∧ Below w.heap.size w w' := by
  obtain ⟨hs, hd, ht, hk, hi⟩ := h
  replace hs := c4v_ok hs
  replace hd := c4v_ok hd
  replace ht : up 255 t = true := decide_eq_true ht
  replace hk : up 255 k = true := decide_eq_true hk
  replace hi : up 65535 i = true := decide_eq_true hi
  have HB := hide (bx_below w s d t k i a len cap)
  unfold bx at HB
  unfold pk
  go_enter Tryz.func129, Tryz.ntmps129
  go_wp2_with (first
    | (go_at_call 97; refine (c4_any _ _).mono ?_; rintro e w' ⟨rfl, rfl⟩)
    | (go_at_call 181; refine (upto_any _ _ _).mono ?_; rintro e w' ⟨rfl, rfl⟩))
  go_ret
  exact ⟨rfl, HB.out⟩
end Go.Proofs.YtkhahbghmdccaaaGreatDoor.V4

namespace Go.Proofs.YtkhahbghmdccaaaGreatDoor.V4
open Go.RowKit
theorem okp_okh {s d t k i : Int} {len : Nat} (h : Okp s d t k i) (hl : len ≤ 320) : P4.Okh s d t k i (20 + len) := by
  obtain ⟨hs, hd, ht, hk, hi⟩ := h
  exact ⟨hs, hd, ht, hk, hi, by omega, by omega⟩
def Blk (B : Nat) (zs : List Int) (w : World) : Prop := w.heap[B]? = some (.cells (zs.map (Value.int .u8)).toArray 5 (0, 0))
theorem Blk.lt {B : Nat} {zs : List Int} {w : World} (h : Blk B zs w) : B < w.heap.size := (Array.getElem?_eq_some_iff.1 h).1
theorem Blk.kept {B : Nat} {zs : List Int} {w w' : World} (h : Blk B zs w) (hb : Below w.heap.size w w') : Blk B zs w' := (hb.block B h.lt).trans h
theorem blk_new (w : World) (zs : List Int) : Blk w.heap.size zs (w.alloc (.cells (zs.map (Value.int .u8)).toArray 5)) := heap_alloc_new w _
theorem Blk.cell {B : Nat} {zs : List Int} {w : World} (h : Blk B zs w) (j : Nat) (hj : j < zs.length) : w.cell? ⟨B, j, none⟩ = some (.int .u8 (zs.getD j 0)) := by
  unfold Blk at h
  simp [World.cell?, h, hj]
theorem Blk.frozen {B : Nat} {zs : List Int} {w : World} (h : Blk B zs w) (j : Nat) : w.frozen? ⟨B, j, none⟩ = false := by
  unfold Blk at h
  simp [World.frozen?, h]
theorem Blk.set {B : Nat} {zs : List Int} {w : World} (h : Blk B zs w) (j : Nat) (v : Int) : Blk B (zs.set j v) (w.setCell ⟨B, j, none⟩ (.int .u8 v)) := by
  unfold Blk at h ⊢
  rw [setCell_eq_setRow w B j _ 5 (0, 0) (.int .u8 v) h, setRow_heap w B _ _ 5 (0, 0) h]
  simp [List.map_set]
theorem Blk.row8 {B : Nat} {zs : List Int} {w : World} (h : Blk B zs w) (ho : SM.Oct zs) (n cap : Nat) (hn : zs.length = n) (hm : n ≤ maxLen) : Row8 w (some ⟨B, 0, none⟩) n cap zs :=
  ⟨hn, hm, ho, (fun e => by cases e), fun _ => ⟨B, 0, rfl, fun i hi => by rw [Nat.zero_add]; exact h.cell i (by omega)⟩⟩
theorem Blk.own {B : Nat} {zs : List Int} {w : World} (h : Blk B zs w) (ho : SM.Oct zs) (base n : Nat) (hn : zs.length = n) (hm : n ≤ maxLen) (hb : base ≤ B) : Own base w (.slice (some ⟨B, 0, none⟩) n n) zs := by
  subst hn
  exact ⟨ho, by simp, .inr ⟨B, zs.length, _, rfl, hb, h, Nat.le_refl _, hm, by simp, by simp [← List.map_take]⟩⟩
set_option maxHeartbeats 2000000 in
theorem header_ok (s d t k i : Int) (a : Option Addr) (len cap : Nat) (w : World) (h : Okp s d t k i) (hl : len ≤ 320) :
    Calls Tryz.prog 130 #[pk s d t k i a len cap] w fun e w' => ∃ B, e = .returned (.slice (some ⟨B, 0, none⟩) 20 20) ∧ B = w.heap.size + 1 ∧ Blk B (P4.hd s d t k i (20 + len) 0) w' ∧ Below w.heap.size w w' := by
  obtain ⟨hs, hd, ht, hk, hi⟩ := h
  obtain ⟨hs0, hs1⟩ := hs
  obtain ⟨hd0, hd1⟩ := hd
  obtain ⟨ht0, ht1⟩ := ht
  obtain ⟨hk0, hk1⟩ := hk
  obtain ⟨hi0, hi1⟩ := hi
  have hb := bx_below w s d t k i a len cap
  unfold bx at hb
  unfold pk
  go_enter Tryz.func130, Tryz.ntmps130
  go_wp2
  go_ret
  refine ⟨_, rfl, ?_, ?_, ?_⟩
  · simp
  · have e := blk_new (w.alloc (.cells #[.int .i64 s, .int .i64 d, .int .i64 t, .int .i64 k, .int .i64 i, .slice a len cap] 65)) (P4.hd s d t k i (20 + len) 0)
    rw [World.size_alloc] at e
    exact e
  · exact hb.alloc (by simp) _
theorem checkof_ok (a : Option Addr) (len cap : Nat) (zs : List Int) (w : World) (w0 : Row8 w a len cap zs) (h : len ≤ 2000) (r : Int) (hr : 65535 - SM.fold (SM.tot zs len) = r) :
    Calls Tryz.prog 131 #[.slice a len cap] w fun e w' => e = .returned (.tuple #[.int .i64 r, .nilIface]) ∧ Below w.heap.size w w' := by
  have H1 := hide (of_ok a len cap zs w w0 h)
  have hb := SM.tot_bd zs w0.2.2.1 len
  have hw : Word (SM.fold (SM.tot zs len)) := SM.fold_bd _ hb.1
  have H2 := hide (not_ok _ w hw)
  have HR := hide hr
  clear hb hw w0 hr h
  generalize SM.fold (SM.tot zs len) = x at H1 H2 HR
  go_enter Tryz.func131, Tryz.ntmps131
  go_wp2_with (first
    | (go_at_call 182; refine (unhide H1).mono ?_; rintro e w' ⟨rfl, rfl⟩)
    | (go_at_call 183; refine (unhide H2).mono ?_; rintro e w' ⟨rfl, hb⟩))
  go_ret2
  exact ⟨by rw [← HR.out]; rfl, hb⟩
end Go.Proofs.YtkhahbghmdccaaaGreatDoor.V4

namespace Go.Proofs.YtkhahbghmdccaaaGreatDoor.V4
open Go.RowKit
def bys (s d t k i : Int) (body : List Int) : List Int := P4.hd s d t k i (20 + body.length) (P4.ck s d t k i (20 + body.length)) ++ body
set_option maxHeartbeats 4000000 in
theorem encode_ok (s d t k i : Int) (a : Option Addr) (len cap : Nat) (body : List Int) (w : World) (h : Okp s d t k i) (hl : len ≤ 320) (hr : Row8 w a len cap body) :
    Calls Tryz.prog 70 #[pk s d t k i a len cap] w fun e w' => ∃ v, e = .returned (.tuple #[v, .nilIface]) ∧ Own w.heap.size w' v (bys s d t k i body) ∧ Below w.heap.size w w' := by
  have HB := hide (bx_below w s d t k i a len cap)
  have HP := hide (pk_new w s d t k i a len cap)
  have HC := hide (fun w => check_ok s d t k i a len cap w h hl)
  have HH := hide (fun w => header_ok s d t k i a len cap w h hl)
  have HO := hide (okp_okh h hl)
  have hlen := hr.1
  have hck := P4.ck_in _ _ _ _ _ _ HO.out
  have HQ := hide (show 65535 - SM.fold (SM.tot (P4.hd s d t k i (20 + len) 0) 20) = P4.ck s d t k i (20 + len) from rfl)
  have HOC := hide (P4.hd_oct s d t k i (20 + len) 0 HO.out (by omega))
  have HOD := hide (P4.hd_oct s d t k i (20 + len) _ HO.out hck)
  have HBY := hide (show bys s d t k i body = P4.hd s d t k i (20 + len) (P4.ck s d t k i (20 + len)) ++ body by unfold bys; rw [hlen])
  have HR := hide hr
  generalize P4.ck s d t k i (20 + (len : Int)) = c at hck HQ HOD HBY
  clear h hr
  unfold bx at HB
  unfold pk at HC HH ⊢
  go_enter Tryz.func70, Tryz.ntmps70
  go_upto_region 8 with (first
    | (go_at_call 129; refine (HC.out _).mono ?_; rintro e w1 ⟨rfl, hb1⟩; replace HP := hide (HP.out.kept hb1); replace HB := hide (bt HB.out hb1); clear hb1; obtain ⟨c0, c1, c2, c3, c4, c5⟩ := HP.out.all)
    | (go_at_call 130; refine (HH.out _).mono ?_; rintro e w2 ⟨B, rfl, hB, hblk, hb2⟩; clear c0 c1 c2 c3 c4 c5; have HBW := hide (show w.heap.size < B by have := HB.out.size; omega); replace hblk := hide hblk; replace HP := hide (HP.out.kept hb2); replace HB := hide (bt HB.out hb2); clear hb2 hB)
    | (go_at_call 131; refine (checkof_ok _ 20 20 _ _ (hblk.out.row8 HOC.out 20 20 rfl (by decide)) (by omega) c HQ.out).mono ?_; rintro e w3 ⟨rfl, hb3⟩; replace hblk := hide (hblk.out.kept hb3); replace HP := hide (HP.out.kept hb3); replace HB := hide (bt HB.out hb3); clear hb3))
  have x10 := hblk.out.cell 10 (show 10 < 20 by omega)
  have x11 := hblk.out.cell 11 (show 11 < 20 by omega)
  have y10 := hblk.out.frozen 10
  have y11 := hblk.out.frozen 11
  replace x10 : w3.cell? ⟨B, 10, none⟩ = some (.int .u8 0) := x10
  replace x11 : w3.cell? ⟨B, 11, none⟩ = some (.int .u8 0) := x11
  go_upto_region 9 with fail
  have HBF := hide (show Blk B (P4.hd s d t k i (20 + len) c) ((w3.setCell ⟨B, 10, none⟩ (.int .u8 (c / 256))).setCell ⟨B, 11, none⟩ (.int .u8 (c % 256))) from (hblk.out.set 10 (c / 256)).set 11 (c % 256))
  replace HP := hide ((HP.out.other ⟨B, 10, none⟩ (Nat.ne_of_lt HBW.out) (.int .u8 (c / 256))).other ⟨B, 11, none⟩ (Nat.ne_of_lt HBW.out) (.int .u8 (c % 256)))
  replace HB := hide ((HB.out.setCell (p := ⟨B, 10, none⟩) (Nat.le_of_lt HBW.out) (.int .u8 (c / 256))).setCell (p := ⟨B, 11, none⟩) (Nat.le_of_lt HBW.out) (.int .u8 (c % 256)))
  clear x10 x11 y10 y11 hblk
  generalize (w3.setCell ⟨B, 10, none⟩ (.int .u8 (c / 256))).setCell ⟨B, 11, none⟩ (.int .u8 (c % 256)) = w4 at HBF HP HB ⊢
  obtain ⟨-, -, -, -, -, c5⟩ := HP.out.all
  have HOW := hide (HBF.out.own HOD.out w.heap.size 20 rfl (by decide) (Nat.le_of_lt HBW.out))
  have HLN := hide (show (P4.hd s d t k i (20 + len) c).length + len ≤ 1000000000 by rw [P4.hd_len]; omega)
  go_wp2_with (at_builtin; refine wpList_app rfl (.tmp 32) (.tmp 34) rfl _ _ _ rfl HOW.out a len cap body rfl (HR.out.below HB.out) HLN.out HB.out.size ?_; intro v5 w5 o5 g5; replace o5 := hide o5; have HB5 := hide (HB.out.grown g5 HB.out.size (fun k h => (HOW.out.2.lt k h).1)))
  go_ret2
  exact ⟨v5, rfl, HBY.out ▸ o5.out, HB5.out⟩
end Go.Proofs.YtkhahbghmdccaaaGreatDoor.V4

namespace Go.Proofs.YtkhahbghmdccaaaGreatDoor.V4
open Go.RowKit
attribute [local go_sem ↓] Go.wp_at_zero Go.wp_at_succ
theorem num_congr (xs ys : List Int) (n : Nat) (h : ∀ j, j < n → xs.getD j 0 = ys.getD j 0) : num xs n = num ys n := by
  induction n with
  | zero => rfl
  | succ n ih => simp only [num]; rw [ih (fun j hj => h j (by omega)), h n (by omega)]
theorem number_at (g off len cap : Nat) (zs : List Int) (w : World) (j n c : Nat) (hr : Row8 w (some ⟨g, off, none⟩) len cap zs) (h1 : j + n ≤ len) (h2 : n ≤ 4) (h3 : 0 < n) :
    Calls Tryz.prog 128 #[.slice (some ⟨g, off + j, none⟩) n c] w fun e w' => e = .returned (.int .i64 (num (zs.drop j) n)) ∧ w' = w := by
  have h := hr.part j (j + n) (by omega) h1 (some ⟨g, off + j, none⟩) c (fun b o _ e => by cases e; rfl) (fun e => by cases e)
  rw [show j + n - j = n by omega] at h
  exact number_any _ n c _ w h2 h3 h _ (num_congr _ _ n fun i hi => P4.getD_take hi)
theorem step_app {w : World} {ops : Array Oper} {o : Oper} {a : Act} {K : Act → World → Prop} {Q : Exit → Act → World → Prop} {E : Prop} (hgd : o.guard = none) (s x : Operand)
    (ho : o.op = .call { callee := .builtin .append, args := #[s, x], argTypes := #[37, 37] })
    (base : Nat) (v : Value) (zs : List Int) (hs : a.eval s = v) (hown : Own base w v zs) (ao : Option Addr) (hao : ∃ ad, ao = some ad) (len cap : Nat) (ys : List Int) (n : Nat) (hn : (zs ++ ys).length = n)
    (hx : a.eval x = .slice ao len cap) (hrow : Row8 w ao len cap ys) (hlen : zs.length + len ≤ 1000000000) (hbase : base ≤ w.heap.size)
    (h : ∀ a' c' w', Own base w' (.slice a' n c') (zs ++ ys) → w.grownBy w' v.ownBlock → K (a.put o.dst (.slice a' n c')) w') : if Region.wanted o (yielded ops a.tmps) = true then Oper.wp Tryz.prog o a w K Q else E := by
  have hw : Region.wanted o (yielded ops a.tmps) = true := by simp [Region.wanted, hgd]
  rw [if_pos hw]
  obtain ⟨ad, rfl⟩ := hao
  obtain ⟨i0, hi, hz0, hz1, hz2⟩ := info_parts Tryz.infoByte
  obtain ⟨r1, r2, r3, r4, r5⟩ := hrow
  refine wp_append_own w s x 37 ho base 5 i0 (.int .u8 0) 1 1 Tryz.underlying37 hi hz0 hz1 hz2 rfl (by decide) v zs.length _ hs hown.2 ad len cap (ys.map (Value.int .u8)) hx (by simp [r1]) ?_ (ints_oneCell .u8 ys) (by unfold maxLen; omega) (by omega) hbase ?_
  · intro j u hu
    have hj : j < ys.length := by
      have := (List.getElem?_eq_some_iff.1 hu).1
      simpa using this
    obtain ⟨b, off, h6, h7⟩ := r5 (by omega)
    have hc := h7 j (by omega)
    obtain rfl : ad = ⟨b, off, none⟩ := by simpa using h6
    have e : (⟨b, off, none⟩ : Addr).add j = ⟨b, off + j, none⟩ := by unfold Addr.add; split <;> simp_all
    rw [e, hc]
    rw [List.getElem?_map] at hu
    simp [hj] at hu ⊢
    exact hu
  · intro v' w' h1 h2 _
    have ho : Own base w' v' (zs ++ ys) := by
      refine ⟨SM.oct_append _ _ hown.1 r3, ?_⟩
      rw [List.map_append, List.length_append, r1]
      exact h1
    obtain ⟨a', c', e, _, _⟩ := ho.row8
    rw [hn] at e
    rw [e] at ho ⊢
    exact h a' c' w' ho h2
theorem PkIn.frz {B : Nat} {s d t k i : Int} {a : Option Addr} {len cap : Nat} {w : World} (h : PkIn B s d t k i a len cap w) :
    w.frozen? ⟨B, 0, none⟩ = false ∧ w.frozen? ⟨B, 1, none⟩ = false ∧ w.frozen? ⟨B, 2, none⟩ = false ∧ w.frozen? ⟨B, 3, none⟩ = false ∧ w.frozen? ⟨B, 4, none⟩ = false ∧ w.frozen? ⟨B, 5, none⟩ = false := by
  unfold PkIn at h
  refine ⟨?_, ?_, ?_, ?_, ?_, ?_⟩ <;> simp [World.frozen?, h]
def put6 (w : World) (B : Nat) (s d t k i : Int) (a : Option Addr) (len cap : Nat) : World := (((((w.setCell ⟨B, 0, none⟩ (.int .i64 s)).setCell ⟨B, 1, none⟩ (.int .i64 d)).setCell ⟨B, 2, none⟩ (.int .i64 t)).setCell ⟨B, 3, none⟩ (.int .i64 k)).setCell ⟨B, 4, none⟩ (.int .i64 i)).setCell ⟨B, 5, none⟩ (.slice a len cap)
theorem put6_below {base : Nat} {w0 w : World} (h : Below base w0 w) {B : Nat} (hB : base ≤ B) (s d t k i : Int) (a : Option Addr) (len cap : Nat) : Below base w0 (put6 w B s d t k i a len cap) :=
  (((((h.setCell (p := ⟨B, 0, none⟩) hB _).setCell (p := ⟨B, 1, none⟩) hB _).setCell (p := ⟨B, 2, none⟩) hB _).setCell (p := ⟨B, 3, none⟩) hB _).setCell (p := ⟨B, 4, none⟩) hB _).setCell (p := ⟨B, 5, none⟩) hB _
theorem put6_heap (w : World) (B g : Nat) (hg : g ≠ B) (s d t k i : Int) (a : Option Addr) (len cap : Nat) : (put6 w B s d t k i a len cap).heap[g]? = w.heap[g]? := by
  unfold put6
  rw [Below.heap_setCell _ _ _ g hg, Below.heap_setCell _ _ _ g hg, Below.heap_setCell _ _ _ g hg, Below.heap_setCell _ _ _ g hg, Below.heap_setCell _ _ _ g hg, Below.heap_setCell _ _ _ g hg]
theorem setCell_heap_same (w : World) (B j : Nat) (cs : Array Value) (t : TypeId) (v : Value) (h : w.heap[B]? = some (.cells cs t (0, 0))) : (w.setCell ⟨B, j, none⟩ v).heap[B]? = some (.cells (cs.setIfInBounds j v) t (0, 0)) := by
  rw [setCell_eq_setRow w B j _ t (0, 0) v h, setRow_heap w B _ _ t (0, 0) h]
theorem put6_pk {w : World} {B : Nat} {s0 d0 t0 k0 i0 : Int} {a0 : Option Addr} {len0 cap0 : Nat} (h : PkIn B s0 d0 t0 k0 i0 a0 len0 cap0 w) (s d t k i : Int) (a : Option Addr) (len cap : Nat) : PkIn B s d t k i a len cap (put6 w B s d t k i a len cap) :=
  setCell_heap_same _ B 5 _ _ _ (setCell_heap_same _ B 4 _ _ _ (setCell_heap_same _ B 3 _ _ _ (setCell_heap_same _ B 2 _ _ _ (setCell_heap_same _ B 1 _ _ _ (setCell_heap_same _ B 0 _ _ _ h)))))
theorem Own.heap {base : Nat} {w w' : World} {v : Value} {zs : List Int} (h : Own base w v zs) (he : ∀ g, base ≤ g → g < w.heap.size → w'.heap[g]? = w.heap[g]?) : Own base w' v zs := by
  refine ⟨h.1, h.2.1, ?_⟩
  rcases h.2.2 with h2 | ⟨g, cap, cur, rfl, hb', hg, rest⟩
  · exact .inl h2
  · exact .inr ⟨g, cap, cur, rfl, hb', by rw [he g hb' (Array.getElem?_eq_some_iff.1 hg).1]; exact hg, rest⟩
theorem Own.mono {base base' : Nat} {w : World} {v : Value} {zs : List Int} (h : Own base w v zs) (hb : base' ≤ base) : Own base' w v zs := by
  refine ⟨h.1, h.2.1, ?_⟩
  rcases h.2.2 with h2 | ⟨g, cap, cur, rfl, hb', hg, rest⟩
  · exact .inl h2
  · exact .inr ⟨g, cap, cur, rfl, by omega, hg, rest⟩
theorem PkIn.grown {B : Nat} {s d t k i : Int} {a : Option Addr} {len cap : Nat} {w w' : World} (h : PkIn B s d t k i a len cap w) (hg : w.grownBy w' none) : PkIn B s d t k i a len cap w' := (hg.block _ h.lt (fun e => by cases e)).trans h
set_option maxRecDepth 100000 in
set_option maxHeartbeats 4000000 in
theorem read_raw (g off len cap : Nat) (zs : List Int) (w : World) (hr : Row8 w (some ⟨g, off, none⟩) len cap zs) (h20 : 20 ≤ len) (h340 : len ≤ 340) (hcl : len ≤ cap) (hcm : cap ≤ maxLen) :
    Calls Tryz.prog 69 #[.slice (some ⟨g, off, none⟩) len cap] w fun e w' => ∃ v, e = .returned (.agg #[.int .i64 (num (zs.drop 12) 4), .int .i64 (num (zs.drop 16) 4), .int .i64 (zs.getD 8 0), .int .i64 (zs.getD 9 0), .int .i64 (num (zs.drop 4) 2), v]) ∧ Own w.heap.size w' v (zs.drop 20) ∧ Below w.heap.size w w' := by
  unfold maxLen at hcm
  have hcl' : (len : Int) ≤ (cap : Int) := by omega
  have h20' : (20 : Int) ≤ (len : Int) := by omega
  have h8' : (8 : Int) < (len : Int) := by omega
  have h9' : (9 : Int) < (len : Int) := by omega
  have h6' : (6 : Int) ≤ (cap : Int) := by omega
  have h16' : (16 : Int) ≤ (cap : Int) := by omega
  have h20c : (20 : Int) ≤ (cap : Int) := by omega
  have hn12 : cap ≠ 12 := by omega
  have hn16 : cap ≠ 16 := by omega
  have hn4 : cap ≠ 4 := by omega
  have hb0 : Below w.heap.size w (w.alloc (.cells #[.int .i64 0, .int .i64 0, .int .i64 0, .int .i64 0, .int .i64 0, .slice none 0 0] 65)).drew := ((Below.refl _ _).alloc (Nat.le_refl _) _).drew
  have HR0 := hide (hr.below hb0)
  have HPK := hide (show PkIn w.heap.size 0 0 0 0 0 none 0 0 (w.alloc (.cells #[.int .i64 0, .int .i64 0, .int .i64 0, .int .i64 0, .int .i64 0, .slice none 0 0] 65)).drew from pk_new w 0 0 0 0 0 none 0 0)
  have hx8 : w.cell? ⟨g, off + 8, none⟩ = some (.int .u8 (zs.getD 8 0)) := by
    obtain ⟨-, -, -, -, h5⟩ := hr
    obtain ⟨b, o, e, hcell⟩ := h5 (by omega)
    cases e
    exact hcell 8 (by omega)
  have hx9 : w.cell? ⟨g, off + 9, none⟩ = some (.int .u8 (zs.getD 9 0)) := by
    obtain ⟨-, -, -, -, h5⟩ := hr
    obtain ⟨b, o, e, hcell⟩ := h5 (by omega)
    cases e
    exact hcell 9 (by omega)
  have hw8 := hr.2.2.1 8
  have hw9 := hr.2.2.1 9
  have hpart := (HR0.out.part 20 len h20 (Nat.le_refl _) (if cap = 20 then some ⟨g, off, none⟩ else some ⟨g, off + 20, none⟩) (cap - 20) (fun b o hlt e => by cases e; rw [if_neg (by omega)]) (fun e => by split at e <;> cases e))
  have had : ∃ ad, (if cap = 20 then some (⟨g, off, none⟩ : Addr) else some ⟨g, off + 20, none⟩) = some ad := by split <;> exact ⟨_, rfl⟩
  obtain ⟨ao, hao⟩ : ∃ ao, (if cap = 20 then some (⟨g, off, none⟩ : Addr) else some ⟨g, off + 20, none⟩) = ao := ⟨_, rfl⟩
  rw [hao] at hpart had
  have HPart := hide (hpart.congr (show (zs.drop 20).take (len - 20) = zs.drop 20 from List.take_of_length_le (by rw [List.length_drop, hr.1]; exact Nat.le_refl _)))
  have HAD := hide had
  clear hpart had
  have HL := hide (show ([] ++ zs.drop 20).length = len - 20 by rw [List.nil_append, List.length_drop, hr.1])
  have HLen := hide (show ([] : List Int).length + (len - 20) ≤ 1000000000 by simp; omega)
  have HB0 := hide hb0
  have HSZ := hide (show w.heap.size + 1 ≤ (w.alloc (.cells #[.int .i64 0, .int .i64 0, .int .i64 0, .int .i64 0, .int .i64 0, .slice none 0 0] 65)).drew.heap.size by simp)
  have hge : w.heap.size ≠ g := World.new_ne w _ hx8
  clear hr hb0
  generalize zs.getD 8 0 = z8 at hx8 hw8 ⊢
  generalize zs.getD 9 0 = z9 at hx9 hw9 ⊢
  have hz8 : IntKind.i64.wrap z8 = z8 := by rw [IntKind.wrap_i64]; omega
  have hz9 : IntKind.i64.wrap z9 = z9 := by rw [IntKind.wrap_i64]; omega
  go_enter Tryz.func69, Tryz.ntmps69
  go_upto_region 1 with fail
  go_region_held3 (fun w' => w'.cell? ⟨g, off + 8, none⟩ = some (.int .u8 z8) ∧ w'.cell? ⟨g, off + 9, none⟩ = some (.int .u8 z9))
    (first
      | go_keep
      | (go_split_ands; exact ⟨g5.cell (by simp [*]) (by intro e; cases e), g5.cell (by simp [*]) (by intro e; cases e)⟩))
    (first
      | (go_at_call 128; refine (number_at g off len cap zs _ _ _ _ HR0.out (by omega) (by omega) (by omega)).mono ?_; rintro e w' ⟨rfl, rfl⟩)
      | (refine step_app rfl (.const (.slice none 0 0)) (.tmp 21) rfl (w.heap.size + 1) _ [] (by rfl) (Own.nil _ _) _ HAD.out (len - 20) (cap - 20) _ (len - 20) HL.out (by rfl) HPart.out HLen.out HSZ.out ?_; intro a5 c5 w5 o5 g5; replace HPK := hide (HPK.out.grown g5); obtain ⟨f0, f1, f2, f3, f4, f5⟩ := HPK.out.all; obtain ⟨k0, k1, k2, k3, k4, k5⟩ := HPK.out.frz))
  replace HB0 := hide (put6_below (HB0.out.grown g5 HB0.out.size (fun k h => by cases h)) (Nat.le_refl _) (num (zs.drop 12) 4) (num (zs.drop 16) 4) z8 z9 (num (zs.drop 4) 2) a5 (len - 20) c5)
  have HO5 := hide ((o5.heap (fun g hg _ => put6_heap w5 w.heap.size g (by omega) (num (zs.drop 12) 4) (num (zs.drop 16) 4) z8 z9 (num (zs.drop 4) 2) a5 (len - 20) c5)).mono (Nat.le_succ _))
  replace HPK := hide (put6_pk HPK.out (num (zs.drop 12) 4) (num (zs.drop 16) 4) z8 z9 (num (zs.drop 4) 2) a5 (len - 20) c5)
  unfold put6 at HB0 HO5 HPK
  go_wp2
  try simp only [Exit.inBlock, Exit.then]
  refine bodyPost_ret (results_cell_row rfl _ _ w.heap.size 65 _ (0, 0) _ rfl HPK.out Tryz.underlying65 rfl (by kernel_rfl)) rfl ?_
  exact ⟨_, rfl, by simpa using HO5.out, HB0.out⟩
end Go.Proofs.YtkhahbghmdccaaaGreatDoor.V4

namespace Go.Proofs.YtkhahbghmdccaaaGreatDoor.V4
open Go.RowKit
theorem Row8.drewN {w : World} {a : Option Addr} {len cap : Nat} {zs : List Int} (h : Row8 w a len cap zs) (n : Nat) : Row8 (w.drewN n) a len cap zs := h.below ((Below.refl _ _).trans ⟨rfl, rfl, rfl, Nat.le_refl _, fun _ _ => rfl⟩)
theorem row_take {w : World} {g off len cap : Nat} {zs : List Int} (h : Row8 w (some ⟨g, off, none⟩) len cap zs) (n c : Nat) (hn : n ≤ len) : Row8 w (some ⟨g, off, none⟩) n c (zs.take n) := by
  have := h.part 0 n (by omega) hn (some ⟨g, off, none⟩) c (fun b o _ e => by cases e; rfl) (fun e => by cases e)
  simpa using this
theorem row_drop {w : World} {g off len cap : Nat} {zs : List Int} (h : Row8 w (some ⟨g, off, none⟩) len cap zs) (n c : Nat) (hn : n ≤ len) : Row8 w (some ⟨g, off + n, none⟩) (len - n) c (zs.drop n) := by
  have := h.part n len hn (Nat.le_refl _) (some ⟨g, off + n, none⟩) c (fun b o _ e => by cases e; rfl) (fun e => by cases e)
  exact this.congr (List.take_of_length_le (by rw [List.length_drop, h.1]; exact Nat.le_refl _))
set_option maxRecDepth 100000 in
set_option maxHeartbeats 4000000 in
theorem alike_any (gx ox lx cx gz oz lz cz : Nat) (xs zs : List Int) (w : World) (rx : Row8 w (some ⟨gx, ox, none⟩) lx cx xs) (rz : Row8 w (some ⟨gz, oz, none⟩) lz cz zs) (hx : 20 ≤ lx) (hz : 20 ≤ lz) (hxc : lx ≤ cx) (hzc : lz ≤ cz) (hxm : cx ≤ maxLen) (hzm : cz ≤ maxLen)
    (r : Bool) (hr : (xs.take 10 = zs.take 10 ∧ xs.drop 12 = zs.drop 12) ↔ r = true) :
    Calls Tryz.prog 71 #[.slice (some ⟨gx, ox, none⟩) lx cx, .slice (some ⟨gz, oz, none⟩) lz cz] w fun e w' => e = .returned (.bool r) ∧ ∃ n, w' = w.drewN n := by
  have a1 := fun n => row_take (rx.drewN n) 10 cx (by omega)
  have a2 := fun n => row_take (rz.drewN n) 10 cz (by omega)
  have b1 := fun n => row_drop (rx.drewN n) 12 (cx - 12) (by omega)
  have b2 := fun n => row_drop (rz.drewN n) 12 (cz - 12) (by omega)
  have H1 := hide (fun r hr n => equal_any _ _ _ _ _ _ _ _ _ (a1 n) (a2 n) r hr)
  have H2 := hide (fun r hr n => equal_any _ _ _ _ _ _ _ _ _ (b1 n) (b2 n) r hr)
  clear a1 a2 b1 b2 rx rz
  unfold maxLen at hxm hzm
  have i1 : (10 : Int) ≤ (cx : Int) := by omega
  have i2 : (10 : Int) ≤ (cz : Int) := by omega
  have i3 : (12 : Int) ≤ (lx : Int) := by omega
  have i4 : (12 : Int) ≤ (lz : Int) := by omega
  have i5 : (lx : Int) ≤ (cx : Int) := by omega
  have i6 : (lz : Int) ≤ (cz : Int) := by omega
  have i7 : cx ≠ 12 := by omega
  have i8 : cz ≠ 12 := by omega
  by_cases h1 : xs.take 10 = zs.take 10
  · have H1' := hide (H1.out true (by simp [h1]))
    have H2' := hide (H2.out r (by rw [← hr]; simp [h1]))
    clear H1 H2 h1 hr
    go_enter Tryz.func71, Tryz.ntmps71
    go_upto_region 1 with fail
    go_quiet (first
      | (go_at_call 72; with_reducible refine Calls.quiet_of_same (H1'.out _))
      | (go_at_call 72; with_reducible refine Calls.quiet_of_same (H2'.out _)))
    go_wp2
    go_ret
    exact ⟨rfl, _, rfl⟩
  · have H1' := hide (H1.out false (by simp [h1]))
    have hf : r = false := by
      cases r
      · rfl
      · exact absurd (hr.2 rfl).1 h1
    subst hf
    clear H1 H2 h1 hr
    go_enter Tryz.func71, Tryz.ntmps71
    go_upto_region 1 with fail
    go_quiet (first | (go_at_call 72; with_reducible refine Calls.quiet_of_same (H1'.out _)))
    go_wp2
    go_ret
    exact ⟨rfl, _, rfl⟩
end Go.Proofs.YtkhahbghmdccaaaGreatDoor.V4

namespace Go.Proofs.YtkhahbghmdccaaaGreatDoor.V4
open Go.RowKit
theorem Own.form {base : Nat} {w : World} {v : Value} {zs : List Int} (h : Own base w v zs) (hp : 0 < zs.length) : ∃ g cap, v = .slice (some ⟨g, 0, none⟩) zs.length cap ∧ zs.length ≤ cap ∧ cap ≤ maxLen ∧ base ≤ g ∧ g < w.heap.size ∧ Row8 w (some ⟨g, 0, none⟩) zs.length cap zs := by
  obtain ⟨a, cap0, hv, hrow, hlt⟩ := h.row8
  rcases h.2.2 with ⟨rfl, hn⟩ | ⟨g, cap, cur, rfl, hb', hg, h1, h2, rest⟩
  · omega
  · injection hv with e1 _ e3
    subst e1
    subst e3
    exact ⟨g, _, rfl, h1, h2, hb', (Array.getElem?_eq_some_iff.1 hg).1, hrow⟩
theorem num_src (zs : List Int) : num (zs.drop 12) 4 = P4.src zs := by
  simp only [num, P4.getD_drop, Nat.reduceAdd]
  unfold P4.src P4.wd
  simp only [Nat.reduceAdd]
  omega
theorem num_dst (zs : List Int) : num (zs.drop 16) 4 = P4.dst zs := by
  simp only [num, P4.getD_drop, Nat.reduceAdd]
  unfold P4.dst P4.wd
  simp only [Nat.reduceAdd]
  omega
theorem num_wd (zs : List Int) : num (zs.drop 4) 2 = P4.wd zs 4 := by
  simp only [num, P4.getD_drop, Nat.reduceAdd]
  unfold P4.wd
  simp only [Nat.reduceAdd]
  omega
theorem read_ok (g off len cap : Nat) (zs : List Int) (w : World) (hr : Row8 w (some ⟨g, off, none⟩) len cap zs) (h20 : 20 ≤ len) (h340 : len ≤ 340) (hcl : len ≤ cap) (hcm : cap ≤ maxLen) :
    Calls Tryz.prog 69 #[.slice (some ⟨g, off, none⟩) len cap] w fun e w' => ∃ a' c', e = .returned (pk (P4.src zs) (P4.dst zs) (zs.getD 8 0) (zs.getD 9 0) (P4.wd zs 4) a' (len - 20) c') ∧ Row8 w' a' (len - 20) c' (zs.drop 20) ∧ Own w.heap.size w' (.slice a' (len - 20) c') (zs.drop 20) ∧ Below w.heap.size w w' := by
  refine (read_raw g off len cap zs w hr h20 h340 hcl hcm).mono ?_
  rintro e w' ⟨v, rfl, ho, hb⟩
  rw [num_src, num_dst, num_wd]
  have hl : (zs.drop 20).length = len - 20 := by rw [List.length_drop, hr.1]
  obtain ⟨a', c', hv, hrow, _⟩ := ho.row8
  rw [hl] at hv hrow
  subst hv
  exact ⟨a', c', rfl, hrow, ho, hb⟩
theorem okp_read (zs : List Int) (ho : SM.Oct zs) (hl : zs.length ≤ 340) : Okp (P4.src zs) (P4.dst zs) (zs.getD 8 0) (zs.getD 9 0) (P4.wd zs 4) := by
  obtain ⟨h1, h2, h3, h4, h5, _⟩ := P4.okh_len zs ho hl
  exact ⟨h1, h2, h3, h4, h5⟩
theorem bys_enc (zs : List Int) (h : 20 ≤ zs.length) : bys (P4.src zs) (P4.dst zs) (zs.getD 8 0) (zs.getD 9 0) (P4.wd zs 4) (zs.drop 20) = P4.enc zs := by
  unfold bys P4.enc P4.ckz
  have e : (20 : Int) + ((zs.drop 20).length : Nat) = (zs.length : Int) := by rw [List.length_drop]; omega
  rw [e]
def err (k : Int) : Value := .iface 28 (.int .i64 k)
set_option maxHeartbeats 2000000 in
theorem decode_len (a : Option Addr) (len cap : Nat) (w : World) (h : len < 20 ∨ 340 < len) (hm : len ≤ maxLen) :
    Calls Tryz.prog 22 #[.slice a len cap] w fun e w' => e = .returned (.tuple #[pk0, err 5]) ∧ Below w.heap.size w w' := by
  unfold maxLen at hm
  have HB := hide (bx_below w 0 0 0 0 0 none 0 0)
  have HP := hide (pk_new w 0 0 0 0 0 none 0 0)
  unfold bx at HB
  rcases h with h | h
  · go_enter Tryz.func22, Tryz.ntmps22
    go_wp2
    try simp only [Exit.inBlock, Exit.then]
    refine bodyPost_ret (results_cr rfl _ _ w.heap.size 0 0 0 0 0 none 0 0 rfl HP.out) rfl ?_
    exact ⟨rfl, HB.out⟩
  · have h' : ¬ len < 20 := by omega
    go_enter Tryz.func22, Tryz.ntmps22
    go_wp2
    try simp only [Exit.inBlock, Exit.then]
    refine bodyPost_ret (results_cr rfl _ _ w.heap.size 0 0 0 0 0 none 0 0 rfl HP.out) rfl ?_
    exact ⟨rfl, HB.out⟩
end Go.Proofs.YtkhahbghmdccaaaGreatDoor.V4

namespace Go.Proofs.YtkhahbghmdccaaaGreatDoor.V4
open Go.RowKit
theorem Own.toRow {base : Nat} {w : World} {a : Option Addr} {n c : Nat} {zs : List Int} (h : Own base w (.slice a n c) zs) : Row8 w a n c zs := by
  obtain ⟨a', c', e, hr, _⟩ := h.row8
  injection e with e1 e2 e3
  subst e1 e2 e3
  exact hr
set_option maxRecDepth 100000 in
set_option maxHeartbeats 8000000 in
theorem decode_raw (g off len cap : Nat) (zs : List Int) (w : World) (hr : Row8 w (some ⟨g, off, none⟩) len cap zs) (h20 : 20 ≤ len) (h340 : len ≤ 340) (hcl : len ≤ cap) (hcm : cap ≤ maxLen)
    (r1 r2 : Bool) (h1 : P4.Syn zs ↔ r1 = true) (h2 : (P4.enc zs = zs) ↔ r2 = true) :
    Calls Tryz.prog 22 #[.slice (some ⟨g, off, none⟩) len cap] w fun e w' => ((r1 = false ∧ e = .returned (.tuple #[pk0, err 5])) ∨ (r1 = true ∧ r2 = false ∧ e = .returned (.tuple #[pk0, err 6])) ∨
      (r1 = true ∧ r2 = true ∧ ∃ a' c', e = .returned (.tuple #[pk (P4.src zs) (P4.dst zs) (zs.getD 8 0) (zs.getD 9 0) (P4.wd zs 4) a' (len - 20) c', .nilIface]) ∧ (Row8 w' a' (len - 20) c' (zs.drop 20) ∧ len - 20 ≤ c' ∧ c' ≤ maxLen))) ∧ Below w.heap.size w w' := by
  have hlen := hr.1
  have hoct := hr.2.2.1
  have HB := hide (bx_below w 0 0 0 0 0 none 0 0)
  have HP := hide (pk_new w 0 0 0 0 0 none 0 0)
  unfold bx at HB
  have HRow := hide (hr.below HB.out)
  have HRead := hide (fun W (h : Row8 W (some ⟨g, off, none⟩) len cap zs) => read_ok g off len cap zs W h h20 h340 hcl hcm)
  have HOk := hide (okp_read zs hoct (by omega))
  have HEnc := hide (bys_enc zs (by omega))
  have HEL := hide ((P4.enc_len zs (by omega)).trans hlen)
  have HLike := hide ((P4.like_iff zs hoct (by omega) (by omega)).trans h1)
  have HSame := hide h2
  generalize P4.src zs = s at HRead HOk HEnc ⊢
  generalize P4.dst zs = d at HRead HOk HEnc ⊢
  generalize zs.getD 8 0 = t at HRead HOk HEnc ⊢
  generalize zs.getD 9 0 = k at HRead HOk HEnc ⊢
  generalize P4.wd zs 4 = i at HRead HOk HEnc ⊢
  have HEncode := hide (fun a' c' W (h : Row8 W a' (len - 20) c' (zs.drop 20)) => encode_ok s d t k i a' (len - 20) c' (zs.drop 20) W HOk.out (by omega) h)
  rw [HEnc.out] at HEncode
  have hcm' := hcm
  unfold maxLen at hcm'
  unfold pk at HRead HEncode
  clear hr hoct h1 h2 HEnc
  go_enter Tryz.func22, Tryz.ntmps22
  go_upto_region 4 with (go_at_call 69; refine (HRead.out _ HRow.out).mono ?_; rintro e w1 ⟨a1, c1, rfl, hrow1, hown1, hb1⟩; replace hown1 := hide hown1; replace HB := hide (bt HB.out hb1); replace HP := hide (HP.out.kept hb1); replace HRow := hide (HRow.out.below hb1); replace hrow1 := hide hrow1; clear hb1)
  have hbn : Below w1.heap.size w1 (w1.alloc (.cells #[.int .i64 s, .int .i64 d, .int .i64 t, .int .i64 k, .int .i64 i, .slice a1 (len - 20) c1] 65)) := (Below.refl _ _).alloc (Nat.le_refl _) _
  have HQ := hide (pk_new w1 s d t k i a1 (len - 20) c1)
  replace HB := hide (bt HB.out hbn)
  replace HP := hide (HP.out.kept hbn)
  replace HRow := hide (HRow.out.below hbn)
  replace hrow1 := hide (hrow1.out.below hbn)
  replace hown1 := hide (hown1.out.kept hbn)
  rw [World.size_alloc] at hown1
  clear hbn
  have hlt := HP.out.lt
  generalize w1.alloc (.cells #[.int .i64 s, .int .i64 d, .int .i64 t, .int .i64 k, .int .i64 i, .slice a1 (len - 20) c1] 65) = W at HQ HB HP HRow hrow1 hown1 hlt ⊢
  obtain ⟨c0, c1', c2, c3, c4, c5⟩ := HQ.out.all
  go_upto_region 5 with (go_at_call 70; refine (HEncode.out a1 c1 _ hrow1.out).mono ?_; rintro e w2 ⟨v, rfl, ho2, hb2⟩; obtain ⟨gE, cE, rfl, hE1, hE2, -, -, hrowE⟩ := ho2.form (by rw [HEL.out]; omega); rw [HEL.out] at hE1 hrowE ⊢; replace HB := hide (bt HB.out hb2); replace HP := hide (HP.out.kept hb2); replace HQ := hide (HQ.out.kept hb2); replace HRow := hide (HRow.out.below hb2); replace hrow1 := hide (hrow1.out.below hb2); replace hown1 := hide (hown1.out.kept hb2); replace hrowE := hide hrowE; clear hb2 ho2 c0 c1' c2 c3 c4 c5)
  have HAl := hide (alike_any gE 0 len cE g off len cap _ _ w2 hrowE.out HRow.out h20 h20 hE1 hcl hE2 hcm r1 HLike.out)
  have HEq := hide (fun n => equal_any _ _ _ _ _ _ _ _ _ (hrowE.out.drewN n) (HRow.out.drewN n) r2 HSame.out)
  have hE2' := hE2
  unfold maxLen at hE2'
  obtain ⟨c0, c1', c2, c3, c4, c5⟩ := HP.out.all
  obtain ⟨k0, k1, k2, k3, k4, k5⟩ := HP.out.frz
  have HPn := hide (fun n => show PkIn w.heap.size 0 0 0 0 0 none 0 0 (w2.drewN n) from HP.out)
  have HBn := hide (fun n => show Below w.heap.size w (w2.drewN n) from HB.out.trans ⟨rfl, rfl, rfl, Nat.le_refl _, fun _ _ => rfl⟩)
  cases r1
  · go_wp2_with (go_at_call 71; refine HAl.out.mono ?_; rintro e w3 ⟨rfl, n, rfl⟩)
    try simp only [Exit.inBlock, Exit.then]
    refine bodyPost_ret (results_cr rfl _ _ w.heap.size 0 0 0 0 0 none 0 0 rfl (put6_pk (HPn.out n) 0 0 0 0 0 none 0 0)) rfl ?_
    have hfin := put6_below (HBn.out n) (Nat.le_refl _) 0 0 0 0 0 none 0 0
    first
    | exact ⟨rfl, hfin⟩
    | exact ⟨.inl ⟨rfl, rfl⟩, hfin⟩
  · cases r2
    · go_wp2_with (first
        | (go_at_call 71; refine HAl.out.mono ?_; rintro e w3 ⟨rfl, n, rfl⟩)
        | (go_at_call 72; refine (HEq.out _).mono ?_; rintro e w3 ⟨rfl, rfl⟩))
      try simp only [Exit.inBlock, Exit.then]
      refine bodyPost_ret (results_cr rfl _ _ w.heap.size 0 0 0 0 0 none 0 0 rfl (put6_pk (HPn.out n) 0 0 0 0 0 none 0 0)) rfl ?_
      have hfin := put6_below (HBn.out n) (Nat.le_refl _) 0 0 0 0 0 none 0 0
      first
      | exact ⟨rfl, hfin⟩
      | exact ⟨.inr (.inl ⟨rfl, rfl, rfl⟩), hfin⟩
    · obtain ⟨e0, e1, e2, e3, e4, e5⟩ := HQ.out.all
      go_wp2_with (first
        | (go_at_call 71; refine HAl.out.mono ?_; rintro e w3 ⟨rfl, n, rfl⟩)
        | (go_at_call 72; refine (HEq.out _).mono ?_; rintro e w3 ⟨rfl, rfl⟩))
      try simp only [Exit.inBlock, Exit.then]
      refine bodyPost_ret (results_cr rfl _ _ w.heap.size s d t k i a1 (len - 20) c1 rfl (put6_pk (HPn.out n) s d t k i a1 (len - 20) c1)) rfl ?_
      have hfin := put6_below (HBn.out n) (Nat.le_refl _) s d t k i a1 (len - 20) c1
      have hrow : Row8 (put6 (w2.drewN n) w.heap.size s d t k i a1 (len - 20) c1) a1 (len - 20) c1 (zs.drop 20) := (hown1.out.heap (fun g hg _ => put6_heap (w2.drewN n) w.heap.size g (by omega) s d t k i a1 (len - 20) c1)).toRow
      first
      | exact ⟨⟨a1, c1, rfl, hrow, ⟨by have h9 := hown1.out.caps.1; omega, hown1.out.caps.2⟩⟩, hfin⟩
      | exact ⟨.inr (.inr ⟨rfl, rfl, a1, c1, rfl, hrow, ⟨by have h9 := hown1.out.caps.1; omega, hown1.out.caps.2⟩⟩), hfin⟩
end Go.Proofs.YtkhahbghmdccaaaGreatDoor.V4

namespace Go.Proofs.YtkhahbghmdccaaaGreatDoor.V4
open Go.RowKit
theorem decode_any (a : Option Addr) (len cap : Nat) (zs : List Int) (w : World) (hr : Row8 w a len cap zs) (hcl : len ≤ cap) (hcm : cap ≤ maxLen) :
    Calls Tryz.prog 22 #[.slice a len cap] w fun e w' => ((¬ P4.Syn zs ∧ e = .returned (.tuple #[pk0, err 5])) ∨ (P4.Syn zs ∧ ¬ P4.Good zs ∧ e = .returned (.tuple #[pk0, err 6])) ∨
      (P4.Good zs ∧ ∃ a' c', e = .returned (.tuple #[pk (P4.src zs) (P4.dst zs) (zs.getD 8 0) (zs.getD 9 0) (P4.wd zs 4) a' (len - 20) c', .nilIface]) ∧ (Row8 w' a' (len - 20) c' (zs.drop 20) ∧ len - 20 ≤ c' ∧ c' ≤ maxLen))) ∧ Below w.heap.size w w' := by
  have hl := hr.1
  by_cases hlen : len < 20 ∨ 340 < len
  · refine (decode_len a len cap w hlen hr.2.1).mono ?_
    rintro e w' ⟨rfl, hb⟩
    refine ⟨.inl ⟨fun h => ?_, rfl⟩, hb⟩
    have h1 := h.1
    have h2 := h.2.1
    omega
  · obtain ⟨g, off, rfl, _⟩ := hr.2.2.2.2 (by omega)
    classical
    refine (decode_raw g off len cap zs w hr (by omega) (by omega) hcl hcm (decide (P4.Syn zs)) (decide (P4.enc zs = zs)) (by simp) (by simp)).mono ?_
    rintro e w' ⟨hh, hb⟩
    refine ⟨?_, hb⟩
    rcases hh with ⟨h1, h2⟩ | ⟨h1, h2, h3⟩ | ⟨h1, h2, h3⟩
    · exact .inl ⟨of_decide_eq_false h1, h2⟩
    · have hs := of_decide_eq_true h1
      exact .inr (.inl ⟨hs, fun hg => of_decide_eq_false h2 (P4.good_enc zs hr.2.2.1 hg), h3⟩)
    · have hs := of_decide_eq_true h1
      exact .inr (.inr ⟨⟨hs, (P4.same_iff zs hr.2.2.1 hs).1 (of_decide_eq_true h2)⟩, h3⟩)
end Go.Proofs.YtkhahbghmdccaaaGreatDoor.V4

namespace Go.Proofs.YtkhahbghmdccaaaGreatDoor.V4
open Go.RowKit
theorem bys_good (s d t k i : Int) (body : List Int) (h : Okp s d t k i) (hl : body.length ≤ 320) : P4.Good (bys s d t k i body) :=
  P4.good_hd s d t k i (20 + body.length) body (okp_okh h hl) rfl hl
theorem Own.set {base : Nat} {w : World} {g n c : Nat} {zs : List Int} (h : Own base w (.slice (some ⟨g, 0, none⟩) n c) zs) (j : Nat) (v : Int) (hv : 0 ≤ v ∧ v ≤ 255) : Own base (w.setCell ⟨g, j, none⟩ (.int .u8 v)) (.slice (some ⟨g, 0, none⟩) n c) (zs.set j v) := by
  refine ⟨SM.oct_set _ h.1 j v hv.1 hv.2, by simp, ?_⟩
  rcases h.2.2 with ⟨e, _⟩ | ⟨g', cap, cur, e, hb, hg, h1, h2, h3, h4⟩
  · cases e
  · injection e with e1 e2 e3
    cases e1
    subst e3
    refine .inr ⟨g, c, cur.setIfInBounds j (.int .u8 v), by rw [e2, List.length_set], hb, ?_, by rw [List.length_set]; exact h1, h2, by simpa using h3, ?_⟩
    · rw [setCell_eq_setRow w g j _ 5 (0, 0) (.int .u8 v) hg, setRow_heap w g _ _ 5 (0, 0) hg]
    · rw [List.length_set, Array.toList_setIfInBounds, List.map_set, ← h4, List.take_set]
theorem Own.cell {base : Nat} {w : World} {g n c : Nat} {zs : List Int} (h : Own base w (.slice (some ⟨g, 0, none⟩) n c) zs) (j : Nat) (hj : j < n) : w.cell? ⟨g, j, none⟩ = some (.int .u8 (zs.getD j 0)) ∧ w.frozen? ⟨g, j, none⟩ = false := by
  constructor
  · obtain ⟨_, _, _, _, h5⟩ := h.toRow
    obtain ⟨b, o, e, hc⟩ := h5 (by omega)
    cases e
    have := hc j hj
    rwa [Nat.zero_add] at this
  · rcases h.2.2 with ⟨e, _⟩ | ⟨g', cap, cur, e, hb, hg, h1, h2, h3, h4⟩
    · cases e
    · injection e with e1 e2 e3
      cases e1
      simp [World.frozen?, hg]
end Go.Proofs.YtkhahbghmdccaaaGreatDoor.V4
