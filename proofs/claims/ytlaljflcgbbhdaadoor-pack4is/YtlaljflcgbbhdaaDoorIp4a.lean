/- Package ip4's small ones by contracts: upTo, Check, number, and bytes.Equal. -/
import Derived.Test.YtlaljflcgbbhdaaDoorP4Conv
import Derived.BigQuiet
namespace Go.Proofs.YtlaljflcgbbhdaaDoor
open Go.RowKit

/-- a packet as a value. -/
def pk (s d t k i : Int) (a : Option Addr) (len cap : Nat) : Value := .agg #[.int .i64 s, .int .i64 d, .int .i64 t, .int .i64 k, .int .i64 i, .slice a len cap]
def IsF (f : Int) : Prop := 0 ≤ f ∧ f ≤ 4294967295
def IsB (f : Int) : Prop := 0 ≤ f ∧ f ≤ 255
theorem bt {a b c : World} (h1 : Below a.heap.size a b) (h2 : Below b.heap.size b c) : Below a.heap.size a c := h1.trans (h2.mono h1.size)

theorem upto_yes (m n : Int) (w : World) (h0 : 0 ≤ n) (h1 : n ≤ m) : Calls Tryd.prog 17 #[.int .i64 m, .int .i64 n] w fun e w' => e = .returned (.bool true) ∧ w' = w := by
  go_enter Tryd.func17, Tryd.ntmps17
  go_wp2
  go_ret
  exact ⟨rfl, rfl⟩
theorem upto_no (m n : Int) (w : World) (h : ¬ (0 ≤ n ∧ n ≤ m)) : Calls Tryd.prog 17 #[.int .i64 m, .int .i64 n] w fun e w' => e = .returned (.bool false) ∧ w' = w := by
  by_cases h0 : 0 ≤ n
  · have h1 : ¬ n ≤ m := fun h1 => h ⟨h0, h1⟩
    clear h
    go_enter Tryd.func17, Tryd.ntmps17
    go_wp2
    go_ret
    exact ⟨rfl, rfl⟩
  · clear h
    go_enter Tryd.func17, Tryd.ntmps17
    go_wp2
    go_ret
    exact ⟨rfl, rfl⟩
theorem c4_ok (a : Int) (w : World) (h : IsF a) : Calls Tryd.prog 16 #[.int .i64 a] w fun e w' => e = .returned .nilIface ∧ w' = w := by
  obtain ⟨h0, h1⟩ := h
  go_enter Tryd.func16, Tryd.ntmps16
  go_wp2
  go_ret
  exact ⟨rfl, rfl⟩
theorem c4_bad (a : Int) (w : World) (h : ¬ IsF a) : Calls Tryd.prog 16 #[.int .i64 a] w fun e w' => e = .returned (.iface 25 (.int .i64 1)) ∧ w' = w := by
  unfold IsF at h
  by_cases h1 : a < 0
  · clear h
    go_enter Tryd.func16, Tryd.ntmps16
    go_wp2
    go_ret
    exact ⟨rfl, rfl⟩
  · have h2 : 4294967295 < a := by omega
    clear h
    go_enter Tryd.func16, Tryd.ntmps16
    go_wp2
    go_ret
    exact ⟨rfl, rfl⟩

theorem equal_any (a b : Option Addr) (la lb ca cb : Nat) (xs ys : List Int) (w : World) (ra : Row8 w a la ca xs) (rb : Row8 w b lb cb ys) (r : Bool) (hr : (xs = ys) ↔ r = true) : Calls Tryd.prog 25 #[.slice a la ca, .slice b lb cb] w fun e w' => e = .returned (.bool r) ∧ w' = w := by
  have c1 := conv8 ra
  have c2 := conv8 rb
  have hE := str8_eq ra.2.2.1 rb.2.2.1 r hr
  clear hr ra rb
  go_enter Tryd.func25, Tryd.ntmps25
  go_wp2
  go_ret
  exact ⟨rfl, rfl⟩
end Go.Proofs.YtlaljflcgbbhdaaDoor
