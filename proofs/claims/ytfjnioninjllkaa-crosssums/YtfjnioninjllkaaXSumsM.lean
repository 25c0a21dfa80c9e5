/- What the sums are when a packet crosses: all by what is left by 65535. -/
import Derived.Test.YtfjnioninjllkaaXDi
import Derived.Test.YtfjnioninjllkaaXSwap
namespace Go.Proofs.Ytfjnioninjllkaa
open Go.RowKit

def sw (x y z : Int) : Int := 65535 - SM.fold (SM.fold (65535 - x + (65535 - y)) + z)
theorem sw_spec (x y z : Int) (hx : 0 ≤ x ∧ x ≤ 65535) (hy : 0 ≤ y ∧ y ≤ 65535) (hz : 0 ≤ z ∧ z ≤ 65535) : (0 ≤ sw x y z ∧ sw x y z ≤ 65535) ∧ (sw x y z - (x + y - z)) % 65535 = 0 := by
  unfold sw
  have h1 := fold_spec (65535 - x + (65535 - y)) (by omega)
  generalize SM.fold (65535 - x + (65535 - y)) = u at h1 ⊢
  have h2 := fold_spec (u + z) (by omega)
  generalize SM.fold (u + z) = v at h2 ⊢
  omega
/-- the first numbers of an address, all together. -/
def sm (z : List Int) : Nat → Int
  | 0 => 0
  | k + 1 => sm z k + el z k
theorem tot_by16 (z : List Int) (h : Ok6 z) (k : Nat) (hk : k ≤ 8) : SM.tot (by16 z k) (2 * k) = sm z k := by
  induction k with
  | zero => rfl
  | succ k ih =>
    have hw := h k (by omega)
    have hl := by16_len z k
    rw [by16_succ, show 2 * (k + 1) = (by16 z k).length + 2 by omega, SM.tot_append _ _ (by omega), hl, ih (by omega)]
    show sm z k + SM.tot [el z k / 256, el z k % 256] 2 = sm z k + el z k
    have : SM.tot [el z k / 256, el z k % 256] 2 = el z k / 256 * 256 + el z k % 256 := by simp [SM.tot]
    rw [this]
    omega
theorem tot_wsn2 (k n : Int) (hk : 0 ≤ k ∧ k ≤ 65535) (hn : 0 ≤ n ∧ n ≤ 65535) : SM.tot (wsn 2 [k, n] 2) 4 = k + n := by
  have e : wsn 2 [k, n] 2 = [k / 256, k % 256, n / 256, n % 256] := by
    show ([] ++ nb 2 k) ++ nb 2 n = _
    rw [nb2 k hk.1 hk.2, nb2 n hn.1 hn.2]
    rfl
  rw [e]
  have : SM.tot [k / 256, k % 256, n / 256, n % 256] 4 = k / 256 * 256 + k % 256 + n / 256 * 256 + n % 256 := by simp [SM.tot]
  rw [this]
  omega
theorem tot_wsn4 (s d : Int) (hs : 0 ≤ s ∧ s ≤ 4294967295) (hd : 0 ≤ d ∧ d ≤ 4294967295) : SM.tot (wsn 4 [s, d] 2) 8 = s / 65536 + s % 65536 + d / 65536 + d % 65536 := by
  have e : wsn 4 [s, d] 2 = [s / 16777216, s / 65536 % 256, s / 256 % 256, s % 256, d / 16777216, d / 65536 % 256, d / 256 % 256, d % 256] := by
    show ([] ++ nb 4 s) ++ nb 4 d = _
    rw [nb4 s hs.1 hs.2, nb4 d hd.1 hd.2]
    rfl
  rw [e]
  have : SM.tot [s / 16777216, s / 65536 % 256, s / 256 % 256, s % 256, d / 16777216, d / 65536 % 256, d / 256 % 256, d % 256] 8 = s / 16777216 * 256 + s / 65536 % 256 + s / 256 % 256 * 256 + s % 256 + d / 16777216 * 256 + d / 65536 % 256 + d / 256 % 256 * 256 + d % 256 := by simp [SM.tot]
  rw [this]
  omega
theorem ovs_spec (zs : List Int) (k n : Int) (ho : SM.Oct zs) (he : zs.length % 2 = 0) (hk : 0 ≤ k ∧ k ≤ 65535) (hn : 0 ≤ n ∧ n ≤ 65535) : (ovs zs k n - (SM.tot zs zs.length + k + n)) % 65535 = 0 := by
  unfold ovs
  rw [SM.tot_append _ _ he, tot_wsn2 k n hk hn]
  have hb := SM.tot_bd zs ho zs.length
  have := fold_spec (SM.tot zs zs.length + (k + n)) (by omega)
  omega
theorem o6_spec (s d : List Int) (k n : Int) (hs : Ok6 s) (hd : Ok6 d) (hk : 0 ≤ k ∧ k ≤ 65535) (hn : 0 ≤ n ∧ n ≤ 65535) : (o6 s d k n - (sm s 8 + sm d 8 + k + n)) % 65535 = 0 := by
  have h := ovs_spec (by16 s 8 ++ by16 d 8) k n (SM.oct_append _ _ (oct_by16 s hs 8 (by omega)) (oct_by16 d hd 8 (by omega))) (by rw [List.length_append, by16_len, by16_len]) hk hn
  have e : SM.tot (by16 s 8 ++ by16 d 8) (by16 s 8 ++ by16 d 8).length = sm s 8 + sm d 8 := by
    rw [List.length_append, SM.tot_append _ _ (by rw [by16_len]), by16_len, by16_len, tot_by16 s hs 8 (by omega), tot_by16 d hd 8 (by omega)]
  rw [e] at h
  exact h
theorem o4_spec (s d k n : Int) (hs : 0 ≤ s ∧ s ≤ 4294967295) (hd : 0 ≤ d ∧ d ≤ 4294967295) (hk : 0 ≤ k ∧ k ≤ 65535) (hn : 0 ≤ n ∧ n ≤ 65535) : (o4 s d k n - (s / 65536 + s % 65536 + d / 65536 + d % 65536 + k + n)) % 65535 = 0 := by
  have hl : (wsn 4 [s, d] 2).length = 8 := by rw [wsn_len]
  have h := ovs_spec (wsn 4 [s, d] 2) k n (wsn_oct _ _ _) (by rw [hl]) hk hn
  rw [hl, tot_wsn4 s d hs hd] at h
  exact h
theorem sck_spec (z : List Int) (over : Int) (D : List Int) (ho : SM.Oct D) (h0 : 0 ≤ over) : (sck z over D + over + SM.fold (SM.tot (ub z D) (ub z D).length)) % 65535 = 0 := by
  have hb := SM.tot_bd (ub z D) (ub_oct z D ho) (ub z D).length
  have hT := SM.fold_bd _ hb.1
  unfold sck
  generalize SM.fold (SM.tot (ub z D) (ub z D).length) = T at hT ⊢
  have hf := fold_spec (over + T) (by omega)
  unfold ckg
  split
  · rename_i h
    have := h.2
    omega
  · omega
/-- the numbers of fours that come in. -/
def nw (src dst : Int) (i : Nat) : Int := [src / 65536, src % 65536, dst / 65536, dst % 65536].getD i 0
def sn (src dst : Int) : Nat → Int
  | 0 => 0
  | k + 1 => sn src dst k + nw src dst k
theorem sn8 (src dst : Int) : sn src dst 8 = src / 65536 + src % 65536 + dst / 65536 + dst % 65536 := by simp [sn, nw]
/-- the check that is swapped, and the one that comes. -/
theorem sums_meet (s d : List Int) (src dst k : Int) (n : Nat) (z D : List Int) (c : Int) (hs : Ok6 s) (hd : Ok6 d) (h1 : up 4294967295 src = true) (h2 : up 4294967295 dst = true) (hk : 0 ≤ k ∧ k ≤ 255) (hn : n ≤ 320) (ho : SM.Oct D) (hc : 0 ≤ c ∧ c ≤ 65535)
    (he : (c - (sck z (o6 s d k n) D + (sm s 8 + sm d 8) - sn src dst 8)) % 65535 = 0) :
    c = sck z (o4 src dst k n) D ∨ ((c = 0 ∨ c = 65535) ∧ (sck z (o4 src dst k n) D = 0 ∨ sck z (o4 src dst k n) D = 65535)) := by
  have g1 := o6_spec s d k n hs hd (by omega) (by omega)
  have g2 := o4_spec src dst k n (up_true h1) (up_true h2) (by omega) (by omega)
  have i6 := up_true (o6_in s d k n hs hd)
  have i4 := up_true (o4_in src dst k n)
  have e6 := sck_spec z (o6 s d k n) D ho i6.1
  have e4 := sck_spec z (o4 src dst k n) D ho i4.1
  have b4 := sck_in z (o4 src dst k n) D ho (o4_in src dst k n)
  rw [sn8] at he
  generalize sck z (o6 s d k n) D = C6 at *
  generalize sck z (o4 src dst k n) D = C4 at *
  generalize o6 s d k n = O6 at *
  generalize o4 src dst k n = O4 at *
  generalize SM.fold (SM.tot (ub z D) (ub z D).length) = T at *
  generalize sm s 8 + sm d 8 = S at *
  generalize src / 65536 + src % 65536 + dst / 65536 + dst % 65536 = F at *
  omega
end Go.Proofs.Ytfjnioninjllkaa
