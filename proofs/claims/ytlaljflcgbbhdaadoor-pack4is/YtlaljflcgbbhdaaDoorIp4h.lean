/- Package ip4: Decode, by contracts. -/
import Derived.Test.YtlaljflcgbbhdaaDoorIp4f
import Derived.Test.YtlaljflcgbbhdaaDoorIp4g
import Derived.Laws.ResultCell
namespace Go.Proofs.YtlaljflcgbbhdaaDoor
open Go.RowKit

theorem load_pk {B : Nat} {s d t k i : Int} {a : Option Addr} {len cap : Nat} {w : World} (h : PkIn B s d t k i a len cap w) : (loadVar 24 ⟨B, 0, none⟩).run Tryd.prog w = .ok (pk s d t k i a len cap) w :=
  run_loadVar_row w B 24 24 _ (0, 0) _ h Tryd.underlying24 rfl (by kernel_rfl)
theorem results_cr {fn : Func} {p u : Tmp} (h : fn.results = #[.cell p 24, .tmp u]) (tmps : Array Value) (w : World) (B : Nat) (s d t k i : Int) (a : Option Addr) (len cap : Nat)
    (hp : tmps.getD p undef = .pointer (some ⟨B, 0, none⟩)) (hg : PkIn B s d t k i a len cap w) :
    (results fn tmps).run Tryd.prog w = .ok (.tuple #[pk s d t k i a len cap, tmps.getD u undef]) w := by
  rw [results_cell_tmp h, hp]
  simp [asAddr, load_pk hg]
theorem Own.form {base : Nat} {w : World} {v : Value} {zs : List Int} (h : Own base w v zs) (hp : 0 < zs.length) : ∃ g cap, v = .slice (some ⟨g, 0, none⟩) zs.length cap ∧ zs.length ≤ cap ∧ cap ≤ maxLen ∧ base ≤ g ∧ g < w.heap.size ∧ Row8 w (some ⟨g, 0, none⟩) zs.length cap zs := by
  obtain ⟨a, cap0, hv, hrow, hlt⟩ := h.row8
  rcases h.2.2 with ⟨rfl, hn⟩ | ⟨g, cap, cur, rfl, hb', hg, h1, h2, rest⟩
  · omega
  · injection hv with e1 _ e3
    subst e1
    subst e3
    exact ⟨g, _, rfl, h1, h2, hb', (Array.getElem?_eq_some_iff.1 hg).1, hrow⟩
theorem num_src (zs : List Int) : num (zs.drop 12) 4 = P4.src zs := by
  simp only [num, P4.getD_drop, Nat.reduceAdd]
  unfold P4.src P4.wd
  simp only [Nat.reduceAdd]
  omega
theorem num_dst (zs : List Int) : num (zs.drop 16) 4 = P4.dst zs := by
  simp only [num, P4.getD_drop, Nat.reduceAdd]
  unfold P4.dst P4.wd
  simp only [Nat.reduceAdd]
  omega
theorem num_wd (zs : List Int) : num (zs.drop 4) 2 = P4.wd zs 4 := by
  simp only [num, P4.getD_drop, Nat.reduceAdd]
  unfold P4.wd
  simp only [Nat.reduceAdd]
  omega
theorem read_ok (g off len cap : Nat) (zs : List Int) (w : World) (hr : Row8 w (some ⟨g, off, none⟩) len cap zs) (h20 : 20 ≤ len) (h340 : len ≤ 340) (hcl : len ≤ cap) (hcm : cap ≤ maxLen) :
    Calls Tryd.prog 23 #[.slice (some ⟨g, off, none⟩) len cap] w fun e w' => ∃ a' c', e = .returned (pk (P4.src zs) (P4.dst zs) (zs.getD 8 0) (zs.getD 9 0) (P4.wd zs 4) a' (len - 20) c') ∧ Row8 w' a' (len - 20) c' (zs.drop 20) ∧ Own w.heap.size w' (.slice a' (len - 20) c') (zs.drop 20) ∧ Below w.heap.size w w' := by
  refine (read_raw g off len cap zs w hr h20 h340 hcl hcm).mono ?_
  rintro e w' ⟨v, rfl, ho, hb⟩
  rw [num_src, num_dst, num_wd]
  have hl : (zs.drop 20).length = len - 20 := by rw [List.length_drop, hr.1]
  obtain ⟨a', c', hv, hrow, _⟩ := ho.row8
  rw [hl] at hv hrow
  subst hv
  exact ⟨a', c', rfl, hrow, ho, hb⟩
theorem okp_read (zs : List Int) (ho : SM.Oct zs) (hl : zs.length ≤ 340) : Okp (P4.src zs) (P4.dst zs) (zs.getD 8 0) (zs.getD 9 0) (P4.wd zs 4) := by
  obtain ⟨h1, h2, h3, h4, h5, _⟩ := P4.okh_len zs ho hl
  exact ⟨h1, h2, h3, h4, h5⟩
theorem bys_enc (zs : List Int) (h : 20 ≤ zs.length) : bys (P4.src zs) (P4.dst zs) (zs.getD 8 0) (zs.getD 9 0) (P4.wd zs 4) (zs.drop 20) = P4.enc zs := by
  unfold bys P4.enc P4.ckz
  have e : (20 : Int) + ((zs.drop 20).length : Nat) = (zs.length : Int) := by rw [List.length_drop]; omega
  rw [e]

/-- no packet. -/
def pk0 : Value := pk 0 0 0 0 0 none 0 0
def err (k : Int) : Value := .iface 25 (.int .i64 k)
set_option maxHeartbeats 2000000 in
theorem decode_len (a : Option Addr) (len cap : Nat) (w : World) (h : len < 20 ∨ 340 < len) (hm : len ≤ maxLen) :
    Calls Tryd.prog 10 #[.slice a len cap] w fun e w' => e = .returned (.tuple #[pk0, err 5]) ∧ Below w.heap.size w w' := by
  unfold maxLen at hm
  have HB := hide (bx_below w 0 0 0 0 0 none 0 0)
  have HP := hide (pk_new w 0 0 0 0 0 none 0 0)
  unfold bx at HB
  rcases h with h | h
  · go_enter Tryd.func10, Tryd.ntmps10
    go_wp2
    try simp only [Exit.inBlock, Exit.then]
    refine bodyPost_ret (results_cr rfl _ _ w.heap.size 0 0 0 0 0 none 0 0 rfl HP.out) rfl ?_
    exact ⟨rfl, HB.out⟩
  · have h' : ¬ len < 20 := by omega
    go_enter Tryd.func10, Tryd.ntmps10
    go_wp2
    try simp only [Exit.inBlock, Exit.then]
    refine bodyPost_ret (results_cr rfl _ _ w.heap.size 0 0 0 0 0 none 0 0 rfl HP.out) rfl ?_
    exact ⟨rfl, HB.out⟩
end Go.Proofs.YtlaljflcgbbhdaaDoor
