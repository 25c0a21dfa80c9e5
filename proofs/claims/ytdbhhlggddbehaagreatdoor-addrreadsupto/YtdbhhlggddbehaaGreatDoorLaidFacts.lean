/- What the card's listed variables give the walks, and what the world's shape gives. -/
import Derived.Test.YtdbhhlggddbehaaGreatDoorRows
import Derived.Test.YtdbhhlggddbehaaGreatDoorFour
import Derived.Stop.LaidErr
import Derived.Lib.LaidTab
import Derived.Lay
import Derived.LaidSub
import Derived.LaidHandle
import Derived.MakeChecks
import Derived.Shelf.Vars
import Derived.LaidLaws
import Derived.Handed
namespace Go.Proofs.YtdbhhlggddbehaaGreatDoor
open Go.RowKit Go.Shelf

theorem pow_of {W : World} (h : laidMetH Tryz.prog Rows.addrReadsRow.laid W) : Pow10 W := by
  have h1 := h.filter (fun x => x.1 == (Rows.addrReadsRow.named.getD 1 ""))
  have e : (Rows.addrReadsRow.laid.filter fun x => x.1 == (Rows.addrReadsRow.named.getD 1 "")) = [((Rows.addrReadsRow.named.getD 1 ""), Lib.tabData .u64 Lib.pow10Tab)] := by kernel_rfl
  rw [e, MakeChecks.laidMetH_plain _ _ _ (by kernel_rfl)] at h1
  exact Lib.tabIs_of_head Tryz.powNamed (by kernel_rfl) Tryz.underlying129 Tryz.underlying79 (by kernel_rfl) (by kernel_rfl) h1
def deB : List Int := [0, 1, 56, 2, 57, 49, 28, 3, 61, 58, 42, 50, 38, 29, 17, 4, 62, 47, 59, 36, 45, 43, 51, 22, 53, 39, 33, 30, 24, 18, 12, 5, 63, 55, 48, 27, 60, 41, 37, 16, 46, 35, 44, 21, 52, 32, 23, 11, 54, 26, 40, 15, 34, 20, 31, 10, 25, 14, 19, 9, 13, 8, 7, 6]
theorem Tryz.gDeB : Tryz.prog.globalNamed (Rows.addrReadsRow.named.getD 3 "") = some 6 := by kernel_rfl
theorem tab_of {W : World} (h : laidMetH Tryz.prog Rows.addrReadsRow.laid W) : Tab4 W := by
  have h1 := h.filter (fun x => x.1 == (Rows.addrReadsRow.named.getD 3 ""))
  have e : (Rows.addrReadsRow.laid.filter fun x => x.1 == (Rows.addrReadsRow.named.getD 3 "")) = [((Rows.addrReadsRow.named.getD 3 ""), Lib.tabData .u8 deB)] := by kernel_rfl
  rw [e, MakeChecks.laidMetH_plain _ _ _ (by kernel_rfl)] at h1
  have ht := Lib.tabIs_of_head Tryz.gDeB (by kernel_rfl) Tryz.underlying148 Tryz.underlying5 (by kernel_rfl) (by kernel_rfl) h1
  exact Lib.TabIs.cell ht Tryz.gDeB 15 (by decide)
theorem star : "*" ++ "errors.errorString" = "*errors.errorString" := by decide
theorem Tryz.rowErr (u : TypeId) (h : Tryz.prog.typeName? 3 u = some "*errors.errorString") : u = 144 :=
  typeName_ptr_named (nm := "errors.errorString") (by rw [star]; kernel_rfl) (by kernel_rfl) (by decide) u (by rw [star]; exact h)
theorem Tryz.gES : Tryz.prog.globalNamed (Rows.addrReadsRow.named.getD 7 "") = some 3 := by kernel_rfl
theorem sent_ES {W : World} (h : laidMetH Tryz.prog Rows.addrReadsRow.laid W) : ∃ t p, W.cell? ⟨3, 0, none⟩ = some (.iface t p) := by
  have h1 := h.filter (fun x => x.1 == (Rows.addrReadsRow.named.getD 7 ""))
  have e : (Rows.addrReadsRow.laid.filter fun x => x.1 == (Rows.addrReadsRow.named.getD 7 "")) = [((Rows.addrReadsRow.named.getD 7 ""), .iface "*errors.errorString" (.ptr (.agg [.lit (.string [105, 110, 118, 97, 108, 105, 100, 32, 115, 121, 110, 116, 97, 120])])))] := by kernel_rfl
  rw [e, MakeChecks.laidMetH_plain _ _ _ (by kernel_rfl)] at h1
  obtain ⟨a0, s0, hv0, -, -, -⟩ := laid_sentinel h1 Tryz.gES (by kernel_rfl) Tryz.underlying31 Tryz.rowErr Tryz.underlying144 Tryz.underlying146 rfl rfl Tryz.underlying9 (by kernel_rfl) (by kernel_rfl)
  exact ⟨_, _, by have h0 := World.var?_cell Tryz.gES hv0 0; simpa using h0⟩
theorem Tryz.gER : Tryz.prog.globalNamed (Rows.addrReadsRow.named.getD 8 "") = some 4 := by kernel_rfl
theorem sent_ER {W : World} (h : laidMetH Tryz.prog Rows.addrReadsRow.laid W) : ∃ t p, W.cell? ⟨4, 0, none⟩ = some (.iface t p) := by
  have h1 := h.filter (fun x => x.1 == (Rows.addrReadsRow.named.getD 8 ""))
  have e : (Rows.addrReadsRow.laid.filter fun x => x.1 == (Rows.addrReadsRow.named.getD 8 "")) = [((Rows.addrReadsRow.named.getD 8 ""), .iface "*errors.errorString" (.ptr (.agg [.lit (.string [118, 97, 108, 117, 101, 32, 111, 117, 116, 32, 111, 102, 32, 114, 97, 110, 103, 101])])))] := by kernel_rfl
  rw [e, MakeChecks.laidMetH_plain _ _ _ (by kernel_rfl)] at h1
  obtain ⟨a0, s0, hv0, -, -, -⟩ := laid_sentinel h1 Tryz.gER (by kernel_rfl) Tryz.underlying31 Tryz.rowErr Tryz.underlying144 Tryz.underlying146 rfl rfl Tryz.underlying9 (by kernel_rfl) (by kernel_rfl)
  exact ⟨_, _, by have h0 := World.var?_cell Tryz.gER hv0 0; simpa using h0⟩

theorem maxl_of {W : World} (h : W.ShapedOpen Tryz.prog) : MaxL W :=
  cell_of_shapedOpen_int h (g := 2) (t := 3) (zero := #[.int .i64 0]) (of_decide_eq_true (by kernel_rfl)) (by kernel_rfl) rfl (by kernel_rfl) (by kernel_rfl) Tryz.underlying3
theorem laidA_of {W : World} (h : laidMetH Tryz.prog Rows.addrReadsRow.laid W) (hs : W.ShapedOpen Tryz.prog) : LaidA W :=
  ⟨tab_of h, ⟨sent_ES h, sent_ER h⟩, maxl_of hs⟩

set_option maxRecDepth 100000 in
/-- an argument that is an address. -/
theorem six_open {W : World} {base : Nat} {v : Value} (h : Value.okWide Tryz.prog W .any base 23 v) : ∃ z : List Int, z.length = 8 ∧ v = six z := by
  have hu := Tryz.underlying23
  unfold Value.okWide at h
  rw [hu] at h
  obtain ⟨cs, rfl, hsz, ts, hts, _, hc⟩ := h
  have h8 : Tryz.prog.cellsOf 23 = 8 := by kernel_rfl
  have ht8 : Tryz.prog.cellTypes Tryz.prog.depth 23 = some (List.replicate 8 3) := by kernel_rfl
  rw [h8] at hsz
  obtain rfl := Option.some.inj (hts.symm.trans ht8)
  have hi : ∀ i, i < 8 → ∃ n : Int, cs[i]? = some (.int .i64 n) := by
    intro i hi
    have hcs : cs[i]? = some (cs[i]'(by omega)) := Array.getElem?_eq_getElem (by omega)
    obtain ⟨u, hu, hok⟩ := hc i _ hcs
    have hu3 : u = 3 := by
      rw [List.length_replicate, Nat.mod_eq_of_lt hi, List.getElem?_replicate, if_pos hi] at hu
      exact (Option.some.inj hu).symm
    subst hu3
    have hw : Value.okWide Tryz.prog W .any base 3 (cs[i]'(by omega)) := by
      unfold Value.okWide
      rw [Tryz.underlying3]
      exact hok
    obtain ⟨n, hn⟩ := WideShapes.okWide_int Tryz.underlying3 hw
    exact ⟨n, by rw [hcs, hn]⟩
  obtain ⟨a0, e0⟩ := hi 0 (by omega); obtain ⟨a1, e1⟩ := hi 1 (by omega); obtain ⟨a2, e2⟩ := hi 2 (by omega); obtain ⟨a3, e3⟩ := hi 3 (by omega)
  obtain ⟨a4, e4⟩ := hi 4 (by omega); obtain ⟨a5, e5⟩ := hi 5 (by omega); obtain ⟨a6, e6⟩ := hi 6 (by omega); obtain ⟨a7, e7⟩ := hi 7 (by omega)
  refine ⟨[a0, a1, a2, a3, a4, a5, a6, a7], rfl, ?_⟩
  show Value.agg cs = Value.agg #[.int .i64 a0, .int .i64 a1, .int .i64 a2, .int .i64 a3, .int .i64 a4, .int .i64 a5, .int .i64 a6, .int .i64 a7]
  congr 1
  apply Array.ext_getElem?
  intro i
  by_cases h : i < 8
  · rcases (by omega : i = 0 ∨ i = 1 ∨ i = 2 ∨ i = 3 ∨ i = 4 ∨ i = 5 ∨ i = 6 ∨ i = 7) with rfl | rfl | rfl | rfl | rfl | rfl | rfl | rfl
    · rw [e0]; rfl
    · rw [e1]; rfl
    · rw [e2]; rfl
    · rw [e3]; rfl
    · rw [e4]; rfl
    · rw [e5]; rfl
    · rw [e6]; rfl
    · rw [e7]; rfl
  · rw [Array.getElem?_eq_none (by omega), Array.getElem?_eq_none (by simp; omega)]
end Go.Proofs.YtdbhhlggddbehaaGreatDoor
