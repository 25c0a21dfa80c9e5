/- The document's own Packed6, by a contract. -/
import Derived.Test.YtkhahbghmdccaaaGreatU06
import Derived.Test.YtkhahbghmdccaaaGreatU31
import Derived.Below
import Derived.OpenShut
import Derived.Test.YtkhahbghmdccaaaGreatProg
import Derived.WalkKit
import Derived.LaidEql
import Derived.BigQuiet
import Derived.Laws.AppendOwnNone
import Derived.Laws.MakeOwn
import Derived.Deep.RegionLaw
import Derived.Lib.Bytes
import Derived.Deep.MidRow
import Derived.Laws.ResultCell
import Derived.Deep.CutBlock
import Derived.Deep.QuietTactic
import Derived.OwnWalk
import Derived.Deep.RegionHeld3
import Derived.Deep.DrawnRows
namespace Go.Proofs.YtkhahbghmdccaaaGreat
open Go.RowKit
/-- what is handed in, and the packet that is handed out, in their blocks. -/
def K6 (w : World) (z : List Int) (a : Option Addr) (len cap : Nat) (x y : List Int) (W : World) : Prop := SgIn w.heap.size z a len cap W ∧ SixIn (w.heap.size + 1) x W ∧ SixIn (w.heap.size + 1 + 1) y W ∧ V6.PkIn (w.heap.size + 1 + 1 + 1) [] [] 0 0 none 0 0 W ∧ Below w.heap.size w W
theorem K6.kept {w : World} {z : List Int} {a : Option Addr} {len cap : Nat} {x y : List Int} {W W' : World} (h : K6 w z a len cap x y W) (hb : Below W.heap.size W W') : K6 w z a len cap x y W' := ⟨h.1.kept hb, h.2.1.kept hb, h.2.2.1.kept hb, h.2.2.2.1.kept hb, bt h.2.2.2.2 hb⟩
theorem K6.start (w : World) (z : List Int) (a : Option Addr) (len cap : Nat) (x y : List Int) : K6 w z a len cap x y ((((w.alloc (.cells (sgC z a len cap) 30)).alloc (.cells (sixC x) 23)).alloc (.cells (sixC y) 23)).alloc (.cells V6.zero6 53)) := by
  have s1 : (w.alloc (.cells (sgC z a len cap) 30)).heap.size = w.heap.size + 1 := World.size_alloc _ _
  have b1 : Below w.heap.size w (w.alloc (.cells (sgC z a len cap) 30)) := al_below w _
  have p1 := sg_new w z a len cap
  generalize w.alloc (.cells (sgC z a len cap) 30) = w1 at s1 b1 p1 ⊢
  have s2 : (w1.alloc (.cells (sixC x) 23)).heap.size = w.heap.size + 1 + 1 := by rw [World.size_alloc, s1]
  have b2 : Below w1.heap.size w1 (w1.alloc (.cells (sixC x) 23)) := al_below w1 _
  have p2 : SixIn w1.heap.size x (w1.alloc (.cells (sixC x) 23)) := six_new x w1
  rw [s1] at p2
  generalize w1.alloc (.cells (sixC x) 23) = w2 at s2 b2 p2 ⊢
  have s3 : (w2.alloc (.cells (sixC y) 23)).heap.size = w.heap.size + 1 + 1 + 1 := by rw [World.size_alloc, s2]
  have b3 : Below w2.heap.size w2 (w2.alloc (.cells (sixC y) 23)) := al_below w2 _
  have p3 : SixIn w2.heap.size y (w2.alloc (.cells (sixC y) 23)) := six_new y w2
  rw [s2] at p3
  generalize w2.alloc (.cells (sixC y) 23) = w3 at s3 b3 p3 ⊢
  have b4 : Below w3.heap.size w3 (w3.alloc (.cells V6.zero6 53)) := al_below w3 _
  have p4 := V6.zero_new w3
  rw [s3] at p4
  exact ⟨((p1.kept b2).kept b3).kept b4, (p2.kept b3).kept b4, p3.kept b4, p4, bt (bt (bt b1 b2) b3) b4⟩
/-- what the walk asks of the world at a load. -/
def Ld (b : Nat) (z : List Int) (a : Option Addr) (len cap : Nat) (x y : List Int) (W : World) : Prop :=
  W.cell? ⟨b, 0, none⟩ = some (.int .i64 (el z 0)) ∧ (gload (.pointer (some ⟨b, 0, none⟩))).run Tryz.prog W = .ok (.agg (sgC z a len cap)) W ∧
  (hload (.pointer (some ⟨b + 1, 0, none⟩))).run Tryz.prog W = .ok (.agg #[.int .i64 (el x 0), .int .i64 (el x 1), .int .i64 (el x 2), .int .i64 (el x 3), .int .i64 (el x 4), .int .i64 (el x 5), .int .i64 (el x 6), .int .i64 (el x 7)]) W ∧
  (hload (.pointer (some ⟨b + 1 + 1, 0, none⟩))).run Tryz.prog W = .ok (.agg #[.int .i64 (el y 0), .int .i64 (el y 1), .int .i64 (el y 2), .int .i64 (el y 3), .int .i64 (el y 4), .int .i64 (el y 5), .int .i64 (el y 6), .int .i64 (el y 7)]) W
theorem ld_of {b : Nat} {z : List Int} {a : Option Addr} {len cap : Nat} {x y : List Int} {W : World} (h1 : SgIn b z a len cap W) (h2 : SixIn (b + 1) x W) (h3 : SixIn (b + 1 + 1) y W) : Ld b z a len cap x y W := ⟨h1.c0, h1.gl, h2.hl, h3.hl⟩
attribute [local go_sem ↓] gload_shut hload_shut V6.hstore_shut Go.wp_at_zero Go.wp_at_succ
set_option maxRecDepth 100000 in
set_option maxHeartbeats 8000000 in
theorem packed6_any (z : List Int) (a : Option Addr) (len cap : Nat) (data : List Int) (x y : List Int) (hop : Int) (w : World) (h : Okg z len) (hr : Row8 w a len cap data) (h1 : Ok6 x) (h2 : Ok6 y) (N : Nat) (hN : hn (el z 0) + len = N) (hN2 : N ≤ 320) :
    Calls Tryz.prog 28 #[.agg (sgC z a len cap), .agg (sixC x), .agg (sixC y), .int .i64 hop] w fun e w' => ∃ a1 c1, e = .returned (V6.pk x y hop (el z 0) a1 N c1) ∧ Row8 w' a1 N c1 (eb z (o6 x y (el z 0) N) data) ∧ Below w.heap.size w w' := by
  have HV := hide (K6.start w z a len cap x y)
  have hk : up 255 (el z 0) = true := by rcases (kn_iff _).1 (okg_kn h) with e | e <;> rw [e] <;> rfl
  have HZ := hide (fun W (hb : Below w.heap.size w W) => size_any z a len cap data W h (hr.below hb) N hN)
  have HO := hide (fun W => rover6_ok x y (el z 0) N W h1 h2 hk (decide_eq_true (by omega)))
  have hi := o6_in x y (el z 0) N h1 h2
  have hlen := hr.1
  generalize o6 x y (el z 0) N = O at HO hi ⊢
  have HC := hide (fun W (hb : Below w.heap.size w W) => rcheck_any z a len cap O data W h hi (hr.below hb))
  have HY := hide (fun W (hb : Below w.heap.size w W) => rbytes_any z a len cap (sck z O data) data W h (sck_in z O data hr.2.2.1 hi) (hr.below hb))
  rw [sbx_eb z O data (by rw [hlen]; exact h)] at HY
  have HL := hide (show (eb z O data).length = N by rw [eb_len, hlen]; exact hN)
  generalize eb z O data = E at HY HL ⊢
  generalize sck z O data = C at HC HY
  unfold V6.zero6 at HV
  unfold sixC at HO
  clear h hr h1 h2 hN hk hi hlen
  go_enter Tryz.func28, Tryz.ntmps28
  go_upto_region 1 with fail
  generalize (World.alloc (World.alloc (World.alloc _ _) _) _).alloc _ = W0 at HV ⊢
  replace HV := hide (HV.out.kept (Below.refl _ _).drew)
  obtain ⟨l0, lg, lx, ly⟩ := ld_of HV.out.1 HV.out.2.1 HV.out.2.2.1
  go_region_held3 (fun w' => w'.cell? ⟨w.heap.size, 0, none⟩ = some (.int .i64 (el z 0)) ∧ (gload (.pointer (some ⟨w.heap.size, 0, none⟩))).run Tryz.prog w' = .ok (.agg (sgC z a len cap)) w' ∧
      (hload (.pointer (some ⟨w.heap.size + 1, 0, none⟩))).run Tryz.prog w' = .ok (.agg #[.int .i64 (el x 0), .int .i64 (el x 1), .int .i64 (el x 2), .int .i64 (el x 3), .int .i64 (el x 4), .int .i64 (el x 5), .int .i64 (el x 6), .int .i64 (el x 7)]) w' ∧
      (hload (.pointer (some ⟨w.heap.size + 1 + 1, 0, none⟩))).run Tryz.prog w' = .ok (.agg #[.int .i64 (el y 0), .int .i64 (el y 1), .int .i64 (el y 2), .int .i64 (el y 3), .int .i64 (el y 4), .int .i64 (el y 5), .int .i64 (el y 6), .int .i64 (el y 7)]) w')
    (first
      | go_keep
      | exact ld_of HV.out.1 HV.out.2.1 HV.out.2.2.1)
    (first
      | (go_at_call 72; refine (HZ.out _ HV.out.2.2.2.2).mono ?_; rintro e w1 ⟨rfl, hb1⟩; replace HV := hide (HV.out.kept hb1); clear hb1 l0 lg lx ly; obtain ⟨l0, lg, lx, ly⟩ := ld_of HV.out.1 HV.out.2.1 HV.out.2.2.1)
      | (go_at_call 77; refine (HO.out _).mono ?_; rintro e w2 ⟨rfl, hb2⟩; replace HV := hide (HV.out.kept hb2); clear hb2 l0 lg lx ly; obtain ⟨l0, lg, lx, ly⟩ := ld_of HV.out.1 HV.out.2.1 HV.out.2.2.1))
  clear l0 lg lx ly
  go_upto_region 2 with fail
  replace HV := hide (HV.out.kept (Below.refl _ _).drew)
  obtain ⟨l0, lg, lx, ly⟩ := ld_of HV.out.1 HV.out.2.1 HV.out.2.2.1
  go_region_held3 (fun w' => w'.cell? ⟨w.heap.size, 0, none⟩ = some (.int .i64 (el z 0)) ∧ (gload (.pointer (some ⟨w.heap.size, 0, none⟩))).run Tryz.prog w' = .ok (.agg (sgC z a len cap)) w' ∧
      (hload (.pointer (some ⟨w.heap.size + 1, 0, none⟩))).run Tryz.prog w' = .ok (.agg #[.int .i64 (el x 0), .int .i64 (el x 1), .int .i64 (el x 2), .int .i64 (el x 3), .int .i64 (el x 4), .int .i64 (el x 5), .int .i64 (el x 6), .int .i64 (el x 7)]) w' ∧
      (hload (.pointer (some ⟨w.heap.size + 1 + 1, 0, none⟩))).run Tryz.prog w' = .ok (.agg #[.int .i64 (el y 0), .int .i64 (el y 1), .int .i64 (el y 2), .int .i64 (el y 3), .int .i64 (el y 4), .int .i64 (el y 5), .int .i64 (el y 6), .int .i64 (el y 7)]) w')
    (first
      | go_keep
      | exact ld_of HV.out.1 HV.out.2.1 HV.out.2.2.1
      | exact HS5.out)
    (first
      | (go_at_call 74; refine (HC.out _ HV.out.2.2.2.2).mono ?_; rintro e w3 ⟨rfl, hb3⟩; replace HV := hide (HV.out.kept hb3); clear hb3 l0 lg lx ly; obtain ⟨l0, lg, lx, ly⟩ := ld_of HV.out.1 HV.out.2.1 HV.out.2.2.1)
      | (go_at_call 73; refine (HY.out _ HV.out.2.2.2.2).mono ?_; rintro e w4 ⟨v4, rfl, own4, hb4⟩; obtain ⟨a4, c4, hv4, hr4, -⟩ := own4.row8; rw [HL.out] at hv4 hr4; subst hv4; replace HV := hide (HV.out.kept hb4); obtain ⟨w5, hst, p5, on5⟩ := HV.out.2.2.2.1.held x y hop (el z 0) a4 N c4; unfold V6.pkC at hst; replace hr4 := hide (Row8.pastx on5 HV.out.2.2.2.1.no8 hr4); replace p5 := hide p5; have HS5 := hide (ld_of (on5.sg HV.out.1 (by omega)) (on5.six HV.out.2.1 (by omega)) (on5.six HV.out.2.2.1 (by omega))); have HB := hide (on5.below HV.out.2.2.2.2 (by omega)); clear on5 hb4 own4 l0 lg lx ly; obtain ⟨l0, lg, lx, ly⟩ := ld_of HV.out.1 HV.out.2.1 HV.out.2.2.1))
  go_wp2_with fail
  try simp only [Exit.inBlock, Exit.then]
  refine bodyPost_ret (V6.pk_result rfl _ _ (w.heap.size + 1 + 1 + 1) x y hop (el z 0) a4 N c4 rfl p5.out) rfl ?_
  exact ⟨a4, c4, rfl, hr4.out, HB.out⟩
end Go.Proofs.YtkhahbghmdccaaaGreat
