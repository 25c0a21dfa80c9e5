/- The walk of the statement ShiftPlays: whatever the head, the segments and which way they go, the Go text returns true and writes nothing that was there. -/
import Derived.Test.YtbbbcfihnjidaaaDoorShR3
import Derived.Test.YtbbbcfihnjidaaaDoorShO
import Derived.Test.YtbbbcfihnjidaaaDoorShTl
namespace Go.Proofs.YtbbbcfihnjidaaaDoor
open Go.ChangeShapes Go.WideShapes Go.Deep Go.RowKit

/-- a row of bools. -/
def Br (a : Option Addr) (n : Nat) (w : World) : Prop := 0 < n → ∃ g off, a = some ⟨g, off, none⟩ ∧ ∀ k, k < n → ∃ x : Bool, w.cell? ⟨g, off + k, none⟩ = some (.bool x)
theorem bools_open {H : Type} {enc : TypeId × Value → H} {W : World} {base : Nat} {held : Bool} {b0 : Nat} {v : Value} {x : DataW H} {p : List MemPlace} (h : Value.okWide Tryd.prog W .any b0 24 v) (ht : DataW.Trod enc Tryd.prog W base (fun _ => true) held 24 v x p) :
    ∃ a len cap, v = .slice a len cap ∧ len ≤ maxLen ∧ Br a len W := by
  obtain ⟨a, len, cap, rfl⟩ := okWide_slice Tryd.underlying24 h
  obtain ⟨fuel, hf⟩ := ht
  rcases open_slice Tryd.underlying24 hf with ⟨hcs, _⟩ | ⟨a', len', cap', m, n, D, Pl, hcs, hb, hl, hm, hmm, _, hx⟩
  · simp [Value.cells] at hcs
    obtain ⟨rfl, rfl, rfl⟩ := hcs
    exact ⟨none, 0, 0, rfl, Nat.zero_le _, fun h => absurd h (by simp)⟩
  · simp [Value.cells] at hcs
    obtain ⟨rfl, rfl, rfl⟩ := hcs
    have c1 : Tryd.prog.cellsOf 4 = 1 := by kernel_rfl
    rw [c1] at hx
    have hlm : len ≤ m := by rw [hmm]; split <;> omega
    have key : ∀ k, k < len → ∃ x : Bool, W.cell? (a'.add k) = some (.bool x) := fun k hk => by
      obtain ⟨cs', h1, h2⟩ := hx k (by omega)
      obtain ⟨x, rfl, _⟩ := DataW.trod_bool Tryd.underlying4 h2
      obtain ⟨_, _, hcell⟩ := World.cells?_some h1
      have := hcell 0 (by omega)
      rw [add_add, Nat.mul_one, Nat.add_zero] at this
      exact ⟨x, by rw [this]; rfl⟩
    refine ⟨some a', len, cap, rfl, by omega, fun hp => ?_⟩
    obtain ⟨b, off, spot⟩ := a'
    have hspot : spot = none := by
      obtain ⟨x, hx⟩ := key 0 hp
      simpa [Addr.add] using World.cell?_spot hx
    subst hspot
    refine ⟨b, off, rfl, fun k hk => ?_⟩
    obtain ⟨x, hx⟩ := key k hk
    rw [add_pl] at hx
    exact ⟨x, hx⟩
/-- what lasts of a stream. -/
def Inv (s : Int) (b h : Bool) : Prop := (0 ≤ s ∧ s < 4294967296) ∧ (h = true → b = true)
theorem upo_inv (hd : List Int) (s : Int) (b h : Bool) (z zs : List Int) (i : Inv s b h) : Inv (upo hd s b h z zs).2.2.2.1 (upo hd s b h z zs).2.2.2.2.1 (upo hd s b h z zs).2.2.2.2.2 := by
  unfold upo
  split
  · exact i
  · split
    · unfold bgo
      split
      · exact i
      · exact ⟨md_in _, fun _ => rfl⟩
    · split
      · exact i
      · split
        · unfold fio
          split <;> exact i
        · exact i
theorem dno_inv (s : Int) (b h : Bool) (z zs : List Int) (i : Inv s b h) : Inv (dno s b h z zs).2.2.2.1 (dno s b h z zs).2.2.2.2.1 (dno s b h z zs).2.2.2.2.2 := by
  unfold dno
  split
  · exact i
  · split
    · exact i
    · rename_i hb
      have hb' : b = true := by simpa using hb
      split
      · exact i
      · split
        · exact i
        · exact ⟨i.1, fun _ => hb'⟩
/-- both streams, the program's and the document's own. -/
def PV (w : World) (B C : Nat) (hd : List Int) (s : Int) (b h : Bool) (W : World) : Prop :=
  ST 46 B hd s b h W ∧ ST 34 C hd s b h W ∧ (C ≠ B ∧ w.heap.size ≤ B ∧ w.heap.size ≤ C) ∧ Below w.heap.size w W ∧ Inv s b h
theorem PV.kept {w : World} {B C : Nat} {hd : List Int} {s : Int} {b h : Bool} {W W' : World} (t : PV w B C hd s b h W) (hb : Below W.heap.size W W') : PV w B C hd s b h W' := ⟨t.1.kept hb, t.2.1.kept hb, t.2.2.1, bt t.2.2.2.1 hb, t.2.2.2.2⟩
/-- the one behind, the other one still ahead of a step. -/
def PW (w : World) (B C : Nat) (hd : List Int) (s : Int) (b h : Bool) (s' : Int) (b' h' : Bool) (W : World) : Prop :=
  ST 46 B hd s b h W ∧ ST 34 C hd s' b' h' W ∧ (C ≠ B ∧ w.heap.size ≤ B ∧ w.heap.size ≤ C) ∧ Below w.heap.size w W
theorem PV.step {w : World} {B C : Nat} {hd : List Int} {s : Int} {b h : Bool} {W W' : World} (t : PV w B C hd s b h W) (u : Bu C W W') {s' : Int} {b' h' : Bool} (p : ST 34 C hd s' b' h' W') : PW w B C hd s b h s' b' h' W' :=
  ⟨t.2.1.other u t.1 (Ne.symm t.2.2.1.1), p, t.2.2.1, u.below t.2.2.2.1 t.2.2.1.2.2 (Nat.le_refl _)⟩
theorem PW.step {w : World} {B C : Nat} {hd : List Int} {s : Int} {b h : Bool} {s' : Int} {b' h' : Bool} {W W' : World} (t : PW w B C hd s b h s' b' h' W) (u : Bu B W W') (p : ST 46 B hd s' b' h' W') (i : Inv s' b' h') : PV w B C hd s' b' h' W' :=
  ⟨p, t.1.other u t.2.1 t.2.2.1.1, t.2.2.1, u.below t.2.2.2 t.2.2.1.2.1 (Nat.le_refl _), i⟩
theorem ST.ne {T : TypeId} {B : Nat} {hd : List Int} {s : Int} {b h : Bool} {w : World} (p : ST T B hd s b h w) {D : Nat} {z : List Int} {x : Option Addr} {l k : Nat} (q : SgIn D z x l k w) : B ≠ D := by
  rintro rfl
  obtain ⟨_, _, _, p, _⟩ := p
  unfold StB stC at p
  unfold SgIn sgC at q
  rw [p] at q
  injection q with q
  injection q with q
  injection q with q
  injection q with q
  cases q
theorem PW.only {w : World} {B C : Nat} {hd : List Int} {s : Int} {b h : Bool} {s' : Int} {b' h' : Bool} {W W' : World} (t : PW w B C hd s b h s' b' h' W) {D : Nat} {z : List Int} {x : Option Addr} {l k : Nat} (q : SgIn D z x l k W) (on : Only D W W') (hD : w.heap.size ≤ D) : PW w B C hd s b h s' b' h' W' :=
  ⟨t.1.only q on (t.1.ne q), t.2.1.only q on (t.2.1.ne q), t.2.2.1, on.below t.2.2.2 hD⟩
theorem PV.only {w : World} {B C : Nat} {hd : List Int} {s : Int} {b h : Bool} {W W' : World} (t : PV w B C hd s b h W) {D : Nat} {z : List Int} {x : Option Addr} {l k : Nat} (q : SgIn D z x l k W) (on : Only D W W') (hD : w.heap.size ≤ D) : PV w B C hd s b h W' :=
  ⟨t.1.only q on (t.1.ne q), t.2.1.only q on (t.2.1.ne q), t.2.2.1, on.below t.2.2.2.1 hD, t.2.2.2.2⟩
/-- what both have made of a segment. -/
def PX (w : World) (B C : Nat) (hd : List Int) (o : Int × List Int × List Int × Int × Bool × Bool) (D E : Nat) (W : World) : Prop :=
  PV w B C hd o.2.2.2.1 o.2.2.2.2.1 o.2.2.2.2.2 W ∧ ∃ a1 l1 c1 a2 l2 c2, SgIn D o.2.1 a1 l1 c1 W ∧ SgIn E o.2.1 a2 l2 c2 W ∧ Row8 W a1 l1 c1 o.2.2.1 ∧ Row8 W a2 l2 c2 o.2.2.1
theorem zero_at (w : World) : SgIn w.heap.size [] none 0 0 (w.alloc (.cells #[.int .i64 0, .int .i64 0, .int .i64 0, .int .i64 0, .int .i64 0, .int .i64 0, .int .i64 0, .slice none 0 0] 36)) := zero_new w
attribute [local go_sem ↓] gload_shut
set_option maxRecDepth 100000 in
set_option maxHeartbeats 16000000 in
theorem plays_walk (a : Option Addr) (len cap : Nat) (hd : List Int) (b : Option Addr) (lb cb : Nat) (d : Option Addr) (ld cd : Nat) (w : World) (hg : Laid0 w) (hr : Row8 w a len cap hd) (hb : Sgs b lb w) (hlb : lb ≤ maxLen) (hdn : Br d ld w) (hld : ld ≤ maxLen) :
    Calls Tryd.prog 3 #[.slice a len cap, .slice b lb cb, .slice d ld cd] w fun e w' => e = .returned (.bool true) ∧ Below w.heap.size w w' := by
  unfold maxLen at hlb hld
  have hmx := hr.2.1
  unfold maxLen at hmx
  have HG := hide (fun W (h : Below w.heap.size w W) => hg.below h)
  have HR := hide (fun W (h : Below w.heap.size w W) => hr.below h)
  have HS := hide hb
  have HD := hide hdn
  by_cases hl : 100 < len
  · have HN := hide (fun W => new_bad a len cap W hl (by unfold maxLen; omega))
    have HT := hide (fun W (h : Below w.heap.size w W) => tells_err 3 W (HG.out W h))
    unfold err at HN HT
    clear hg hr hb hdn
    go_enter Tryd.func3, Tryd.ntmps3
    go_wp2_with (first
      | (go_at_call 4; refine (HN.out _).mono ?_; rintro e w6 ⟨rfl, hw6⟩; rw [hw6]; clear hw6 w6)
      | (go_at_call 5; refine (HT.out _ (Below.refl _ _)).mono ?_; rintro r w7 ⟨rfl, hb7⟩; replace hb7 := hide hb7))
    go_ret
    exact ⟨rfl, hb7.out⟩
  have HN := hide (new_ok a len cap hd w (by omega) hr)
  clear hg hr hb hdn
  go_enter Tryd.func3, Tryd.ntmps3
  go_upto_region 6 with (go_at_call 4; refine HN.out.mono ?_; rintro e w1 ⟨B, rfl, st1, hB, hb1⟩; replace st1 := hide st1; replace hB := hide hB; replace hb1 := hide hb1)
  go_upto_region 7 with fail
  have HV0 := hide (show PV w B w1.heap.size hd 0 false false (w1.alloc (.cells #[.slice a len cap, .int .i64 0, .bool false, .bool false] 34)) from
    ⟨st1.out.kept (al_below _ _), ⟨a, len, cap, heap_alloc_new w1 _, (HR.out _ hb1.out).below (al_below _ _), by omega⟩, ⟨by have := st1.out.lt; omega, hB.out, hb1.out.size⟩, bt hb1.out (al_below _ _), ⟨by decide, fun h => by cases h⟩⟩)
  generalize w1.alloc _ = W1 at HV0 ⊢
  generalize w1.heap.size = C at HV0 ⊢
  clear st1 hB hb1 HN HR hl hmx
  go_wp2
  go_loopw [10] (fun i wr => ∃ (m : Nat) (s : Int) (b h : Bool), m ≤ 40 ∧ i = .int .i64 m ∧ Hid (PV w B C hd s b h wr)) (fun i _ => 40 - (intOf i).toNat)
  case atStart => exact ⟨0, 0, false, false, by omega, rfl, HV0⟩
  case round =>
    obtain ⟨m, s, bg, h, hm, rfl, HV⟩ := hrel
    clear HV0
    by_cases hlt : m < lb
    case neg =>
      have j1 : ¬ (m : Int) < (lb : Int) := by omega
      go_wp2
      go_ret
      exact ⟨rfl, HV.out.2.2.2.1⟩
    by_cases h40 : m < 40
    case neg =>
      have j1 : (m : Int) < (lb : Int) := by omega
      have j2 : ¬ (m : Int) < 40 := by omega
      go_wp2
      go_ret
      exact ⟨rfl, HV.out.2.2.2.1⟩
    obtain ⟨g, off, rfl, hx⟩ := HS.out (by omega)
    obtain ⟨z, x, l, c, zs, hrg, hrow⟩ := hx m hlt
    have HGg := hide (fun W (hb : Below w.heap.size w W) => rng_below hrg hb)
    have HZ := hide (fun W (hb : Below w.heap.size w W) => hrow.below hb)
    have j1 : (m : Int) < (lb : Int) := by omega
    clear hx hrg hrow
    go_upto_region 13 with fail
    have b2 := bt (al_below wr (.cells #[.int .i64 0, .int .i64 0, .int .i64 0, .int .i64 0, .int .i64 0, .int .i64 0, .int .i64 0, .slice none 0 0] 36)) (al_below _ (.cells #[.int .i64 0, .int .i64 0, .int .i64 0, .int .i64 0, .int .i64 0, .int .i64 0, .int .i64 0, .slice none 0 0] 36))
    have pD := hide ((zero_at wr).kept (al_below _ (.cells #[.int .i64 0, .int .i64 0, .int .i64 0, .int .i64 0, .int .i64 0, .int .i64 0, .int .i64 0, .slice none 0 0] 36)))
    have pE := zero_at (wr.alloc (.cells #[.int .i64 0, .int .i64 0, .int .i64 0, .int .i64 0, .int .i64 0, .int .i64 0, .int .i64 0, .slice none 0 0] 36))
    rw [World.size_alloc] at pE
    replace pE := hide pE
    have hD := hide HV.out.2.2.2.1.size
    replace HV := hide (HV.out.kept b2)
    clear b2
    generalize (wr.alloc _).alloc _ = W2 at HV pD pE ⊢
    generalize wr.heap.size = D at pD pE hD ⊢
    go_cut [51] from 32 to 117 (fun u wx => (∃ dv : Bool, u = .bool dv) ∧ Hid (PV w B C hd s bg h wx) ∧ Hid (SgIn D [] none 0 0 wx) ∧ Hid (SgIn (D + 1) [] none 0 0 wx))
    case first =>
      by_cases hdl : m < ld
      · obtain ⟨g2, o2, rfl, hx2⟩ := HD.out (by omega)
        obtain ⟨dv, hn⟩ := hx2 m hdl
        have k2 := (HV.out.2.2.2.1.cell (p := ⟨g2, o2 + m, none⟩) (cell_lt hn)).trans hn
        have j3 : (m : Int) < (ld : Int) := by omega
        clear hx2 hn
        go_wp2
        go_meet
        exact ⟨⟨dv, rfl⟩, HV, pD, pE⟩
      · have j3 : ¬ (m : Int) < (ld : Int) := by omega
        go_wp2
        go_meet
        exact ⟨⟨false, rfl⟩, HV, pD, pE⟩
    case rest =>
      clear HV pD pE
      obtain ⟨⟨dv, rfl⟩, HV, pD, pE⟩ := hcut
      go_upto_if 51 with fail
      go_cut [13, 14] from 32 to 117 (fun u v wx => ∃ O : Int × List Int × List Int × Int × Bool × Bool, u = .int .i64 O.1 ∧ v = ev O.1 ∧ Hid (PX w B C hd O D (D + 1) wx))
      case first =>
        cases dv
        · have HRd := hide (fun W (h1 : ST 34 C hd s bg h W) (h2 : Row8 W x l c zs) => rup_any C hd s bg h z x l c zs W h1 h2)
          have HPd := hide (fun W (h1 : ST 46 B hd s bg h W) (h2 : Row8 W x l c zs) => up_any B hd s bg h z x l c zs W h1 HV.out.2.2.2.2.2 h2)
          have HI := hide (upo_inv hd s bg h z zs HV.out.2.2.2.2)
          generalize upo hd s bg h z zs = O at HRd HPd HI
          go_upto_region 17 with (first
            | (refine at_loadr rfl (.tmp 74) rfl rfl (HGg.out _ HV.out.2.2.2.1) ?_)
            | (go_at_call 8; refine (HRd.out _ HV.out.2.1 (HZ.out _ HV.out.2.2.2.1)).mono ?_; rintro e w3 ⟨a3, l3, c3, rfl, r3, st3, u3⟩; have qD := hide (HV.out.2.1.sg u3 pD.out); have qE := hide (HV.out.2.1.sg u3 pE.out); have HW := hide (HV.out.step u3 st3); replace r3 := hide r3; clear st3 u3)
            | (refine at_store rfl (.tmp 12) (.tmp 77) rfl rfl qE.out O.2.1 a3 l3 c3 rfl ?_; intro w4 p4 on4; replace HW := hide (HW.out.only qE.out on4 (by have := hD.out; omega)); replace qD := hide (on4.sg qD.out (by omega)); replace r3 := hide (r3.out.past qE.out on4); replace p4 := hide p4; clear on4 qE))
          go_wp2_with (first
            | (refine at_loadr rfl (.tmp 83) rfl rfl (HGg.out _ HW.out.2.2.2) ?_)
            | (go_at_call 9; refine (HPd.out _ HW.out.1 (HZ.out _ HW.out.2.2.2)).mono ?_; rintro e w5 ⟨a5, l5, c5, rfl, r5, st5, u5⟩; have rD := hide (HW.out.1.sg u5 qD.out); have rE := hide (HW.out.1.sg u5 p4.out); replace r3 := hide (HW.out.1.row u5 r3.out); have HX := hide (HW.out.step u5 st5 HI.out); replace r5 := hide r5; clear st5 u5)
            | (refine at_store rfl (.tmp 11) (.tmp 86) rfl rfl rD.out O.2.1 a5 l5 c5 rfl ?_; intro w6 p6 on6; replace HX := hide (HX.out.only rD.out on6 hD.out); replace rE := hide (on6.sg rE.out (by omega)); replace r3 := hide (r3.out.past rD.out on6); replace r5 := hide (r5.out.past rD.out on6); replace p6 := hide p6; clear on6 rD))
          go_meet
          exact ⟨O, rfl, rfl, HX.out, a5, l5, c5, a3, l3, c3, p6.out, rE.out, r5.out, r3.out⟩
        · have HRd := hide (fun W (h1 : ST 34 C hd s bg h W) (h2 : Row8 W x l c zs) => rdown_any C hd s bg h z x l c zs W h1 HV.out.2.2.2.2.1 h2)
          have HPd := hide (fun W (h1 : ST 46 B hd s bg h W) (h2 : Row8 W x l c zs) => down_any B hd s bg h z x l c zs W h1 HV.out.2.2.2.2.1 h2)
          have HI := hide (dno_inv s bg h z zs HV.out.2.2.2.2)
          generalize dno s bg h z zs = O at HRd HPd HI
          go_upto_region 15 with (first
            | (refine at_loadr rfl (.tmp 56) rfl rfl (HGg.out _ HV.out.2.2.2.1) ?_)
            | (go_at_call 6; refine (HRd.out _ HV.out.2.1 (HZ.out _ HV.out.2.2.2.1)).mono ?_; rintro e w3 ⟨a3, l3, c3, rfl, r3, st3, u3⟩; have qD := hide (HV.out.2.1.sg u3 pD.out); have qE := hide (HV.out.2.1.sg u3 pE.out); have HW := hide (HV.out.step u3 st3); replace r3 := hide r3; clear st3 u3)
            | (refine at_store rfl (.tmp 12) (.tmp 59) rfl rfl qE.out O.2.1 a3 l3 c3 rfl ?_; intro w4 p4 on4; replace HW := hide (HW.out.only qE.out on4 (by have := hD.out; omega)); replace qD := hide (on4.sg qD.out (by omega)); replace r3 := hide (r3.out.past qE.out on4); replace p4 := hide p4; clear on4 qE))
          go_wp2_with (first
            | (refine at_loadr rfl (.tmp 65) rfl rfl (HGg.out _ HW.out.2.2.2) ?_)
            | (go_at_call 7; refine (HPd.out _ HW.out.1 (HZ.out _ HW.out.2.2.2)).mono ?_; rintro e w5 ⟨a5, l5, c5, rfl, r5, st5, u5⟩; have rD := hide (HW.out.1.sg u5 qD.out); have rE := hide (HW.out.1.sg u5 p4.out); replace r3 := hide (HW.out.1.row u5 r3.out); have HX := hide (HW.out.step u5 st5 HI.out); replace r5 := hide r5; clear st5 u5)
            | (refine at_store rfl (.tmp 11) (.tmp 68) rfl rfl rD.out O.2.1 a5 l5 c5 rfl ?_; intro w6 p6 on6; replace HX := hide (HX.out.only rD.out on6 hD.out); replace rE := hide (on6.sg rE.out (by omega)); replace r3 := hide (r3.out.past rD.out on6); replace r5 := hide (r5.out.past rD.out on6); replace p6 := hide p6; clear on6 rD))
          go_meet
          exact ⟨O, rfl, rfl, HX.out, a5, l5, c5, a3, l3, c3, p6.out, rE.out, r5.out, r3.out⟩
      case rest =>
        clear HV pD pE
        obtain ⟨O, rfl, rfl, HX⟩ := hcut
        have HT := hide (tells_ev O.1)
        generalize ev O.1 = V1 at HT ⊢
        obtain ⟨hv, a1, l1, c1, a2, l2, c2, h1, h2, h3, h4⟩ := HX.out
        have HV := hide hv
        have q1 := hide h1
        have q2 := hide h2
        have r1 := hide h3
        have r2 := hide h4
        clear hv h1 h2 h3 h4 HX
        have HSm := hide (fun W (h1 : Row8 W a1 l1 c1 O.2.2.1) (h2 : Row8 W a2 l2 c2 O.2.2.1) => segs_same O.2.1 a1 a2 l1 l2 c1 c2 O.2.2.1 W h1 h2)
        generalize O.1 = E1 at HT ⊢
        generalize O.2.1 = Z at q1 q2 HSm
        generalize O.2.2.1 = Dt at r1 r2 HSm
        generalize O.2.2.2.1 = s' at HV
        generalize O.2.2.2.2.1 = b' at HV
        generalize O.2.2.2.2.2 = h' at HV
        go_upto_region 19 with (go_at_call 5; refine (HT.out _ (HG.out _ HV.out.2.2.2.1)).mono ?_; rintro r w7 ⟨rfl, hb7⟩; replace HV := hide (HV.out.kept hb7); replace q1 := hide (q1.out.kept hb7); replace q2 := hide (q2.out.kept hb7); replace r1 := hide (r1.out.below hb7); replace r2 := hide (r2.out.below hb7); clear hb7)
        go_upto_region 20 with (first
          | (refine at_load rfl (.tmp 11) rfl rfl q1.out ?_)
          | (refine at_load rfl (.tmp 12) rfl rfl q2.out ?_)
          | (go_at_call 10; refine (HSm.out _ r1.out r2.out).mono ?_; rintro r w8 ⟨rfl, hb8⟩; replace HV := hide (HV.out.kept hb8); clear hb8 q1 q2))
        have HBg := hide (fun n => begun_any B hd s' b' h' (World.drewN _ n) (HV.out.1.kept ⟨rfl, rfl, rfl, Nat.le_refl _, fun _ _ => rfl⟩))
        have HHd := hide (fun n => heard_any B hd s' b' h' (World.drewN _ n) (HV.out.1.kept ⟨rfl, rfl, rfl, Nat.le_refl _, fun _ _ => rfl⟩))
        obtain ⟨y, ny, cy, py, -, -⟩ := HV.out.2.1
        have k2 := py.c2
        have k3 := py.c3
        have e2 : (b' != b') = false := by simp
        have e3 : (h' != h') = false := by simp
        have HVn := hide (fun n => HV.out.kept (W' := World.drewN _ n) ⟨rfl, rfl, rfl, Nat.le_refl _, fun _ _ => rfl⟩)
        clear py r1 r2 HSm HT
        go_quiet (first
          | (go_at_call 11; refine Calls.quiet_of_same (HBg.out _))
          | (go_at_call 12; refine Calls.quiet_of_same (HHd.out _)))
        generalize hW : World.drewN _ _ = W5
        have HV5 : Hid (PV w B C hd s' b' h' W5) := by rw [← hW]; exact HVn.out _
        clear hW HVn k2 k3 e2 e3 HBg HHd
        go_wp2
        go_roundw
        case rel => exact ⟨m + 1, s', b', h', by omega, by go_num, HV5⟩
        case measure => simp [intOf]; omega
end Go.Proofs.YtbbbcfihnjidaaaDoor
