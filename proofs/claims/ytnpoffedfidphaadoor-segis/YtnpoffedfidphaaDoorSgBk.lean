/- What the statement SegBack asks of Encode, Decode and Segs, in the forms in which its walk takes them. -/
import Derived.Test.YtnpoffedfidphaaDoorSgMath2
import Derived.Test.YtnpoffedfidphaaDoorTold
namespace Go.Proofs.YtnpoffedfidphaaDoor
open Go.RowKit

theorem okg_kn {z : List Int} {len : Nat} (h : Okg z len) : kn (el z 0) = true := (kn_iff _).2 (by obtain ⟨_, _, _, h | h⟩ := h <;> omega)
/-- a segment's bytes, as Encode hands them out. -/
theorem enc_form (z : List Int) (a : Option Addr) (len cap : Nat) (over : Int) (data : List Int) (w : World) (h : Okg z len) (ho : up 65535 over = true) (hr : Row8 w a len cap data) :
    Calls Tryd.prog 12 #[.agg (sgC z a len cap), .int .i64 over] w fun e w' => ∃ g c, e = .returned (.tuple #[.slice (some ⟨g, 0, none⟩) (hn (el z 0) + len) c, .nilIface]) ∧ hn (el z 0) + len ≤ c ∧ c ≤ maxLen ∧ w.heap.size ≤ g ∧ Row8 w' (some ⟨g, 0, none⟩) (hn (el z 0) + len) c (eb z over data) ∧ Below w.heap.size w w' := by
  refine (enc_ok z a len cap over data w ((sf_iff _ _).2 h) ho hr).mono ?_
  rintro e w' ⟨v, rfl, hown, hb⟩
  have hlen : (eb z over data).length = hn (el z 0) + len := by rw [eb_len, hr.1]
  have hp : 0 < hn (el z 0) := by unfold hn; split <;> omega
  obtain ⟨g, c, rfl, h1, h2, h3, _, h4⟩ := hown.form (by omega)
  rw [hlen] at h1 h4 ⊢
  exact ⟨g, c, rfl, h1, h2, h3, h4, hb⟩
theorem enc_bad (z : List Int) (a : Option Addr) (len cap : Nat) (over : Int) (w : World) (hm : len ≤ maxLen) (h : ¬ (Okg z len ∧ up 65535 over = true)) :
    Calls Tryd.prog 12 #[.agg (sgC z a len cap), .int .i64 over] w fun e w' => ∃ j, e = .returned (.tuple #[.slice none 0 0, err j]) ∧ Below w.heap.size w w' := by
  by_cases hz : sf z len = 0
  · exact (enc_over z a len cap over w hm hz (by
      cases hu : up 65535 over
      · rfl
      · exact absurd ⟨(sf_iff _ _).1 hz, hu⟩ h)).mono fun e w' ⟨h1, h2⟩ => ⟨1, h1, h2⟩
  · exact (enc_err z a len cap over w hm _ rfl hz).mono fun e w' ⟨h1, h2⟩ => ⟨_, h1, h2⟩
theorem eb_oct (z : List Int) (over : Int) (data : List Int) (hd : SM.Oct data) (ho : up 65535 over = true) : SM.Oct (eb z over data) := by
  have hc := sck_in z over data hd ho
  exact SM.oct_set _ (SM.oct_set _ (ub_oct z data hd) _ _ (by omega) (by omega)) _ _ (by omega) (by omega)
/-- what was written is read. -/
theorem dec_own (z : List Int) (g off n cap : Nat) (over : Int) (data : List Int) (w : World) (h : Okg z data.length) (ho : up 65535 over = true) (hr : Row8 w (some ⟨g, off, none⟩) n cap (eb z over data)) (hcl : n ≤ cap) (hcm : cap ≤ maxLen) :
    Calls Tryd.prog 14 #[.int .i64 (el z 0), .slice (some ⟨g, off, none⟩) n cap, .int .i64 over] w fun e w' => ∃ a' l' c', e = .returned (.tuple #[.agg (sgC z a' l' c'), .nilIface]) ∧ Row8 w' a' l' c' data ∧ Below w.heap.size w w' := by
  have hlen := hr.1
  rw [eb_len] at hlen
  have hz := fun j hj => rd_eb z over data h j hj
  have hd := drop_eb z over data h
  have e2 : n - hn (el z 0) = data.length := by omega
  have hl := h.2.2.1
  have he := eb_congr _ _ hz over data
  have hraw := dec_raw (el z 0) over g off n cap (eb z over data) w hr (okg_kn h) ho (by omega) (by omega) hcl hcm (by rw [e2, sf_congr _ _ hz]; exact (sf_iff _ _).2 h) true true (by rw [hd, he]; simp) (by rw [hd, he]; simp)
  refine hraw.mono ?_
  rintro e w' ⟨hh, hb⟩
  rcases hh with ⟨h1, _⟩ | ⟨_, h1, _⟩ | ⟨_, _, a', c', h1, h2⟩
  · cases h1
  · cases h1
  · rw [sgC_congr _ _ hz] at h1
    rw [hd] at h2
    exact ⟨a', _, c', h1, h2, hb⟩
theorem fold_mod (n : Int) (h : 0 ≤ n) (h2 : SM.fold n = 65535) : n % 65535 = 0 := by
  have := fold_spec n h
  omega
/-- over something else the check is another one. -/
theorem sck_other (z : List Int) (over other : Int) (data : List Int) (h : Okg z data.length) (hd : SM.Oct data) (h1 : 0 ≤ over ∧ over < 65535) (h2 : 0 ≤ other ∧ other < 65535) (hne : other ≠ over) : sck z over data ≠ sck z other data := by
  intro e
  have s1 := eb_sum z over data h hd (by omega)
  have s2 := eb_sum z other data h hd (by omega)
  rw [eb_tot z over data h] at s1
  rw [eb_tot z other data h, ← e] at s2
  have hb := (SM.tot_bd _ (ub_oct z data hd) (ub z data).length).1
  have hc := sck_in z over data hd ((up_iff _ _).2 (by omega))
  generalize SM.tot (ub z data) (ub z data).length = T at s1 s2 hb
  generalize sck z over data = C at s1 s2 hc
  have m1 := fold_mod _ (by omega) s1
  have m2 := fold_mod _ (by omega) s2
  omega
theorem take_eb (z : List Int) (over other : Int) (data : List Int) : (eb z other data).take (cn (el z 0)) = (eb z over data).take (cn (el z 0)) ∧ (eb z other data).drop (cn (el z 0) + 2) = (eb z over data).drop (cn (el z 0) + 2) := by
  unfold eb
  generalize sck z over data = C
  generalize sck z other data = C'
  constructor
  · apply List.ext_getElem?
    intro j
    simp only [List.getElem?_take, List.getElem?_set]
    split
    · rw [if_neg (by omega), if_neg (by omega), if_neg (by omega), if_neg (by omega)]
    · rfl
  · apply List.ext_getElem?
    intro j
    simp only [List.getElem?_drop, List.getElem?_set]
    rw [if_neg (by omega), if_neg (by omega), if_neg (by omega), if_neg (by omega)]
theorem getD_set_self (l : List Int) (j : Nat) (v : Int) (h : j < l.length) : (l.set j v).getD j 0 = v := by simp [h]
theorem getD_set_ne (l : List Int) (i j : Nat) (v : Int) (h : i ≠ j) : (l.set i v).getD j 0 = l.getD j 0 := by
  rw [List.getD_eq_getElem?_getD, List.getElem?_set_ne h, ← List.getD_eq_getElem?_getD]
theorem eb_at (z : List Int) (over : Int) (data : List Int) : (eb z over data).getD (cn (el z 0)) 0 = sck z over data / 256 ∧ (eb z over data).getD (cn (el z 0) + 1) 0 = sck z over data % 256 := by
  have hu := ub_len z data
  have hc := cn_lt (el z 0)
  unfold eb
  exact ⟨(getD_set_ne _ _ _ _ (by omega)).trans (getD_set_self _ _ _ (by omega)), getD_set_self _ _ _ (by rw [List.length_set]; omega)⟩
theorem eb_ne (z : List Int) (over other : Int) (data : List Int) (h : sck z over data ≠ sck z other data) : eb z other data ≠ eb z over data := by
  intro e
  have g0 := eb_at z over data
  have g1 := eb_at z other data
  rw [e] at g1
  omega
/-- over something else they are none. -/
theorem dec_other (z : List Int) (g off n cap : Nat) (over other : Int) (data : List Int) (w : World) (h : Okg z data.length) (hd : SM.Oct data) (h1 : 0 ≤ over ∧ over < 65535) (h2 : 0 ≤ other ∧ other < 65535) (hne : other ≠ over) (hr : Row8 w (some ⟨g, off, none⟩) n cap (eb z over data)) (hcl : n ≤ cap) (hcm : cap ≤ maxLen) :
    Calls Tryd.prog 14 #[.int .i64 (el z 0), .slice (some ⟨g, off, none⟩) n cap, .int .i64 other] w fun e w' => e = .returned (.tuple #[sg0, err 6]) ∧ Below w.heap.size w w' := by
  have hlen := hr.1
  rw [eb_len] at hlen
  have hz := fun j hj => rd_eb z over data h j hj
  have hdr := drop_eb z over data h
  have e2 : n - hn (el z 0) = data.length := by omega
  have hl := h.2.2.1
  have he := eb_congr _ _ hz other data
  have hraw := dec_raw (el z 0) other g off n cap (eb z over data) w hr (okg_kn h) ((up_iff _ _).2 (by omega)) (by omega) (by omega) hcl hcm (by rw [e2, sf_congr _ _ hz]; exact (sf_iff _ _).2 h) true false (by rw [hdr, he]; simp [take_eb z over other data]) (by
    rw [hdr, he]
    simp only [Bool.false_eq_true, iff_false]
    exact eb_ne z over other data (sck_other z over other data h hd h1 h2 hne))
  refine hraw.mono ?_
  rintro e w' ⟨hh, hb⟩
  rcases hh with ⟨h1, _⟩ | ⟨_, _, h1⟩ | ⟨_, h1, _⟩
  · cases h1
  · exact ⟨h1, hb⟩
  · cases h1
/-- bytes that do not add up are none. -/
theorem dec_sum (k over : Int) (g off n cap : Nat) (zs : List Int) (w : World) (hr : Row8 w (some ⟨g, off, none⟩) n cap zs) (hk : kn k = true) (ho : up 65535 over = true) (h1 : hn k ≤ n) (h2 : n ≤ hn k + 300) (hcl : n ≤ cap) (hcm : cap ≤ maxLen) (hs : SM.fold (SM.tot zs n + over) ≠ 65535) :
    Calls Tryd.prog 14 #[.int .i64 k, .slice (some ⟨g, off, none⟩) n cap, .int .i64 over] w fun e w' => ∃ j, e = .returned (.tuple #[sg0, err j]) ∧ Below w.heap.size w w' := by
  by_cases hz : sf (rdz k zs) (n - hn k) = 0
  · classical
    refine (dec_raw k over g off n cap zs w hr hk ho h1 h2 hcl hcm hz (decide _) (decide _) decide_eq_true_iff.symm decide_eq_true_iff.symm).mono ?_
    rintro e w' ⟨hh, hb⟩
    rcases hh with ⟨_, h3⟩ | ⟨_, _, h3⟩ | ⟨_, h3, _⟩
    · exact ⟨5, h3, hb⟩
    · exact ⟨6, h3, hb⟩
    · exfalso
      have e := of_decide_eq_true h3
      have hlen : (zs.drop (hn k)).length = n - hn k := by rw [List.length_drop, hr.1]
      have hok : Okg (rdz k zs) (zs.drop (hn k)).length := by rw [hlen]; exact (sf_iff _ _).1 hz
      have := eb_sum (rdz k zs) over (zs.drop (hn k)) hok (P4.oct_drop _ hr.2.2.1 _) (up_true ho)
      rw [e, hr.1] at this
      exact hs this
  · exact (dec_encbad k over g off n cap zs w hr hk ho h1 h2 hcl hcm hz).mono fun e w' ⟨h3, h4⟩ => ⟨5, h3, h4⟩
/-- with a byte another one they do not add up. -/
theorem turned_sum (zs : List Int) (over : Int) (ho : SM.Oct zs) (h0 : 0 ≤ over) (hz : SM.fold (SM.tot zs zs.length + over) = 65535) (j : Nat) (hj : j < zs.length) (v : Int) (hv : 0 ≤ v ∧ v ≤ 255) (hne : v ≠ zs.getD j 0) : SM.fold (SM.tot (zs.set j v) zs.length + over) ≠ 65535 := by
  intro h
  have b1 := (SM.tot_bd zs ho zs.length).1
  have b2 := (SM.tot_bd _ (SM.oct_set zs ho j v hv.1 hv.2) zs.length).1
  have m1 := fold_mod _ (by omega) hz
  have m2 := fold_mod _ (by omega) h
  have h3 := SM.tot_set zs j v hj zs.length
  rw [if_pos hj] at h3
  have hx := ho j
  generalize SM.tot (zs.set j v) zs.length = T' at m2 h3
  generalize SM.tot zs zs.length = T at m1 h3
  generalize zs.getD j 0 = x at hx hne h3
  split at h3 <;> omega
theorem dec_turned (z : List Int) (g off n cap : Nat) (over : Int) (data : List Int) (w : World) (h : Okg z data.length) (hd : SM.Oct data) (ho : up 65535 over = true) (j : Nat) (hj : j < n) (v : Int) (hv : 0 ≤ v ∧ v ≤ 255) (hne : v ≠ (eb z over data).getD j 0) (hn' : hn (el z 0) + data.length = n) (hr : Row8 w (some ⟨g, off, none⟩) n cap ((eb z over data).set j v)) (hcl : n ≤ cap) (hcm : cap ≤ maxLen) :
    Calls Tryd.prog 14 #[.int .i64 (el z 0), .slice (some ⟨g, off, none⟩) n cap, .int .i64 over] w fun e w' => ∃ j, e = .returned (.tuple #[sg0, err j]) ∧ Below w.heap.size w w' := by
  have hlen := eb_len z over data
  have hl := h.2.2.1
  refine dec_sum (el z 0) over g off n cap _ w hr (okg_kn h) ho (by omega) (by omega) hcl hcm ?_
  have := turned_sum (eb z over data) over (eb_oct z over data hd ho) (up_true ho).1 (eb_sum z over data h hd (up_true ho)) j (by omega) v hv hne
  rw [hlen, hn'] at this
  exact this
set_option maxRecDepth 100000 in
set_option maxHeartbeats 2000000 in
theorem segs_same (z : List Int) (a1 a2 : Option Addr) (l1 l2 c1 c2 : Nat) (data : List Int) (w : World) (r1 : Row8 w a1 l1 c1 data) (r2 : Row8 w a2 l2 c2 data) :
    Calls Tryd.prog 15 #[.agg (sgC z a1 l1 c1), .agg (sgC z a2 l2 c2)] w fun e w' => e = .returned (.bool true) ∧ Below w.heap.size w w' := by
  have b1 := al_below w (.cells (sgC z a1 l1 c1) 24)
  have b2 := al_below (w.alloc (.cells (sgC z a1 l1 c1) 24)) (.cells (sgC z a2 l2 c2) 24)
  have HB := hide (bt b1 b2)
  have P1 := hide ((sg_new w z a1 l1 c1).kept b2)
  have P2 := hide (sg_new (w.alloc (.cells (sgC z a1 l1 c1) 24)) z a2 l2 c2)
  rw [World.size_alloc] at P2
  have v1 := conv8 (r1.below HB.out)
  have v2 := conv8 (r2.below HB.out)
  have q := str8_eq r1.2.2.1 r2.2.2.1 true (by simp)
  have q0 : (el z 0 == el z 0) = true := by simp
  have q1 : (el z 1 == el z 1) = true := by simp
  have q2 : (el z 2 == el z 2) = true := by simp
  have q3 : (el z 3 == el z 3) = true := by simp
  have q4 : (el z 4 == el z 4) = true := by simp
  have q5 : (el z 5 == el z 5) = true := by simp
  have q6 : (el z 6 == el z 6) = true := by simp
  clear r1 r2 b1 b2
  go_enter Tryd.func15, Tryd.ntmps15
  go_upto_region 1 with fail
  generalize (w.alloc (.cells (sgC z a1 l1 c1) 24)).alloc (.cells (sgC z a2 l2 c2) 24) = W at HB P1 P2 v1 v2 ⊢
  have x0 := P1.out.c0; have x1 := P1.out.c1; have x2 := P1.out.c2; have x3 := P1.out.c3; have x4 := P1.out.c4; have x5 := P1.out.c5; have x6 := P1.out.c6; have x7 := P1.out.c7
  have y0 := P2.out.c0; have y1 := P2.out.c1; have y2 := P2.out.c2; have y3 := P2.out.c3; have y4 := P2.out.c4; have y5 := P2.out.c5; have y6 := P2.out.c6; have y7 := P2.out.c7
  go_wp2
  go_ret
  exact ⟨rfl, HB.out⟩
theorem fact_eb : eb [17, 1, 2, 0, 0, 0, 0] 0 [] = [0, 1, 0, 2, 0, 8, 255, 244] := by decide +kernel
end Go.Proofs.YtnpoffedfidphaaDoor
