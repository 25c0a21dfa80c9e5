/- What a gate answers to packets that were written so: of numbers and bytes alone. What holds of a gate behind each step: of numbers alone. Package gate: New, whatever the config. -/
import Derived.Test.YtkhahbghmdccaaaGreatDoorF43
import Derived.Below
import Derived.OpenShut
import Derived.Test.YtkhahbghmdccaaaGreatDoorProg
import Derived.WalkKit
import Derived.LaidEql
import Derived.BigQuiet
import Derived.Laws.AppendOwnNone
import Derived.Laws.MakeOwn
import Derived.Deep.RegionLaw
import Derived.Lib.Bytes
import Derived.Deep.MidRow
import Derived.Laws.ResultCell
import Derived.Deep.CutBlock
import Derived.Deep.QuietTactic
import Derived.OwnWalk
import Derived.Deep.RegionHeld3
import Derived.Deep.DrawnRows
import Derived.Laws.StructEq
import Derived.Maps.AppendAt
import Derived.Maps.RangeWalk
import Derived.Stop.Asserts
import Derived.RowKitTokens
import Derived.Test.YtkhahbghmdccaaaGreatDoorShelf
import Derived.Shelf.Abstract
import Derived.Lib.SliceRun
import Derived.Lib.AppendZerosOnto
import Derived.Lib.AppendZeros
import Derived.Laws.CopyOwn
import Derived.RangeFuncNested
import Derived.RangeFuncBound
import Derived.RangeFuncCalls
import Derived.RangeFuncLeaves
import Derived.RangeFuncFrom
import Derived.Shelf.RegionOpen
import Derived.OwnWalkIn
import Derived.TacticsInMore
import Derived.LoopNIn
import Derived.LoopIn
import Derived.Deep.RegionWith
import Derived.ArgAppend
import Derived.Lib.SlBytesConst
import Derived.Lib.AppendStr
namespace Go.Proofs.YtkhahbghmdccaaaGreatDoor
open Go.RowKit
def z7 (z : List Int) : List Int := [el z 0, el z 1, el z 2, el z 3, el z 4, el z 5, el z 6]
theorem z7_eq {a b : List Int} (h : ∀ j, j < 7 → el a j = el b j) : z7 a = z7 b := by
  unfold z7
  rw [h 0 (by omega), h 1 (by omega), h 2 (by omega), h 3 (by omega), h 4 (by omega), h 5 (by omega), h 6 (by omega)]
theorem rdz_z7 (k : Int) (zs : List Int) : rdz k zs = z7 (rdz k zs) := by
  unfold rdz
  split <;> rfl
theorem sdo_rdz {k over : Int} {zs : List Int} (h : (sdo k over zs).1 = 0) : (sdo k over zs).2.1 = rdz k zs := by
  unfold sdo at h ⊢
  split at h
  · cases h
  · rename_i h1
    rw [if_neg h1]
    split at h
    · cases h
    · rename_i h2
      rw [if_neg h2]
      split at h
      · cases h
      · rename_i h3
        rw [if_neg h3]
        split at h
        · cases h
        · rename_i h4
          rw [if_neg h4]
theorem sdo_z7 {z D : List Int} (over : Int) (h : Okg z D.length) : sdo (el z 0) over (eb z over D) = (0, z7 z, D) := by
  obtain ⟨z', e, _⟩ := sdo_eb over h
  have h1 := sdo_rdz (k := el z 0) (over := over) (zs := eb z over D) (by rw [e])
  rw [e, rdz_z7, z7_eq (fun j hj => rd_eb z over D h j hj)] at h1
  rw [e]
  have h1' : z' = z7 z := h1
  rw [h1']
theorem by16_same {a b : List Int} (h : ∀ j, j < 8 → el a j = el b j) : by16 a 8 = by16 b 8 := by16_congr h 8 (Nat.le_refl _)
theorem o6_congr {s s' d d' : List Int} (h1 : ∀ j, j < 8 → el s j = el s' j) (h2 : ∀ j, j < 8 → el d j = el d' j) (k n : Int) : o6 s d k n = o6 s' d' k n := by
  unfold o6
  rw [by16_same h1, by16_same h2]
theorem okg_kn' {z : List Int} {n : Nat} (h : Okg z n) : kn (el z 0) = true := (kn_iff _).2 (by obtain ⟨_, _, _, h | h⟩ := h; exact .inl h.1; exact .inr h.1)
theorem eb_le {z D : List Int} (h : Okg z D.length) (over : Int) : (eb z over D).length ≤ 320 := by
  rw [eb_len]
  have := hn_le (el z 0)
  have := h.2.2.1
  omega
theorem eb_lenI (z D : List Int) (over : Int) : (((eb z over D).length : Nat) : Int) = (hn (el z 0) : Nat) + (D.length : Int) := by
  rw [eb_len]
  exact Int.natCast_add _ _
theorem okp6 {s d : List Int} {t : Int} {z : List Int} {n : Nat} (hs : Ok6 s) (hd : Ok6 d) (ht : up 255 t = true) (hz : Okg z n) : V6.Okp s d t (el z 0) := ⟨hs, hd, up_true ht, up_true (okg_kind hz)⟩
theorem o6s_p6o {s d : List Int} {t : Int} {z D : List Int} (hs : Ok6 s) (hd : Ok6 d) (ht : up 255 t = true) (hz : Okg z D.length) : o6s (p6o s d t z D) = if t < 2 then (7, [], []) else (0, z7 z, D) := by
  obtain ⟨e1, e2⟩ := V6.adr_bys s d t (el z 0) (eb z (o6 s d (el z 0) ((hn (el z 0) : Nat) + (D.length : Int))) D) (okp6 hs hd ht hz)
  have e3 := V6.bys_drop s d t (el z 0) (eb z (o6 s d (el z 0) ((hn (el z 0) : Nat) + (D.length : Int))) D)
  unfold o6s p6o
  rw [e3, o6_congr e1 e2]
  show oso (el z 0) (o6 s d (el z 0) ((eb z (o6 s d (el z 0) ((hn (el z 0) : Nat) + (D.length : Int))) D).length : Nat)) t _ = _
  rw [eb_lenI]
  unfold oso
  rw [okg_kn' hz, if_neg (by decide), sdo_z7 _ hz]
  dsimp only
  rw [if_neg (by simp)]
theorem f6_p6o {s d : List Int} {t : Int} {z D : List Int} (hs : Ok6 s) (hd : Ok6 d) (ht : up 255 t = true) (h2 : ¬ t < 2) (hz : Okg z D.length) : f6 (p6o s d t z D) = fl5 (el z 0) s (el z 1) d (el z 2) := by
  obtain ⟨e1, e2⟩ := V6.adr_bys s d t (el z 0) (eb z (o6 s d (el z 0) ((hn (el z 0) : Nat) + (D.length : Int))) D) (okp6 hs hd ht hz)
  unfold f6
  rw [o6s_p6o hs hd ht hz, if_neg h2]
  unfold p6o fl5
  rw [e1 0 (by omega), e1 1 (by omega), e1 2 (by omega), e1 3 (by omega), e1 4 (by omega), e1 5 (by omega), e1 6 (by omega), e1 7 (by omega), e2 0 (by omega), e2 1 (by omega), e2 2 (by omega), e2 3 (by omega), e2 4 (by omega), e2 5 (by omega), e2 6 (by omega), e2 7 (by omega)]
  rfl
theorem p6o_good {s d : List Int} {t : Int} {z D : List Int} (hz : Okg z D.length) : V6.Good (p6o s d t z D) := V6.bys_good _ _ _ _ _ (eb_le hz _)
def g6s (g : GS) (f : List Int) (hop : Int) (z D : List Int) : Int × List Int × GS :=
  if (ldo g.c f).1 ≠ 0 then (4, [], g)
  else if tell g.c g.inj f = true ∧ el z 5 / 2 % 2 = 1 ∧ 0 < D.length then (2, [], g)
  else if (bdo g f (el z 5) (whr g f (ldo g.c f).2)).1 ≠ 0 then ((bdo g f (el z 5) (whr g f (ldo g.c f).2)).1, [], (bdo g f (el z 5) (whr g f (ldo g.c f).2)).2.2)
  else g6b (bdo g f (el z 5) (whr g f (ldo g.c f).2)).2.2 (bdo g f (el z 5) (whr g f (ldo g.c f).2)).2.1 hop z D
theorem g6_p6o (g : GS) {s d : List Int} {t : Int} {z D : List Int} (hs : Ok6 s) (hd : Ok6 d) (ht : up 255 t = true) (hz : Okg z D.length) : g6 g (p6o s d t z D) = if t < 2 then (7, [], g) else g6s g (fl5 (el z 0) s (el z 1) d (el z 2)) t (z7 z) D := by
  unfold g6
  rw [if_neg (fun h => h (p6o_good hz))]
  by_cases h2 : t < 2
  · rw [o6s_p6o hs hd ht hz, if_pos h2, if_pos h2]
    rfl
  · rw [f6_p6o hs hd ht h2 hz, o6s_p6o hs hd ht hz, if_neg h2, if_neg h2]
    dsimp only
    rw [if_neg (by simp)]
    unfold g6s
    rfl
theorem okp4z {s d t : Int} {z : List Int} {n : Nat} (hs : up 4294967295 s = true) (hd : up 4294967295 d = true) (ht : up 255 t = true) (hz : Okg z n) : V4.Okp s d t (el z 0) 0 := ⟨up_true hs, up_true hd, up_true ht, up_true (okg_kind hz), by unfold Word; omega⟩
theorem p4o_read {s d t : Int} {z D : List Int} (hs : up 4294967295 s = true) (hd : up 4294967295 d = true) (ht : up 255 t = true) (hz : Okg z D.length) :
    P4.Good (p4o s d t z D) ∧ P4.src (p4o s d t z D) = s ∧ P4.dst (p4o s d t z D) = d ∧ (p4o s d t z D).getD 8 0 = t ∧ (p4o s d t z D).getD 9 0 = el z 0 ∧ (p4o s d t z D).drop 20 = eb z (o4 s d (el z 0) ((hn (el z 0) : Nat) + (D.length : Int))) D := by
  have hok := okp4z hs hd ht hz
  have hl := eb_le hz (o4 s d (el z 0) ((hn (el z 0) : Nat) + (D.length : Int)))
  unfold p4o
  generalize eb z (o4 s d (el z 0) ((hn (el z 0) : Nat) + (D.length : Int))) D = body at hl ⊢
  obtain ⟨_, h2, h3, h4, h5, h6, _, h8⟩ := P4.read_hd s d t (el z 0) 0 (20 + body.length) (P4.ck s d t (el z 0) 0 (20 + body.length)) body (V4.okp_okh hok hl) rfl hl
  exact ⟨V4.bys_good s d t (el z 0) 0 body hok hl, h2, h3, h4, h5, h8⟩
theorem g4_p4o (g : GS) {s d t : Int} {z D : List Int} (hs : up 4294967295 s = true) (hd : up 4294967295 d = true) (ht : up 255 t = true) (hz : Okg z D.length) : g4 g (p4o s d t z D) = if t < 2 then (7, [], g) else g4s g s d t (el z 0) (z7 z) D := by
  obtain ⟨h1, h2, h3, h4, h5, h6⟩ := p4o_read hs hd ht hz
  have ho : o4s (p4o s d t z D) = if t < 2 then (7, [], []) else (0, z7 z, D) := by
    unfold o4s
    rw [h2, h3, h4, h5, h6, eb_lenI]
    unfold oso
    rw [okg_kn' hz, if_neg (by decide), sdo_z7 _ hz]
    dsimp only
    rw [if_neg (by simp)]
  unfold g4
  rw [if_neg (fun h => h h1), ho, h2, h3, h4, h5]
  by_cases h2 : t < 2
  · rw [if_pos h2, if_pos h2]
    rfl
  · rw [if_neg h2, if_neg h2]
    dsimp only
    rw [if_neg (by simp)]
end Go.Proofs.YtkhahbghmdccaaaGreatDoor

namespace Go.Proofs.YtkhahbghmdccaaaGreatDoor
open Go.RowKit
theorem rising_len : ∀ (l : List Int) (a n : Int), 0 ≤ n → l.Pairwise (fun x y => x < y) → (∀ x ∈ l, a ≤ x ∧ x < a + n) → (l.length : Int) ≤ n
  | [], _, n, hn, _, _ => by simpa using hn
  | x :: r, a, n, hn, hp, hb => by
    rw [List.pairwise_cons] at hp
    have hx := hb x (List.mem_cons_self ..)
    have h1 := rising_len r (x + 1) (a + n - (x + 1)) (by omega) hp.2 (fun y hy => ⟨by have := hp.1 y hy; omega, by have := (hb y (List.mem_cons_of_mem _ hy)).2; omega⟩)
    rw [List.length_cons]
    omega
theorem BI.len {m : Nat} {ws : Nat → List Int} {ts : Nat → Bool} {bs : List (List Int)} (h : BI m ws ts bs) : bs.length ≤ 8 * m := by
  have h1 := rising_len (bs.map (fun b => el b 19)) 1024 ((8 * m : Nat) : Int) (by omega) (List.pairwise_map.2 h.2.1) (fun x hx => by
    obtain ⟨b, hb, rfl⟩ := List.mem_map.1 hx
    obtain ⟨_, ⟨i, h1, h2, _⟩, _⟩ := h.1 b hb
    show 1024 ≤ el b 19 ∧ el b 19 < 1024 + ((8 * m : Nat) : Int)
    omega)
  rw [List.length_map] at h1
  omega
theorem ins_mem {x b : List Int} {bs : List (List Int)} (h : b ∈ ins x bs) : b = x ∨ b ∈ bs := by
  obtain ⟨p, _, e, _⟩ := ins_form x bs
  rw [e] at h
  rcases List.mem_append.1 h with h | h
  · exact .inr (List.mem_of_mem_take h)
  · rcases List.mem_append.1 h with h | h
    · exact .inl (List.mem_singleton.1 h)
    · exact .inr (List.mem_of_mem_drop h)
theorem bdo_ti {g : GS} {f : List Int} {flags : Int} {wr : Int × Int × Int} (hi : TI g) (hf : okf f = true) (hw : wr.2.2 = 0 → fr wr.1 = true ∧ wd wr.2.1 = true) : TI (bdo g f flags wr).2.2 := by
  obtain ⟨t1, t2, t3, t4, t5⟩ := hi
  cases hn : fnd g.bs f with
  | some k =>
    rw [bdo_some hn]
    obtain ⟨hk, hmem, _⟩ := fndY hn
    have hu := t3.use (p := el (g.bs.getD k []) 19) (now := g.now) (e := 0) (.inr (.inr (.inr ⟨k, prt_self t3.2.1 hk, t4, by have := t5 _ hmem; omega, rfl, rfl⟩)))
    refine ⟨t1, ?_, hu.1, t4, fun b hb => ?_⟩
    · show (g.bs.set k _).length ≤ 128
      rw [List.length_set]
      exact t2
    · rcases List.mem_or_eq_of_mem_set hb with h | rfl
      · exact t5 b h
      · exact Int.le_refl _
  | none =>
    rw [bdo_none hn]
    split
    · exact ⟨t1, t2, t3, t4, t5⟩
    · split
      · exact ⟨t1, t2, t3, t4, t5⟩
      · rename_i h2
        split
        · exact ⟨t1, t2, t3, t4, t5⟩
        · rename_i i ht
          have hw' := hw (Classical.not_not.1 h2)
          have hb := t3.made (back := wr.1) (far := wr.2.1) (now := g.now) hf (by rw [hw'.1, hw'.2, t4]; rfl) hn ht
          refine ⟨t1, Nat.le_trans hb.len (by show 8 * g.m ≤ 128; omega), hb, t4, fun b hb => ?_⟩
          rcases ins_mem hb with rfl | hb
          · exact Int.le_refl _
          · exact t5 b hb
theorem guo_ti {g : GS} (hi : TI g) (b z D : List Int) : TI (guo g b z D).2.2.2 := by
  unfold guo
  split <;> exact hi
def Sv (st : Int × Bool × Bool) : Prop := (st.2.2 = true → st.2.1 = true) ∧ 0 ≤ st.1 ∧ st.1 < 4294967296
theorem upo_sv {hd : List Int} {s : Int} {b h : Bool} {z zs : List Int} (i : Sv (s, b, h)) : Sv (upo hd s b h z zs).2.2.2 := by
  unfold upo
  split
  · exact i
  · split
    · unfold bgo
      split
      · exact i
      · have := md_in (el z 3 + 1)
        exact ⟨fun _ => rfl, this.1, this.2⟩
    · split
      · exact i
      · split
        · unfold fio
          split <;> exact i
        · exact i
theorem SI.stf {g : GS} (h : SI g) (b : List Int) : ∀ x ∈ (stf g b).1, Sv x.2.2 := by
  intro x hx
  unfold Go.Proofs.YtkhahbghmdccaaaGreatDoor.stf at hx
  split at hx
  · exact h x hx
  · rcases List.mem_cons.1 hx with rfl | hx
    · exact ⟨fun e => (by cases e), Int.le_refl 0, (by decide : (0 : Int) < 4294967296)⟩
    · exact h x hx
theorem guo_si {g : GS} (h : SI g) (b z D : List Int) : SI (guo g b z D).2.2.2 := by
  unfold guo
  split
  · intro x hx
    obtain ⟨y, hy, e1, ⟨e2, e3⟩ | ⟨e2, e3⟩⟩ := sup_mem hx
    · rw [e3]
      exact upo_sv (stf_si h b)
    · rw [e3]
      exact h.stf b y hy
  · exact h
def IG (g : GS) : Prop := TI g ∧ SI g ∧ CI g
def Sm (g g' : GS) : Prop := g'.c = g.c ∧ g'.inj = g.inj ∧ g'.bk = g.bk ∧ g'.m = g.m ∧ g'.now = g.now
theorem Sm.refl (g : GS) : Sm g g := ⟨rfl, rfl, rfl, rfl, rfl⟩
theorem Sm.trans {a b c : GS} (h : Sm a b) (k : Sm b c) : Sm a c := ⟨k.1.trans h.1, k.2.1.trans h.2.1, k.2.2.1.trans h.2.2.1, k.2.2.2.1.trans h.2.2.2.1, k.2.2.2.2.trans h.2.2.2.2⟩
theorem Sm.ci {g g' : GS} (h : Sm g g') (c : CI g) : CI g' := by
  unfold CI at c ⊢
  rw [h.1, h.2.2.1]
  exact c
theorem bdo_sm (g : GS) (f : List Int) (flags : Int) (wr : Int × Int × Int) : Sm g (bdo g f flags wr).2.2 := by
  obtain ⟨_, h2, h3, h4, h5, h6⟩ := bdo_ss g f flags wr
  exact ⟨h2, h3, h4, h6, h5⟩
theorem guo_sm (g : GS) (b z D : List Int) : Sm g (guo g b z D).2.2.2 := by
  unfold guo
  split <;> exact Sm.refl _
theorem g6b_st (g : GS) (b : List Int) (hop : Int) (z D : List Int) : (g6b g b hop z D).2.2 = (guo g b z D).2.2.2 := by
  unfold g6b
  split <;> rfl
theorem g6s_ig {g : GS} (h : IG g) {f : List Int} (hop : Int) {z D : List Int} (hf : okf f = true) (hd : Ok6 (dst f)) : IG (g6s g f hop z D).2.2 ∧ Sm g (g6s g f hop z D).2.2 := by
  unfold g6s
  split
  · exact ⟨h, Sm.refl _⟩
  · rename_i hl
    split
    · exact ⟨h, Sm.refl _⟩
    · have ht := bdo_ti (flags := el z 5) h.1 hf (fun h0 => whr_ok h.2.2 hf hd (Classical.not_not.1 hl) h0)
      have hs := bdo_sm g f (el z 5) (whr g f (ldo g.c f).2)
      have hss := (bdo_ss g f (el z 5) (whr g f (ldo g.c f).2)).1
      have hsi : SI (bdo g f (el z 5) (whr g f (ldo g.c f).2)).2.2 := by have := h.2.1; unfold SI at this ⊢; rw [hss]; exact this
      split
      · exact ⟨⟨ht, hsi, hs.ci h.2.2⟩, hs⟩
      · rw [g6b_st]
        have hs2 := hs.trans (guo_sm (bdo g f (el z 5) (whr g f (ldo g.c f).2)).2.2 (bdo g f (el z 5) (whr g f (ldo g.c f).2)).2.1 z D)
        exact ⟨⟨guo_ti ht _ _ _, guo_si hsi _ _ _, hs2.ci h.2.2⟩, hs2⟩
theorem g6_ig {g : GS} (h : IG g) {zs : List Int} (ho : SM.Oct zs) : IG (g6 g zs).2.2 ∧ Sm g (g6 g zs).2.2 := by
  by_cases hG : V6.Good zs
  · by_cases hE : (o6s zs).1 = 0
    · have e : g6 g zs = g6s g (f6 zs) (zs.getD 7 0) (o6s zs).2.1 (o6s zs).2.2 := by
        unfold g6 g6s
        rw [if_neg (fun h => h hG), if_neg (fun h => h hE)]
      rw [e]
      have hk := oso_ok hE
      have h8 := V6.ok6_adr zs ho 8
      have h24 := V6.ok6_adr zs ho 24
      exact g6s_ig h _ (fl5_ok hk.1 h8 h24) (fl5_dst h24)
    · have e : g6 g zs = ((o6s zs).1, [], g) := by unfold g6; rw [if_neg (fun h => h hG), if_pos hE]
      rw [e]
      exact ⟨h, Sm.refl _⟩
  · have e : g6 g zs = (5, [], g) := by unfold g6; exact if_pos hG
    rw [e]
    exact ⟨h, Sm.refl _⟩
theorem gz0_ig {c : List Int} {inj : Bool} {bk : List (List Int)} {m : Nat} (hm : m ≤ 16) (hp : Em.PF (pfx c) (el c 17) 0) (h : cko c bk 0 = 0) : IG (gz0 c inj bk m) := ⟨gz0_ti _ _ _ _ hm, gz0_si _ _ _ _, gz0_ci hp h⟩
end Go.Proofs.YtkhahbghmdccaaaGreatDoor

namespace Go.Proofs.YtkhahbghmdccaaaGreatDoor
open Go.RowKit
theorem pfx_ex (p : List Int) (n : Int) : ∃ k, Em.PF p n k := by
  by_cases h1 : Ok6 p
  · by_cases h2 : Em.LongP n
    · cases h3 : Em.shp p (n / 8).toNat
      · exact ⟨0, .inr (.inr (.inr ⟨h1, h2, h3, rfl⟩))⟩
      · exact ⟨2, .inr (.inr (.inl ⟨h1, h2, h3, rfl⟩))⟩
    · exact ⟨1, .inr (.inl ⟨h1, h2, rfl⟩)⟩
  · exact ⟨1, .inl ⟨h1, rfl⟩⟩
def NG (W : World) (c : List Int) (inj : Bool) (bk : List (List Int)) (m : Nat) (e : Ending) (w' : World) : Prop := ∃ G a' cap' tv S Ot, e = .returned (.tuple #[.pointer (some ⟨G, 0, none⟩), .nilIface]) ∧ GC G a' cap' tv S Ot (fun _ => 0) (gz0 c inj bk m) w' ∧ (∀ k, GO G a' Ot (SO S (fun _ => 0) []) k → W.heap.size ≤ k) ∧ Below W.heap.size W w'
theorem gnew_dich (c : List Int) (inj : Bool) (a : Option Addr) (cap : Nat) (bk : List (List Int)) (w : World) (hb : Bks a bk w) (h1 : bk.length ≤ cap) (h2 : cap ≤ maxLen) (ha : a = none → bk = [] ∧ cap = 0) :
    (∃ j, j ≠ 0 ∧ ∀ W, Below w.heap.size w W → Calls Tryz.prog 8 #[.agg (cfC c inj a bk.length cap)] W fun e w' => e = .returned (.tuple #[.pointer none, err j]) ∧ Below W.heap.size W w') ∨
    (∃ m : Nat, 1 ≤ m ∧ m ≤ 16 ∧ el c 20 = m ∧ bk.length ≤ 8 ∧ Em.PF (pfx c) (el c 17) 0 ∧ cko c bk 0 = 0 ∧ ∀ W, Below w.heap.size w W → Calls Tryz.prog 8 #[.agg (cfC c inj a bk.length cap)] W fun e w' => NG W c inj bk m e w') := by
  obtain ⟨pf, hp⟩ := pfx_ex (pfx c) (el c 17)
  have hlm := Nat.le_trans h1 h2
  by_cases hz : cko c bk pf = 0
  · obtain ⟨rfl, z1, z2, z3⟩ := cko_zero hz
    obtain ⟨m, hm⟩ : ∃ m : Nat, el c 20 = m := ⟨(el c 20).toNat, by omega⟩
    have hl8 := (bf_ok z3).1
    exact .inr ⟨m, by omega, by omega, hm, by omega, hp, hz, fun W hW => gnew_gc c inj a cap bk m W (hb.below hW) (by omega) h1 ha hp hz hm (by omega) (by omega)⟩
  · exact .inl ⟨_, hz, fun W hW => gnew_bad c inj a cap bk pf W (hb.below hW) hlm h1 hp hz⟩
end Go.Proofs.YtkhahbghmdccaaaGreatDoor
