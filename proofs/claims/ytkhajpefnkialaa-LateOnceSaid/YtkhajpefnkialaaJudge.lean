/- Judge, by its contract: of a lot that may be. -/
import Derived.Test.YtkhajpefnkialaaCut
import Derived.OwnWalk
import Derived.Deep.RegionHeld
namespace Go.Proofs.Ytkhajpefnkialaa.Job
open Go.RowKit

/-- up to which place they are skipped -/
def Lt.upto (l : Lt) : Nat := l.frm + max l.cnt (((l.ds.length + l.cs.length : Nat) : Int) - l.room).toNat
/-- what is due, what is skipped -/
def Lt.dues (l : Lt) : List Int := l.all.take l.frm ++ l.all.drop l.upto
def Lt.skips (l : Lt) : List Int := (l.all.take l.upto).drop l.frm
/-- a lot that may be -/
structure Lt.May (l : Lt) : Prop where
  pol : 1 ≤ l.pol ∧ l.pol ≤ 3
  gra : 0 ≤ l.gra
  now : 0 ≤ l.now ∧ l.now < 13569465600
  room : (l.ds.length : Int) ≤ l.room ∧ l.room ≤ 64
  come : l.cs.length ≤ 64
  rise : risesB (-1) l.all = true
  last : l.cs.length = 0 ∨ lastI (-1) l.all ≤ l.now
theorem Lt.may_iff {l : Lt} : l.may = true ↔ l.May := by
  unfold Lt.may Lt.ok
  simp only [Bool.and_eq_true, Bool.or_eq_true, decide_eq_true_eq]
  constructor
  · rintro ⟨h1, h2, h3, h4, h5, h6, h7, h8, h9, h10⟩
    exact ⟨⟨h1, h2⟩, h3, ⟨h4, h5⟩, ⟨h6, h7⟩, by omega, h9, h10⟩
  · rintro ⟨⟨h1, h2⟩, h3, ⟨h4, h5⟩, ⟨h6, h7⟩, h8, h9, h10⟩
    exact ⟨h1, h2, h3, h4, h5, h6, h7, by omega, h9, h10⟩
theorem Lt.all_len (l : Lt) : l.all.length = l.ds.length + l.cs.length := by simp [Lt.all]
theorem Lt.May.ds {l : Lt} (h : l.May) : l.ds.length ≤ 64 := by have := h.room; omega
theorem rises_low : ∀ (a : Int) (xs : List Int), risesB a xs = true → ∀ x ∈ xs, a < x
  | _, [], _ => fun x hx => by cases hx
  | a, y :: r, h => by
    rw [risesB, Bool.and_eq_true, decide_eq_true_eq] at h
    intro x hx
    rcases List.mem_cons.1 hx with rfl | hx
    · exact h.1
    · have := rises_low y r h.2 x hx; omega
theorem Lt.cnt_le (l : Lt) : l.frm + l.cnt ≤ l.ds.length + l.cs.length := by
  have := lates_le l.late l.cs
  unfold Lt.frm Lt.cnt
  split
  · rw [if_neg (by omega)]
    omega
  · split <;> omega
theorem Lt.May.upto_le {l : Lt} (h : l.May) : l.frm ≤ l.upto ∧ l.upto ≤ l.ds.length + l.cs.length := by
  have h1 := l.cnt_le
  have h2 := h.room
  have h3 : l.frm ≤ l.ds.length := by unfold Lt.frm; split <;> omega
  unfold Lt.upto
  omega

theorem call_two {W : World} {s1 s2 : Sl} {g c : Nat} (h1 : SlF W s1) (h2 : SlF W s2) (hl : s1.xs.length + s2.xs.length ≤ 1000)
    (h : W.heap[g]? = some (.cells #[.slice s1.a s1.xs.length s1.c, .slice s2.a s2.xs.length s2.c] 22 (0, 0))) :
    Calls Try.prog 9 #[.slice (some ⟨g, 0, none⟩) 2 c] W fun e w' => ∃ a c, e = .returned (.slice a (s1.xs ++ s2.xs).length c) ∧ SlF w' ⟨a, s1.xs ++ s2.xs, c⟩ ∧ (∀ x, a = some x → W.heap.size ≤ x.block) ∧ Below W.heap.size W w' := by
  refine (concat_two h1 h2 (Below.refl _ _) hl h).mono ?_
  rintro e w' ⟨v, rfl, hrow, hb⟩
  obtain ⟨a, c, rfl, hn, -, -, hv, -⟩ := own_shape hrow
  exact ⟨a, c, rfl, ⟨hv, hn⟩, (fun x e => (World.ownsRow.lt hrow x.block (by rw [e]; rfl)).1), hb⟩
theorem call_one {W : World} {s1 : Sl} {g c : Nat} (h1 : SlF W s1) (hl : s1.xs.length ≤ 1000)
    (h : W.heap[g]? = some (.cells #[.slice s1.a s1.xs.length s1.c] 22 (0, 0))) :
    Calls Try.prog 9 #[.slice (some ⟨g, 0, none⟩) 1 c] W fun e w' => ∃ a c, e = .returned (.slice a s1.xs.length c) ∧ SlF w' ⟨a, s1.xs, c⟩ ∧ (∀ x, a = some x → W.heap.size ≤ x.block) ∧ Below W.heap.size W w' := by
  refine (concat_one h1 (Below.refl _ _) hl h).mono ?_
  rintro e w' ⟨v, rfl, hrow, hb⟩
  obtain ⟨a, c, rfl, hn, -, -, hv, -⟩ := own_shape hrow
  exact ⟨a, c, rfl, ⟨hv, hn⟩, (fun x e => (World.ownsRow.lt hrow x.block (by rw [e]; rfl)).1), hb⟩
/-- three parts that are read -/
structure Three (w W : World) (p1 p2 p3 : Sl) : Prop where
  bel : Below w.heap.size w W
  p1 : SlF W p1
  p2 : SlF W p2
  p3 : SlF W p3
theorem Three.below {w W W' : World} {p1 p2 p3 : Sl} (h : Three w W p1 p2 p3) (hb : Below W.heap.size W W') : Three w W' p1 p2 p3 :=
  ⟨h.bel.trans (hb.mono h.bel.size), h.p1.below hb, h.p2.below hb, h.p3.below hb⟩

set_option maxRecDepth 100000 in
set_option maxHeartbeats 4000000 in
theorem judge_yes {w : World} {l : Lt} (hl : LtF w l) (hm : l.May) (h63 : ∀ x ∈ l.cs, x ≤ 9223372036854775807) :
    Calls Try.prog 6 #[l.val] w fun e w' => ∃ a b ca cb, e = .returned (.tuple #[.slice a l.dues.length ca, .slice b l.skips.length cb, .int .i64 0]) ∧
      SlF w' ⟨a, l.dues, ca⟩ ∧ SlF w' ⟨b, l.skips, cb⟩ ∧ (∀ x, a = some x → w.heap.size ≤ x.block) ∧ (∀ x, b = some x → w.heap.size ≤ x.block) ∧ Below w.heap.size w w' := by
  obtain ⟨wa, hwa⟩ : ∃ W, W = w.alloc (.cells l.cells 24) := ⟨_, rfl⟩
  have HBX := Lib.hid (show wa.heap[w.heap.size]? = some (lobj l) by rw [hwa]; exact heap_alloc_new w _)
  have HBA := Lib.hid (show Below w.heap.size w wa by rw [hwa]; exact (Below.refl _ _).alloc (Nat.le_refl _) _)
  have HM := Lib.hid (may_any (hl.below HBA.out))
  rw [Lt.may_iff.2 hm] at HM
  have h0 := rises_low _ _ hm.rise
  have hcs : ∀ x ∈ l.cs, 0 ≤ x ∧ x ≤ 9223372036854775807 := fun x hx => ⟨by have := h0 x (List.mem_append_right _ hx); omega, h63 x hx⟩
  have HU := Lib.hid (fun W (hW : Below w.heap.size w W) => unwanted_any (hl.below hW) hm.pol hm.now hm.ds hm.come hcs)
  have HLF := Lib.hid hl
  have HMAY := Lib.hid hm
  clear hl h0 hcs h63 hm
  unfold Lt.val at *
  rw [show (Try.prog) = Try.prog from rfl]
  unfold lobj Lt.cells lcells at *
  have HWA := Lib.hid hwa
  clear hwa
  go_enter Try.func6, Try.ntmps6
  go_wp2_with fail
  rw [← HWA.out]
  refine HM.out.mono ?_
  rintro e w1 ⟨rfl, hb1⟩
  have HBX1 := Lib.hid ((hb1.block _ (Array.getElem?_eq_some_iff.1 HBX.out).1).trans HBX.out)
  have HB1 := Lib.hid (HBA.out.trans (hb1.mono HBA.out.size))
  have HLT := Lib.hid (Array.getElem?_eq_some_iff.1 HBX1.out).1
  obtain ⟨⟨c0, c1, c2⟩, c3, c4, c5⟩ := lobj_cells (l := l) HBX1.out
  obtain ⟨wb, hwb⟩ : ∃ W, W = w1.alloc (.cells #[.slice l.da l.ds.length l.dc, .slice l.ca l.cs.length l.cc] 22) := ⟨_, rfl⟩
  have HBB := Lib.hid (show Below w.heap.size w wb by rw [hwb]; exact HB1.out.alloc HB1.out.size _)
  have HCON := Lib.hid (concat_two (W := wb) (g := w1.heap.size) (c := 2) HLF.out.due HLF.out.come HBB.out (by have := HMAY.out.ds; have := HMAY.out.come; unfold Lt.due Lt.come; simp only []; omega) (by rw [hwb]; exact heap_alloc_new w1 _))
  have HBX2 := Lib.hid (show wb.heap[w.heap.size]? = some (lobj l) by rw [hwb]; exact (Below.heap_alloc _ _ _ HLT.out).trans HBX1.out)
  have HWB := Lib.hid hwb
  clear hwb hb1 HM HBX HBX1
  go_wp2_with fail
  rw [← HWB.out]
  refine HCON.out.mono ?_
  rintro e w2 ⟨v, rfl, hrow, hb2⟩
  obtain ⟨a, c, rfl, hna, h3, -, h5, h6⟩ := own_shape hrow
  have h7 : (l.due.xs ++ l.come.xs) = l.all := rfl
  rw [h7] at h5 h3 hna ⊢
  obtain ⟨al, hal⟩ : ∃ al, al = l.all := ⟨_, rfl⟩
  rw [← hal] at h5 h3 hna ⊢
  have HAL := Lib.hid hal
  have HV := Lib.hid h5
  have HLC := Lib.hid h3
  have HNA := Lib.hid hna
  have HB2 := Lib.hid (HBB.out.trans (hb2.mono HBB.out.size))
  have hlt2 : w.heap.size < wb.heap.size := (Array.getElem?_eq_some_iff.1 HBX2.out).1
  have HBX3 := Lib.hid ((hb2.block _ hlt2).trans HBX2.out)
  obtain ⟨⟨b0, b1, b2⟩, b3, b4, b5⟩ := lobj_cells (l := l) HBX3.out
  clear c0 c1 c2 c3 c4 c5 hrow hb2 h3 hna h5 h6 h7 hal hlt2 HCON HBX2 HWA HWB
  go_wp2_with fail
  refine (HU.out _ HB2.out).mono ?_
  rintro e w3 ⟨rfl, hb3⟩
  have HBX4 := Lib.hid ((hb3.block _ (Array.getElem?_eq_some_iff.1 HBX3.out).1).trans HBX3.out)
  have HB3 := Lib.hid (HB2.out.trans (hb3.mono HB2.out.size))
  have HV3 := Lib.hid (HV.out.below hb3)
  obtain ⟨⟨a0, a1, a2⟩, a3, a4, a5⟩ := lobj_cells (l := l) HBX4.out
  have hup := HMAY.out.upto_le
  have hrm := HMAY.out.room
  have hcn := l.cnt_le
  have hdl := HMAY.out.ds
  have hcl := HMAY.out.come
  obtain ⟨L, hL⟩ : ∃ L, L = al.length := ⟨_, rfl⟩
  have hL2 : L = l.ds.length + l.cs.length := by rw [hL, HAL.out, Lt.all_len]
  have HUP := Lib.hid (show l.upto = l.frm + max l.cnt ((L : Int) - l.room).toNat by rw [hL2]; rfl)
  have HCF := Lib.hid (cut_h (a := a) (al := al) (c := c) (hi := l.frm) (by omega) HLC.out)
  have HCT := Lib.hid (cut_l (a := a) (al := al) (c := c) (lo := l.upto) (by omega))
  have HCM := Lib.hid (cut_lh (a := a) (al := al) (c := c) (lo := l.frm) (hi := l.upto) hup.1 (by omega) HLC.out)
  rw [← hL] at HCF HCT HCM ⊢
  have HDU := Lib.hid (show l.dues = al.take l.frm ++ al.drop l.upto by rw [HAL.out]; rfl)
  have HSK := Lib.hid (show l.skips = (al.take l.upto).drop l.frm by rw [HAL.out]; rfl)
  generalize l.frm = fr at *
  generalize l.cnt = cn at *
  generalize l.upto = up at *
  obtain ⟨p1, hp1⟩ : ∃ p, p = part a al c 0 fr := ⟨_, rfl⟩
  obtain ⟨p2, hp2⟩ : ∃ p, p = part a al c up L := ⟨_, rfl⟩
  obtain ⟨p3, hp3⟩ : ∃ p, p = part a al c fr up := ⟨_, rfl⟩
  rw [← hp1] at HCF
  rw [← hp2] at HCT
  rw [← hp3] at HCM
  have HP1 := Lib.hid hp1
  have HP2 := Lib.hid hp2
  have HP3 := Lib.hid hp3
  have HL := Lib.hid hL
  have HL2 := Lib.hid hL2
  have HUPL := Lib.hid hup
  have HT3 := Lib.hid (show Three w w3 p1 p2 p3 from ⟨HB3.out, by rw [hp1]; exact part_read HV3.out HNA.out (by omega) (by omega) HLC.out, by rw [hp2]; exact part_read HV3.out HNA.out (by omega) (by omega) HLC.out, by rw [hp3]; exact part_read HV3.out HNA.out (by omega) (by omega) HLC.out⟩)
  have HLEN := Lib.hid (show p1.xs.length + p2.xs.length ≤ 1000 ∧ p3.xs.length ≤ 1000 by rw [hp1, hp2, hp3, part_len (by omega), part_len (by omega), part_len (by omega)]; omega)
  have l0 : (0 : Int) ≤ fr := by omega
  have l1 : (fr : Int) ≤ 128 := by omega
  have l2 : (0 : Int) ≤ cn := by omega
  have l3 : (cn : Int) ≤ 128 := by omega
  have l4 : (L : Int) ≤ 128 := by omega
  have l5 : l.room ≤ 64 := by omega
  have l6 : 0 ≤ l.room := by omega
  clear hp1 hp2 hp3 hL hL2 hup hrm hcn hdl hcl hb3 b0 b1 b2 b3 b4 b5 HV HBX3 HB2 HBB HU
  go_wp2_with fail
  all_goals
    first
      | rw [show ((fr : Int) + ((L : Int) - l.room)) = (up : Int) by have := HUP.out; omega]
      | rw [show ((fr : Int) + (cn : Int)) = (up : Int) by have := HUP.out; omega]

    clear a0 a1 a2 a3 a4 a5 l0 l1 l2 l3 l4 l5 l6
    have HX1 := Lib.hid (show l.dues = p1.xs ++ p2.xs by rw [HDU.out, HP1.out, HP2.out]; unfold part; dsimp only; rw [List.drop_zero, HL.out, List.take_length])
    have HX2 := Lib.hid (show l.skips = p3.xs by rw [HSK.out, HP3.out]; rfl)
    refine wp_region_held_drew (S := fun _ => True) (by kernel_rfl) trivial (fun hHeld => ?_)
    obtain ⟨u, hu⟩ : ∃ u, u = w3.drew := ⟨_, rfl⟩
    have HTu := Lib.hid (show Three w u p1 p2 p3 by rw [hu]; exact HT3.out.below (Below.refl _ _).drew)
    rw [← hu]
    clear hu HT3
    refine wpAnyH_take (i := 0) (oi := ?_) (v := ?_) ?_ (by kernel_rfl) (by kernel_rfl) (by kernel_rfl) ?_ (Or.inl ⟨?_, ?_⟩) (by assumption) ?_
    rotate_left 2
    focus (simp only [List.getElem?_toArray, List.getElem?_cons_zero]; rfl)
    focus exact fun _ _ _ h => h
    focus rfl
    focus (intro W hS; (try dsimp only at hS); go_simp; (try with_reducible rfl))
    try simp only [Act.put]
    try simp only [List.setIfInBounds_toArray]
    try simp only [List.set_cons_succ]
    try simp only [List.set_cons_zero]
    refine wpAnyH_take (i := 1) (oi := ?_) (v := ?_) ?_ (by kernel_rfl) (by kernel_rfl) (by kernel_rfl) ?_ (Or.inl ⟨?_, ?_⟩) (by assumption) ?_
    rotate_left 2
    focus (simp only [List.getElem?_toArray, List.getElem?_cons_succ, List.getElem?_cons_zero]; rfl)
    focus exact fun _ _ _ h => h
    focus rfl
    focus (intro W hS; (try dsimp only at hS); go_simp; (try with_reducible rfl))
    try simp only [Act.put]
    try simp only [List.setIfInBounds_toArray]
    try simp only [List.set_cons_succ]
    try simp only [List.set_cons_zero]
    refine wpAnyH_take (i := 2) (oi := ?_) (v := ?_) ?_ (by kernel_rfl) (by kernel_rfl) (by kernel_rfl) ?_ (Or.inl ⟨?_, ?_⟩) (by assumption) ?_
    rotate_left 2
    focus (simp only [List.getElem?_toArray, List.getElem?_cons_succ, List.getElem?_cons_zero]; rfl)
    focus exact fun _ _ _ h => h
    focus rfl
    focus (intro W hS; (try dsimp only at hS); have e1 := HCF.out W; go_simp; (try with_reducible rfl))
    try simp only [Act.put]
    try simp only [List.setIfInBounds_toArray]
    try simp only [List.set_cons_succ]
    try simp only [List.set_cons_zero]
    refine wpAnyH_take (i := 3) (oi := ?_) (v := ?_) ?_ (by kernel_rfl) (by kernel_rfl) (by kernel_rfl) ?_ (Or.inl ⟨?_, ?_⟩) (by assumption) ?_
    rotate_left 2
    focus (simp only [List.getElem?_toArray, List.getElem?_cons_succ, List.getElem?_cons_zero]; rfl)
    focus exact fun _ _ _ h => h
    focus rfl
    focus (intro W hS; (try dsimp only at hS); go_simp; (try with_reducible rfl))
    try simp only [Act.put]
    try simp only [List.setIfInBounds_toArray]
    try simp only [List.set_cons_succ]
    try simp only [List.set_cons_zero]
    refine wpAnyH_take (i := 4) (oi := ?_) (v := ?_) ?_ (by kernel_rfl) (by kernel_rfl) (by kernel_rfl) ?_ (Or.inl ⟨?_, ?_⟩) (by assumption) ?_
    rotate_left 2
    focus (simp only [List.getElem?_toArray, List.getElem?_cons_succ, List.getElem?_cons_zero]; rfl)
    focus exact fun _ _ _ h => h
    focus rfl
    focus (intro W hS; (try dsimp only at hS); go_simp; (try with_reducible rfl))
    try simp only [Act.put]
    try simp only [List.setIfInBounds_toArray]
    try simp only [List.set_cons_succ]
    try simp only [List.set_cons_zero]
    refine wpAnyH_take (i := 5) (oi := ?_) (v := ?_) ?_ (by kernel_rfl) (by kernel_rfl) (by kernel_rfl) ?_ (Or.inl ⟨?_, ?_⟩) (by assumption) ?_
    rotate_left 2
    focus (simp only [List.getElem?_toArray, List.getElem?_cons_succ, List.getElem?_cons_zero]; rfl)
    focus exact fun _ _ _ h => h
    focus rfl
    focus (intro W hS; (try dsimp only at hS); have e1 := HCT.out W; go_simp; (try with_reducible rfl))
    try simp only [Act.put]
    try simp only [List.setIfInBounds_toArray]
    try simp only [List.set_cons_succ]
    try simp only [List.set_cons_zero]
    refine wpAnyH_take (i := 8) (oi := ?_) (v := ?_) ?_ (by kernel_rfl) (by kernel_rfl) (by kernel_rfl) ?_ (Or.inl ⟨?_, ?_⟩) (by assumption) ?_
    rotate_left 2
    focus (simp only [List.getElem?_toArray, List.getElem?_cons_succ, List.getElem?_cons_zero]; rfl)
    focus exact fun _ _ _ h => h
    focus rfl
    focus (intro W hS; (try dsimp only at hS); go_simp; (try with_reducible rfl))
    try simp only [Act.put]
    try simp only [List.setIfInBounds_toArray]
    try simp only [List.set_cons_succ]
    try simp only [List.set_cons_zero]
    refine wpAnyH_take (i := 9) (oi := ?_) (v := ?_) ?_ (by kernel_rfl) (by kernel_rfl) (by kernel_rfl) ?_ (Or.inl ⟨?_, ?_⟩) (by assumption) ?_
    rotate_left 2
    focus (simp only [List.getElem?_toArray, List.getElem?_cons_succ, List.getElem?_cons_zero]; rfl)
    focus exact fun _ _ _ h => h
    focus rfl
    focus (intro W hS; (try dsimp only at hS); go_simp; (try with_reducible rfl))
    try simp only [Act.put]
    try simp only [List.setIfInBounds_toArray]
    try simp only [List.set_cons_succ]
    try simp only [List.set_cons_zero]
    refine wpAnyH_take (i := 10) (oi := ?_) (v := ?_) ?_ (by kernel_rfl) (by kernel_rfl) (by kernel_rfl) ?_ (Or.inl ⟨?_, ?_⟩) (by assumption) ?_
    rotate_left 2
    focus (simp only [List.getElem?_toArray, List.getElem?_cons_succ, List.getElem?_cons_zero]; rfl)
    focus exact fun _ _ _ h => h
    focus rfl
    focus (intro W hS; (try dsimp only at hS); go_simp; (try with_reducible rfl))
    try simp only [Act.put]
    try simp only [List.setIfInBounds_toArray]
    try simp only [List.set_cons_succ]
    try simp only [List.set_cons_zero]
    refine wpAnyH_take (i := 11) (oi := ?_) (v := ?_) ?_ (by kernel_rfl) (by kernel_rfl) (by kernel_rfl) ?_ (Or.inl ⟨?_, ?_⟩) (by assumption) ?_
    rotate_left 2
    focus (simp only [List.getElem?_toArray, List.getElem?_cons_succ, List.getElem?_cons_zero]; rfl)
    focus exact fun _ _ _ h => h
    focus rfl
    focus (intro W hS; (try dsimp only at hS); have e1 := HCM.out W; go_simp; (try with_reducible rfl))
    try simp only [Act.put]
    try simp only [List.setIfInBounds_toArray]
    try simp only [List.set_cons_succ]
    try simp only [List.set_cons_zero]
    refine wpAnyH_ready (rs := [6, 12]) (by kernel_rfl) (by simp) ?_
    refine AllReadyH.cons (o := ?_) ?_ (fun K hK => ?_) ?_
    rotate_left
    focus (simp only [List.getElem?_toArray, List.getElem?_cons_succ, List.getElem?_cons_zero]; rfl)
    rw [if_pos (by rfl)]
    · go_simp
      obtain ⟨ua, hua⟩ : ∃ W, W = u.alloc (.cells #[.slice p1.a p1.xs.length p1.c, .slice p2.a p2.xs.length p2.c] 22) := ⟨_, rfl⟩
      obtain ⟨G6, hG6⟩ : ∃ n, n = u.heap.size := ⟨_, rfl⟩
      have hb : Below u.heap.size u ua := by rw [hua]; exact (Below.refl _ _).alloc (Nat.le_refl _) _
      have HG6ua := Lib.hid (show ua.heap[G6]? = some (.cells #[.slice p1.a p1.xs.length p1.c, .slice p2.a p2.xs.length p2.c] 22 (0, 0)) by rw [hua, hG6]; exact heap_alloc_new u _)
      have HTua := Lib.hid (HTu.out.below hb)
      rw [← hua, ← hG6]
      clear hua hG6 hb HTu
      refine hK.out _ _ trivial (fun hHeld => ?_)
      clear hK K
      try simp only [Act.put]
      try simp only [List.setIfInBounds_toArray]
      try simp only [List.set_cons_succ]
      try simp only [List.set_cons_zero]
      refine wpAnyH_ready (rs := [7, 12]) (by kernel_rfl) (by simp) ?_
      refine AllReadyH.cons (o := ?_) ?_ (fun K hK => ?_) ?_
      rotate_left
      focus (simp only [List.getElem?_toArray, List.getElem?_cons_succ, List.getElem?_cons_zero]; rfl)
      rw [if_pos (by rfl)]
      · go_simp
        with_reducible refine (call_two HTua.out.p1 HTua.out.p2 HLEN.out.1 HG6ua.out).mono ?_
        rintro e uab ⟨a7, c7, rfl, hr, hf, hb⟩
        have HR7uab := Lib.hid hr
        have HF7 := Lib.hid (show ∀ x, a7 = some x → w.heap.size ≤ x.block from fun x e => Nat.le_trans HTua.out.bel.size (hf x e))
        have HTuab := Lib.hid (HTua.out.below hb)
        have HG6uab := Lib.hid ((hb.block _ (Array.getElem?_eq_some_iff.1 HG6ua.out).1).trans HG6ua.out)
        clear hr hf hb HTua HG6ua
        go_wp2_with fail
        refine hK.out _ _ trivial (fun hHeld => ?_)
        clear hK K
        try simp only [Act.put]
        try simp only [List.setIfInBounds_toArray]
        try simp only [List.set_cons_succ]
        try simp only [List.set_cons_zero]
        refine wpAnyH_ready (rs := [12]) (by kernel_rfl) (by simp) ?_
        refine AllReadyH.cons (o := ?_) ?_ (fun K hK => ?_) AllReadyH.nil
        rotate_left
        focus (simp only [List.getElem?_toArray, List.getElem?_cons_succ, List.getElem?_cons_zero]; rfl)
        rw [if_pos (by rfl)]
        go_simp
        obtain ⟨uabc, huabc⟩ : ∃ W, W = uab.alloc (.cells #[.slice p3.a p3.xs.length p3.c] 22) := ⟨_, rfl⟩
        obtain ⟨G12, hG12⟩ : ∃ n, n = uab.heap.size := ⟨_, rfl⟩
        have hb : Below uab.heap.size uab uabc := by rw [huabc]; exact (Below.refl _ _).alloc (Nat.le_refl _) _
        have HG12uabc := Lib.hid (show uabc.heap[G12]? = some (.cells #[.slice p3.a p3.xs.length p3.c] 22 (0, 0)) by rw [huabc, hG12]; exact heap_alloc_new uab _)
        have HTuabc := Lib.hid (HTuab.out.below hb)
        have HG6uabc := Lib.hid ((hb.block _ (Array.getElem?_eq_some_iff.1 HG6uab.out).1).trans HG6uab.out)
        have HR7uabc := Lib.hid (HR7uab.out.below hb)
        rw [← huabc, ← hG12]
        clear huabc hG12 hb HTuab HG6uab HR7uab
        refine hK.out _ _ trivial (fun hHeld => ?_)
        clear hK K
        try simp only [Act.put]
        try simp only [List.setIfInBounds_toArray]
        try simp only [List.set_cons_succ]
        try simp only [List.set_cons_zero]
        refine wpAnyH_ready (rs := [13]) (by kernel_rfl) (by simp) ?_
        refine AllReadyH.cons (o := ?_) ?_ (fun K hK => ?_) AllReadyH.nil
        rotate_left
        focus (simp only [List.getElem?_toArray, List.getElem?_cons_succ, List.getElem?_cons_zero]; rfl)
        rw [if_pos (by rfl)]
        go_simp
        with_reducible refine (call_one HTuabc.out.p3 HLEN.out.2 HG12uabc.out).mono ?_
        rintro e uabcd ⟨a13, c13, rfl, hr, hf, hb⟩
        have HR13uabcd := Lib.hid hr
        have HF13 := Lib.hid (show ∀ x, a13 = some x → w.heap.size ≤ x.block from fun x e => Nat.le_trans HTuabc.out.bel.size (hf x e))
        have HTuabcd := Lib.hid (HTuabc.out.below hb)
        have HG6uabcd := Lib.hid ((hb.block _ (Array.getElem?_eq_some_iff.1 HG6uabc.out).1).trans HG6uabc.out)
        have HG12uabcd := Lib.hid ((hb.block _ (Array.getElem?_eq_some_iff.1 HG12uabc.out).1).trans HG12uabc.out)
        have HR7uabcd := Lib.hid (HR7uabc.out.below hb)
        clear hr hf hb HTuabc HG6uabc HG12uabc HR7uabc
        go_wp2_with fail
        refine hK.out _ _ trivial (fun hHeld => ?_)
        clear hK K
        try simp only [Act.put]
        try simp only [List.setIfInBounds_toArray]
        try simp only [List.set_cons_succ]
        try simp only [List.set_cons_zero]
        refine wpAnyH_take (i := 14) (oi := ?_) (v := ?_) ?_ (by kernel_rfl) (by kernel_rfl) (by kernel_rfl) ?_ (Or.inl ⟨?_, ?_⟩) (by assumption) ?_
        rotate_left 2
        focus (simp only [List.getElem?_toArray, List.getElem?_cons_succ, List.getElem?_cons_zero]; rfl)
        focus exact fun _ _ _ h => h
        focus rfl
        focus (intro W hS; (try dsimp only at hS); go_simp; (try with_reducible rfl))
        try simp only [Act.put]
        try simp only [List.setIfInBounds_toArray]
        try simp only [List.set_cons_succ]
        try simp only [List.set_cons_zero]
        refine wpAnyH_take (i := 15) (oi := ?_) (v := ?_) ?_ (by kernel_rfl) (by kernel_rfl) (by kernel_rfl) ?_ (Or.inl ⟨?_, ?_⟩) (by assumption) ?_
        rotate_left 2
        focus (simp only [List.getElem?_toArray, List.getElem?_cons_succ, List.getElem?_cons_zero]; rfl)
        focus exact fun _ _ _ h => h
        focus rfl
        focus (intro W hS; (try dsimp only at hS); go_simp; (try with_reducible rfl))
        try simp only [Act.put]
        try simp only [List.setIfInBounds_toArray]
        try simp only [List.set_cons_succ]
        try simp only [List.set_cons_zero]
        refine wpAnyH_take (i := 16) (oi := ?_) (v := ?_) ?_ (by kernel_rfl) (by kernel_rfl) (by kernel_rfl) ?_ (Or.inl ⟨?_, ?_⟩) (by assumption) ?_
        rotate_left 2
        focus (simp only [List.getElem?_toArray, List.getElem?_cons_succ, List.getElem?_cons_zero]; rfl)
        focus exact fun _ _ _ h => h
        focus rfl
        focus (intro W hS; (try dsimp only at hS); go_simp; (try with_reducible rfl))
        try simp only [Act.put]
        try simp only [List.setIfInBounds_toArray]
        try simp only [List.set_cons_succ]
        try simp only [List.set_cons_zero]
        refine wpAnyH_done (by kernel_rfl) ?_ _
        go_wp2

        go_ret3
        refine ⟨a7, a13, c7, c13, ?_, ?_, ?_, HF7.out, HF13.out, HTuabcd.out.bel⟩
        · rw [HX1.out, HX2.out, List.length_append]; rfl
        · rw [HX1.out]; exact HR7uabcd.out
        · rw [HX2.out]; exact HR13uabcd.out
      refine AllReadyH.cons (o := ?_) ?_ (fun K hK => ?_) AllReadyH.nil
      rotate_left
      focus (simp only [List.getElem?_toArray, List.getElem?_cons_succ, List.getElem?_cons_zero]; rfl)
      rw [if_pos (by rfl)]
      go_simp
      obtain ⟨uac, huac⟩ : ∃ W, W = ua.alloc (.cells #[.slice p3.a p3.xs.length p3.c] 22) := ⟨_, rfl⟩
      obtain ⟨G12, hG12⟩ : ∃ n, n = ua.heap.size := ⟨_, rfl⟩
      have hb : Below ua.heap.size ua uac := by rw [huac]; exact (Below.refl _ _).alloc (Nat.le_refl _) _
      have HG12uac := Lib.hid (show uac.heap[G12]? = some (.cells #[.slice p3.a p3.xs.length p3.c] 22 (0, 0)) by rw [huac, hG12]; exact heap_alloc_new ua _)
      have HTuac := Lib.hid (HTua.out.below hb)
      have HG6uac := Lib.hid ((hb.block _ (Array.getElem?_eq_some_iff.1 HG6ua.out).1).trans HG6ua.out)
      rw [← huac, ← hG12]
      clear huac hG12 hb HTua HG6ua
      refine hK.out _ _ trivial (fun hHeld => ?_)
      clear hK K
      try simp only [Act.put]
      try simp only [List.setIfInBounds_toArray]
      try simp only [List.set_cons_succ]
      try simp only [List.set_cons_zero]
      refine wpAnyH_ready (rs := [7]) (by kernel_rfl) (by simp) ?_
      refine AllReadyH.cons (o := ?_) ?_ (fun K hK => ?_) AllReadyH.nil
      rotate_left
      focus (simp only [List.getElem?_toArray, List.getElem?_cons_succ, List.getElem?_cons_zero]; rfl)
      rw [if_pos (by rfl)]
      go_simp
      with_reducible refine (call_two HTuac.out.p1 HTuac.out.p2 HLEN.out.1 HG6uac.out).mono ?_
      rintro e uacb ⟨a7, c7, rfl, hr, hf, hb⟩
      have HR7uacb := Lib.hid hr
      have HF7 := Lib.hid (show ∀ x, a7 = some x → w.heap.size ≤ x.block from fun x e => Nat.le_trans HTuac.out.bel.size (hf x e))
      have HTuacb := Lib.hid (HTuac.out.below hb)
      have HG6uacb := Lib.hid ((hb.block _ (Array.getElem?_eq_some_iff.1 HG6uac.out).1).trans HG6uac.out)
      have HG12uacb := Lib.hid ((hb.block _ (Array.getElem?_eq_some_iff.1 HG12uac.out).1).trans HG12uac.out)
      clear hr hf hb HTuac HG6uac HG12uac
      go_wp2_with fail
      refine hK.out _ _ trivial (fun hHeld => ?_)
      clear hK K
      try simp only [Act.put]
      try simp only [List.setIfInBounds_toArray]
      try simp only [List.set_cons_succ]
      try simp only [List.set_cons_zero]
      refine wpAnyH_ready (rs := [13]) (by kernel_rfl) (by simp) ?_
      refine AllReadyH.cons (o := ?_) ?_ (fun K hK => ?_) AllReadyH.nil
      rotate_left
      focus (simp only [List.getElem?_toArray, List.getElem?_cons_succ, List.getElem?_cons_zero]; rfl)
      rw [if_pos (by rfl)]
      go_simp
      with_reducible refine (call_one HTuacb.out.p3 HLEN.out.2 HG12uacb.out).mono ?_
      rintro e uacbd ⟨a13, c13, rfl, hr, hf, hb⟩
      have HR13uacbd := Lib.hid hr
      have HF13 := Lib.hid (show ∀ x, a13 = some x → w.heap.size ≤ x.block from fun x e => Nat.le_trans HTuacb.out.bel.size (hf x e))
      have HTuacbd := Lib.hid (HTuacb.out.below hb)
      have HG6uacbd := Lib.hid ((hb.block _ (Array.getElem?_eq_some_iff.1 HG6uacb.out).1).trans HG6uacb.out)
      have HG12uacbd := Lib.hid ((hb.block _ (Array.getElem?_eq_some_iff.1 HG12uacb.out).1).trans HG12uacb.out)
      have HR7uacbd := Lib.hid (HR7uacb.out.below hb)
      clear hr hf hb HTuacb HG6uacb HG12uacb HR7uacb
      go_wp2_with fail
      refine hK.out _ _ trivial (fun hHeld => ?_)
      clear hK K
      try simp only [Act.put]
      try simp only [List.setIfInBounds_toArray]
      try simp only [List.set_cons_succ]
      try simp only [List.set_cons_zero]
      refine wpAnyH_take (i := 14) (oi := ?_) (v := ?_) ?_ (by kernel_rfl) (by kernel_rfl) (by kernel_rfl) ?_ (Or.inl ⟨?_, ?_⟩) (by assumption) ?_
      rotate_left 2
      focus (simp only [List.getElem?_toArray, List.getElem?_cons_succ, List.getElem?_cons_zero]; rfl)
      focus exact fun _ _ _ h => h
      focus rfl
      focus (intro W hS; (try dsimp only at hS); go_simp; (try with_reducible rfl))
      try simp only [Act.put]
      try simp only [List.setIfInBounds_toArray]
      try simp only [List.set_cons_succ]
      try simp only [List.set_cons_zero]
      refine wpAnyH_take (i := 15) (oi := ?_) (v := ?_) ?_ (by kernel_rfl) (by kernel_rfl) (by kernel_rfl) ?_ (Or.inl ⟨?_, ?_⟩) (by assumption) ?_
      rotate_left 2
      focus (simp only [List.getElem?_toArray, List.getElem?_cons_succ, List.getElem?_cons_zero]; rfl)
      focus exact fun _ _ _ h => h
      focus rfl
      focus (intro W hS; (try dsimp only at hS); go_simp; (try with_reducible rfl))
      try simp only [Act.put]
      try simp only [List.setIfInBounds_toArray]
      try simp only [List.set_cons_succ]
      try simp only [List.set_cons_zero]
      refine wpAnyH_take (i := 16) (oi := ?_) (v := ?_) ?_ (by kernel_rfl) (by kernel_rfl) (by kernel_rfl) ?_ (Or.inl ⟨?_, ?_⟩) (by assumption) ?_
      rotate_left 2
      focus (simp only [List.getElem?_toArray, List.getElem?_cons_succ, List.getElem?_cons_zero]; rfl)
      focus exact fun _ _ _ h => h
      focus rfl
      focus (intro W hS; (try dsimp only at hS); go_simp; (try with_reducible rfl))
      try simp only [Act.put]
      try simp only [List.setIfInBounds_toArray]
      try simp only [List.set_cons_succ]
      try simp only [List.set_cons_zero]
      refine wpAnyH_done (by kernel_rfl) ?_ _
      go_wp2

      go_ret3
      refine ⟨a7, a13, c7, c13, ?_, ?_, ?_, HF7.out, HF13.out, HTuacbd.out.bel⟩
      · rw [HX1.out, HX2.out, List.length_append]; rfl
      · rw [HX1.out]; exact HR7uacbd.out
      · rw [HX2.out]; exact HR13uacbd.out
    refine AllReadyH.cons (o := ?_) ?_ (fun K hK => ?_) AllReadyH.nil
    rotate_left
    focus (simp only [List.getElem?_toArray, List.getElem?_cons_succ, List.getElem?_cons_zero]; rfl)
    rw [if_pos (by rfl)]
    go_simp
    obtain ⟨uc, huc⟩ : ∃ W, W = u.alloc (.cells #[.slice p3.a p3.xs.length p3.c] 22) := ⟨_, rfl⟩
    obtain ⟨G12, hG12⟩ : ∃ n, n = u.heap.size := ⟨_, rfl⟩
    have hb : Below u.heap.size u uc := by rw [huc]; exact (Below.refl _ _).alloc (Nat.le_refl _) _
    have HG12uc := Lib.hid (show uc.heap[G12]? = some (.cells #[.slice p3.a p3.xs.length p3.c] 22 (0, 0)) by rw [huc, hG12]; exact heap_alloc_new u _)
    have HTuc := Lib.hid (HTu.out.below hb)
    rw [← huc, ← hG12]
    clear huc hG12 hb HTu
    refine hK.out _ _ trivial (fun hHeld => ?_)
    clear hK K
    try simp only [Act.put]
    try simp only [List.setIfInBounds_toArray]
    try simp only [List.set_cons_succ]
    try simp only [List.set_cons_zero]
    refine wpAnyH_ready (rs := [6]) (by kernel_rfl) (by simp) ?_
    refine AllReadyH.cons (o := ?_) ?_ (fun K hK => ?_) AllReadyH.nil
    rotate_left
    focus (simp only [List.getElem?_toArray, List.getElem?_cons_succ, List.getElem?_cons_zero]; rfl)
    rw [if_pos (by rfl)]
    go_simp
    obtain ⟨uca, huca⟩ : ∃ W, W = uc.alloc (.cells #[.slice p1.a p1.xs.length p1.c, .slice p2.a p2.xs.length p2.c] 22) := ⟨_, rfl⟩
    obtain ⟨G6, hG6⟩ : ∃ n, n = uc.heap.size := ⟨_, rfl⟩
    have hb : Below uc.heap.size uc uca := by rw [huca]; exact (Below.refl _ _).alloc (Nat.le_refl _) _
    have HG6uca := Lib.hid (show uca.heap[G6]? = some (.cells #[.slice p1.a p1.xs.length p1.c, .slice p2.a p2.xs.length p2.c] 22 (0, 0)) by rw [huca, hG6]; exact heap_alloc_new uc _)
    have HTuca := Lib.hid (HTuc.out.below hb)
    have HG12uca := Lib.hid ((hb.block _ (Array.getElem?_eq_some_iff.1 HG12uc.out).1).trans HG12uc.out)
    rw [← huca, ← hG6]
    clear huca hG6 hb HTuc HG12uc
    refine hK.out _ _ trivial (fun hHeld => ?_)
    clear hK K
    try simp only [Act.put]
    try simp only [List.setIfInBounds_toArray]
    try simp only [List.set_cons_succ]
    try simp only [List.set_cons_zero]
    refine wpAnyH_ready (rs := [7]) (by kernel_rfl) (by simp) ?_
    refine AllReadyH.cons (o := ?_) ?_ (fun K hK => ?_) AllReadyH.nil
    rotate_left
    focus (simp only [List.getElem?_toArray, List.getElem?_cons_succ, List.getElem?_cons_zero]; rfl)
    rw [if_pos (by rfl)]
    go_simp
    with_reducible refine (call_two HTuca.out.p1 HTuca.out.p2 HLEN.out.1 HG6uca.out).mono ?_
    rintro e ucab ⟨a7, c7, rfl, hr, hf, hb⟩
    have HR7ucab := Lib.hid hr
    have HF7 := Lib.hid (show ∀ x, a7 = some x → w.heap.size ≤ x.block from fun x e => Nat.le_trans HTuca.out.bel.size (hf x e))
    have HTucab := Lib.hid (HTuca.out.below hb)
    have HG12ucab := Lib.hid ((hb.block _ (Array.getElem?_eq_some_iff.1 HG12uca.out).1).trans HG12uca.out)
    have HG6ucab := Lib.hid ((hb.block _ (Array.getElem?_eq_some_iff.1 HG6uca.out).1).trans HG6uca.out)
    clear hr hf hb HTuca HG12uca HG6uca
    go_wp2_with fail
    refine hK.out _ _ trivial (fun hHeld => ?_)
    clear hK K
    try simp only [Act.put]
    try simp only [List.setIfInBounds_toArray]
    try simp only [List.set_cons_succ]
    try simp only [List.set_cons_zero]
    refine wpAnyH_ready (rs := [13]) (by kernel_rfl) (by simp) ?_
    refine AllReadyH.cons (o := ?_) ?_ (fun K hK => ?_) AllReadyH.nil
    rotate_left
    focus (simp only [List.getElem?_toArray, List.getElem?_cons_succ, List.getElem?_cons_zero]; rfl)
    rw [if_pos (by rfl)]
    go_simp
    with_reducible refine (call_one HTucab.out.p3 HLEN.out.2 HG12ucab.out).mono ?_
    rintro e ucabd ⟨a13, c13, rfl, hr, hf, hb⟩
    have HR13ucabd := Lib.hid hr
    have HF13 := Lib.hid (show ∀ x, a13 = some x → w.heap.size ≤ x.block from fun x e => Nat.le_trans HTucab.out.bel.size (hf x e))
    have HTucabd := Lib.hid (HTucab.out.below hb)
    have HG12ucabd := Lib.hid ((hb.block _ (Array.getElem?_eq_some_iff.1 HG12ucab.out).1).trans HG12ucab.out)
    have HG6ucabd := Lib.hid ((hb.block _ (Array.getElem?_eq_some_iff.1 HG6ucab.out).1).trans HG6ucab.out)
    have HR7ucabd := Lib.hid (HR7ucab.out.below hb)
    clear hr hf hb HTucab HG12ucab HG6ucab HR7ucab
    go_wp2_with fail
    refine hK.out _ _ trivial (fun hHeld => ?_)
    clear hK K
    try simp only [Act.put]
    try simp only [List.setIfInBounds_toArray]
    try simp only [List.set_cons_succ]
    try simp only [List.set_cons_zero]
    refine wpAnyH_take (i := 14) (oi := ?_) (v := ?_) ?_ (by kernel_rfl) (by kernel_rfl) (by kernel_rfl) ?_ (Or.inl ⟨?_, ?_⟩) (by assumption) ?_
    rotate_left 2
    focus (simp only [List.getElem?_toArray, List.getElem?_cons_succ, List.getElem?_cons_zero]; rfl)
    focus exact fun _ _ _ h => h
    focus rfl
    focus (intro W hS; (try dsimp only at hS); go_simp; (try with_reducible rfl))
    try simp only [Act.put]
    try simp only [List.setIfInBounds_toArray]
    try simp only [List.set_cons_succ]
    try simp only [List.set_cons_zero]
    refine wpAnyH_take (i := 15) (oi := ?_) (v := ?_) ?_ (by kernel_rfl) (by kernel_rfl) (by kernel_rfl) ?_ (Or.inl ⟨?_, ?_⟩) (by assumption) ?_
    rotate_left 2
    focus (simp only [List.getElem?_toArray, List.getElem?_cons_succ, List.getElem?_cons_zero]; rfl)
    focus exact fun _ _ _ h => h
    focus rfl
    focus (intro W hS; (try dsimp only at hS); go_simp; (try with_reducible rfl))
    try simp only [Act.put]
    try simp only [List.setIfInBounds_toArray]
    try simp only [List.set_cons_succ]
    try simp only [List.set_cons_zero]
    refine wpAnyH_take (i := 16) (oi := ?_) (v := ?_) ?_ (by kernel_rfl) (by kernel_rfl) (by kernel_rfl) ?_ (Or.inl ⟨?_, ?_⟩) (by assumption) ?_
    rotate_left 2
    focus (simp only [List.getElem?_toArray, List.getElem?_cons_succ, List.getElem?_cons_zero]; rfl)
    focus exact fun _ _ _ h => h
    focus rfl
    focus (intro W hS; (try dsimp only at hS); go_simp; (try with_reducible rfl))
    try simp only [Act.put]
    try simp only [List.setIfInBounds_toArray]
    try simp only [List.set_cons_succ]
    try simp only [List.set_cons_zero]
    refine wpAnyH_done (by kernel_rfl) ?_ _
    go_wp2

    go_ret3
    refine ⟨a7, a13, c7, c13, ?_, ?_, ?_, HF7.out, HF13.out, HTucabd.out.bel⟩
    · rw [HX1.out, HX2.out, List.length_append]; rfl
    · rw [HX1.out]; exact HR7ucabd.out
    · rw [HX2.out]; exact HR13ucabd.out
end Go.Proofs.Ytkhajpefnkialaa.Job
