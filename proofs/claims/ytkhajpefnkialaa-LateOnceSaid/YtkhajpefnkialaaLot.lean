/- A lot as it lies in memory; whether it may be: the mathematics, and May by its contract. -/
import Derived.Test.YtkhajpefnkialaaConcat
import Derived.Deep.QuietTactic
namespace Go.Proofs.Ytkhajpefnkialaa.Job
open Go.RowKit

/-- a lot; what is due lies at da, what comes at ca -/
structure Lt where
  pol : Int
  gra : Int
  now : Int
  da : Option Addr
  dc : Nat
  ds : List Int
  ca : Option Addr
  cc : Nat
  cs : List Int
  room : Int
def lcells (pol gra now : Int) (da : Option Addr) (dl dc : Nat) (ca : Option Addr) (cl cc : Nat) (room : Int) : Array Value :=
  #[.int .i64 pol, .int .i64 gra, .int .i64 now, .slice da dl dc, .slice ca cl cc, .int .i64 room]
def Lt.cells (l : Lt) : Array Value := lcells l.pol l.gra l.now l.da l.ds.length l.dc l.ca l.cs.length l.cc l.room
def Lt.val (l : Lt) : Value := .agg l.cells
def Lt.due (l : Lt) : Sl := ⟨l.da, l.ds, l.dc⟩
def Lt.come (l : Lt) : Sl := ⟨l.ca, l.cs, l.cc⟩
def Lt.all (l : Lt) : List Int := l.ds ++ l.cs
/-- its moments are read -/
structure LtF (w : World) (l : Lt) : Prop where
  due : SlF w l.due
  come : SlF w l.come
theorem LtF.below {w w' : World} {l : Lt} (h : LtF w l) (hb : Below w.heap.size w w') : LtF w' l := ⟨h.due.below hb, h.come.below hb⟩

/-- each is above the one ahead -/
def risesB (a : Int) : List Int → Bool
  | [] => true
  | x :: r => decide (a < x) && risesB x r
/-- the last one -/
def lastI (a : Int) : List Int → Int
  | [] => a
  | x :: r => lastI x r
def Lt.ok (l : Lt) : Bool := risesB (-1) l.all && (decide (l.cs.length = 0) || decide (lastI (-1) l.all ≤ l.now))
def Lt.may (l : Lt) : Bool := decide (1 ≤ l.pol) && (decide (l.pol ≤ 3) && (decide (0 ≤ l.gra) && (decide (0 ≤ l.now) && (decide (l.now < 13569465600) && (decide ((l.ds.length : Int) ≤ l.room) && (decide (l.room ≤ 64) && (decide ((l.cs.length : Int) ≤ 64) && l.ok)))))))

/-- a lot in a block -/
def lobj (l : Lt) : Obj := .cells l.cells 24 (0, 0)
theorem lobj_cells {W : World} {B : Nat} {l : Lt} (h : W.heap[B]? = some (lobj l)) :
    (W.cell? ⟨B, 0, none⟩ = some (.int .i64 l.pol) ∧ W.cell? ⟨B, 1, none⟩ = some (.int .i64 l.gra) ∧ W.cell? ⟨B, 2, none⟩ = some (.int .i64 l.now)) ∧
    (W.cell? ⟨B, 3, none⟩ = some (.slice l.da l.ds.length l.dc) ∧ W.cell? ⟨B, 4, none⟩ = some (.slice l.ca l.cs.length l.cc) ∧ W.cell? ⟨B, 5, none⟩ = some (.int .i64 l.room)) :=
  ⟨⟨cell_of_row _ B 0 _ _ _ h, cell_of_row _ B 1 _ _ _ h, cell_of_row _ B 2 _ _ _ h⟩, cell_of_row _ B 3 _ _ _ h, cell_of_row _ B 4 _ _ _ h, cell_of_row _ B 5 _ _ _ h⟩

/-- two rows as the arguments of a call -/
theorem two_rows {W : World} {g : Nat} {s1 s2 : Sl} (h : W.heap[g]? = some (.cells #[.slice s1.a s1.xs.length s1.c, .slice s2.a s2.xs.length s2.c] 22 (0, 0))) :
    Vals W (some ⟨g, 0, none⟩) ([s1, s2].map Sl.val) := vals_row _ h fun i hi => by
  match i, hi with
  | 0, _ => rfl
  | 1, _ => rfl
theorem one_row {W : World} {g : Nat} {s1 : Sl} (h : W.heap[g]? = some (.cells #[.slice s1.a s1.xs.length s1.c] 22 (0, 0))) :
    Vals W (some ⟨g, 0, none⟩) ([s1].map Sl.val) := vals_row _ h fun i hi => by
  match i, hi with
  | 0, _ => rfl
/-- slices.Concat of two rows, one of which was read before its call's rows were made -/
theorem concat_two {w W : World} {s1 s2 : Sl} {g c : Nat} (h1 : SlF w s1) (h2 : SlF w s2) (hb : Below w.heap.size w W) (hl : s1.xs.length + s2.xs.length ≤ 1000)
    (h : W.heap[g]? = some (.cells #[.slice s1.a s1.xs.length s1.c, .slice s2.a s2.xs.length s2.c] 22 (0, 0))) :
    Calls Try.prog 9 #[.slice (some ⟨g, 0, none⟩) 2 c] W fun e w' => ∃ v, e = .returned v ∧ RowI w' W.heap.size (s1.xs ++ s2.xs) v ∧ Below W.heap.size W w' := by
  have := concat_any (c := c) (two_rows h) (fun s hs => by
    simp at hs
    rcases hs with rfl | rfl
    · exact h1.below hb
    · exact h2.below hb) (by simp) (by simp [total]; omega)
  simpa [flat] using this
theorem concat_one {w W : World} {s1 : Sl} {g c : Nat} (h1 : SlF w s1) (hb : Below w.heap.size w W) (hl : s1.xs.length ≤ 1000)
    (h : W.heap[g]? = some (.cells #[.slice s1.a s1.xs.length s1.c] 22 (0, 0))) :
    Calls Try.prog 9 #[.slice (some ⟨g, 0, none⟩) 1 c] W fun e w' => ∃ v, e = .returned v ∧ RowI w' W.heap.size s1.xs v ∧ Below W.heap.size W w' := by
  have := concat_any (c := c) (one_row h) (fun s hs => by
    simp at hs
    subst hs
    exact h1.below hb) (by simp) (by simp [total]; omega)
  simpa [flat] using this

set_option maxRecDepth 100000 in
set_option maxHeartbeats 4000000 in
theorem moments_any {w : World} {l : Lt} (hl : LtF w l) (hd : l.ds.length ≤ 64) (hc : l.cs.length ≤ 64) :
    Calls Try.prog 8 #[l.val] w fun e w' => e = .returned (.bool l.ok) ∧ Below w.heap.size w w' := by
  obtain ⟨wa, hwa⟩ : ∃ W, W = w.alloc (.cells l.cells 24) := ⟨_, rfl⟩
  obtain ⟨wb, hwb⟩ : ∃ W, W = wa.alloc (.cells #[.slice l.da l.ds.length l.dc, .slice l.ca l.cs.length l.cc] 22) := ⟨_, rfl⟩
  have hba : Below w.heap.size w wa := by rw [hwa]; exact (Below.refl _ _).alloc (Nat.le_refl _) _
  have hbb : Below w.heap.size w wb := by rw [hwb]; exact hba.alloc hba.size _
  have hsa : wa.heap.size = w.heap.size + 1 := by rw [hwa]; simp
  have hsb : wb.heap.size = w.heap.size + 2 := by rw [hwb]; simp [hsa]
  have HBX := Lib.hid (show wa.heap[w.heap.size]? = some (lobj l) by rw [hwa]; exact heap_alloc_new w _)
  have HBX2 := Lib.hid (show wb.heap[w.heap.size]? = some (lobj l) by rw [hwb]; exact (Below.heap_alloc _ _ _ (by rw [hsa]; omega)).trans HBX.out)
  have HCON := Lib.hid (concat_two (W := wb) (g := w.heap.size + 1) (c := 2) hl.due hl.come hbb (by unfold Lt.due Lt.come; simp only []; omega) (by rw [hwb, ← hsa]; exact heap_alloc_new wa _))
  have HBA := Lib.hid hba
  have HBB := Lib.hid hbb
  obtain ⟨al, hal⟩ : ∃ al, al = l.all := ⟨_, rfl⟩
  obtain ⟨R, hR⟩ : ∃ R, R = l.ok := ⟨_, rfl⟩
  have HR := Lib.hid (show R = (risesB (-1) al && (decide (l.cs.length = 0) || decide (lastI (-1) al ≤ l.now))) by rw [hR, hal]; rfl)
  have HAL := Lib.hid hal
  have hlen : al.length = l.ds.length + l.cs.length := by rw [hal]; simp [Lt.all]
  rw [← hR]
  have HCN := Lib.hid (show ∀ e w', (∃ v, e = Ending.returned v ∧ RowI w' wb.heap.size (l.due.xs ++ l.come.xs) v ∧ Below wb.heap.size wb w') → ∃ a c, e = Ending.returned (.slice a al.length c) ∧ Vals w' a (al.map iv) ∧ al.length ≤ c ∧ w'.heap[w.heap.size]? = some (lobj l) ∧ Below w.heap.size w w' from by
    rintro e w' ⟨v, rfl, hrow, hb⟩
    obtain ⟨a, c, rfl, -, h3, -, h5, h6⟩ := own_shape hrow
    rw [List.length_map] at h6
    have h7 : (l.due.xs ++ l.come.xs) = al := hal.symm
    rw [h7] at h5 h3 h6 ⊢
    exact ⟨a, c, rfl, h5, h3, (hb.block _ (by rw [hsb]; omega)).trans HBX2.out, hbb.trans (hb.mono hbb.size)⟩)
  clear hR hal hba hbb hsa hsb
  unfold lobj Lt.val Lt.cells lcells at *
  have HWA := Lib.hid hwa
  have HWB := Lib.hid hwb
  clear hwa hwb
  go_enter Try.func8, Try.ntmps8
  go_wp2_with fail
  rw [← HWA.out, ← HWB.out]
  refine HCON.out.mono ?_
  rintro e w1 h1
  obtain ⟨a, c, rfl, hv, hlc, hbx, hb1⟩ := HCN.out _ _ h1
  obtain ⟨L, hL⟩ : ∃ L, L = al.length := ⟨_, rfl⟩
  rw [← hL]
  have HL := Lib.hid hL
  have HL2 := Lib.hid (show L ≤ 128 by omega)
  have HV := Lib.hid hv
  have HBX3 := Lib.hid hbx
  have HB1 := Lib.hid hb1
  clear h1 hL hv hlc hbx hb1 HCN HCON HBX HBX2 HBA HBB hlen
  go_wp2_with fail
  go_loopw [3, 13] (fun v3 v13 wr => ∃ (i : Nat) (ah : Int), v3 = .int .i64 ah ∧ v13 = .int .i64 (i : Int) ∧ i ≤ L ∧ Drew w1 wr ∧ risesB (-1) al = risesB ah (al.drop i) ∧ lastI (-1) al = lastI ah (al.drop i)) (fun _ v13 _ => L - (intOf v13).toNat)
  case atStart => exact ⟨0, -1, rfl, rfl, Nat.zero_le _, Drew.refl _, rfl, rfl⟩
  case round =>
    obtain ⟨i, ah, rfl, rfl, hi, hdr, hr, hla⟩ := hrel
    have HDR := Lib.hid hdr
    by_cases hlt : i < L
    · have hlR : i < al.length := by have := HL.out; omega
      obtain ⟨g, q, h1, h2⟩ := HV.out
      have ea := h1 (by intro e; have := congrArg List.length e; rw [List.length_map, List.length_nil] at this; omega)
      cases ea
      obtain ⟨hg, hc0⟩ := h2 i (by simpa using hlR)
      rw [List.getElem_map] at hc0
      have hc2 := (hdr.bel.cell (p := ⟨g, q + i, none⟩) hg).trans hc0
      have hdrop : al.drop i = al[i] :: al.drop (i + 1) := List.drop_eq_getElem_cons hlR
      obtain ⟨x, hx⟩ : ∃ x, al[i] = x := ⟨_, rfl⟩
      rw [hx] at hc2 hdrop
      rw [hdrop] at hr hla
      unfold iv at hc2
      have d1 : decide ((i : Int) < (L : Int)) = true := by simp; omega
      have hb0 : (0 : Int) ≤ i := by omega
      have hb1 : (i : Int) < 200 := by have := HL2.out; omega
      by_cases hle : x ≤ ah
      · have HRR := Lib.hid (show R = false by rw [HR.out, hr]; simp [risesB]; intro h; omega)
        clear hr hla hx hdrop hc0 h1 h2 hg hdr
        go_wp2_with fail
        go_ret
        exact ⟨by rw [HRR.out]; rfl, HB1.out.trans (HDR.out.bel.mono HB1.out.size)⟩
      · have hle2 : decide (x ≤ ah) = false := decide_eq_false hle
        have hlt2 : decide (ah < x) = true := by simp; omega
        have HRR := Lib.hid hr
        have HLA := Lib.hid hla
        clear hr hla hx hdrop hc0 h1 h2 hg hdr
        go_wp2_with fail
        go_roundw
        case rel => exact ⟨i + 1, x, rfl, by go_num, by omega, HDR.out, by rw [HRR.out, risesB, hlt2, Bool.true_and], by rw [HLA.out, lastI]⟩
        case measure => simp [intOf]; omega
    · have d1 : decide ((i : Int) < (L : Int)) = false := by simp; omega
      have hall : al.drop i = [] := List.drop_eq_nil_of_le (by have := HL.out; omega)
      rw [hall] at hr hla
      have hbx := (HDR.out.bel.block _ (Nat.lt_of_lt_of_le (by have := (Array.getElem?_eq_some_iff.1 HBX3.out).1; exact this) (Nat.le_refl _))).trans HBX3.out
      obtain ⟨⟨c0, c1, c2⟩, c3, c4, c5⟩ := lobj_cells (l := l) hbx
      have hrv : R = (decide (l.cs.length = 0) || decide (ah ≤ l.now)) := by rw [HR.out, hr, hla]; rfl
      have HRR := Lib.hid hrv
      have HBX4 := Lib.hid hbx
      clear hr hla hall hrv hbx hdr
      by_cases h0 : l.cs.length = 0
      · have e0 : ((l.cs.length : Int) == 0) = true := by simp [h0]
        have HRV := Lib.hid (show R = true by rw [HRR.out, decide_eq_true h0, Bool.true_or])
        clear h0
        go_wp2_with fail
        go_ret
        exact ⟨by rw [HRV.out]; rfl, HB1.out.trans (HDR.out.bel.mono HB1.out.size)⟩
      · have e2 : ((l.cs.length : Int) == 0) = false := by simpa using h0
        have HRV := Lib.hid (show R = decide (ah ≤ l.now) by rw [HRR.out, decide_eq_false h0, Bool.false_or])
        clear h0
        go_wp2_with fail
        go_ret
        exact ⟨by rw [HRV.out]; rfl, HB1.out.trans (HDR.out.bel.mono HB1.out.size)⟩
end Go.Proofs.Ytkhajpefnkialaa.Job
