/- The tables as the rows list them: what their list gives, and a world for the witness; a clock that comes in. -/
import Derived.Test.YtpafjdbckbhcoaaDoorCards
import Derived.Test.YtpafjdbckbhcoaaDoorTie
import Derived.Test.YtpafjdbckbhcoaaDoorTwo
import Derived.WalkKit
import Derived.ProofKit
import Derived.OpenShut
import Derived.Deep.DeepHandedRow
import Derived.Lib.LaidTab
import Derived.LaidSub
import Derived.Lib.SmallJoins
namespace Go.Proofs.YtpafjdbckbhcoaaDoor
open Go.ChangeShapes Go.WideShapes Go.ChangeAt Go.RowKit

theorem ownLaid : ownKnob Tryd.prog.godebug = none := by kernel_rfl
theorem gMon : Tryd.prog.globalNamed "ringer/civil.months" = some 0 := by kernel_rfl
theorem gMonType : (Tryd.prog.globals[0]?).map (·.type) = some 49 := by kernel_rfl
theorem gPowType : (Tryd.prog.globals[1]?).map (·.type) = some 59 := by kernel_rfl
theorem cellsMon : Tryd.prog.cellsOf 49 = 12 := by kernel_rfl
theorem cellsInt : Tryd.prog.cellsOf 3 = 1 := by kernel_rfl
theorem cellsPow : Tryd.prog.cellsOf 59 = 20 := by kernel_rfl
theorem cellsU64 : Tryd.prog.cellsOf 52 = 1 := by kernel_rfl

def laidAll : List (String × DataW Unit) := [("math/bits.deBruijn32tab", Rows.laid_math_bits_deBruijn32tab), ("math/bits.deBruijn64tab", Rows.laid_math_bits_deBruijn64tab), ("internal/strconv.uint64pow10", Rows.laid_internal_strconv_uint64pow10), ("ringer/civil.months", Rows.laid_ringer_civil_months)]

theorem mon_met {W : World} (h : laidMetH Tryd.prog laidAll W) : Mon W := by
  have h1 := h.filter (fun x => x.1 == "ringer/civil.months")
  rw [show laidAll.filter (fun x => x.1 == "ringer/civil.months") = [("ringer/civil.months", Rows.laid_ringer_civil_months)] by kernel_rfl] at h1
  have ht : Lib.TabIs Tryd.prog W "ringer/civil.months" .i64 lens := Lib.tabIs_of_head (rest := []) gMon gMonType Tryd.underlying49 Tryd.underlying3 cellsInt cellsMon h1
  have hc : ∀ i : Nat, i < 12 → W.cell? ⟨0, i, none⟩ = some (.int .i64 (lens.getD i 0)) := fun i hi => ht.cell gMon i hi
  refine ⟨?_, hc⟩
  rcases Nat.eq_zero_or_pos W.heap.size with h0 | h0
  · have h1 := hc 0 (by decide)
    simp [World.cell?, h0] at h1
  · exact h0
theorem pow_met {W : World} (h : laidMetH Tryd.prog laidAll W) : Pow W := by
  have h1 := h.filter (fun x => x.1 == "internal/strconv.uint64pow10")
  rw [show laidAll.filter (fun x => x.1 == "internal/strconv.uint64pow10") = [("internal/strconv.uint64pow10", Rows.laid_internal_strconv_uint64pow10)] by kernel_rfl] at h1
  exact Lib.tabIs_of_head (rest := []) gPow gPowType Tryd.underlying59 Tryd.underlying52 cellsU64 cellsPow h1

/-- the cells of a table's datum -/
def cellsOfD : DataW Unit → List Value
  | .agg l => l.map fun d => match d with | .lit (.int k z) => .int k z | _ => undef
  | _ => []
def setD (d : DataW Unit) : Obj → Obj
  | .cells _ t frozen => .cells (cellsOfD d).toArray t frozen
  | o => o
noncomputable def laidWorld (os : Os) : World :=
  { World.holding Tryd.prog os ⟨#[], #[], []⟩ with heap := ((((World.holding Tryd.prog os ⟨#[], #[], []⟩).heap.modify 0 (setD Rows.laid_ringer_civil_months)).modify 1 (setD Rows.laid_internal_strconv_uint64pow10)).modify 2 (setD Rows.laid_math_bits_deBruijn32tab)).modify 3 (setD Rows.laid_math_bits_deBruijn64tab) }

/-! a clock that comes in -/
theorem array7 {α : Type} {cs : Array α} (h : cs.size = 7) : ∃ c0 c1 c2 c3 c4 c5 c6, cs = #[c0, c1, c2, c3, c4, c5, c6] := by
  obtain ⟨l⟩ := cs
  match l, h with
  | [c0, c1, c2, c3, c4, c5, c6], _ => exact ⟨c0, c1, c2, c3, c4, c5, c6, rfl⟩
theorem cellsDate : Tryd.prog.cellsOf 23 = 3 := by kernel_rfl
theorem cellsClock : Tryd.prog.cellsOf 25 = 7 := by kernel_rfl
section
variable {H : Type} {enc : TypeId × Value → H} {w : World} {base : Nat} {spare : Nat → Bool} {held : Bool}
/-- a clock's datum -/
def dclk (y m d h i s k : Int) : DataW H := .agg [.agg [.lit (.int .i64 y), .lit (.int .i64 m), .lit (.int .i64 d)], .lit (.int .i64 h), .lit (.int .i64 i), .lit (.int .i64 s), .lit (.int .i64 k)]
def wf (x : Int) : Prop := (Lit.int .i64 x).wf = true
theorem trod_int_mk {x : Int} (hw : wf x) (n : Nat) : DataW.trod enc Tryd.prog w base spare held (n + 1) 3 [.int .i64 x] = some (.lit (.int .i64 x), []) := by
  unfold wf at hw
  simp [DataW.trod, Tryd.underlying3, hw]
theorem open_date {fuel : Nat} {c0 c1 c2 : Value} {x : DataW H × List MemPlace} (h : DataW.trod enc Tryd.prog w base spare held fuel 23 [c0, c1, c2] = some x) :
    ∃ y m d, c0 = .int .i64 y ∧ c1 = .int .i64 m ∧ c2 = .int .i64 d ∧ x = (.agg [.lit (.int .i64 y), .lit (.int .i64 m), .lit (.int .i64 d)], []) ∧ wf y ∧ wf m ∧ wf d := by
  obtain ⟨xs, n, -, rfl, hl, hlen, hf⟩ := DataW.trod_struct Tryd.underlying23 h
  match xs, hlen with
  | [y0, y1, y2], _ =>
    have h0 : DataW.trod enc Tryd.prog w base spare held n 3 [c0] = some y0 := hf 0 _ rfl
    have h1 : DataW.trod enc Tryd.prog w base spare held n 3 [c1] = some y1 := hf 1 _ rfl
    have h2 : DataW.trod enc Tryd.prog w base spare held n 3 [c2] = some y2 := hf 2 _ rfl
    obtain ⟨y, e0, rfl, w0⟩ := DataW.trod_int Tryd.underlying3 h0
    obtain ⟨m, e1, rfl, w1⟩ := DataW.trod_int Tryd.underlying3 h1
    obtain ⟨d, e2, rfl, w2⟩ := DataW.trod_int Tryd.underlying3 h2
    exact ⟨y, m, d, by simpa using e0, by simpa using e1, by simpa using e2, rfl, w0, w1, w2⟩
theorem open_clock {r : Reach} {b0 : Nat} {v : Value} {d : DataW H} {p : List MemPlace} (hv : Value.okWide Tryd.prog w r b0 25 v) (h : DataW.Trod enc Tryd.prog w base spare held 25 v d p) :
    ∃ y m d' h' i s k, v = .agg #[.int .i64 y, .int .i64 m, .int .i64 d', .int .i64 h', .int .i64 i, .int .i64 s, .int .i64 k] ∧ d = dclk y m d' h' i s k ∧ p = [] ∧ wf y ∧ wf m ∧ wf d' ∧ wf h' ∧ wf i ∧ wf s ∧ wf k := by
  obtain ⟨cs, rfl, hsz⟩ := okWide_struct Tryd.underlying25 hv
  obtain ⟨c0, c1, c2, c3, c4, c5, c6, rfl⟩ := array7 (hsz.trans cellsClock)
  obtain ⟨fuel, hf⟩ := h
  obtain ⟨xs, n, -, hx, hl, hlen, hf⟩ := DataW.trod_struct Tryd.underlying25 hf
  match xs, hlen with
  | [y0, y1, y2, y3, y4], _ =>
    have h0 : DataW.trod enc Tryd.prog w base spare held n 23 [c0, c1, c2] = some y0 := hf 0 _ rfl
    have h1 : DataW.trod enc Tryd.prog w base spare held n 3 [c3] = some y1 := hf 1 _ rfl
    have h2 : DataW.trod enc Tryd.prog w base spare held n 3 [c4] = some y2 := hf 2 _ rfl
    have h3 : DataW.trod enc Tryd.prog w base spare held n 3 [c5] = some y3 := hf 3 _ rfl
    have h4 : DataW.trod enc Tryd.prog w base spare held n 3 [c6] = some y4 := hf 4 _ rfl
    obtain ⟨y, m, d', rfl, rfl, rfl, rfl, w0, w1, w2⟩ := open_date h0
    obtain ⟨h', e1, rfl, w3⟩ := DataW.trod_int Tryd.underlying3 h1
    obtain ⟨i, e2, rfl, w4⟩ := DataW.trod_int Tryd.underlying3 h2
    obtain ⟨s, e3, rfl, w5⟩ := DataW.trod_int Tryd.underlying3 h3
    obtain ⟨k, e4, rfl, w6⟩ := DataW.trod_int Tryd.underlying3 h4
    obtain rfl : c3 = .int .i64 h' := by simpa using e1
    obtain rfl : c4 = .int .i64 i := by simpa using e2
    obtain rfl : c5 = .int .i64 s := by simpa using e3
    obtain rfl : c6 = .int .i64 k := by simpa using e4
    simp only [Prod.mk.injEq] at hx
    exact ⟨y, m, d', h', i, s, k, rfl, hx.1, hx.2, w0, w1, w2, w3, w4, w5, w6⟩
theorem shut_clock {y m d h i s k : Int} (w0 : wf y) (w1 : wf m) (w2 : wf d) (w3 : wf h) (w4 : wf i) (w5 : wf s) (w6 : wf k) : DataW.Trod enc Tryd.prog w base spare held 25 (.agg #[.int .i64 y, .int .i64 m, .int .i64 d, .int .i64 h, .int .i64 i, .int .i64 s, .int .i64 k]) (dclk y m d h i s k) [] := by
  have hd : DataW.trod enc Tryd.prog w base spare held 2 23 [.int .i64 y, .int .i64 m, .int .i64 d] = some (.agg [.lit (.int .i64 y), .lit (.int .i64 m), .lit (.int .i64 d)], []) :=
    trod_struct_mk (xs := [(.lit (.int .i64 y), []), (.lit (.int .i64 m), []), (.lit (.int .i64 d), [])]) Tryd.underlying23 (by rw [cellsDate]; rfl) (by simp [cellsInt, trod_int_mk w0, trod_int_mk w1, trod_int_mk w2])
  exact ⟨3, trod_struct_mk (xs := [(.agg [.lit (.int .i64 y), .lit (.int .i64 m), .lit (.int .i64 d)], []), (.lit (.int .i64 h), []), (.lit (.int .i64 i), []), (.lit (.int .i64 s), []), (.lit (.int .i64 k), [])]) Tryd.underlying25 (by rw [cellsClock]; rfl)
    (by simp [Value.cells, cellsInt, cellsDate, hd, trod_int_mk w3, trod_int_mk w4, trod_int_mk w5, trod_int_mk w6])⟩
end
end Go.Proofs.YtpafjdbckbhcoaaDoor
