/- (stage 8's list.) What the rows' list of tables gives: the tables as the walks read them. A world for the witness: the settled one, with the tables as the rows list them. An expression that comes in, and goes out as it came. -/
import Derived.Test.YtgcineaodfomeaaDoorExpr
import Derived.Test.YtgcineaodfomeaaDoorCards
import Derived.Test.YtgcineaodfomeaaDoorTie
import Derived.Lib.LaidCaseMet
import Derived.Shelf.Vars
import Derived.LaidSub
import Derived.Lib.LaidTab
import Derived.Lib.LaidIn
import Derived.Deep.DeepHandedRow
import Derived.Deep.DeepWitnessRowRef
import Derived.ProofKit
import Derived.WalkKit
import Derived.OpenShut
import Derived.Lib.SmallJoins
import Derived.SevenTiedAt
namespace Go.Proofs.YtgcineaodfomeaaDoor
open Go.ChangeShapes Go.WideShapes Go.RowKit Go.Lib

def laidAll : List (String × DataW Unit) := [("ringer/civil.months", Rows.laid_ringer_civil_months), ("ringer/field.bounds", Rows.laid_ringer_field_bounds)]
theorem bounds_data : (Rows.laid_ringer_field_bounds : DataW Unit) = .agg ((List.range 5).map fun k => tabData .i64 [(Fld.lo k : Int), (Fld.hi k : Int)]) := by kernel_rfl
theorem cellsInt : Tryd.prog.cellsOf 3 = 1 := by kernel_rfl
theorem cells2 : Tryd.prog.cellsOf 74 = 2 := by kernel_rfl
theorem at_part {cs l : List Value} {i n j : Nat} {v : Value} (h : (cs.drop i).take n = l) (hj : l[j]? = some v) (hn : j < n) : cs[i + j]? = some v := by
  rw [← h, List.getElem?_take_of_lt hn, List.getElem?_drop] at hj
  exact hj

section
variable {W : World} (rd : ∀ n d, (n, d) ∈ laidAll → VarReads Tryd.prog W n d)
include rd
theorem bounds_at (k : Nat) (hk : k ≤ 4) : W.cell? ⟨1, k * 2, none⟩ = some (.int .i64 (Fld.lo k : Int)) ∧ W.cell? ⟨1, k * 2 + 1, none⟩ = some (.int .i64 (Fld.hi k : Int)) := by
  obtain ⟨g, t, cs, fuel, p, hg, hty, hvar, hd⟩ := rd "ringer/field.bounds" Rows.laid_ringer_field_bounds (List.mem_of_getElem? (i := 1) rfl)
  obtain rfl := Option.some.inj ((show Tryd.prog.globalNamed "ringer/field.bounds" = some 1 by kernel_rfl).symm.trans hg)
  obtain rfl := Option.some.inj ((show (Tryd.prog.globals[1]?).map (·.type) = some 75 by kernel_rfl).symm.trans hty)
  rw [bounds_data] at hd
  obtain ⟨fuel', d, q, hdi, he⟩ := array_elem Tryd.underlying75 hd k (by omega)
  simp only [List.getElem?_map, List.getElem?_range (show k < 5 by omega), Option.map_some, Option.some.injEq] at hdi
  subst hdi
  have hcs := cells_of_tab Tryd.underlying74 Tryd.underlying3 cellsInt cells2 he
  rw [cells2] at hcs
  exact ⟨by rw [World.var?_cell hg hvar (k * 2), ← Array.getElem?_toList]; exact at_part (j := 0) hcs rfl (by omega),
    by rw [World.var?_cell hg hvar (k * 2 + 1), ← Array.getElem?_toList]; exact at_part (j := 1) hcs rfl (by omega)⟩
end
theorem tabs_met {W : World} (h0 : laidMetH Tryd.prog laidAll W) : Tabs W := by
  have h : laidMet Tryd.prog laidAll W := h0
  have rd : ∀ n d, (n, d) ∈ laidAll → VarReads Tryd.prog W n d := fun n d hm => Lib.laidMet.reads h hm
  exact { low := bounds_at rd }
theorem mon_met {W : World} (h : laidMetH Tryd.prog laidAll W) : Civ.Mon W := by
  have h1 := h.filter (fun x => x.1 == "ringer/civil.months")
  rw [show laidAll.filter (fun x => x.1 == "ringer/civil.months") = [("ringer/civil.months", Rows.laid_ringer_civil_months)] by kernel_rfl] at h1
  have ht : Lib.TabIs Tryd.prog W "ringer/civil.months" .i64 Civ.lens := Lib.tabIs_of_head (rest := []) (show Tryd.prog.globalNamed "ringer/civil.months" = some 0 by kernel_rfl) (show (Tryd.prog.globals[0]?).map (·.type) = some 73 by kernel_rfl) Tryd.underlying73 Tryd.underlying3 cellsInt (show Tryd.prog.cellsOf 73 = 12 by kernel_rfl) h1
  have hc : ∀ i : Nat, i < 12 → W.cell? ⟨0, i, none⟩ = some (.int .i64 (Civ.lens.getD i 0)) := fun i hi => ht.cell (show Tryd.prog.globalNamed "ringer/civil.months" = some 0 by kernel_rfl) i hi
  exact ⟨lt_of_cell (hc 0 (by decide)), hc⟩
theorem world_met {W : World} (h : laidMetH Tryd.prog laidAll W) : World7 W := ⟨TabsOn.of (tabs_met h), Civ.MonOn.of (mon_met h)⟩
end Go.Proofs.YtgcineaodfomeaaDoor

namespace Go.Proofs.YtgcineaodfomeaaDoor
open Go.ChangeShapes Go.WideShapes Go.RowKit Go.Lib

theorem ownLaid : ownKnob Tryd.prog.godebug = none := by kernel_rfl
def flat0 (d : DataW Unit) : List Value :=
  match d with
  | .lit (.int k z) => [.int k z]
  | .lit (.string s) => [.string ⟨s.toArray⟩]
  | _ => []
def flat1 (d : DataW Unit) : List Value :=
  match d with
  | .agg l => l.flatMap flat0
  | d => flat0 d
def flat2 (d : DataW Unit) : Array Value :=
  match d with
  | .agg l => (l.flatMap flat1).toArray
  | .slice l _ => (l.flatMap flat1).toArray
  | _ => #[]
def putC (h : Array Obj) (g : Nat) (cs : Array Value) : Array Obj := h.modify g fun
  | .cells _ t frozen => .cells cs t frozen
  | o => o
noncomputable def laidWorld (os : Os) : World :=
  let w0 := World.holding Tryd.prog os ⟨#[], #[], []⟩
  let h0 := putC w0.heap 1 (flat2 Rows.laid_ringer_field_bounds)
  let h1 := putC h0 0 (flat2 Rows.laid_ringer_civil_months)
  { w0 with heap := h1 }
section
variable (os : Os) (args : Array Value)
theorem piece1 : LaidIn Tryd.prog ((laidWorld os).forCall (fun _ _ => 0) ⟨#[], args, []⟩).memory laidAll [0, 1] :=
  LaidIn.of_run _ 8 (by kernel_rfl) (by kernel_rfl) (by kernel_rfl) (by kernel_rfl)
theorem laid_met : laidMet Tryd.prog laidAll ((laidWorld os).forCall (fun _ _ => 0) ⟨#[], args, []⟩).memory := (piece1 os args).met
theorem world_ok : ((laidWorld os).forCall (fun _ _ => 0) ⟨#[], args, []⟩).variablesRefB Tryd.prog = true := by kernel_rfl
end
end Go.Proofs.YtgcineaodfomeaaDoor

namespace Go.Proofs.YtgcineaodfomeaaDoor
open Go.ChangeShapes Go.WideShapes Go.RowKit Go.Lib
theorem array2 {α : Type} {cs : Array α} (h : cs.size = 2) : ∃ c0 c1, cs = #[c0, c1] := by
  obtain ⟨l⟩ := cs
  match l, h with
  | [c0, c1], _ => exact ⟨c0, c1, rfl⟩
theorem cellsField : Tryd.prog.cellsOf 24 = 2 := by kernel_rfl
theorem cellsU64 : Tryd.prog.cellsOf 22 = 1 := by kernel_rfl
theorem cellsBool : Tryd.prog.cellsOf 4 = 1 := by kernel_rfl
theorem bits_of {x : Int} (h : (Lit.int .u64 x).wf = true) : ∃ b : Nat, x = (b : Int) ∧ b < 2 ^ 64 := by
  have hb : 0 ≤ x ∧ x ≤ 18446744073709551615 := by simpa [Lit.wf, IntKind.min, IntKind.max, IntKind.signed, IntKind.bits] using h
  exact ⟨x.toNat, by omega, by omega⟩
section
variable {H : Type} {enc : TypeId × Value → H} {w : World} {base : Nat} {spare : Nat → Bool} {held : Bool}
theorem trod_u64_mk {x : Int} (hw : (Lit.int .u64 x).wf = true) (n : Nat) : DataW.trod enc Tryd.prog w base spare held (n + 1) 22 [.int .u64 x] = some (.lit (.int .u64 x), []) := by
  simp [DataW.trod, Tryd.underlying22, hw]
theorem trod_bool_mk (b : Bool) (n : Nat) : DataW.trod enc Tryd.prog w base spare held (n + 1) 4 [.bool b] = some (.lit (.bool b), []) := by
  simp [DataW.trod, Tryd.underlying4]
/-- a field's datum -/
def dfld (b : Nat) (star : Bool) : DataW H := .agg [.lit (.int .u64 (b : Int)), .lit (.bool star)]
set_option maxRecDepth 100000 in
theorem open_field {r : Reach} {b0 : Nat} {v : Value} {d : DataW H} {p : List MemPlace} (hv : Value.okWide Tryd.prog w r b0 24 v) (h : DataW.Trod enc Tryd.prog w base spare held 24 v d p) :
    ∃ (b : Nat) (star : Bool), v = .agg #[.int .u64 (b : Int), .bool star] ∧ d = dfld b star ∧ p = [] ∧ b < 2 ^ 64 ∧ (Lit.int .u64 (b : Int)).wf = true := by
  obtain ⟨cs, rfl, hsz⟩ := okWide_struct Tryd.underlying24 hv
  obtain ⟨c0, c1, rfl⟩ := array2 (hsz.trans cellsField)
  obtain ⟨fuel, hf⟩ := h
  obtain ⟨xs, n, -, hx, hl, hlen, hf⟩ := DataW.trod_struct Tryd.underlying24 hf
  match xs, hlen with
  | [y0, y1], _ =>
    have h0 : DataW.trod enc Tryd.prog w base spare held n 22 [c0] = some y0 := hf 0 _ rfl
    have h1 : DataW.trod enc Tryd.prog w base spare held n 4 [c1] = some y1 := hf 1 _ rfl
    obtain ⟨x, e0, rfl, w0⟩ := DataW.trod_int Tryd.underlying22 h0
    obtain ⟨star, e1, rfl⟩ := DataW.trod_bool Tryd.underlying4 h1
    obtain ⟨b, rfl, hb⟩ := bits_of w0
    obtain rfl : c0 = .int .u64 (b : Int) := by simpa using e0
    obtain rfl : c1 = .bool star := by simpa using e1
    simp only [Prod.mk.injEq] at hx
    exact ⟨b, star, rfl, hx.1, hx.2, hb, w0⟩
theorem shut_field {b : Nat} {star : Bool} (w0 : (Lit.int .u64 (b : Int)).wf = true) : DataW.Trod enc Tryd.prog w base spare held 24 (.agg #[.int .u64 (b : Int), .bool star]) (dfld b star) [] :=
  ⟨2, trod_struct_mk (xs := [(.lit (.int .u64 (b : Int)), []), (.lit (.bool star), [])]) Tryd.underlying24 (by rw [cellsField]; rfl) (by simp [Value.cells, cellsU64, cellsBool, trod_u64_mk w0, trod_bool_mk star])⟩
end
/-! an expression that comes in -/
theorem array10 {α : Type} {cs : Array α} (h : cs.size = 10) : ∃ c0 c1 c2 c3 c4 c5 c6 c7 c8 c9, cs = #[c0, c1, c2, c3, c4, c5, c6, c7, c8, c9] := by
  obtain ⟨l⟩ := cs
  match l, h with
  | [c0, c1, c2, c3, c4, c5, c6, c7, c8, c9], _ => exact ⟨c0, c1, c2, c3, c4, c5, c6, c7, c8, c9, rfl⟩
theorem cellsExpr : Tryd.prog.cellsOf 26 = 10 := by kernel_rfl
theorem okWide_array {P : Program} {w : World} {r : Reach} {base : Nat} {t e : TypeId} {v : Value} {n : Nat} (ht : P.underlying t = some (.array n e)) (h : Value.okWide P w r base t v) : ∃ cs, v = .agg cs ∧ cs.size = P.cellsOf t := by
  simp only [Value.okWide, ht] at h
  obtain ⟨cs, h1, h2, _⟩ := h
  exact ⟨cs, h1, h2⟩
def of5 {α : Type} (a b c d e : α) : Nat → α
  | 0 => a
  | 1 => b
  | 2 => c
  | 3 => d
  | _ => e
section
variable {H : Type} {enc : TypeId × Value → H} {w : World} {base : Nat} {spare : Nat → Bool} {held : Bool}
theorem trod_array_mk {P : Program} {t e : TypeId} {n m : Nat} {cs : List Value} {xs : List (DataW H × List MemPlace)} (ht : P.underlying t = some (.array n e)) (hl : cs.length = P.cellsOf t)
    (hp : (List.range n).mapM (fun i => DataW.trod enc P w base spare held m e ((cs.drop (i * P.cellsOf e)).take (P.cellsOf e))) = some xs) :
    DataW.trod enc P w base spare held (m + 1) t cs = some (.agg (xs.map (·.1)), xs.flatMap (·.2)) := by
  unfold DataW.trod
  rw [ht]
  split <;> simp_all
set_option maxRecDepth 100000 in
/-- a field's two cells -/
theorem open_cells {fuel : Nat} {c0 c1 : Value} {y : DataW H × List MemPlace} (h : DataW.trod enc Tryd.prog w base spare held fuel 24 [c0, c1] = some y) :
    ∃ (b : Nat) (star : Bool), c0 = .int .u64 (b : Int) ∧ c1 = .bool star ∧ y = (dfld b star, []) ∧ b < 2 ^ 64 ∧ (Lit.int .u64 (b : Int)).wf = true := by
  obtain ⟨xs, n, -, hx, hl, hlen, hf⟩ := DataW.trod_struct Tryd.underlying24 h
  match xs, hlen with
  | [y0, y1], _ =>
    have h0 : DataW.trod enc Tryd.prog w base spare held n 22 [c0] = some y0 := hf 0 _ rfl
    have h1 : DataW.trod enc Tryd.prog w base spare held n 4 [c1] = some y1 := hf 1 _ rfl
    obtain ⟨x, e0, rfl, w0⟩ := DataW.trod_int Tryd.underlying22 h0
    obtain ⟨star, e1, rfl⟩ := DataW.trod_bool Tryd.underlying4 h1
    obtain ⟨b, rfl, hb⟩ := bits_of w0
    exact ⟨b, star, by simpa using e0, by simpa using e1, hx, hb, w0⟩
/-- an expression's datum -/
def dexpr (b : Nat → Nat) (s : Nat → Bool) : DataW H := .agg [dfld (b 0) (s 0), dfld (b 1) (s 1), dfld (b 2) (s 2), dfld (b 3) (s 3), dfld (b 4) (s 4)]
set_option maxRecDepth 100000 in
theorem open_expr {r : Reach} {b0 : Nat} {v : Value} {d : DataW H} {p : List MemPlace} (hv : Value.okWide Tryd.prog w r b0 26 v) (h : DataW.Trod enc Tryd.prog w base spare held 26 v d p) :
    ∃ (b : Nat → Nat) (s : Nat → Bool), v = xval b s ∧ d = dexpr b s ∧ p = [] ∧ (∀ k, k < 5 → b k < 2 ^ 64) ∧ (∀ k, k < 5 → (Lit.int .u64 ((b k : Nat) : Int)).wf = true) := by
  obtain ⟨cs, rfl, hsz⟩ := okWide_array Tryd.underlying26 hv
  obtain ⟨c0, c1, c2, c3, c4, c5, c6, c7, c8, c9, rfl⟩ := array10 (hsz.trans cellsExpr)
  obtain ⟨fuel, hf⟩ := h
  obtain ⟨xs, n, -, hx, hl, hlen, hf⟩ := DataW.trod_array Tryd.underlying26 hf
  rw [cellsField] at hf
  match xs, hlen with
  | [y0, y1, y2, y3, y4], _ =>
    have h0 : DataW.trod enc Tryd.prog w base spare held n 24 [c0, c1] = some y0 := hf 0 (by decide)
    have h1 : DataW.trod enc Tryd.prog w base spare held n 24 [c2, c3] = some y1 := hf 1 (by decide)
    have h2 : DataW.trod enc Tryd.prog w base spare held n 24 [c4, c5] = some y2 := hf 2 (by decide)
    have h3 : DataW.trod enc Tryd.prog w base spare held n 24 [c6, c7] = some y3 := hf 3 (by decide)
    have h4 : DataW.trod enc Tryd.prog w base spare held n 24 [c8, c9] = some y4 := hf 4 (by decide)
    obtain ⟨a0, s0, rfl, rfl, rfl, l0, w0⟩ := open_cells h0
    obtain ⟨a1, s1, rfl, rfl, rfl, l1, w1⟩ := open_cells h1
    obtain ⟨a2, s2, rfl, rfl, rfl, l2, w2⟩ := open_cells h2
    obtain ⟨a3, s3, rfl, rfl, rfl, l3, w3⟩ := open_cells h3
    obtain ⟨a4, s4, rfl, rfl, rfl, l4, w4⟩ := open_cells h4
    simp only [Prod.mk.injEq] at hx
    exact ⟨of5 a0 a1 a2 a3 a4, of5 s0 s1 s2 s3 s4, rfl, hx.1, hx.2, five l0 l1 l2 l3 l4, five w0 w1 w2 w3 w4⟩
set_option maxRecDepth 100000 in
theorem trod_field_mk {b : Nat} {star : Bool} (w0 : (Lit.int .u64 (b : Int)).wf = true) : DataW.trod enc Tryd.prog w base spare held 2 24 [.int .u64 (b : Int), .bool star] = some (dfld b star, []) :=
  trod_struct_mk (xs := [(.lit (.int .u64 (b : Int)), []), (.lit (.bool star), [])]) Tryd.underlying24 (by rw [cellsField]; rfl) (by simp [cellsU64, cellsBool, trod_u64_mk w0, trod_bool_mk star])
theorem shut_expr {b : Nat → Nat} {s : Nat → Bool} (hw : ∀ k, k < 5 → (Lit.int .u64 ((b k : Nat) : Int)).wf = true) : DataW.Trod enc Tryd.prog w base spare held 26 (xval b s) (dexpr b s) [] :=
  ⟨3, trod_array_mk (xs := [(dfld (b 0) (s 0), []), (dfld (b 1) (s 1), []), (dfld (b 2) (s 2), []), (dfld (b 3) (s 3), []), (dfld (b 4) (s 4), [])]) Tryd.underlying26 (by rw [cellsExpr]; rfl) (by
    rw [show List.range 5 = [0, 1, 2, 3, 4] from rfl]
    simp [cellsField, xval, xcells, Value.cells, trod_field_mk (hw 0 (by decide)), trod_field_mk (hw 1 (by decide)), trod_field_mk (hw 2 (by decide)), trod_field_mk (hw 3 (by decide)), trod_field_mk (hw 4 (by decide))])⟩
end
end Go.Proofs.YtgcineaodfomeaaDoor
