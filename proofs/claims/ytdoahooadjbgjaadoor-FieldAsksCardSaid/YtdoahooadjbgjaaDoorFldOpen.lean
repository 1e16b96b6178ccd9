/- A field that comes in, and goes out as it came. -/
import Derived.Test.YtdoahooadjbgjaaDoorLaid6
namespace Go.Proofs.YtdoahooadjbgjaaDoor
open Go.ChangeShapes Go.WideShapes Go.RowKit Go.Lib
theorem array2 {α : Type} {cs : Array α} (h : cs.size = 2) : ∃ c0 c1, cs = #[c0, c1] := by
  obtain ⟨l⟩ := cs
  match l, h with
  | [c0, c1], _ => exact ⟨c0, c1, rfl⟩
theorem cellsField : Tryd.prog.cellsOf 25 = 2 := by kernel_rfl
theorem cellsU64 : Tryd.prog.cellsOf 23 = 1 := by kernel_rfl
theorem cellsBool : Tryd.prog.cellsOf 4 = 1 := by kernel_rfl
theorem bits_of {x : Int} (h : (Lit.int .u64 x).wf = true) : ∃ b : Nat, x = (b : Int) ∧ b < 2 ^ 64 := by
  have hb : 0 ≤ x ∧ x ≤ 18446744073709551615 := by simpa [Lit.wf, IntKind.min, IntKind.max, IntKind.signed, IntKind.bits] using h
  exact ⟨x.toNat, by omega, by omega⟩
section
variable {H : Type} {enc : TypeId × Value → H} {w : World} {base : Nat} {spare : Nat → Bool} {held : Bool}
theorem trod_u64_mk {x : Int} (hw : (Lit.int .u64 x).wf = true) (n : Nat) : DataW.trod enc Tryd.prog w base spare held (n + 1) 23 [.int .u64 x] = some (.lit (.int .u64 x), []) := by
  simp [DataW.trod, Tryd.underlying23, hw]
theorem trod_bool_mk (b : Bool) (n : Nat) : DataW.trod enc Tryd.prog w base spare held (n + 1) 4 [.bool b] = some (.lit (.bool b), []) := by
  simp [DataW.trod, Tryd.underlying4]
/-- a field's datum -/
def dfld (b : Nat) (star : Bool) : DataW H := .agg [.lit (.int .u64 (b : Int)), .lit (.bool star)]
set_option maxRecDepth 100000 in
theorem open_field {r : Reach} {b0 : Nat} {v : Value} {d : DataW H} {p : List MemPlace} (hv : Value.okWide Tryd.prog w r b0 25 v) (h : DataW.Trod enc Tryd.prog w base spare held 25 v d p) :
    ∃ (b : Nat) (star : Bool), v = .agg #[.int .u64 (b : Int), .bool star] ∧ d = dfld b star ∧ p = [] ∧ b < 2 ^ 64 ∧ (Lit.int .u64 (b : Int)).wf = true := by
  obtain ⟨cs, rfl, hsz⟩ := okWide_struct Tryd.underlying25 hv
  obtain ⟨c0, c1, rfl⟩ := array2 (hsz.trans cellsField)
  obtain ⟨fuel, hf⟩ := h
  obtain ⟨xs, n, -, hx, hl, hlen, hf⟩ := DataW.trod_struct Tryd.underlying25 hf
  match xs, hlen with
  | [y0, y1], _ =>
    have h0 : DataW.trod enc Tryd.prog w base spare held n 23 [c0] = some y0 := hf 0 _ rfl
    have h1 : DataW.trod enc Tryd.prog w base spare held n 4 [c1] = some y1 := hf 1 _ rfl
    obtain ⟨x, e0, rfl, w0⟩ := DataW.trod_int Tryd.underlying23 h0
    obtain ⟨star, e1, rfl⟩ := DataW.trod_bool Tryd.underlying4 h1
    obtain ⟨b, rfl, hb⟩ := bits_of w0
    obtain rfl : c0 = .int .u64 (b : Int) := by simpa using e0
    obtain rfl : c1 = .bool star := by simpa using e1
    simp only [Prod.mk.injEq] at hx
    exact ⟨b, star, rfl, hx.1, hx.2, hb, w0⟩
theorem shut_field {b : Nat} {star : Bool} (w0 : (Lit.int .u64 (b : Int)).wf = true) : DataW.Trod enc Tryd.prog w base spare held 25 (.agg #[.int .u64 (b : Int), .bool star]) (dfld b star) [] :=
  ⟨2, trod_struct_mk (xs := [(.lit (.int .u64 (b : Int)), []), (.lit (.bool star), [])]) Tryd.underlying25 (by rw [cellsField]; rfl) (by simp [Value.cells, cellsU64, cellsBool, trod_u64_mk w0, trod_bool_mk star])⟩
end
end Go.Proofs.YtdoahooadjbgjaaDoor
