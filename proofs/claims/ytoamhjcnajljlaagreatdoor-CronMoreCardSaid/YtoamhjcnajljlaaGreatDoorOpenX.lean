/- An expression, a clock that come in, and go out as they came. -/
import Derived.Test.YtoamhjcnajljlaaGreatDoorLaid7
namespace Go.Proofs.YtoamhjcnajljlaaGreatDoor
open Go.ChangeShapes Go.WideShapes Go.RowKit Go.Lib
theorem array2 {α : Type} {cs : Array α} (h : cs.size = 2) : ∃ c0 c1, cs = #[c0, c1] := by
  obtain ⟨l⟩ := cs
  match l, h with
  | [c0, c1], _ => exact ⟨c0, c1, rfl⟩
theorem cellsField : Tryz.prog.cellsOf 25 = 2 := by kernel_rfl
theorem cellsU64 : Tryz.prog.cellsOf 23 = 1 := by kernel_rfl
theorem cellsBool : Tryz.prog.cellsOf 4 = 1 := by kernel_rfl
theorem bits_of {x : Int} (h : (Lit.int .u64 x).wf = true) : ∃ b : Nat, x = (b : Int) ∧ b < 2 ^ 64 := by
  have hb : 0 ≤ x ∧ x ≤ 18446744073709551615 := by simpa [Lit.wf, IntKind.min, IntKind.max, IntKind.signed, IntKind.bits] using h
  exact ⟨x.toNat, by omega, by omega⟩
section
variable {H : Type} {enc : TypeId × Value → H} {w : World} {base : Nat} {spare : Nat → Bool} {held : Bool}
theorem trod_u64_mk {x : Int} (hw : (Lit.int .u64 x).wf = true) (n : Nat) : DataW.trod enc Tryz.prog w base spare held (n + 1) 23 [.int .u64 x] = some (.lit (.int .u64 x), []) := by
  simp [DataW.trod, Tryz.underlying23, hw]
theorem trod_bool_mk (b : Bool) (n : Nat) : DataW.trod enc Tryz.prog w base spare held (n + 1) 4 [.bool b] = some (.lit (.bool b), []) := by
  simp [DataW.trod, Tryz.underlying4]
/-- a field's datum -/
def dfld (b : Nat) (star : Bool) : DataW H := .agg [.lit (.int .u64 (b : Int)), .lit (.bool star)]
set_option maxRecDepth 100000 in
theorem open_field {r : Reach} {b0 : Nat} {v : Value} {d : DataW H} {p : List MemPlace} (hv : Value.okWide Tryz.prog w r b0 25 v) (h : DataW.Trod enc Tryz.prog w base spare held 25 v d p) :
    ∃ (b : Nat) (star : Bool), v = .agg #[.int .u64 (b : Int), .bool star] ∧ d = dfld b star ∧ p = [] ∧ b < 2 ^ 64 ∧ (Lit.int .u64 (b : Int)).wf = true := by
  obtain ⟨cs, rfl, hsz⟩ := okWide_struct Tryz.underlying25 hv
  obtain ⟨c0, c1, rfl⟩ := array2 (hsz.trans cellsField)
  obtain ⟨fuel, hf⟩ := h
  obtain ⟨xs, n, -, hx, hl, hlen, hf⟩ := DataW.trod_struct Tryz.underlying25 hf
  match xs, hlen with
  | [y0, y1], _ =>
    have h0 : DataW.trod enc Tryz.prog w base spare held n 23 [c0] = some y0 := hf 0 _ rfl
    have h1 : DataW.trod enc Tryz.prog w base spare held n 4 [c1] = some y1 := hf 1 _ rfl
    obtain ⟨x, e0, rfl, w0⟩ := DataW.trod_int Tryz.underlying23 h0
    obtain ⟨star, e1, rfl⟩ := DataW.trod_bool Tryz.underlying4 h1
    obtain ⟨b, rfl, hb⟩ := bits_of w0
    obtain rfl : c0 = .int .u64 (b : Int) := by simpa using e0
    obtain rfl : c1 = .bool star := by simpa using e1
    simp only [Prod.mk.injEq] at hx
    exact ⟨b, star, rfl, hx.1, hx.2, hb, w0⟩
theorem shut_field {b : Nat} {star : Bool} (w0 : (Lit.int .u64 (b : Int)).wf = true) : DataW.Trod enc Tryz.prog w base spare held 25 (.agg #[.int .u64 (b : Int), .bool star]) (dfld b star) [] :=
  ⟨2, trod_struct_mk (xs := [(.lit (.int .u64 (b : Int)), []), (.lit (.bool star), [])]) Tryz.underlying25 (by rw [cellsField]; rfl) (by simp [Value.cells, cellsU64, cellsBool, trod_u64_mk w0, trod_bool_mk star])⟩
end
/-! a clock that comes in -/
theorem array7 {α : Type} {cs : Array α} (h : cs.size = 7) : ∃ c0 c1 c2 c3 c4 c5 c6, cs = #[c0, c1, c2, c3, c4, c5, c6] := by
  obtain ⟨l⟩ := cs
  match l, h with
  | [c0, c1, c2, c3, c4, c5, c6], _ => exact ⟨c0, c1, c2, c3, c4, c5, c6, rfl⟩
theorem cellsDate : Tryz.prog.cellsOf 33 = 3 := by kernel_rfl
theorem cellsClock : Tryz.prog.cellsOf 35 = 7 := by kernel_rfl
section
variable {H : Type} {enc : TypeId × Value → H} {w : World} {base : Nat} {spare : Nat → Bool} {held : Bool}
/-- a clock's datum -/
def dclk (y m d h i s k : Int) : DataW H := .agg [.agg [.lit (.int .i64 y), .lit (.int .i64 m), .lit (.int .i64 d)], .lit (.int .i64 h), .lit (.int .i64 i), .lit (.int .i64 s), .lit (.int .i64 k)]
def wf (x : Int) : Prop := (Lit.int .i64 x).wf = true
set_option maxRecDepth 100000 in
theorem trod_int_mk {x : Int} (hw : wf x) (n : Nat) : DataW.trod enc Tryz.prog w base spare held (n + 1) 3 [.int .i64 x] = some (.lit (.int .i64 x), []) := by
  unfold wf at hw
  simp [DataW.trod, Tryz.underlying3, hw]
set_option maxRecDepth 100000 in
theorem open_date {fuel : Nat} {c0 c1 c2 : Value} {x : DataW H × List MemPlace} (h : DataW.trod enc Tryz.prog w base spare held fuel 33 [c0, c1, c2] = some x) :
    ∃ y m d, c0 = .int .i64 y ∧ c1 = .int .i64 m ∧ c2 = .int .i64 d ∧ x = (.agg [.lit (.int .i64 y), .lit (.int .i64 m), .lit (.int .i64 d)], []) ∧ wf y ∧ wf m ∧ wf d := by
  obtain ⟨xs, n, -, rfl, hl, hlen, hf⟩ := DataW.trod_struct Tryz.underlying33 h
  match xs, hlen with
  | [y0, y1, y2], _ =>
    have h0 : DataW.trod enc Tryz.prog w base spare held n 3 [c0] = some y0 := hf 0 _ rfl
    have h1 : DataW.trod enc Tryz.prog w base spare held n 3 [c1] = some y1 := hf 1 _ rfl
    have h2 : DataW.trod enc Tryz.prog w base spare held n 3 [c2] = some y2 := hf 2 _ rfl
    obtain ⟨y, e0, rfl, w0⟩ := DataW.trod_int Tryz.underlying3 h0
    obtain ⟨m, e1, rfl, w1⟩ := DataW.trod_int Tryz.underlying3 h1
    obtain ⟨d, e2, rfl, w2⟩ := DataW.trod_int Tryz.underlying3 h2
    exact ⟨y, m, d, by simpa using e0, by simpa using e1, by simpa using e2, rfl, w0, w1, w2⟩
set_option maxRecDepth 100000 in
theorem open_clock {r : Reach} {b0 : Nat} {v : Value} {d : DataW H} {p : List MemPlace} (hv : Value.okWide Tryz.prog w r b0 35 v) (h : DataW.Trod enc Tryz.prog w base spare held 35 v d p) :
    ∃ y m d' h' i s k, v = .agg #[.int .i64 y, .int .i64 m, .int .i64 d', .int .i64 h', .int .i64 i, .int .i64 s, .int .i64 k] ∧ d = dclk y m d' h' i s k ∧ p = [] ∧ wf y ∧ wf m ∧ wf d' ∧ wf h' ∧ wf i ∧ wf s ∧ wf k := by
  obtain ⟨cs, rfl, hsz⟩ := okWide_struct Tryz.underlying35 hv
  obtain ⟨c0, c1, c2, c3, c4, c5, c6, rfl⟩ := array7 (hsz.trans cellsClock)
  obtain ⟨fuel, hf⟩ := h
  obtain ⟨xs, n, -, hx, hl, hlen, hf⟩ := DataW.trod_struct Tryz.underlying35 hf
  match xs, hlen with
  | [y0, y1, y2, y3, y4], _ =>
    have h0 : DataW.trod enc Tryz.prog w base spare held n 33 [c0, c1, c2] = some y0 := hf 0 _ rfl
    have h1 : DataW.trod enc Tryz.prog w base spare held n 3 [c3] = some y1 := hf 1 _ rfl
    have h2 : DataW.trod enc Tryz.prog w base spare held n 3 [c4] = some y2 := hf 2 _ rfl
    have h3 : DataW.trod enc Tryz.prog w base spare held n 3 [c5] = some y3 := hf 3 _ rfl
    have h4 : DataW.trod enc Tryz.prog w base spare held n 3 [c6] = some y4 := hf 4 _ rfl
    obtain ⟨y, m, d', rfl, rfl, rfl, rfl, w0, w1, w2⟩ := open_date h0
    obtain ⟨h', e1, rfl, w3⟩ := DataW.trod_int Tryz.underlying3 h1
    obtain ⟨i, e2, rfl, w4⟩ := DataW.trod_int Tryz.underlying3 h2
    obtain ⟨s, e3, rfl, w5⟩ := DataW.trod_int Tryz.underlying3 h3
    obtain ⟨k, e4, rfl, w6⟩ := DataW.trod_int Tryz.underlying3 h4
    obtain rfl : c3 = .int .i64 h' := by simpa using e1
    obtain rfl : c4 = .int .i64 i := by simpa using e2
    obtain rfl : c5 = .int .i64 s := by simpa using e3
    obtain rfl : c6 = .int .i64 k := by simpa using e4
    simp only [Prod.mk.injEq] at hx
    exact ⟨y, m, d', h', i, s, k, rfl, hx.1, hx.2, w0, w1, w2, w3, w4, w5, w6⟩
set_option maxRecDepth 100000 in
theorem shut_clock {y m d h i s k : Int} (w0 : wf y) (w1 : wf m) (w2 : wf d) (w3 : wf h) (w4 : wf i) (w5 : wf s) (w6 : wf k) : DataW.Trod enc Tryz.prog w base spare held 35 (.agg #[.int .i64 y, .int .i64 m, .int .i64 d, .int .i64 h, .int .i64 i, .int .i64 s, .int .i64 k]) (dclk y m d h i s k) [] := by
  have hd : DataW.trod enc Tryz.prog w base spare held 2 33 [.int .i64 y, .int .i64 m, .int .i64 d] = some (.agg [.lit (.int .i64 y), .lit (.int .i64 m), .lit (.int .i64 d)], []) :=
    trod_struct_mk (xs := [(.lit (.int .i64 y), []), (.lit (.int .i64 m), []), (.lit (.int .i64 d), [])]) Tryz.underlying33 (by rw [cellsDate]; rfl) (by simp [cellsInt, trod_int_mk w0, trod_int_mk w1, trod_int_mk w2])
  exact ⟨3, trod_struct_mk (xs := [(.agg [.lit (.int .i64 y), .lit (.int .i64 m), .lit (.int .i64 d)], []), (.lit (.int .i64 h), []), (.lit (.int .i64 i), []), (.lit (.int .i64 s), []), (.lit (.int .i64 k), [])]) Tryz.underlying35 (by rw [cellsClock]; rfl)
    (by simp [Value.cells, cellsInt, cellsDate, hd, trod_int_mk w3, trod_int_mk w4, trod_int_mk w5, trod_int_mk w6])⟩
end

/-! an expression that comes in -/
theorem array10 {α : Type} {cs : Array α} (h : cs.size = 10) : ∃ c0 c1 c2 c3 c4 c5 c6 c7 c8 c9, cs = #[c0, c1, c2, c3, c4, c5, c6, c7, c8, c9] := by
  obtain ⟨l⟩ := cs
  match l, h with
  | [c0, c1, c2, c3, c4, c5, c6, c7, c8, c9], _ => exact ⟨c0, c1, c2, c3, c4, c5, c6, c7, c8, c9, rfl⟩
theorem cellsExpr : Tryz.prog.cellsOf 27 = 10 := by kernel_rfl
theorem okWide_array {P : Program} {w : World} {r : Reach} {base : Nat} {t e : TypeId} {v : Value} {n : Nat} (ht : P.underlying t = some (.array n e)) (h : Value.okWide P w r base t v) : ∃ cs, v = .agg cs ∧ cs.size = P.cellsOf t := by
  simp only [Value.okWide, ht] at h
  obtain ⟨cs, h1, h2, _⟩ := h
  exact ⟨cs, h1, h2⟩
def of5 {α : Type} (a b c d e : α) : Nat → α
  | 0 => a
  | 1 => b
  | 2 => c
  | 3 => d
  | _ => e
section
variable {H : Type} {enc : TypeId × Value → H} {w : World} {base : Nat} {spare : Nat → Bool} {held : Bool}
theorem trod_array_mk {P : Program} {t e : TypeId} {n m : Nat} {cs : List Value} {xs : List (DataW H × List MemPlace)} (ht : P.underlying t = some (.array n e)) (hl : cs.length = P.cellsOf t)
    (hp : (List.range n).mapM (fun i => DataW.trod enc P w base spare held m e ((cs.drop (i * P.cellsOf e)).take (P.cellsOf e))) = some xs) :
    DataW.trod enc P w base spare held (m + 1) t cs = some (.agg (xs.map (·.1)), xs.flatMap (·.2)) := by
  unfold DataW.trod
  rw [ht]
  split <;> simp_all
set_option maxRecDepth 100000 in
/-- a field's two cells -/
theorem open_cells {fuel : Nat} {c0 c1 : Value} {y : DataW H × List MemPlace} (h : DataW.trod enc Tryz.prog w base spare held fuel 25 [c0, c1] = some y) :
    ∃ (b : Nat) (star : Bool), c0 = .int .u64 (b : Int) ∧ c1 = .bool star ∧ y = (dfld b star, []) ∧ b < 2 ^ 64 ∧ (Lit.int .u64 (b : Int)).wf = true := by
  obtain ⟨xs, n, -, hx, hl, hlen, hf⟩ := DataW.trod_struct Tryz.underlying25 h
  match xs, hlen with
  | [y0, y1], _ =>
    have h0 : DataW.trod enc Tryz.prog w base spare held n 23 [c0] = some y0 := hf 0 _ rfl
    have h1 : DataW.trod enc Tryz.prog w base spare held n 4 [c1] = some y1 := hf 1 _ rfl
    obtain ⟨x, e0, rfl, w0⟩ := DataW.trod_int Tryz.underlying23 h0
    obtain ⟨star, e1, rfl⟩ := DataW.trod_bool Tryz.underlying4 h1
    obtain ⟨b, rfl, hb⟩ := bits_of w0
    exact ⟨b, star, by simpa using e0, by simpa using e1, hx, hb, w0⟩
/-- an expression's datum -/
def dexpr (b : Nat → Nat) (s : Nat → Bool) : DataW H := .agg [dfld (b 0) (s 0), dfld (b 1) (s 1), dfld (b 2) (s 2), dfld (b 3) (s 3), dfld (b 4) (s 4)]
set_option maxRecDepth 100000 in
theorem open_expr {r : Reach} {b0 : Nat} {v : Value} {d : DataW H} {p : List MemPlace} (hv : Value.okWide Tryz.prog w r b0 27 v) (h : DataW.Trod enc Tryz.prog w base spare held 27 v d p) :
    ∃ (b : Nat → Nat) (s : Nat → Bool), v = xval b s ∧ d = dexpr b s ∧ p = [] ∧ (∀ k, k < 5 → b k < 2 ^ 64) ∧ (∀ k, k < 5 → (Lit.int .u64 ((b k : Nat) : Int)).wf = true) := by
  obtain ⟨cs, rfl, hsz⟩ := okWide_array Tryz.underlying27 hv
  obtain ⟨c0, c1, c2, c3, c4, c5, c6, c7, c8, c9, rfl⟩ := array10 (hsz.trans cellsExpr)
  obtain ⟨fuel, hf⟩ := h
  obtain ⟨xs, n, -, hx, hl, hlen, hf⟩ := DataW.trod_array Tryz.underlying27 hf
  rw [cellsField] at hf
  match xs, hlen with
  | [y0, y1, y2, y3, y4], _ =>
    have h0 : DataW.trod enc Tryz.prog w base spare held n 25 [c0, c1] = some y0 := hf 0 (by decide)
    have h1 : DataW.trod enc Tryz.prog w base spare held n 25 [c2, c3] = some y1 := hf 1 (by decide)
    have h2 : DataW.trod enc Tryz.prog w base spare held n 25 [c4, c5] = some y2 := hf 2 (by decide)
    have h3 : DataW.trod enc Tryz.prog w base spare held n 25 [c6, c7] = some y3 := hf 3 (by decide)
    have h4 : DataW.trod enc Tryz.prog w base spare held n 25 [c8, c9] = some y4 := hf 4 (by decide)
    obtain ⟨a0, s0, rfl, rfl, rfl, l0, w0⟩ := open_cells h0
    obtain ⟨a1, s1, rfl, rfl, rfl, l1, w1⟩ := open_cells h1
    obtain ⟨a2, s2, rfl, rfl, rfl, l2, w2⟩ := open_cells h2
    obtain ⟨a3, s3, rfl, rfl, rfl, l3, w3⟩ := open_cells h3
    obtain ⟨a4, s4, rfl, rfl, rfl, l4, w4⟩ := open_cells h4
    simp only [Prod.mk.injEq] at hx
    exact ⟨of5 a0 a1 a2 a3 a4, of5 s0 s1 s2 s3 s4, rfl, hx.1, hx.2, five l0 l1 l2 l3 l4, five w0 w1 w2 w3 w4⟩
set_option maxRecDepth 100000 in
theorem trod_field_mk {b : Nat} {star : Bool} (w0 : (Lit.int .u64 (b : Int)).wf = true) : DataW.trod enc Tryz.prog w base spare held 2 25 [.int .u64 (b : Int), .bool star] = some (dfld b star, []) :=
  trod_struct_mk (xs := [(.lit (.int .u64 (b : Int)), []), (.lit (.bool star), [])]) Tryz.underlying25 (by rw [cellsField]; rfl) (by simp [cellsU64, cellsBool, trod_u64_mk w0, trod_bool_mk star])
theorem shut_expr {b : Nat → Nat} {s : Nat → Bool} (hw : ∀ k, k < 5 → (Lit.int .u64 ((b k : Nat) : Int)).wf = true) : DataW.Trod enc Tryz.prog w base spare held 27 (xval b s) (dexpr b s) [] :=
  ⟨3, trod_array_mk (xs := [(dfld (b 0) (s 0), []), (dfld (b 1) (s 1), []), (dfld (b 2) (s 2), []), (dfld (b 3) (s 3), []), (dfld (b 4) (s 4), [])]) Tryz.underlying27 (by rw [cellsExpr]; rfl) (by
    rw [show List.range 5 = [0, 1, 2, 3, 4] from rfl]
    simp [cellsField, xval, xcells, Value.cells, trod_field_mk (hw 0 (by decide)), trod_field_mk (hw 1 (by decide)), trod_field_mk (hw 2 (by decide)), trod_field_mk (hw 3 (by decide)), trod_field_mk (hw 4 (by decide))])⟩
end
end Go.Proofs.YtoamhjcnajljlaaGreatDoor
