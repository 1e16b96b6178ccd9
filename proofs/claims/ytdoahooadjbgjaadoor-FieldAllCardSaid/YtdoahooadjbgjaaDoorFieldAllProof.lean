/- FieldAll: whatever field and numbers come in, the law FieldAll answers true and leaves its arguments as they were. No conditions. -/
import Derived.Test.YtdoahooadjbgjaaDoorLaid6
import Derived.Test.YtdoahooadjbgjaaDoorAllWalk
import Derived.Lib.SmallJoins
import Derived.SevenTiedAt
namespace Go.Proofs.YtdoahooadjbgjaaDoor
open Go.ChangeShapes Go.WideShapes Go.RowKit Go.Lib
theorem array2 {α : Type} {cs : Array α} (h : cs.size = 2) : ∃ c0 c1, cs = #[c0, c1] := by
  obtain ⟨l⟩ := cs
  match l, h with
  | [c0, c1], _ => exact ⟨c0, c1, rfl⟩
theorem cellsField : Tryd.prog.cellsOf 25 = 2 := by kernel_rfl
theorem cellsU64 : Tryd.prog.cellsOf 23 = 1 := by kernel_rfl
theorem cellsBool : Tryd.prog.cellsOf 4 = 1 := by kernel_rfl
theorem bits_of {x : Int} (h : (Lit.int .u64 x).wf = true) : ∃ b : Nat, x = (b : Int) ∧ b < 2 ^ 64 := by
  have hb : 0 ≤ x ∧ x ≤ 18446744073709551615 := by simpa [Lit.wf, IntKind.min, IntKind.max, IntKind.signed, IntKind.bits] using h
  exact ⟨x.toNat, by omega, by omega⟩
section
variable {H : Type} {enc : TypeId × Value → H} {w : World} {base : Nat} {spare : Nat → Bool} {held : Bool}
theorem trod_u64_mk {x : Int} (hw : (Lit.int .u64 x).wf = true) (n : Nat) : DataW.trod enc Tryd.prog w base spare held (n + 1) 23 [.int .u64 x] = some (.lit (.int .u64 x), []) := by
  simp [DataW.trod, Tryd.underlying23, hw]
theorem trod_bool_mk (b : Bool) (n : Nat) : DataW.trod enc Tryd.prog w base spare held (n + 1) 4 [.bool b] = some (.lit (.bool b), []) := by
  simp [DataW.trod, Tryd.underlying4]
/-- a field's datum -/
def dfld (b : Nat) (star : Bool) : DataW H := .agg [.lit (.int .u64 (b : Int)), .lit (.bool star)]
set_option maxRecDepth 100000 in
theorem open_field {r : Reach} {b0 : Nat} {v : Value} {d : DataW H} {p : List MemPlace} (hv : Value.okWide Tryd.prog w r b0 25 v) (h : DataW.Trod enc Tryd.prog w base spare held 25 v d p) :
    ∃ (b : Nat) (star : Bool), v = .agg #[.int .u64 (b : Int), .bool star] ∧ d = dfld b star ∧ p = [] ∧ b < 2 ^ 64 ∧ (Lit.int .u64 (b : Int)).wf = true := by
  obtain ⟨cs, rfl, hsz⟩ := okWide_struct Tryd.underlying25 hv
  obtain ⟨c0, c1, rfl⟩ := array2 (hsz.trans cellsField)
  obtain ⟨fuel, hf⟩ := h
  obtain ⟨xs, n, -, hx, hl, hlen, hf⟩ := DataW.trod_struct Tryd.underlying25 hf
  match xs, hlen with
  | [y0, y1], _ =>
    have h0 : DataW.trod enc Tryd.prog w base spare held n 23 [c0] = some y0 := hf 0 _ rfl
    have h1 : DataW.trod enc Tryd.prog w base spare held n 4 [c1] = some y1 := hf 1 _ rfl
    obtain ⟨x, e0, rfl, w0⟩ := DataW.trod_int Tryd.underlying23 h0
    obtain ⟨star, e1, rfl⟩ := DataW.trod_bool Tryd.underlying4 h1
    obtain ⟨b, rfl, hb⟩ := bits_of w0
    obtain rfl : c0 = .int .u64 (b : Int) := by simpa using e0
    obtain rfl : c1 = .bool star := by simpa using e1
    simp only [Prod.mk.injEq] at hx
    exact ⟨b, star, rfl, hx.1, hx.2, hb, w0⟩
theorem shut_field {b : Nat} {star : Bool} (w0 : (Lit.int .u64 (b : Int)).wf = true) : DataW.Trod enc Tryd.prog w base spare held 25 (.agg #[.int .u64 (b : Int), .bool star]) (dfld b star) [] :=
  ⟨2, trod_struct_mk (xs := [(.lit (.int .u64 (b : Int)), []), (.lit (.bool star), [])]) Tryd.underlying25 (by rw [cellsField]; rfl) (by simp [Value.cells, cellsU64, cellsBool, trod_u64_mk w0, trod_bool_mk star])⟩
end
namespace fieldAll

theorem reads (os : Os) {H : Type} (enc : TypeId × Value → H) : ∃ places, DataW.whole enc Tryd.prog ((laidWorld os).forCall (fun _ _ => 0) ⟨#[], #[.agg #[.int .u64 0, .bool false], .int .i64 0, .int .i64 0], []⟩).memory Tryd.f6.params.toList Rows.fieldAllSpec.vars false #[Value.agg #[.int .u64 0, .bool false], Value.int .i64 0, Value.int .i64 0].toList 8 = some ([.agg [.lit (.int .u64 0), .lit (.bool false)], .lit (.int .i64 0), .lit (.int .i64 0)], [], places) :=
  ⟨[], by kernel_rfl⟩

set_option maxRecDepth 100000 in
theorem lifted (os : Os) (started : os.Started) (H : Type) (enc : TypeId × Value → H) (K : Stop.Interp) :
    ReturnsInHanded {} Tryd.checked os 6 .any ((OpenSpec.ofChange Rows.fieldAllSpec).preRow enc Tryd.prog Tryd.f6 Rows.fieldAllRow.domain false Rows.fieldAllRow.laid) (((OpenSpec.ofChange Rows.fieldAllSpec).at K).post enc Tryd.prog Tryd.f6 false true false false) := by
  obtain ⟨places, hx⟩ := reads os enc
  refine returnsInHanded_of_row (C := Tryd.checked) (s := OpenSpec.ofChange Rows.fieldAllSpec) ownLaid started (by kernel_rfl) Tryd.func6
    (witness_row_atRef (enc := enc) (C := Tryd.checked) false (laidWorld os) #[.agg #[.int .u64 0, .bool false], .int .i64 0, .int .i64 0] rfl (world_ok os _) (by kernel_rfl) (by kernel_rfl)
      (OpenSpec.preRow_of_cond 8 hx (by kernel_rfl) (fun k hk => by cases hk) (by kernel_rfl) (laid_met os _))) ?_
  intro W base args ds gs before hval0 hW _ _ _ hL hsh _
  have htab := TabsOn.of (tabs_met hL hsh)
  have hval : ∀ (j : Nat) t v, Tryd.f6.params[j]? = some t → args[j]? = some v → Value.okWide Tryd.prog W .any base t v := hval0
  have hW' := hW
  obtain ⟨p, q, hA0, hV, rfl, hfz, hnd⟩ := hW
  have hA : DataW.TrodAll enc Tryd.prog W 0 (fun _ => true) true Tryd.f6.params.toList args.toList ds p := hA0
  rw [Tryd.params6] at hA hval
  obtain ⟨v0, vs0, d0, ds0, p0, q0, hargs, rfl, rfl, h0, r0⟩ := trodAll_cons hA
  obtain ⟨v1, vs1, d1, ds1, p1, q1, rfl, rfl, rfl, h1, r1⟩ := trodAll_cons r0
  obtain ⟨v2, vs2, d2, ds2, p2, q2, rfl, rfl, rfl, h2, r2⟩ := trodAll_cons r1
  obtain ⟨rfl, rfl, rfl⟩ := trodAll_nil r2
  obtain rfl : args = #[v0, v1, v2] := by cases args; simp_all
  obtain ⟨rfl, rfl⟩ := trodVars_none hV
  obtain ⟨b, star, rfl, rfl, rfl, hb, w0⟩ := open_field (hval 0 25 v0 rfl rfl) h0
  obtain ⟨a1, rfl, rfl, rfl, w1⟩ := open_int Tryd.underlying3 (hval 1 3 v1 rfl rfl) h1
  obtain ⟨a2, rfl, rfl, rfl, w2⟩ := open_int Tryd.underlying3 (hval 2 3 v2 rfl rfl) h2
  have b1 : -9223372036854775808 ≤ a1 ∧ a1 ≤ 9223372036854775807 := by simpa [Lit.wf, IntKind.min, IntKind.max, IntKind.signed, IntKind.bits] using w1
  have b2 : -9223372036854775808 ≤ a2 ∧ a2 ≤ 9223372036854775807 := by simpa [Lit.wf, IntKind.min, IntKind.max, IntKind.signed, IntKind.bits] using w2
  clear hA0 hval0
  simp only [List.append_nil] at hW'
  refine (all_law b hb star a1 a2 W htab b1 b2).mono fun e W' ⟨he, hg⟩ => ?_
  subst he
  exact ⟨_, rfl, _, _, _, [], _, [], hW', trodAll_mk1 (shut_bool Tryd.underlying4 _), (trodAll_cons_mk (shut_field w0) (trodAll_cons_mk (shut_int Tryd.underlying3 w1) (trodAll_cons_mk (shut_int Tryd.underlying3 w2) trodAll_mk0))), rfl, hg.frame _, fun h => by cases h⟩

theorem said : Rows.FieldAllSaid :=
  OpenClaim.holds_of_cond 6 Tryd.f6 rfl rfl rfl rfl rfl rfl rfl ⟨rfl, rfl, rfl, rfl, rfl⟩ rfl rfl rfl rfl rfl (by kernel_rfl) Tryd.func6 (by kernel_rfl)
    (of_decide_eq_true (by kernel_rfl)) (by unfold Func.isWrapper; first | (rw [if_pos (by decide +kernel)]; kernel_rfl) | (rw [if_neg (by decide +kernel)]; exact ⟨rfl, rfl⟩))
    (fun os started H enc _ K => by rw [OpenClaim.pre_eq_preRow]; exact lifted os started H enc K)

theorem plain (f : FuncId) (fn : Func) (hf : Tryd.pinned.checked.prog.funcNamed "ringer/ringerlaw06.FieldAll" = some f) (hfn : Tryd.pinned.checked.prog.funcs[f]? = some fn) :
    true = Tryd.pinned.checked.prog.looks [] ∧ ∀ (j : Nat) t, fn.params[j]? = some t → Tryd.pinned.checked.prog.wantsStandIn t = false := by
  obtain rfl : f = 6 := Option.some.inj ((show Tryd.prog.funcNamed "ringer/ringerlaw06.FieldAll" = some 6 by kernel_rfl).symm.trans hf) |>.symm
  obtain rfl : fn = Tryd.f6 := (Option.some.inj (Tryd.func6.symm.trans hfn)).symm
  refine ⟨by kernel_rfl, fun j t ht => ?_⟩
  rw [Tryd.params6] at ht
  have hm := Array.mem_of_getElem? ht
  have ht' : t = 25 ∨ t = 3 := by simpa using hm
  rcases ht' with rfl | rfl
  · exact (show Tryd.prog.wantsStandIn 25 = false by kernel_rfl)
  · exact (show Tryd.prog.wantsStandIn 3 = false by kernel_rfl)

theorem proved : Rows.FieldAllCardSaid :=
  Claim7.holds_tied_plain_at .later [] _ _ _ _ said (fun _ h => by cases h) (by kernel_rfl) (fun _ h => by cases h) fieldAll_row_tie rfl ⟨rfl, rfl⟩ (by kernel_rfl) rfl plain (by kernel_rfl)
end fieldAll
end Go.Proofs.YtdoahooadjbgjaaDoor
