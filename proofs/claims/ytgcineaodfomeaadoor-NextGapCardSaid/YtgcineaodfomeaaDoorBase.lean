/- What lies in the world when a call begins (the tables), a field in a block of a call's own, and the smallest functions of package field, by their contracts. -/
import Derived.Test.YtgcineaodfomeaaDoorFld
import Derived.Test.YtgcineaodfomeaaDoorProg
import Derived.ChangeKeysEq
import Derived.Deep.AppendLies
import Derived.Deep.DeepHandedRow
import Derived.Deep.DeepWitnessRowRef
import Derived.Deep.LoopGhost
import Derived.Deep.RegionHeld3
import Derived.Deep.RegionWith
import Derived.Great.BuildSlice
import Derived.Great.CaseRows
import Derived.Handy
import Derived.LaidSub
import Derived.Laws.AppendOwn
import Derived.Laws.BytesArg
import Derived.Laws.DeepStrings4
import Derived.Laws.OwnMore
import Derived.Laws.RangeAny
import Derived.Laws.RangeString
import Derived.Laws.Rows
import Derived.Lib.EndianBits
import Derived.Lib.Fold
import Derived.Lib.Hide
import Derived.Lib.IndexBytes
import Derived.Lib.ItoaNum
import Derived.Lib.Join
import Derived.Lib.LaidCaseMet
import Derived.Lib.LaidIn
import Derived.Lib.LaidTab
import Derived.Lib.ParseIntBCases
import Derived.Lib.SmallJoins
import Derived.Lib.Split
import Derived.Lib.SplitLaws
import Derived.Lib.Strings
import Derived.LoopN
import Derived.Maps.AppendAt
import Derived.OneCell
import Derived.OpenShut
import Derived.OwnWalk
import Derived.ProofKit
import Derived.ScopeJumps
import Derived.SevenTiedAt
import Derived.Shelf.Vars
import Derived.WalkKit
import Derived.WalkMore
import Derived.Laws.Tables
import Derived.Laws.CopyOwn
import Derived.Laws.BitsAllLaws
import Derived.IntWalk
import Derived.BigQuiet
import Derived.Deep.RegionHeld
import Derived.RegionTactic
import Derived.BigRegion
import Derived.Deep.QuietTactic
namespace Go.Proofs.YtgcineaodfomeaaDoor
open Go.RowKit

theorem many_drew {B : Nat} {a w : World} (h : Below B a w) (n : Nat) : Below B a (w.drewN n) := h.trans ⟨rfl, rfl, rfl, Nat.le_refl _, fun _ _ => rfl⟩
theorem lt_of_cell {w : World} {a : Addr} {v : Value} (hc : w.cell? a = some v) : a.block < w.heap.size := by
  rcases Nat.lt_or_ge a.block w.heap.size with h' | h'
  · exact h'
  · simp [World.cell?, Array.getElem?_eq_none h'] at hc
theorem stays {w w' : World} {a : Addr} {v : Value} (hb : Below w.heap.size w w') (hc : w.cell? a = some v) : w'.cell? a = some v := (hb.cell (lt_of_cell hc)).trans hc
def ba (l : List UInt8) : ByteArray := ⟨l.toArray⟩
theorem ba_list (l : List UInt8) : (ba l).data.toList = l := rfl
theorem ba_self (s : ByteArray) : ba s.data.toList = s := rfl
theorem ba_size (l : List UInt8) : (ba l).size = l.length := by rw [Lib.size_eq]; rfl

/-- the tables of the program and of Go's library, as far as they are read -/
structure Tabs (w : World) : Prop where
  low : ∀ k, k ≤ 4 → w.cell? ⟨1, k * 2, none⟩ = some (.int .i64 (Fld.lo k : Int)) ∧ w.cell? ⟨1, k * 2 + 1, none⟩ = some (.int .i64 (Fld.hi k : Int))
theorem Tabs.below {w w' : World} (h : Tabs w) (hb : Below w.heap.size w w') : Tabs w' where
  low k hk := ⟨stays hb (h.low k hk).1, stays hb (h.low k hk).2⟩
def TabsOn (w : World) : Prop := ∀ W, Below w.heap.size w W → Tabs W
theorem TabsOn.on {w W : World} (h : TabsOn w) (hb : Below w.heap.size w W) : Tabs W := h W hb
theorem TabsOn.of {w : World} (h : Tabs w) : TabsOn w := fun _ hb => h.below hb
theorem TabsOn.here {w : World} (h : TabsOn w) : Tabs w := h w (Below.refl _ _)
theorem TabsOn.next {w w' : World} (h : TabsOn w) (hb : Below w.heap.size w w') : TabsOn w' := TabsOn.of (h.on hb)

/-- a field in a block of the call's own -/
def fobj (b : Nat) (star : Bool) : Obj := .cells #[.int .u64 (b : Int), .bool star] 24 (0, 0)
structure OwnF (w : World) (B : Nat) (b : Nat) (star : Bool) (W : World) : Prop where
  bel : Below w.heap.size w W
  at_ : w.heap.size ≤ B
  siz : B < W.heap.size
  row : W.heap[B]? = some (fobj b star)
theorem OwnF.newAt {w W : World} (hb : Below w.heap.size w W) (b : Nat) (star : Bool) : OwnF w W.heap.size b star (W.alloc (.cells #[.int .u64 (b : Int), .bool star] 24)) :=
  ⟨hb.alloc hb.size _, hb.size, by simp, heap_alloc_new W _⟩
theorem OwnF.new (w : World) (b : Nat) (star : Bool) : OwnF w w.heap.size b star (w.alloc (.cells #[.int .u64 (b : Int), .bool star] 24)) := OwnF.newAt (Below.refl _ _) b star
theorem OwnF.below {w : World} {B b : Nat} {star : Bool} {W W' : World} (o : OwnF w B b star W) (hb : Below W.heap.size W W') : OwnF w B b star W' :=
  ⟨o.bel.trans (hb.mono o.bel.size), o.at_, Nat.lt_of_lt_of_le o.siz hb.size, (hb.block _ o.siz).trans o.row⟩
theorem OwnF.drew {w : World} {B b : Nat} {star : Bool} {W : World} (o : OwnF w B b star W) : OwnF w B b star W.drew := o.below (Below.refl _ _).drew
theorem OwnF.alloc {w : World} {B b : Nat} {star : Bool} {W : World} (o : OwnF w B b star W) (x : Obj) : OwnF w B b star (W.alloc x) := o.below ((Below.refl _ _).alloc (Nat.le_refl _) x)
theorem OwnF.cells {w : World} {B b : Nat} {star : Bool} {W : World} (o : OwnF w B b star W) : W.cell? ⟨B, 0, none⟩ = some (.int .u64 (b : Int)) ∧ W.cell? ⟨B, 1, none⟩ = some (.bool star) :=
  ⟨cell_of_row _ B 0 _ _ _ o.row, cell_of_row _ B 1 _ _ _ o.row⟩
theorem row_free {w : World} {B : Nat} {cs : Array Value} {t : TypeId} (hr : w.heap[B]? = some (.cells cs t (0, 0))) (j : Nat) : w.frozen? ⟨B, j, none⟩ = false := by
  simp [World.frozen?, hr]
theorem OwnF.free {w : World} {B b : Nat} {star : Bool} {W : World} (o : OwnF w B b star W) (j : Nat) : W.frozen? ⟨B, j, none⟩ = false := row_free o.row j
theorem row_set {w : World} {B : Nat} {c : Array Value} {t : TypeId} {f : Nat × Nat} (hr : w.heap[B]? = some (.cells c t f)) (j : Nat) (v : Value) : (w.setCell ⟨B, j, none⟩ v).heap[B]? = some (.cells (c.setIfInBounds j v) t f) := by
  have hlt := lt_of_block hr
  have h' : w.heap[B] = .cells c t f := by simpa [Array.getElem?_eq_getElem hlt] using hr
  show (w.heap.modify B _)[B]? = _
  rw [Array.getElem?_eq_getElem (by simpa using hlt), Array.getElem_modify_self, h']
  rfl
theorem OwnF.set {w : World} {B b : Nat} {star : Bool} {W : World} (o : OwnF w B b star W) (b' : Nat) : OwnF w B b' star (W.setCell ⟨B, 0, none⟩ (.int .u64 (b' : Int))) :=
  ⟨o.bel.setCell (p := ⟨B, 0, none⟩) o.at_ _, o.at_, by simpa using o.siz, row_set o.row 0 _⟩
theorem set_else {W : World} {B C : Nat} {j : Nat} {v : Value} (h : C ≠ B) : (W.setCell ⟨C, j, none⟩ v).heap[B]? = W.heap[B]? := by
  show (W.heap.modify C _)[B]? = _
  rw [Array.getElem?_modify, if_neg h]
theorem OwnF.other {w : World} {B b : Nat} {star : Bool} {W : World} (o : OwnF w B b star W) {C : Nat} (hC : w.heap.size ≤ C) (hne : C ≠ B) (j : Nat) (v : Value) : OwnF w B b star (W.setCell ⟨C, j, none⟩ v) :=
  ⟨o.bel.setCell (p := ⟨C, j, none⟩) hC _, o.at_, by simpa using o.siz, by rw [set_else hne]; exact o.row⟩
theorem OwnF.put {w : World} {B b : Nat} {star : Bool} {W : World} (o : OwnF w B b star W) (b' : Nat) (star' : Bool) : OwnF w B b' star' (W.setRow B #[.int .u64 (b' : Int), .bool star']) :=
  ⟨below_setRow o.bel o.at_ _, o.at_, by simpa using o.siz, setRow_heap W B _ _ _ _ o.row⟩
/-- a field as a value -/
def fval (b : Nat) (star : Bool) : Value := .agg #[.int .u64 (b : Int), .bool star]

/-! known, bit -/
def knownB (k : Int) : Bool := decide (0 ≤ k) && decide (k ≤ 4)
theorem knownB_in {k : Nat} (h : k ≤ 4) : knownB (k : Int) = true := by simp [knownB]; omega
theorem knownB_out {k : Int} (h : ¬ (0 ≤ k ∧ k ≤ 4)) : knownB k = false := by simp [knownB]; omega
theorem known_any (k : Int) (w : World) : Calls Tryd.prog 40 #[.int .i64 k] w fun e w' => e = .returned (.bool (knownB k)) ∧ w = w' := by
  have HK : Hid (knownB k = (decide (0 ≤ k) && decide (k ≤ 4))) := Lib.hid rfl
  generalize knownB k = K at HK ⊢
  by_cases h0 : 0 ≤ k
  · have g0 : decide (0 ≤ k) = true := decide_eq_true h0
    by_cases h1 : k ≤ 4
    · have g1 : decide (k ≤ 4) = true := decide_eq_true h1
      go_enter Tryd.func40, Tryd.ntmps40
      go_wp2_with fail
      go_ret
      exact ⟨by rw [HK.out, g0, g1]; rfl, rfl⟩
    · have g1 : decide (k ≤ 4) = false := decide_eq_false h1
      go_enter Tryd.func40, Tryd.ntmps40
      go_wp2_with fail
      go_ret
      exact ⟨by rw [HK.out, g0, g1]; rfl, rfl⟩
  · have g0 : decide (0 ≤ k) = false := decide_eq_false h0
    go_enter Tryd.func40, Tryd.ntmps40
    go_wp2_with fail
    go_ret
    exact ⟨by rw [HK.out, g0]; rfl, rfl⟩

/-- the bit of a number that is not too great -/
theorem nat_u64 (x : Nat) (h : x < 18446744073709551616) : IntKind.u64.wrap (x : Int) = (x : Int) := by rw [IntKind.wrap_u64]; omega
theorem pow_u64 (n : Nat) (h : n ≤ 63) : IntKind.u64.wrap ((2 : Int) ^ n) = ((2 ^ n : Nat) : Int) := by
  rw [show (2 : Int) ^ n = ((2 ^ n : Nat) : Int) by norm_cast]
  exact nat_u64 _ (Nat.lt_of_le_of_lt (Nat.pow_le_pow_right (by decide) h) (by decide))
theorem infoStr : (Tryd.prog.info? 9).map (fun i => (i.zero, i.size, i.bytes)) = some (some (.string ByteArray.empty), 1, 16) := by kernel_rfl
theorem own_same {w w' : World} {B : Nat} {e : TypeId} {size : Nat} {v : Value} {n : Nat} {xs : List Value} (h : w.ownsRow B e size v n xs) (hs : ∀ g cs fr, B ≤ g → w.heap[g]? = some (.cells cs e fr) → w'.heap[g]? = w.heap[g]?) : w'.ownsRow B e size v n xs := by
  refine ⟨h.1, ?_⟩
  rcases h.2 with hn | ⟨g, cap, cur, rfl, hb, hg, rest⟩
  · exact .inl hn
  · exact .inr ⟨g, cap, cur, rfl, hb, (hs g _ _ hb hg).trans hg, rest⟩
theorem top_four {k : Nat} (h : k = 4) : Fld.top k = 7 := if_pos h
theorem top_else {k : Nat} (h : k ≠ 4) : Fld.top k = Fld.hi k := if_neg h
end Go.Proofs.YtgcineaodfomeaaDoor
