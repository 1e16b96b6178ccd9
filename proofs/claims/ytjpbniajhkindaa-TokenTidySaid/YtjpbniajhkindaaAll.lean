/- frame.All, by its contract: an iterator that tells the records of a file. -/
import Derived.Test.YtjpbniajhkindaaFirst
import Derived.Test.YtjpbniajhkindaaTold
import Derived.Lib.SliceRun
import Derived.Shelf.Abstract
import Derived.Shelf.RegionOpen
import Derived.OwnWalkIn
import Derived.TacticsInMore
import Derived.LoopNIn
import Derived.LoopIn
namespace Go.Proofs.Ytjpbniajhkindaa
open Go.RowKit Go.Shelf
attribute [local go_sem] Oper.semAt_some

/-- a slice's bytes, that stand at a block's head, or are none -/
def HereA (w : World) (a : Option Addr) (zs : List Int) : Prop := (a = none ∧ zs = []) ∨ ∃ g, a = some ⟨g, 0, none⟩ ∧ Here w g zs
theorem HereA.reads {w : World} {a : Option Addr} {zs : List Int} (h : HereA w a zs) : Reads w a zs := by
  rcases h with ⟨rfl, rfl⟩ | ⟨g, rfl, h⟩
  · exact Reads.nil w none
  · exact h.reads
theorem HereA.range {w : World} {a : Option Addr} {zs : List Int} (h : HereA w a zs) : ∀ x ∈ zs, 0 ≤ x ∧ x ≤ 255 := h.reads.hr

theorem Row.hereA {w : World} {B : Nat} {zs : List Int} {v : Value} (h : Row w B zs v) (hr : ∀ x ∈ zs, 0 ≤ x ∧ x ≤ 255) (hl : zs.length ≤ 9223372036854775807) :
    ∃ a c, v = .slice a zs.length c ∧ HereA w a zs ∧ zs.length ≤ c ∧ c ≤ 9223372036854775807 := by
  rcases h.2 with ⟨rfl, hn⟩ | ⟨g, cap, cur, rfl, _⟩
  · have : zs = [] := by
      have h1 := h.1
      rw [hn] at h1
      exact List.eq_nil_of_length_eq_zero (by simpa using h1)
    subst this
    exact ⟨none, 0, rfl, .inl ⟨rfl, rfl⟩, Nat.le_refl _, by omega⟩
  · have hh := h.here hr hl
    exact ⟨_, cap, rfl, .inr ⟨g, rfl, hh.1⟩, hh.2.2.1, hh.2.2.2⟩

theorem is_nil (w : World) (a : Option Addr) (n c : Nat) : (binOp .eql 33 (.slice a n c) (.slice none 0 0)).run Try.prog w = .ok (.bool a.isNone) w :=
  Lib.run_eql_slice_nil w 33 5 a n c 0 0 Try.underlying33

set_option maxHeartbeats 400000 in
theorem clone_nil (w : World) : Calls Try.prog 28 #[.slice none 0 0] w fun e w' => e = .returned (.slice none 0 0) ∧ w = w' := by
  have h0 := is_nil w none 0 0
  simp only [Option.isNone_none] at h0
  go_enter Try.func28, Try.ntmps28
  go_wp2
  go_ret
  exact ⟨rfl, rfl⟩

set_option maxRecDepth 100000 in
set_option maxHeartbeats 400000 in
theorem clone_some (x : Addr) (len cap : Nat) (zs : List Int) (w : World) (hz : len = zs.length) (hp : Reads w (some x) zs) (hl : zs.length ≤ 1000000) :
    Calls Try.prog 28 #[.slice (some x) len cap] w fun e w' => ∃ v, e = .returned v ∧ Row w' w.heap.size zs v ∧ Below w.heap.size w w' := by
  obtain ⟨i0, hi, hz0, hz1, hz2⟩ := info_parts info5
  subst hz
  have HN := Lib.hid hp
  clear hp
  have hlit : (w.alloc (.cells #[] 5)).ownsRow w.heap.size 5 1 (.slice (some ⟨w.heap.size, 0, none⟩) 0 0) 0 [] :=
    World.ownsRow_lit w #[] 0 (Nat.le_refl _) (by unfold maxLen; omega) rfl
  have hb1 : Below w.heap.size w (w.alloc (.cells #[] 5)) := (Below.refl _ _).alloc (Nat.le_refl _) _
  have h0 := is_nil w (some x) zs.length cap
  simp only [Option.isNone_some] at h0
  go_enter Try.func28, Try.ntmps28
  go_wp2_with (at_builtin; go_loud (refine wpList_append_own _ rfl _ _ 33 rfl w.heap.size 5 i0 (.int .u8 0) 1 1 Try.underlying33 hi hz0 hz1 hz2 rfl (by decide) _ _ _ rfl hlit x zs.length cap (zs.map (Value.int .u8)) rfl (by simp) ((HN.out.below hb1).news) (ints_oneCell .u8 _) (by unfold maxLen; omega) (by omega) (by simp) ?_))
  intro v1 w1 hown1 hg1 _
  have hb2 := hb1.grown hg1 (by simp) (fun k hk => by simp [Value.ownBlock] at hk; omega)
  have HO := Lib.hid hown1
  clear hown1 hg1 hlit hb1
  go_wp2
  go_ret
  refine ⟨_, rfl, ?_, hb2⟩
  simpa [Row] using HO.out

theorem clone_any (a : Option Addr) (len cap : Nat) (zs : List Int) (w : World) (hz : len = zs.length) (hp : Reads w a zs) (hl : zs.length ≤ 1000000) (hn : a = none → cap = 0) :
    Calls Try.prog 28 #[.slice a len cap] w fun e w' => ∃ v, e = .returned v ∧ Row w' w.heap.size zs v ∧ Below w.heap.size w w' := by
  cases a with
  | some x => exact clone_some x len cap zs w hz hp hl
  | none =>
    obtain rfl := hn rfl
    have hzs : zs = [] := by
      cases zs with
      | nil => rfl
      | cons z zs =>
        obtain ⟨x, hx, _⟩ := hp.cell 0 (by simp)
        cases hx
    subst hzs
    subst hz
    refine (clone_nil w).mono ?_
    rintro e w' ⟨rfl, rfl⟩
    exact ⟨_, rfl, World.ownsRow_nil _ _ _ _, Below.refl _ _⟩

end Go.Proofs.Ytjpbniajhkindaa
