/- No disk: the calls that the log asks of it (cut out of stage 9's None9). -/
import Derived.Test.YtjpbniajhkindaaDskD
namespace Go.Proofs.Ytjpbniajhkindaa
open Go.RowKit Go.Maps Dsk

/-- no disk -/
def NoDisk (w : World) (x : Value) : Prop := x = .pointer none ∨ ∃ g, x = .pointer (some ⟨g, 0, none⟩) ∧ w.cell? ⟨g, 0, none⟩ = some (.map none)

theorem NoDisk.below {w w' : World} {x : Value} (h : NoDisk w x) (hb : Below w.heap.size w w') : NoDisk w' x := by
  rcases h with h | ⟨g, h, hc⟩
  · exact .inl h
  · exact .inr ⟨g, h, stays hb hc⟩

theorem refusal_no {x : Value} {w : World} (y : Value) (h : NoDisk w x) :
    Calls Try.prog 29 #[x, y] w fun e w' => e = .returned (.int .i64 1) ∧ w = w' := by
  rcases h with rfl | ⟨g, rfl, hc⟩
  · exact refusal_nil y w
  · exact refusal_zero g y w hc

theorem sync_no {x : Value} {w : World} (y : Value) (h : NoDisk w x) : Calls Try.prog 14 #[x, y] w fun e w' => e = .returned (.int .i64 1) ∧ w = w' := by
  have H := Lib.hid (refusal_no y h)
  clear h
  go_enter Try.func14, Try.ntmps14
  go_wp2_with fail
  refine H.out.mono ?_
  rintro e w1 ⟨rfl, rfl⟩
  go_wp2
  go_ret
  exact ⟨rfl, rfl⟩

set_option maxRecDepth 100000 in
set_option maxHeartbeats 1000000 in
theorem names_no {x : Value} {w : World} (F : Nat) (h : NoDisk w x) :
    Calls Try.prog 36 #[x, .func (.func F) #[] #[]] w fun e w' => e = .returned (.slice none 0 0) ∧ Below w.heap.size w w' := by
  rcases h with rfl | ⟨g, rfl, hc⟩
  · go_enter Try.func36, Try.ntmps36
    go_wp2
    go_ret
    exact ⟨rfl, Below.refl _ _⟩
  · have hrg := run_range_nilMap (P := Try.prog) w 45 9 64 Try.underlying45
    have hnx : ∀ ty, (Instr.next (.pointer (some ⟨w.heap.size, 0, none⟩)) false ty).run Try.prog (w.alloc (.mapIter none 0 #[] 0)) = _ := fun ty => run_next_nilMap _ ty 0 0 #[]
    have HSO := Lib.hid (Try.slices_Sort_string_none none 0 (w.alloc (.mapIter none 0 #[] 0)))
    go_enter Try.func36, Try.ntmps36
    go_wp2_with fail
    refine wp_loop_rounds 1 ?_
    rw [rounds_succ]
    go_wp2_with fail
    refine HSO.out.mono ?_
    rintro e w1 ⟨rfl, rfl⟩
    go_wp2
    go_ret
    exact ⟨rfl, (Below.refl _ _).alloc (Nat.le_refl _) _⟩

theorem names_none {x : Value} {w : World} (h : NoDisk w x) : Calls Try.prog 46 #[x] w fun e w' => e = .returned (.slice none 0 0) ∧ Below w.heap.size w w' := by
  have H := Lib.hid (names_no 58 h)
  clear h
  go_enter Try.func46, Try.ntmps46
  go_wp2_with fail
  refine H.out.mono ?_
  rintro e w1 ⟨rfl, hb⟩
  go_wp2
  go_ret
  exact ⟨rfl, hb⟩
theorem loose_none {x : Value} {w : World} (h : NoDisk w x) : Calls Try.prog 21 #[x] w fun e w' => e = .returned (.slice none 0 0) ∧ Below w.heap.size w w' := by
  have H := Lib.hid (names_no 37 h)
  clear h
  go_enter Try.func21, Try.ntmps21
  go_wp2_with fail
  refine H.out.mono ?_
  rintro e w1 ⟨rfl, hb⟩
  go_wp2
  go_ret
  exact ⟨rfl, hb⟩

end Go.Proofs.Ytjpbniajhkindaa
