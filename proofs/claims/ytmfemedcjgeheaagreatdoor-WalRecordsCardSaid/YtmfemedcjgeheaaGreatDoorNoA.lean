/- No disk: the calls that the log asks of it (cut out of stage 9's None9). No log, a log of no disk: each call, by its contract. -/
import Derived.Test.YtmfemedcjgeheaaGreatDoorDskD
import Derived.Test.YtmfemedcjgeheaaGreatDoorRead10
namespace Go.Proofs.YtmfemedcjgeheaaGreatDoor
open Go.RowKit Go.Maps Dsk

/-- no disk -/
def NoDisk (w : World) (x : Value) : Prop := x = .pointer none ∨ ∃ g, x = .pointer (some ⟨g, 0, none⟩) ∧ w.cell? ⟨g, 0, none⟩ = some (.map none)

theorem NoDisk.below {w w' : World} {x : Value} (h : NoDisk w x) (hb : Below w.heap.size w w') : NoDisk w' x := by
  rcases h with h | ⟨g, h, hc⟩
  · exact .inl h
  · exact .inr ⟨g, h, stays hb hc⟩

theorem refusal_no {x : Value} {w : World} (y : Value) (h : NoDisk w x) :
    Calls Tryz.prog 56 #[x, y] w fun e w' => e = .returned (.int .i64 1) ∧ w = w' := by
  rcases h with rfl | ⟨g, rfl, hc⟩
  · exact refusal_nil y w
  · exact refusal_zero g y w hc

theorem sync_no {x : Value} {w : World} (y : Value) (h : NoDisk w x) : Calls Tryz.prog 21 #[x, y] w fun e w' => e = .returned (.int .i64 1) ∧ w = w' := by
  have H := Lib.hid (refusal_no y h)
  clear h
  go_enter Tryz.func21, Tryz.ntmps21
  go_wp2_with fail
  refine H.out.mono ?_
  rintro e w1 ⟨rfl, rfl⟩
  go_wp2
  go_ret
  exact ⟨rfl, rfl⟩

set_option maxRecDepth 100000 in
set_option maxHeartbeats 1000000 in
theorem names_no {x : Value} {w : World} (F : Nat) (h : NoDisk w x) :
    Calls Tryz.prog 74 #[x, .func (.func F) #[] #[]] w fun e w' => e = .returned (.slice none 0 0) ∧ Below w.heap.size w w' := by
  rcases h with rfl | ⟨g, rfl, hc⟩
  · go_enter Tryz.func74, Tryz.ntmps74
    go_wp2
    go_ret
    exact ⟨rfl, Below.refl _ _⟩
  · have hrg := run_range_nilMap (P := Tryz.prog) w 68 9 101 Tryz.underlying68
    have hnx : ∀ ty, (Instr.next (.pointer (some ⟨w.heap.size, 0, none⟩)) false ty).run Tryz.prog (w.alloc (.mapIter none 0 #[] 0)) = _ := fun ty => run_next_nilMap _ ty 0 0 #[]
    have HSO := Lib.hid (Tryz.slices_Sort_string_none none 0 (w.alloc (.mapIter none 0 #[] 0)))
    go_enter Tryz.func74, Tryz.ntmps74
    go_wp2_with fail
    refine wp_loop_rounds 1 ?_
    rw [rounds_succ]
    go_wp2_with fail
    refine HSO.out.mono ?_
    rintro e w1 ⟨rfl, rfl⟩
    go_wp2
    go_ret
    exact ⟨rfl, (Below.refl _ _).alloc (Nat.le_refl _) _⟩

theorem names_none {x : Value} {w : World} (h : NoDisk w x) : Calls Tryz.prog 58 #[x] w fun e w' => e = .returned (.slice none 0 0) ∧ Below w.heap.size w w' := by
  have H := Lib.hid (names_no 90 h)
  clear h
  go_enter Tryz.func58, Tryz.ntmps58
  go_wp2_with fail
  refine H.out.mono ?_
  rintro e w1 ⟨rfl, hb⟩
  go_wp2
  go_ret
  exact ⟨rfl, hb⟩
theorem loose_none {x : Value} {w : World} (h : NoDisk w x) : Calls Tryz.prog 33 #[x] w fun e w' => e = .returned (.slice none 0 0) ∧ Below w.heap.size w w' := by
  have H := Lib.hid (names_no 75 h)
  clear h
  go_enter Tryz.func33, Tryz.ntmps33
  go_wp2_with fail
  refine H.out.mono ?_
  rintro e w1 ⟨rfl, hb⟩
  go_wp2
  go_ret
  exact ⟨rfl, hb⟩

end Go.Proofs.YtmfemedcjgeheaaGreatDoor

namespace Go.Proofs.YtmfemedcjgeheaaGreatDoor
open Go.RowKit Go.Maps Go.Sort Dsk Wl

set_option maxRecDepth 100000 in
set_option maxHeartbeats 1000000 in
theorem open_nil (w : World) : Calls Tryz.prog 8 #[.pointer none] w fun r w' => r = .returned (.tuple #[.pointer none, .int .i64 1]) ∧ w = w' := by
  have H := Lib.hid (sync_no (x := .pointer none) (w := w) (.string ⟨#[]⟩) (.inl rfl))
  go_enter Tryz.func8, Tryz.ntmps8
  go_wp2_with fail
  refine H.out.mono ?_
  rintro e w1 ⟨rfl, rfl⟩
  go_wp2
  go_ret2
  exact ⟨rfl, rfl⟩

theorem append_nil (y : Value) (w : World) : Calls Tryz.prog 11 #[.pointer none, y] w fun r w' => r = .returned (.int .i64 1) ∧ w = w' := by
  go_enter Tryz.func11, Tryz.ntmps11
  go_wp2
  go_ret
  exact ⟨rfl, rfl⟩
theorem compact_nil (y : Value) (w : World) : Calls Tryz.prog 15 #[.pointer none, y] w fun r w' => r = .returned (.int .i64 1) ∧ w = w' := by
  go_enter Tryz.func15, Tryz.ntmps15
  go_wp2
  go_ret
  exact ⟨rfl, rfl⟩
theorem sync_zero (b : Nat) (w : World) (hc : w.cell? ⟨b, 0, none⟩ = some (.pointer none)) : Calls Tryz.prog 13 #[.pointer (some ⟨b, 0, none⟩)] w fun r w' => r = .returned (.int .i64 1) ∧ w = w' := by
  go_enter Tryz.func13, Tryz.ntmps13
  go_wp2
  go_ret
  exact ⟨rfl, rfl⟩

set_option maxRecDepth 100000 in
set_option maxHeartbeats 1000000 in
theorem read_nil (B : Nat) (w : World) (ht : Tabs B w) (hB : B ≤ w.heap.size) :
    Calls Tryz.prog 34 #[.pointer none] w fun r w' => ∃ v1 v2, r = .returned (.tuple #[v1, v2]) ∧ ReadTold w w' [] v1 v2 := by
  have hw1 : Below w.heap.size w (w.alloc (.cells #[.slice none 0 0] 36)) := (Below.refl _ _).alloc (Nat.le_refl _) _
  have hb1 : (w.alloc (.cells #[.slice none 0 0] 36)).heap[w.heap.size]? = some (.cells #[.slice none 0 0] 36 (0, 0)) := heap_alloc_new _ _
  have HW1 := Lib.hid hw1
  have HX1 := Lib.hid (show Boxed (w.alloc (.cells #[.slice none 0 0] 36)) w.heap.size w.heap.size [] from ⟨_, hb1, EntRow.nil _ _⟩)
  have HNM := Lib.hid (names_none (x := .pointer none) (w := w.alloc (.cells #[.slice none 0 0] 36)) (.inl rfl))
  have HT := Lib.hid ht
  clear hw1 hb1 ht
  go_enter Tryz.func34, Tryz.ntmps34
  go_wp2_with fail
  go_step3
  go_wp2_with fail
  refine HNM.out.mono ?_
  rintro r w2 ⟨rfl, hb2⟩
  have HW2 := Lib.hid (HW1.out.trans (hb2.mono HW1.out.size))
  have HX2 := Lib.hid (HX1.out.below hb2)
  have HAM := Lib.hid (among_any B w2.heap.size [] none 0 w2 (HT.out.below (HW2.out.mono hB)) (Nat.le_trans hB HW2.out.size) (World.ownsRow_nil _ _ _ _) (by decide) (fun n hn => by cases hn))
  clear hb2 HX1 HW1 HNM
  go_wp2_with fail
  refine HAM.out.mono ?_
  rintro r w3 ⟨sv, rfl, hsg, hb3⟩
  have HW3 := Lib.hid (HW2.out.trans (hb3.mono HW2.out.size))
  have HX3 := Lib.hid (HX2.out.below hb3)
  obtain ⟨sa, sc, rfl, hsgn⟩ := hsg.shape
  have HSG := Lib.hid (hsg.less HW2.out.size)
  have hl0 : ((numsOf []).map Sx.mk0).length = 0 := rfl
  rw [hl0] at HSG hsgn ⊢
  clear hsgn hsg hb3 HX2 HW2 HAM hl0
  go_wp2_with fail
  go_step3
  go_wp2_with fail
  have HSTART := Lib.hid (show AtSeg w (fun _ => none) [] (.slice sa 0 sc) 0 [] [] w3 from ⟨rfl, HSG.out, HX3.out, (fun e he => by cases he), by simp, by simp, HW3.out⟩)
  clear HSG HX3 HW3
  go_loopw [18] (fun i wr => i = .int .i64 0 ∧ AtSeg w (fun _ => none) [] (.slice sa 0 sc) 0 [] [] wr) (fun i _ => 0)
  case atStart => exact ⟨rfl, HSTART.out⟩
  case round =>
    clear HSTART
    obtain ⟨rfl, hat⟩ := hrel
    obtain ⟨ea, ec, hec, her⟩ := hat.box.cell
    obtain ⟨ecs, hebx⟩ := hat.box.box
    have hfz : wr.frozen? ⟨w.heap.size, 0, none⟩ = false := frozen_row hebx
    have HAT := Lib.hid hat
    have HER := Lib.hid her
    have HEBX := Lib.hid hebx
    clear hat her hebx
    go_wp2_with fail
    go_region
    all_goals (go_wp2_with fail)
    all_goals (try rw [Exit.noGoto_ret])
    all_goals (go_wp2_with fail)
    refine bodyPost_ret (v := .tuple #[.slice sa 0 sc, .slice ea ([] : List Ent).length ec]) ?_ rfl ?_
    · have hcx : ((wr.setCell ⟨w.heap.size, 0, none⟩ (.slice ea ([] : List Ent).length ec)).drew).cell? ⟨w.heap.size, 0, none⟩ = some (.slice ea ([] : List Ent).length ec) := box_end HAT.out.box _
      generalize (wr.setCell ⟨w.heap.size, 0, none⟩ (.slice ea ([] : List Ent).length ec)).drew = WE at *
      simp [results, Tryz.results34, go_sem, hcx]
    · have hsegs := HAT.out.segs
      have hsegs : SegRow wr w.heap.size [] (.slice sa 0 sc) := hsegs
      exact ⟨_, _, rfl, told_end (segs := []) rfl hsegs HAT.out.box HER.out HAT.out.below⟩

set_option maxRecDepth 100000 in
set_option maxHeartbeats 1000000 in
theorem entries_zero (B b : Nat) (w : World) (ht : Tabs B w) (hB : B ≤ w.heap.size) (hc : w.cell? ⟨b, 0, none⟩ = some (.pointer none)) : Calls Tryz.prog 24 #[.pointer (some ⟨b, 0, none⟩)] w fun r w' => (∃ a c, r = .returned (.slice a 0 c)) ∧ Below w.heap.size w w' := by
  have HRD := Lib.hid (read_nil B w ht hB)
  clear ht hB
  go_enter Tryz.func24, Tryz.ntmps24
  go_wp2_with fail
  refine HRD.out.mono ?_
  rintro r w1 ⟨v1, v2, rfl, hrt⟩
  obtain ⟨a2, c2, rfl, -⟩ := hrt.ents.shape
  rw [show (readGo [] []).2.length = 0 from rfl]
  have HB := Lib.hid hrt.below
  clear hrt HRD
  go_wp2_with fail
  go_ret
  exact ⟨⟨a2, c2, rfl⟩, HB.out⟩

end Go.Proofs.YtmfemedcjgeheaaGreatDoor
