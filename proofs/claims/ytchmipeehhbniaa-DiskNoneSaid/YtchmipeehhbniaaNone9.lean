/- A disk that is not there, or that New did not make: each call, by its contract. -/
import Derived.Test.YtchmipeehhbniaaKnown9
namespace Go.Proofs.Ytchmipeehhbniaa
open Go.RowKit Go.Maps Dsk

/-- no disk -/
def NoDisk (w : World) (x : Value) : Prop := x = .pointer none ∨ ∃ g, x = .pointer (some ⟨g, 0, none⟩) ∧ w.cell? ⟨g, 0, none⟩ = some (.map none)

theorem NoDisk.below {w w' : World} {x : Value} (h : NoDisk w x) (hb : Below w.heap.size w w') : NoDisk w' x := by
  rcases h with h | ⟨g, h, hc⟩
  · exact .inl h
  · exact .inr ⟨g, h, stays hb hc⟩

theorem refusal_no {x : Value} {w : World} (y : Value) (h : NoDisk w x) :
    Calls Try.prog 22 #[x, y] w fun e w' => e = .returned (.int .i64 1) ∧ w = w' := by
  rcases h with rfl | ⟨g, rfl, hc⟩
  · exact refusal_nil y w
  · exact refusal_zero g y w hc

theorem append_no {x : Value} {w : World} (y z : Value) (h : NoDisk w x) : Calls Try.prog 9 #[x, y, z] w fun e w' => e = .returned (.int .i64 1) ∧ w = w' := by
  have H := Lib.hid (refusal_no y h)
  clear h
  go_enter Try.func9, Try.ntmps9
  go_wp2_with fail
  refine H.out.mono ?_
  rintro e w1 ⟨rfl, rfl⟩
  go_wp2
  go_ret
  exact ⟨rfl, rfl⟩
theorem replace_no {x : Value} {w : World} (y z : Value) (h : NoDisk w x) : Calls Try.prog 10 #[x, y, z] w fun e w' => e = .returned (.int .i64 1) ∧ w = w' := by
  have H := Lib.hid (refusal_no y h)
  clear h
  go_enter Try.func10, Try.ntmps10
  go_wp2_with fail
  refine H.out.mono ?_
  rintro e w1 ⟨rfl, rfl⟩
  go_wp2
  go_ret
  exact ⟨rfl, rfl⟩
theorem remove_no {x : Value} {w : World} (y : Value) (h : NoDisk w x) : Calls Try.prog 11 #[x, y] w fun e w' => e = .returned (.int .i64 1) ∧ w = w' := by
  have H := Lib.hid (refusal_no y h)
  clear h
  go_enter Try.func11, Try.ntmps11
  go_wp2_with fail
  refine H.out.mono ?_
  rintro e w1 ⟨rfl, rfl⟩
  go_wp2
  go_ret
  exact ⟨rfl, rfl⟩
theorem sync_no {x : Value} {w : World} (y : Value) (h : NoDisk w x) : Calls Try.prog 12 #[x, y] w fun e w' => e = .returned (.int .i64 1) ∧ w = w' := by
  have H := Lib.hid (refusal_no y h)
  clear h
  go_enter Try.func12, Try.ntmps12
  go_wp2_with fail
  refine H.out.mono ?_
  rintro e w1 ⟨rfl, rfl⟩
  go_wp2
  go_ret
  exact ⟨rfl, rfl⟩

set_option maxHeartbeats 1000000 in
theorem file_no {x : Value} {w : World} (l : Name) (hl : l.length ≤ 1000) (h : NoDisk w x) : Files1 x (.string ⟨l.toArray⟩) w w.heap.size (fun _ => none) l Fil.zero := by
  have hB : Below w.heap.size w (w.alloc (.cells #[.bool false, .slice none 0 0, .int .i64 0, .slice none 0 0, .bool false] 47)) := (Below.refl _ _).alloc (Nat.le_refl _) _
  unfold Files1
  rcases h with rfl | ⟨g, rfl, hc⟩
  · go_enter Try.func19, Try.ntmps19
    go_wp2
    refine bodyPost_ret (v := .agg #[.bool false, .slice none 0 0, .int .i64 0, .slice none 0 0, .bool false]) ?_ rfl ⟨FV.zero, rfl, FileAt.zero _ _ _ _, hB⟩
    simp [results, Try.results19, go_sem]
  · have hcW := stays hB hc
    have hrun := Maps.look_nil (w := (w.alloc (.cells #[.bool false, .slice none 0 0, .int .i64 0, .slice none 0 0, .bool false] 47))) (t := 25) false nameLaw Try.underlying25 (zero_file _) (key_name l (by unfold maxLen; omega))
    simp only [mkV, FV.zero] at hrun
    go_enter Try.func19, Try.ntmps19
    go_wp2
    refine bodyPost_ret (v := .agg #[.bool false, .slice none 0 0, .int .i64 0, .slice none 0 0, .bool false]) ?_ rfl ⟨FV.zero, rfl, FileAt.zero _ _ _ _, hB⟩
    simp [results, Try.results19, go_sem]

theorem read_no {x : Value} {w : World} (l : Name) (hl : l.length ≤ 1000) (h : NoDisk w x) :
    Calls Try.prog 7 #[x, .string ⟨l.toArray⟩] w fun e w' => ∃ a c, e = .returned (.tuple #[.slice a 0 c, .bool false]) ∧ Below w.heap.size w w' := by
  refine (read_of x _ w w.heap.size (fun _ => none) l Fil.zero (Lib.hid (file_no l hl h)) (Lib.hid (fun k e => absurd rfl e)) (by decide)).mono ?_
  rintro e w' ⟨a, c, rfl, _, hb⟩
  exact ⟨a, c, rfl, hb⟩
theorem sure_no {x : Value} {w : World} (l : Name) (hl : l.length ≤ 1000) (h : NoDisk w x) :
    Calls Try.prog 8 #[x, .string ⟨l.toArray⟩] w fun e w' => ∃ a c, e = .returned (.tuple #[.slice a 0 c, .bool false]) ∧ Below w.heap.size w w' := by
  refine (sure_of x _ w w.heap.size (fun _ => none) l Fil.zero (Lib.hid (file_no l hl h)) (Lib.hid (fun k e => absurd rfl e))).mono ?_
  rintro e w' ⟨a, c, rfl, _, hb⟩
  exact ⟨a, c, rfl, hb⟩

set_option maxRecDepth 100000 in
set_option maxHeartbeats 1000000 in
theorem names_no {x : Value} {w : World} (F : Nat) (h : NoDisk w x) :
    Calls Try.prog 24 #[x, .func (.func F) #[] #[]] w fun e w' => e = .returned (.slice none 0 0) ∧ Below w.heap.size w w' := by
  rcases h with rfl | ⟨g, rfl, hc⟩
  · go_enter Try.func24, Try.ntmps24
    go_wp2
    go_ret
    exact ⟨rfl, Below.refl _ _⟩
  · have hrg := run_range_nilMap (P := Try.prog) w 25 9 47 Try.underlying25
    have hnx : ∀ ty, (Instr.next (.pointer (some ⟨w.heap.size, 0, none⟩)) false ty).run Try.prog (w.alloc (.mapIter none 0 #[] 0)) = _ := fun ty => run_next_nilMap _ ty 0 0 #[]
    have HSO := Lib.hid (Try.slices_Sort_string_none none 0 (w.alloc (.mapIter none 0 #[] 0)))
    go_enter Try.func24, Try.ntmps24
    go_wp2_with fail
    refine wp_loop_rounds 1 ?_
    rw [rounds_succ]
    go_wp2_with fail
    refine HSO.out.mono ?_
    rintro e w1 ⟨rfl, rfl⟩
    go_wp2
    go_ret
    exact ⟨rfl, (Below.refl _ _).alloc (Nat.le_refl _) _⟩

theorem names_none {x : Value} {w : World} (h : NoDisk w x) : Calls Try.prog 13 #[x] w fun e w' => e = .returned (.slice none 0 0) ∧ Below w.heap.size w w' := by
  have H := Lib.hid (names_no 25 h)
  clear h
  go_enter Try.func13, Try.ntmps13
  go_wp2_with fail
  refine H.out.mono ?_
  rintro e w1 ⟨rfl, hb⟩
  go_wp2
  go_ret
  exact ⟨rfl, hb⟩
theorem loose_none {x : Value} {w : World} (h : NoDisk w x) : Calls Try.prog 14 #[x] w fun e w' => e = .returned (.slice none 0 0) ∧ Below w.heap.size w w' := by
  have H := Lib.hid (names_no 26 h)
  clear h
  go_enter Try.func14, Try.ntmps14
  go_wp2_with fail
  refine H.out.mono ?_
  rintro e w1 ⟨rfl, hb⟩
  go_wp2
  go_ret
  exact ⟨rfl, hb⟩
theorem crash_no {x : Value} {w : World} (h : NoDisk w x) (y : Value) : Calls Try.prog 6 #[x, y] w fun e w' => e = .returned (.tuple #[]) ∧ Below w.heap.size w w' := by
  have H := Lib.hid (loose_none h)
  clear h
  go_enter Try.func6, Try.ntmps6
  go_wp2_with fail
  refine H.out.mono ?_
  rintro e w1 ⟨rfl, hb⟩
  go_wp2_with fail
  refine wp_loop_rounds 1 ?_
  rw [rounds_succ]
  go_wp2
  go_end0
  exact ⟨rfl, hb⟩
theorem copy_no {x : Value} {w : World} (h : NoDisk w x) : Calls Try.prog 15 #[x] w fun e w' => e = .returned (.pointer none) ∧ w = w' := by
  rcases h with rfl | ⟨g, rfl, hc⟩
  · go_enter Try.func15, Try.ntmps15
    go_wp2
    go_ret
    exact ⟨rfl, rfl⟩
  · have hm := map_nil w none
    simp only [Option.isNone_none] at hm
    go_enter Try.func15, Try.ntmps15
    go_wp2
    go_ret
    exact ⟨rfl, rfl⟩

set_option maxRecDepth 100000 in
set_option maxHeartbeats 2000000 in
theorem diskNone_any (s : ByteArray) (z : Value) (a : Option Addr) (n c : Nat) (hz : z = .slice a n c) (w : World) :
    Calls Try.prog 3 #[.string s, z] w fun e w' => e = .returned (.bool true) ∧ Below w.heap.size w w' := by
  subst hz
  obtain ⟨l, rfl⟩ : ∃ l : Name, s = ⟨l.toArray⟩ := ⟨s.data.toList, by simp⟩
  have HK := Lib.hid (fun W => known9_any W)
  by_cases hbig : l.length ≤ 1000 ∧ n ≤ 1000
  · obtain ⟨hl, hn⟩ := hbig
    have d1 : decide (1000 < (l.length : Int)) = false := by simp; omega
    have d2 : decide (1000 < (n : Int)) = false := by simp; omega
    go_enter Try.func3, Try.ntmps3
    go_wp2_with fail
    obtain ⟨w0, hw0⟩ : ∃ w0, w0 = ((w.alloc (.cells #[.map none] 27)).alloc (.cells #[.pointer none, .pointer (some ⟨w.heap.size, 0, none⟩)] 28)) := ⟨_, rfl⟩
    have hb0 : Below w.heap.size w w0 := by rw [hw0]; exact ((Below.refl _ _).alloc (Nat.le_refl _) _).alloc (by simp) _
    have hg0 : w0.cell? ⟨w.heap.size, 0, none⟩ = some (.map none) := by
      rw [hw0]
      exact stays ((Below.refl _ _).alloc (Nat.le_refl _) _) (by rw [cell_of_row _ _ 0 _ _ _ (heap_alloc_new w _)]; rfl)
    have hr0 : w0.heap[w.heap.size + 1]? = some (.cells #[.pointer none, .pointer (some ⟨w.heap.size, 0, none⟩)] 28 (0, 0)) := by
      rw [hw0]
      have := heap_alloc_new (w.alloc (.cells #[.map none] 27)) (.cells #[.pointer none, .pointer (some ⟨w.heap.size, 0, none⟩)] 28)
      simpa using this
    have HX : Hid (∀ k, k < 2 → ∃ x, w0.cell? ⟨w.heap.size + 1, k, none⟩ = some x ∧ NoDisk w0 x) := fun k hk => by
      rcases (show k = 0 ∨ k = 1 by omega) with rfl | rfl
      · exact ⟨_, by rw [cell_of_row _ _ 0 _ _ _ hr0]; rfl, .inl rfl⟩
      · exact ⟨_, by rw [cell_of_row _ _ 1 _ _ _ hr0]; rfl, .inr ⟨_, rfl, hg0⟩⟩
    rw [← hw0]
    have HB0 := Lib.hid hb0
    clear hw0 hb0 hg0 hr0 d1 d2 hn
    go_loopw [7] (fun iv wr => ∃ k : Nat, k ≤ 2 ∧ iv = .int .i64 k ∧ Below w0.heap.size w0 wr) (fun iv _ => 2 - (intOf iv).toNat)
    case atStart => exact ⟨0, by omega, rfl, Below.refl _ _⟩
    case round =>
      obtain ⟨k, hk, rfl, hb⟩ := hrel
      by_cases hlt : k < 2
      · obtain ⟨x, hx, hnd⟩ := HX.out k hlt
        have hxr := stays hb hx
        have hlit : Below wr.heap.size wr (wr.alloc (.cells #[.int .i64 1] 3)) := (Below.refl _ _).alloc (Nat.le_refl _) _
        have HC := Lib.hid (crash_no ((hnd.below hb).below hlit) (.slice (some ⟨wr.heap.size, 0, none⟩) 1 1))
        have HBL := Lib.hid (hb.trans (hlit.mono hb.size))
        have HND := Lib.hid hnd
        clear hb hnd hlit hx
        go_wp2_with fail
        refine HC.out.mono ?_
        rintro e w1 ⟨rfl, hb1⟩
        have HB1 := Lib.hid (HBL.out.trans (hb1.mono HBL.out.size))
        clear hb1 HC
        go_wp2_with fail
        refine (read_no l hl (HND.out.below HB1.out)).mono ?_
        rintro e w2 ⟨ra, rc, rfl, hb2⟩
        have HB2 := Lib.hid (HB1.out.trans (hb2.mono HB1.out.size))
        clear hb2
        go_wp2_with fail
        refine (sure_no l hl (HND.out.below HB2.out)).mono ?_
        rintro e w3 ⟨sa, sc, rfl, hb3⟩
        have HB3 := Lib.hid (HB2.out.trans (hb3.mono HB2.out.size))
        clear hb3
        go_wp2_with fail
        refine (append_no _ _ (HND.out.below HB3.out)).mono ?_
        rintro e w4 ⟨rfl, rfl⟩
        go_wp2_with fail
        refine (replace_no _ _ (HND.out.below HB3.out)).mono ?_
        rintro e w4 ⟨rfl, rfl⟩
        go_wp2_with fail
        refine (remove_no _ (HND.out.below HB3.out)).mono ?_
        rintro e w4 ⟨rfl, rfl⟩
        go_wp2_with fail
        refine (sync_no _ (HND.out.below HB3.out)).mono ?_
        rintro e w4 ⟨rfl, rfl⟩
        go_wp2_with fail
        refine (names_none (HND.out.below HB3.out)).mono ?_
        rintro e w4 ⟨rfl, hb4⟩
        have HB4 := Lib.hid (HB3.out.trans (hb4.mono HB3.out.size))
        clear hb4
        go_wp2_with fail
        refine (loose_none (HND.out.below HB4.out)).mono ?_
        rintro e w5 ⟨rfl, hb5⟩
        have HB5 := Lib.hid (HB4.out.trans (hb5.mono HB4.out.size))
        clear hb5
        go_wp2_with fail
        refine (copy_no (HND.out.below HB5.out)).mono ?_
        rintro e w6 ⟨rfl, rfl⟩
        go_wp2
        go_roundw
        case rel => exact ⟨k + 1, hlt, by go_num, HB5.out⟩
        case measure => simp [intOf]; omega
      · have hk2 : k = 2 := by omega
        subst hk2
        have HB1 := Lib.hid (HB0.out.trans (hb.mono HB0.out.size))
        clear hb
        go_wp2_with fail
        refine (HK.out _).mono ?_
        rintro e w1 ⟨rfl, hb1⟩
        go_wp2
        go_ret
        exact ⟨rfl, HB1.out.trans (hb1.mono HB1.out.size)⟩
  · go_enter Try.func3, Try.ntmps3
    go_wp2_with fail
    all_goals first
      | (refine (HK.out _).mono ?_
         rintro e w1 ⟨rfl, hb1⟩
         go_wp2
         go_ret
         exact ⟨rfl, hb1⟩)
      | (exfalso; omega)

end Go.Proofs.Ytchmipeehhbniaa
