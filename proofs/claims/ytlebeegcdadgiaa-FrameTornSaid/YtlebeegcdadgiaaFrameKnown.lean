/- The chapter's own rows: 'known' answers true. -/
import Derived.Test.YtlebeegcdadgiaaScan
import Derived.Lib.SlBytesConst
namespace Go.Proofs.Ytlebeegcdadgiaa
open Go.RowKit

theorem put_none (w : World) : Calls Try.prog 7 #[.slice none 0 0] w fun e w' => ∃ g c, e = .returned (.tuple #[.slice (some ⟨g, 0, none⟩) 6 c, .int .i64 0]) ∧ Below w.heap.size w w' := by
  refine (framePut_any none 0 0 [] w rfl (Reads.nil w none) (by simp)).mono ?_
  rintro e w' ⟨g, c, rfl, _, hb⟩
  exact ⟨g, c, rfl, hb⟩

theorem frame_one (z : Int) : (Frame.frameOf [z]).length = 7 := by
  rw [Frame.frame_len]
  rfl

theorem put_one (z : Int) (hz : 0 ≤ z ∧ z ≤ 255) (w : World) : Calls Try.prog 7 #[.slice (some ⟨w.heap.size, 0, none⟩) 1 1] (w.alloc (.cells #[.int .u8 z] 5 (1, 2))) fun e w' =>
    ∃ g c, e = .returned (.tuple #[.slice (some ⟨g, 0, none⟩) 7 c, .int .i64 0]) ∧ Here w' g (Frame.frameOf [z]) ∧ Below w.heap.size w w' := by
  have hr : ∀ x ∈ [z], 0 ≤ x ∧ x ≤ 255 := fun x hx => by simp only [List.mem_singleton] at hx; subst hx; exact hz
  refine (framePut_any (some ⟨w.heap.size, 0, none⟩) 1 1 [z] (w.alloc (.cells #[.int .u8 z] 5 (1, 2))) rfl
    (reads_row [z] (heap_alloc_new w _) (fun i hi => by
      obtain rfl : i = 0 := by simpa using hi
      rfl) hr (by simp)) (by simp)).mono ?_
  rintro e w' ⟨g, c, rfl, hrow, hb⟩
  rw [frame_one] at hrow ⊢
  have hrow' : Row w' w.heap.size (Frame.frameOf [z]) (.slice (some ⟨g, 0, none⟩) (Frame.frameOf [z]).length c) := by rw [frame_one]; exact hrow.less (by simp)
  exact ⟨g, c, rfl, (hrow'.here (Frame.frame_range (by simp) hr) (by rw [frame_one]; omega)).1, ((Below.refl _ _).alloc (Nat.le_refl _) _).trans (hb.mono (by simp))⟩

theorem scan_none (w : World) : Calls Try.prog 9 #[.slice none 0 0] w fun e w' => ∃ a c, e = .returned (.tuple #[.slice a 0 c, .int .i64 0]) ∧ Below w.heap.size w w' := by
  refine (scan_any none 0 0 [] w rfl (Reads.nil w none) (by simp) (Nat.le_refl _) (by omega) (fun _ => rfl)).mono ?_
  rintro e w' ⟨xs, v, good, rfl, hs⟩
  obtain ⟨h1, rfl⟩ := hs.scans.one (.stop rfl)
  have hx : xs = [] := by simpa using h1
  subst hx
  rcases hs.row.2 with ⟨rfl, _⟩ | ⟨g, cap, cur, rfl, _⟩
  · exact ⟨_, _, rfl, hs.below⟩
  · exact ⟨_, _, rfl, hs.below⟩

/-- the bytes of a, b, 5a 00 -/
def known_bytes : List Int := Frame.frameOf [97] ++ (Frame.frameOf [98] ++ [90, 0])
theorem known_scans : Frame.Scans known_bytes [[97], [98]] 14 := by
  have h : Frame.Scans [90, 0] [] 0 := .stop (by decide)
  have h2 := Frame.Scans.frame (zs := [98]) (by simp) h
  have h3 := Frame.Scans.frame (zs := [97]) (by simp) h2
  rw [frame_one, frame_one] at h3
  exact h3
theorem known_len : known_bytes.length = 16 := by
  unfold known_bytes
  rw [List.length_append, List.length_append, frame_one, frame_one]
  rfl
theorem known_range : ∀ x ∈ known_bytes, 0 ≤ x ∧ x ≤ 255 := by
  intro x hx
  have hr : ∀ z : Int, 0 ≤ z ∧ z ≤ 255 → ∀ x ∈ [z], 0 ≤ x ∧ x ≤ 255 := fun z hz x hx => by simp only [List.mem_singleton] at hx; subst hx; exact hz
  unfold known_bytes at hx
  rcases List.mem_append.1 hx with h | h
  · exact Frame.frame_range (by simp) (hr 97 (by omega)) x h
  · rcases List.mem_append.1 h with h | h
    · exact Frame.frame_range (by simp) (hr 98 (by omega)) x h
    · simp at h
      rcases h with rfl | rfl <;> omega

theorem scan_known (B : Nat) (v : Value) (w : World) (h : Row w B known_bytes v) :
    ∃ a c, v = .slice a 16 c ∧ Calls Try.prog 9 #[.slice a 16 c] w fun e w' => ∃ g c1 g1 c2 g2 c3, e = .returned (.tuple #[.slice (some ⟨g, 0, none⟩) 2 c1, .int .i64 14]) ∧
      w'.cell? ⟨g, 0, none⟩ = some (.slice (some ⟨g1, 0, none⟩) 1 c2) ∧ w'.cell? ⟨g, 1, none⟩ = some (.slice (some ⟨g2, 0, none⟩) 1 c3) ∧
      (convert 22 9 (.slice (some ⟨g1, 0, none⟩) 1 c2)).run Try.prog w' = .ok (.string ⟨#[97]⟩) w' ∧ (convert 22 9 (.slice (some ⟨g2, 0, none⟩) 1 c3)).run Try.prog w' = .ok (.string ⟨#[98]⟩) w' ∧ Below w.heap.size w w' := by
  obtain ⟨a, c, rfl, hd, hc1, hc2⟩ := h.reads known_range (by rw [known_len]; omega)
  rw [known_len] at hc1 ⊢
  have hn : a = none → c = 0 := by
    intro ha
    subst ha
    obtain ⟨x, hx, _⟩ := hd.cell 0 (by rw [known_len]; omega)
    cases hx
  refine ⟨a, c, rfl, ?_⟩
  refine (scan_any a 16 c known_bytes w known_len.symm hd (by rw [known_len]; omega) hc1 hc2 hn).mono ?_
  rintro e w' ⟨xs, v, good, rfl, hs⟩
  obtain ⟨h1, rfl⟩ := hs.scans.one known_scans
  obtain ⟨x0, x1, rfl⟩ : ∃ x0 x1, xs = [x0, x1] := by
    have h2 : xs.length = 2 := by simpa using congrArg List.length h1
    rcases xs with _ | ⟨x0, _ | ⟨x1, _ | ⟨x2, xs⟩⟩⟩
    · simp at h2
    · simp at h2
    · exact ⟨_, _, rfl⟩
    · simp at h2
  simp only [List.map_cons, List.map_nil, List.cons.injEq, and_true] at h1
  obtain ⟨e0, e1⟩ := h1
  have hrow := hs.row
  obtain ⟨g, c1, rfl⟩ := ownsRow_succ hrow
  have k0 := hrow.cellAt 0 (by simp)
  have k1 := hrow.cellAt 1 (by simp)
  simp only [List.map_cons, List.map_nil, List.getElem?_cons_zero, List.getElem?_cons_succ, Rec.val, e0, e1, List.length_singleton] at k0 k1
  have t0 := ((hs.here x0 (by simp)).1.reads).text 1 x0.c (by rw [e0]; rfl)
  have t1 := ((hs.here x1 (by simp)).1.reads).text 1 x1.c (by rw [e1]; rfl)
  rw [e0] at t0
  rw [e1] at t1
  exact ⟨g, c1, x0.g, x0.c, x1.g, x1.c, rfl, k0, k1, t0, t1, hs.below⟩

set_option maxRecDepth 100000 in
set_option maxHeartbeats 1000000 in
theorem known_any (w : World) : Calls Try.prog 6 #[] w fun e w' => e = .returned (.bool true) ∧ Below w.heap.size w w' := by
  obtain ⟨i0, hi, hz0, hz1, hz2⟩ := info_parts info5
  have kc := fun (w : World) (C : Array Value) (n c : Nat) => Lib.run_convert_bytes_const (P := Try.prog) w 22 5 C n c Try.underlying22 Try.underlying5
  go_enter Try.func6, Try.ntmps6
  go_wp2_with fail
  refine (put_none _).mono ?_
  rintro e w1 ⟨g1, c1, rfl, hb1⟩
  go_wp2_with fail
  refine (scan_none _).mono ?_
  rintro e w2 ⟨a2, c2, rfl, hb2⟩
  have b2 := hb1.trans (hb2.mono hb1.size)
  clear hb1 hb2
  go_wp2_with fail
  refine (put_one 97 (by omega) _).mono ?_
  rintro e w3 ⟨ga, ca, rfl, ha3, hb3⟩
  have b3 := b2.trans (hb3.mono b2.size)
  clear b2 hb3
  go_wp2_with fail
  refine (put_one 98 (by omega) _).mono ?_
  rintro e w4 ⟨gb, cb, rfl, hh4, hb4⟩
  have b4 := b3.trans (hb4.mono b3.size)
  have ha4 := ha3.below hb4
  clear b3 hb4 ha3 kc
  have hlit : (w4.alloc (.cells #[] 5)).ownsRow w4.heap.size 5 1 (.slice (some ⟨w4.heap.size, 0, none⟩) 0 0) 0 [] :=
    World.ownsRow_lit w4 #[] 0 (Nat.le_refl _) (by unfold maxLen; omega) rfl
  have hbL : Below w4.heap.size w4 (w4.alloc (.cells #[] 5)) := (Below.refl _ _).alloc (Nat.le_refl _) _
  have f1 := frame_one 97
  have f2 := frame_one 98
  have F1 := Lib.hid f1
  have F2 := Lib.hid f2
  clear f1 f2
  go_wp2_with (at_builtin; go_loud (refine wpList_append_own _ rfl _ _ 22 rfl w4.heap.size 5 i0 (.int .u8 0) 1 1 Try.underlying22 hi hz0 hz1 hz2 rfl (by decide) _ _ _ rfl hlit ⟨ga, 0, none⟩ 7 ca ((Frame.frameOf [97]).map (Value.int .u8)) rfl (by rw [List.length_map, F1.out]) ((ha4.below hbL).reads.news) (ints_oneCell .u8 _) (by unfold maxLen; omega) (by omega) (by simp) ?_))
  intro v1 w5 hown1 hg1 _
  have b5 := hbL.grown hg1 (by simp) (fun k hk => by simp [Value.ownBlock] at hk; omega)
  have hh5 := hh4.below b5
  clear hlit hbL
  go_wp2_with (at_builtin; go_loud (refine wpList_append_own _ rfl _ _ 22 rfl w4.heap.size 5 i0 (.int .u8 0) 1 1 Try.underlying22 hi hz0 hz1 hz2 rfl (by decide) _ _ _ rfl hown1 ⟨gb, 0, none⟩ 7 cb ((Frame.frameOf [98]).map (Value.int .u8)) rfl (by rw [List.length_map, F2.out]) (hh5.reads.news) (ints_oneCell .u8 _) (by unfold maxLen; omega) (by omega) (by have := b5.size; omega) ?_))
  intro v2 w6 hown2 hg2 _
  have b6 := b5.grown hg2 b5.size (fun k hk => (hown1.lt k hk).1)
  have hlit2 : ∀ j u, [Value.int .u8 90, .int .u8 0][j]? = some u → (w6.alloc (.cells #[.int .u8 90, .int .u8 0] 5)).cell? ((⟨w6.heap.size, 0, none⟩ : Addr).add j) = some u := by
    intro j u hj
    match j, hj with
    | 0, hj => simp at hj; subst hj; simp [Addr.add]
    | 1, hj => simp at hj; subst hj; simp [Addr.add]
  clear hown1 hg1 hg2
  go_wp2_with (at_builtin; go_loud (refine wpList_append_own _ rfl _ _ 22 rfl w4.heap.size 5 i0 (.int .u8 0) 1 1 Try.underlying22 hi hz0 hz1 hz2 rfl (by decide) _ _ _ rfl (hown2.alloc _) ⟨w6.heap.size, 0, none⟩ 2 2 [.int .u8 90, .int .u8 0] rfl rfl hlit2 (ints_oneCell .u8 [90, 0]) (by unfold maxLen; omega) (by omega) (by have := b6.size; simp; omega) ?_))
  intro v3 w7 hown3 hg3 _
  have b7 := (b6.alloc b6.size (.cells #[.int .u8 90, .int .u8 0] 5)).grown hg3 (by have := b6.size; simp; omega) (fun k hk => (hown2.lt k hk).1)
  have hrow7 : Row w7 w4.heap.size known_bytes v3 := by
    unfold Row
    rw [known_len]
    simpa [known_bytes] using hown3
  obtain ⟨a7, c7, rfl, hcall⟩ := scan_known _ _ _ hrow7
  have HC := Lib.hid hcall
  clear hown2 hown3 hg3 hlit2 hrow7 hcall
  go_wp2_with fail
  with_reducible refine HC.out.mono ?_
  rintro e w8 ⟨g, d1, g8, d2, g9, d3, rfl, k0, k1, t0, t1, hb8⟩
  have b8 := (b4.trans (b7.mono b4.size)).trans (hb8.mono (by have := b4.size; have := b7.size; omega))
  clear HC hb8 b4 b5 b6 b7 hh4 hh5 ha4 F1 F2
  go_wp2_with fail
  go_ret
  exact ⟨rfl, b8⟩

end Go.Proofs.Ytlebeegcdadgiaa
