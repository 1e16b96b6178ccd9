/- vote.read and its closure, by their contracts. -/
import Derived.Test.YtaljfpkgancidaaPutV
namespace Go.Proofs.Ytaljfpkgancidaa
open Go.RowKit Go.Maps Go.Sort Dsk

theorem SlicesAt.tail {w : World} {x : Addr} {r : List Int} {rs : List (List Int)} (h : SlicesAt w (some x) (r :: rs)) : SlicesAt w (some (x.add 1)) rs :=
  ⟨fun i hi => by
    obtain ⟨y, A, C, hy, hc, hl, hr⟩ := h.at_ (i + 1) (by simp; omega)
    cases hy
    refine ⟨x.add 1, A, C, rfl, ?_, by rw [add_block]; exact hl, by simpa using hr⟩
    rw [show (x.add 1).add i = x.add (i + 1) by rw [Addr.add_add, Nat.add_comm]]
    simpa using hc⟩

/-- the closure's cell R holds the records that come next -/
structure Nexts (w0 W : World) (R : Nat) (rs : List (List Int)) : Prop where
  box : ∃ a c, Boxed W R 60 (.slice a rs.length c) ∧ SlicesAt w0 a rs ∧ rs.length ≤ c
  bel : Below w0.heap.size w0 W
  up : w0.heap.size ≤ R

theorem Nexts.keep {w0 W W' : World} {R : Nat} {rs : List (List Int)} (h : Nexts w0 W R rs) (hb : Below W.heap.size W W') : Nexts w0 W' R rs := by
  obtain ⟨a, c, hbx, hs, hc⟩ := h.box
  exact ⟨⟨a, c, (hb.block R hbx.lt).trans hbx, hs, hc⟩, h.bel.trans (hb.mono h.bel.size), h.up⟩
theorem Nexts.other {w0 W W' : World} {R : Nat} {rs : List (List Int)} (h : Nexts w0 W R rs) (hb : Below w0.heap.size W W') (hR : W'.heap[R]? = W.heap[R]?) : Nexts w0 W' R rs := by
  obtain ⟨a, c, hbx, hs, hc⟩ := h.box
  exact ⟨⟨a, c, hR.trans hbx, hs, hc⟩, h.bel.trans hb, h.up⟩

set_option maxHeartbeats 1000000 in
theorem next_nil (w0 W : World) (R : Nat) (h : Nexts w0 W R []) :
    Calls Try.prog 54 #[.pointer (some ⟨R, 0, none⟩)] W fun e W' => e = .returned (.tuple #[.slice none 0 0, .bool false]) ∧ W = W' := by
  obtain ⟨a, c, hbx, hs, hc⟩ := h.box
  have hcell := hbx.cell
  clear h hs hbx
  go_enter Try.func54, Try.ntmps54
  go_wp2_with fail
  go_ret2
  exact ⟨rfl, rfl⟩

set_option maxHeartbeats 1000000 in
theorem next_cons (w0 W : World) (R : Nat) (r : List Int) (rs : List (List Int)) (h : Nexts w0 W R (r :: rs)) (hn : rs.length ≤ 1000000) :
    Calls Try.prog 54 #[.pointer (some ⟨R, 0, none⟩)] W fun e W' => ∃ A C, e = .returned (.tuple #[.slice A r.length C, .bool true]) ∧ Reads w0 A r ∧ Nexts w0 W' R rs ∧ ∃ v, W' = W.setCell ⟨R, 0, none⟩ v := by
  obtain ⟨a, c, hbx, hs, hc⟩ := h.box
  obtain ⟨x, A, C, rfl, hcx, hxl, hr⟩ := hs.at_ 0 (by simp)
  have hcell := hbx.cell
  have hfz := hbx.frozen
  have hx0 : W.cell? (x.add 0) = some (.slice A r.length C) := (h.bel.cell (p := x.add 0) (by rw [add_block]; exact hxl)).trans (by simpa using hcx)
  have hadd0 : x.add 0 = x := by unfold Addr.add; split <;> simp_all
  rw [hadd0] at hx0
  have HS := Lib.hid hs
  have HB := Lib.hid hbx
  have HH := Lib.hid h
  have HR := Lib.hid (show Reads w0 A r by simpa using hr)
  clear hs hbx h hr hcx hadd0
  simp only [List.length_cons] at hcell hc
  have fin : ∀ a' c', rs.length ≤ c' → SlicesAt w0 a' rs → Nexts w0 (W.setCell ⟨R, 0, none⟩ (.slice a' rs.length c')) R rs := fun a' c' h1 h2 =>
    ⟨⟨a', c', HB.out.set _, h2, h1⟩, HH.out.bel.setCell (p := ⟨R, 0, none⟩) HH.out.up _, HH.out.up⟩
  by_cases h1 : c = 1
  · subst h1
    have h0 : rs.length = 0 := by omega
    have hrs : rs = [] := List.eq_nil_of_length_eq_zero h0
    subst hrs
    have FIN := Lib.hid fin
    clear fin
    simp only [List.length_nil, Nat.zero_add] at hcell
    go_enter Try.func54, Try.ntmps54
    go_wp2_with fail
    go_ret2
    exact ⟨A, C, rfl, HR.out, FIN.out _ _ (by simp) ⟨fun i hi => by simp at hi⟩, _, rfl⟩
  · have FIN := Lib.hid fin
    clear fin
    go_enter Try.func54, Try.ntmps54
    go_wp2_with fail
    go_ret2
    exact ⟨A, C, rfl, HR.out, FIN.out _ _ (by omega) HS.out.tail, _, rfl⟩

/-- nothing but the closure's cell has turned -/
structure OnlyR (R : Nat) (W W' : World) : Prop where
  os : W'.os = W.os
  tape : W'.tape = W.tape
  output : W'.output = W.output
  size : W'.heap.size = W.heap.size
  block : ∀ j, j ≠ R → W'.heap[j]? = W.heap[j]?
theorem OnlyR.below {R B : Nat} {W W' : World} (h : OnlyR R W W') (hB : B ≤ R) : Below B W W' := ⟨h.os, h.tape, h.output, Nat.le_of_eq h.size.symm, fun k hk => h.block k (by omega)⟩
theorem OnlyR.refl (R : Nat) (W : World) : OnlyR R W W := ⟨rfl, rfl, rfl, rfl, fun _ _ => rfl⟩
theorem OnlyR.set (R : Nat) (W : World) (v : Value) : OnlyR R W (W.setCell ⟨R, 0, none⟩ v) := ⟨rfl, rfl, rfl, by simp [World.setCell], fun j hj => Below.heap_setCell _ _ _ _ hj⟩

theorem next_any (w0 W : World) (R : Nat) (rs : List (List Int)) (h : Nexts w0 W R rs) (hn : rs.length ≤ 1000000) :
    Calls Try.prog 54 #[.pointer (some ⟨R, 0, none⟩)] W fun e W' => ∃ A C, e = .returned (.tuple #[.slice A (rs.headD []).length C, .bool (!rs.isEmpty)]) ∧ Reads w0 A (rs.headD []) ∧ Nexts w0 W' R rs.tail ∧ OnlyR R W W' := by
  cases rs with
  | nil =>
    refine (next_nil w0 W R h).mono ?_
    rintro e W' ⟨rfl, rfl⟩
    exact ⟨none, 0, rfl, Reads.nil _ _, h, OnlyR.refl _ _⟩
  | cons r rs =>
    refine (next_cons w0 W R r rs h (by simp at hn; omega)).mono ?_
    rintro e W' ⟨A, C, rfl, hr, hnx, v, rfl⟩
    exact ⟨A, C, rfl, hr, hnx, OnlyR.set _ _ _⟩

set_option maxRecDepth 100000 in
set_option maxHeartbeats 1000000 in
theorem voteread_any (g B N : Nat) (o : Tags) (M : Files) (l : Name) (w : World) (hl : Liv w B o g M N) (h2 : l.length ≤ 64) (ht : (M.at l).now.there = true) (hlen : (M.at l).now.bs.length ≤ 900000) :
    Calls Try.prog 36 #[.pointer (some ⟨g, 0, none⟩), .string ⟨l.toArray⟩] w fun e w' => Below w.heap.size w w' ∧ ∃ ls k, Frame.Scans (M.at l).now.bs ls k ∧
      ((k ≠ (M.at l).now.bs.length ∧ e = .returned (.tuple #[.nilFunc, .int .i64 4])) ∨
       (k = (M.at l).now.bs.length ∧ ∃ w0 R, e = .returned (.tuple #[.func (.func 54) #[] #[.pointer (some ⟨R, 0, none⟩)], .int .i64 0]) ∧ Nexts w0 w' R ls ∧ w.heap.size ≤ w0.heap.size ∧ Below w.heap.size w w0)) := by
  have HNO := Lib.hid (isNone_live hl.disk)
  have HRD := Lib.hid (read_of (.pointer (some ⟨g, 0, none⟩)) (.string ⟨l.toArray⟩) w B o l (M.at l) (Lib.hid (file_any g B N o M l w hl.disk h2)) (Lib.hid fun k e => (hl.disk.owns k e).2) (hl.at_ l))
  have HOK := Lib.hid (Fil.now_ok (hl.ok l))
  have HT := Lib.hid ht
  obtain ⟨zs, hzs⟩ : ∃ zs, zs = (M.at l).now.bs := ⟨_, rfl⟩
  rw [ht, ← hzs] at HRD
  rw [← hzs] at hlen ⊢
  have HZ := Lib.hid hzs
  clear hl ht hzs
  go_enter Try.func36, Try.ntmps36
  go_wp2_with fail
  refine HNO.out.mono ?_
  rintro e w1 ⟨rfl, rfl⟩
  clear HNO
  go_wp2_with fail
  refine HRD.out.mono ?_
  rintro e w2 ⟨ra, rc, rfl, hrow, hb2⟩
  have hrr : ∀ x ∈ zs, 0 ≤ x ∧ x ≤ 255 := by rw [HZ.out]; exact HOK.out.2.2
  obtain ⟨ra', rc', he, hh, hn0, hc1, hc2, _⟩ := row_src hrow hrr (by omega)
  cases he
  have HSC := Lib.hid (scan_any ra zs.length rc zs w2 rfl hh.reads (by omega) hc1 hc2 (fun e => (hn0 e).2))
  have HB2 := Lib.hid hb2
  clear hrow hb2 hh hn0 HRD hrr
  go_wp2_with fail
  refine HSC.out.mono ?_
  rintro e w3 ⟨xs, v, k, rfl, hsc⟩
  obtain ⟨va, vc, rfl, hsl, hvc, _⟩ := hsc.slices
  have HSL := Lib.hid hsl
  have HSN := Lib.hid hsc.scans
  have hkl := (hsc.scans.le (by rw [HZ.out]; exact HOK.out.2.2)).1
  have HB3 := Lib.hid (HB2.out.trans (hsc.below.mono HB2.out.size))
  clear hsl hsc HSC HB2
  by_cases hk : k < zs.length
  · go_wp2_with fail
    go_ret2
    exact ⟨HB3.out.trans (((Below.refl _ _).alloc (Nat.le_refl _) _).mono HB3.out.size), _, k, HSN.out, .inl ⟨by omega, rfl⟩⟩
  · go_wp2_with fail
    go_ret2
    refine ⟨HB3.out.trans (((Below.refl _ _).alloc (Nat.le_refl _) _).mono HB3.out.size), _, k, HSN.out, .inr ⟨by omega, w3, _, rfl, ⟨⟨va, vc, ?_, HSL.out, by simpa using hvc⟩, (Below.refl _ _).alloc (Nat.le_refl _) _, Nat.le_refl _⟩, HB3.out.size, HB3.out⟩⟩
    rw [List.length_map]
    exact heap_alloc_new _ _

theorem voteread_none (g B N : Nat) (o : Tags) (M : Files) (l : Name) (w : World) (hl : Liv w B o g M N) (h2 : l.length ≤ 64) (ht : (M.at l).now.there = false) :
    Calls Try.prog 36 #[.pointer (some ⟨g, 0, none⟩), .string ⟨l.toArray⟩] w fun e w' => Below w.heap.size w w' ∧ e = .returned (.tuple #[.nilFunc, .int .i64 5]) := by
  have HNO := Lib.hid (isNone_live hl.disk)
  have HRD := Lib.hid (read_of (.pointer (some ⟨g, 0, none⟩)) (.string ⟨l.toArray⟩) w B o l (M.at l) (Lib.hid (file_any g B N o M l w hl.disk h2)) (Lib.hid fun k e => (hl.disk.owns k e).2) (hl.at_ l))
  rw [ht] at HRD
  clear hl ht
  go_enter Try.func36, Try.ntmps36
  go_wp2_with fail
  refine HNO.out.mono ?_
  rintro e w1 ⟨rfl, rfl⟩
  clear HNO
  go_wp2_with fail
  refine HRD.out.mono ?_
  rintro e w2 ⟨ra, rc, rfl, hrow, hb2⟩
  go_wp2_with fail
  go_ret2
  exact ⟨hb2, rfl⟩

theorem voteread_no (x y : Value) (w : World) (hl : NoDisk w x) :
    Calls Try.prog 36 #[x, y] w fun e w' => Below w.heap.size w w' ∧ e = .returned (.tuple #[.nilFunc, .int .i64 1]) := by
  have HNO := Lib.hid (isNone_no hl)
  clear hl
  go_enter Try.func36, Try.ntmps36
  go_wp2_with fail
  refine HNO.out.mono ?_
  rintro e w1 ⟨rfl, rfl⟩
  clear HNO
  go_wp2_with fail
  go_ret2
  exact ⟨Below.refl _ _, rfl⟩

end Go.Proofs.Ytaljfpkgancidaa
