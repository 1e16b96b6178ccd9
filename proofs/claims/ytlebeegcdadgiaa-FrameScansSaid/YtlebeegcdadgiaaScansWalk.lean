/- The law FrameScans: its walk. -/
import Derived.Test.YtlebeegcdadgiaaFrameKnown
import Derived.Test.YtlebeegcdadgiaaRefScan
import Derived.Test.YtlebeegcdadgiaaSame
import Derived.Test.YtlebeegcdadgiaaQuietRound
namespace Go.Proofs.Ytlebeegcdadgiaa
open Go.RowKit Go.Shelf
attribute [local go_sem] Oper.semAt_some

/-- the law's three boxes: the bytes, where it leaves, what it answers -/
def boxed3 (w : World) (a : Option Addr) (len cap : Nat) (left : Int) : World :=
  ((w.alloc (.cells #[.slice a len cap] 22)).alloc (.cells #[.int .i64 left] 3)).alloc (.cells #[.bool false] 4)

theorem boxed3_size (w : World) (a : Option Addr) (len cap : Nat) (left : Int) : (boxed3 w a len cap left).heap.size = w.heap.size + 3 := by simp [boxed3]
theorem boxed3_below (w : World) (a : Option Addr) (len cap : Nat) (left : Int) : Below w.heap.size w (boxed3 w a len cap left) :=
  (((Below.refl _ _).alloc (Nat.le_refl _) _).alloc (by simp) _).alloc (by simp; omega) _

theorem boxed3_at {w W : World} {a : Option Addr} {len cap : Nat} {left : Int} (hB : Below (w.heap.size + 3) (boxed3 w a len cap left) W) :
    Boxed W w.heap.size 22 (.slice a len cap) ∧ Boxed W (w.heap.size + 1) 3 (.int .i64 left) ∧ Boxed W (w.heap.size + 1 + 1) 4 (.bool false) := by
  have b0 : Boxed (w.alloc (.cells #[.slice a len cap] 22)) w.heap.size 22 (.slice a len cap) := Boxed.new _ _ _
  have b1 := Boxed.new (w.alloc (.cells #[.slice a len cap] 22)) 3 (.int .i64 left)
  have b2 := Boxed.new ((w.alloc (.cells #[.slice a len cap] 22)).alloc (.cells #[.int .i64 left] 3)) 4 (.bool false)
  simp only [World.size_alloc] at b1 b2
  refine ⟨(hB.block w.heap.size (by omega)).trans ((b0.alloc _).alloc _), (hB.block (w.heap.size + 1) (by omega)).trans (b1.alloc _), (hB.block (w.heap.size + 2) (by omega)).trans b2⟩

theorem Goes.back {bs : List Int} {pre : List Rec} {x : Rec} {k : Nat} (h : Goes bs (pre ++ [x]) k) : ∃ k0 m, Goes bs pre k0 ∧ Frame.firstOf (bs.drop k0) = some (x.zs, m) ∧ x.at_ = k0 ∧ k = k0 + m := by
  generalize hl : pre ++ [x] = l at h
  cases h with
  | start => simp at hl
  | @next pre' x' m' k' h0 h1 h2 =>
    obtain ⟨rfl, hx⟩ := List.append_inj' hl rfl
    simp only [List.cons.injEq, and_true] at hx
    subst hx
    exact ⟨_, _, h0, h1, h2, rfl⟩

theorem Goes.within {bs : List Int} {pre : List Rec} {k : Nat} (hr : ∀ x ∈ bs, 0 ≤ x ∧ x ≤ 255) (h : Goes bs pre k) {l : List (List Int)} {g : Nat} (hs : Frame.Scans bs l g) : ∃ l', l = pre.map Rec.zs ++ l' := by
  obtain ⟨l', g', h'⟩ := Frame.Scans.exist (bs.drop k).length (bs.drop k) (Nat.le_refl _) (fun x hx => hr x (List.mem_of_mem_drop hx))
  exact ⟨l', (hs.one (h.scans h')).1⟩

theorem Goes.here {bs : List Int} {pre : List Rec} {x : Rec} {k : Nat} (hr : ∀ x ∈ bs, 0 ≤ x ∧ x ≤ 255) (h : Goes bs (pre ++ [x]) k) {l : List (List Int)} {g : Nat} (hs : Frame.Scans bs l g) : pre.length < l.length ∧ l.getD pre.length [] = x.zs := by
  obtain ⟨l', rfl⟩ := h.within hr hs
  refine ⟨by simp, ?_⟩
  simp [List.getD]

set_option maxRecDepth 100000 in
set_option maxHeartbeats 4000000 in
theorem scans_in (a : Option Addr) (len cap : Nat) (bs : List Int) (left : Int) (w : World) (hz : len = bs.length) (hp : Reads w a bs) (hcap : len ≤ cap) (hcm : cap ≤ 9223372036854775807) (hn : a = none → cap = 0) (h6 : len ≤ 600) :
    Calls Try.prog 4 #[.slice a len cap, .int .i64 left] w fun e w' => e = .returned (.bool true) ∧ Below w.heap.size w w' := by
  have HZ := Lib.hid hz
  have HP := Lib.hid hp
  have HN := Lib.hid hn
  clear hz hp hn
  obtain ⟨w0, hw0⟩ : ∃ w0, w0 = boxed3 w a len cap left := ⟨_, rfl⟩
  have hs0 : w0.heap.size = w.heap.size + 3 := by rw [hw0]; exact boxed3_size _ _ _ _ _
  have hb0 : Below w.heap.size w w0 := by rw [hw0]; exact boxed3_below _ _ _ _ _
  have hat : ∀ W, Below (w.heap.size + 3) w0 W → Boxed W w.heap.size 22 (.slice a len cap) ∧ Boxed W (w.heap.size + 1) 3 (.int .i64 left) ∧ Boxed W (w.heap.size + 1 + 1) 4 (.bool false) := fun W h => by
    rw [hw0] at h
    exact boxed3_at h
  have HAT := Lib.hid hat
  have HW0 := Lib.hid hw0
  clear hat hw0
  refine (callsIn_wide (n := 3)).1 ?_
  refine callsIn_of_wp_marks Try.func4 rfl trivial ?_ rfl
  simp only [Try.ntmps4, List.size_toArray, List.length_cons, List.length_nil, Nat.reduceAdd, Nat.reduceSub, Array.replicate_succ, Array.replicate_zero, List.push_toArray, List.append_toArray, List.nil_append, List.cons_append]
  gi_wp2_with fail
  have hfold : ((w.alloc (.cells #[.slice a len cap] 22)).alloc (.cells #[.int .i64 left] 3)).alloc (.cells #[.bool false] 4) = w0 := HW0.out.symm
  rw [hfold]
  refine ⟨trivial, (callsIn_wide.2 (known_any w0)).mono ?_⟩
  rintro e w1 ⟨rfl, hb1⟩
  rw [hs0] at hb1
  have g1 := (HAT.out w1 hb1).1.cell
  clear hfold
  gi_wp2_with fail
  have B1 := hb0.trans (hb1.mono (by omega))
  have S1 := Lib.hid (scan_any a len cap bs w1 HZ.out (HP.out.below B1) (by have := HZ.out; omega) hcap hcm HN.out)
  refine ⟨trivial, ?_⟩
  with_reducible refine (callsIn_wide.2 S1.out).mono ?_
  rintro e w2 ⟨xs, v, good, rfl, hsc⟩
  clear S1
  obtain ⟨al, cl, rfl, hsl, hcl, _⟩ := hsc.slices
  have hb2 : Below (w.heap.size + 3) w0 w2 := hb1.trans (hsc.below.mono (by have := hb1.size; omega))
  have g2 := (HAT.out w2 hb2).1.cell
  have HS1 := Lib.hid hsc.scans
  have HL := Lib.hid hsl
  clear g1 hsc hsl
  gi_wp2_with fail
  have B2 := hb0.trans (hb2.mono (by omega))
  have S2 := Lib.hid (refScan_any a len cap bs w2 HZ.out (HP.out.below B2) (by have := HZ.out; omega) hcap hcm)
  refine ⟨trivial, ?_⟩
  with_reducible refine (callsIn_wide.2 S2.out).mono ?_
  rintro e w3 ⟨ys, v2, good2, rfl, hsc2⟩
  clear S2
  obtain ⟨am, cm, rfl, hsm, hcm2, _⟩ := hsc2.slices
  have hb3 : Below (w.heap.size + 3) w0 w3 := hb2.trans (hsc2.below.mono (by have := hb2.size; omega))
  obtain ⟨hone, hgood⟩ := HS1.out.one hsc2.scans
  have HL3 := Lib.hid (HL.out.below hsc2.below)
  have HM3 := Lib.hid hsm
  have HS2 := Lib.hid hsc2.scans
  subst hgood
  clear g2 hsc2 hsm HL
  obtain ⟨w4, hw4⟩ : ∃ w4, w4 = w3.alloc (.cells #[.slice am ys.length cm] 28) := ⟨_, rfl⟩
  have hs3 := hb3.size
  have hb34 : Below w3.heap.size w3 w4 := by rw [hw4]; exact (Below.refl _ _).alloc (Nat.le_refl _) _
  have hbm : Boxed w4 w3.heap.size 28 (.slice am ys.length cm) := by rw [hw4]; exact Boxed.new _ _ _
  have hb4 : Below (w.heap.size + 3) w0 w4 := hb3.trans (hb34.mono (by omega))
  have g4 := (HAT.out w4 hb4).1.cell
  have HW4 := Lib.hid hw4
  rw [hw4] at g4
  clear hw4
  have hyl : 6 * ys.length ≤ bs.length := by
    have h := HS2.out.le HP.out.hr
    rw [List.length_map] at h
    omega
  have hyl2 : ys.length ≤ 100 := by have := HZ.out; omega
  have hxl : xs.length = ys.length := by
    have h := congrArg List.length hone
    simpa using h
  gi_wp2_with fail
  rw [← HW4.out]
  have B4 := hb0.trans (hb4.mono (by omega))
  have F1 := Lib.hid (first_any a len cap bs w4 HZ.out (HP.out.below B4) (by omega) hcap hcm)
  refine ⟨trivial, ?_⟩
  with_reducible refine (callsIn_wide.2 F1.out).mono ?_
  intro e w5 hf1
  clear F1 g4
  have F2 : ∀ W, Below w.heap.size w W → Hid (Calls Try.prog 12 #[.slice a len cap] W fun e w' => ToldFirst W w' e (Frame.firstOf bs)) := fun W hW => refFirst_any a len cap bs W HZ.out (HP.out.below hW) (by omega) hcap hcm
  obtain ⟨D, hD⟩ : ∃ D, D = Frame.firstOf bs := ⟨_, rfl⟩
  rw [← hD] at hf1 F2
  clear hD
  have hs4 := hb4.size
  have conv : ∃ (v1 : Value) (k1 : Nat) (ok : Bool) (s : ByteArray), e = .returned (.tuple #[v1, .int .i64 (k1 : Int), .bool ok]) ∧ Below w4.heap.size w4 w5 ∧ (∀ W, Below w5.heap.size w5 W → (convert 22 9 v1).run Try.prog W = .ok (.string s) W) ∧
      ∀ W, Below w.heap.size w W → Hid (Calls Try.prog 12 #[.slice a len cap] W fun e w' => ∃ v2, e = .returned (.tuple #[v2, .int .i64 (k1 : Int), .bool ok]) ∧ Below W.heap.size W w' ∧ ∀ W', Below w'.heap.size w' W' → (convert 22 9 v2).run Try.prog W' = .ok (.string s) W') := by
    cases D with
    | none =>
      obtain ⟨rfl, hb⟩ := hf1
      refine ⟨.slice none 0 0, 0, false, ByteArray.empty, rfl, hb, fun W _ => run_convert_bytes_nil W _ _ Try.underlying22 Try.underlying5 _ _ _ Try.underlying9, fun W hW => (F2 W hW).out.mono ?_⟩
      rintro e w' ⟨rfl, hb⟩
      exact ⟨_, rfl, hb, fun W _ => run_convert_bytes_nil W _ _ Try.underlying22 Try.underlying5 _ _ _ Try.underlying9⟩
    | some q =>
      obtain ⟨zs, m⟩ := q
      obtain ⟨g, c, rfl, _, hh, _, hb⟩ := hf1
      refine ⟨.slice (some ⟨g, 0, none⟩) zs.length c, m, true, strOfNums zs, rfl, hb, fun W hW => (hh.below hW).reads.text _ c rfl, fun W hW => (F2 W hW).out.mono ?_⟩
      rintro e w' ⟨g, c, rfl, _, hh, _, hb⟩
      exact ⟨_, rfl, hb, fun W hW => (hh.below hW).reads.text _ c rfl⟩
  obtain ⟨v1, k1, ok, s1, rfl, hb45, hc1, F3⟩ := conv
  clear F2 hf1
  have hb5 : Below (w.heap.size + 3) w0 w5 := hb4.trans (hb45.mono (by omega))
  have g5 := (HAT.out w5 hb5).1.cell
  have C1 := Lib.hid hc1
  clear hc1
  gi_wp2_with fail
  have F4 := F3 w5 (hb0.trans (hb5.mono (by omega)))
  clear F3
  refine ⟨trivial, ?_⟩
  with_reducible refine (callsIn_wide.2 F4.out).mono ?_
  rintro e w6 ⟨v2, rfl, hb56, hc2⟩
  clear F4 g5
  have hs5 := hb5.size
  have hb6 : Below (w.heap.size + 3) w0 w6 := hb5.trans (hb56.mono (by omega))
  have hb46 : Below w4.heap.size w4 w6 := hb45.trans (hb56.mono hb45.size)
  have hm6 : Boxed w6 w3.heap.size 28 (.slice am ys.length cm) := (hb46.block _ hbm.lt).trans hbm
  have g6 := hm6.cell
  have C2 := Lib.hid (fun W (hW : Below w6.heap.size w6 W) => C1.out W (hb56.trans (hW.mono hb56.size)))
  have C3 := Lib.hid hc2
  clear C1 hc2
  have SM := Lib.hid (same_any al ys.length cl (xs.map Rec.zs) am ys.length cm (ys.map Rec.zs) w6 ((HL3.out.below hb34).below hb46) (by simp [hxl]) ((HM3.out.below hb34).below hb46) (by simp) (by omega) (by omega))
  have hdec : decide (xs.map Rec.zs = ys.map Rec.zs) = true := decide_eq_true hone
  rw [hdec] at SM
  gi_wp2_with fail
  refine ⟨trivial, ?_⟩
  with_reducible refine (callsIn_wide.2 SM.out).mono ?_
  rintro e w7 ⟨rfl, hb67⟩
  clear SM g6
  have t1 := C2.out w7 hb67
  have t2 := C3.out w7 hb67
  clear C2 C3
  have hb7 : Below (w.heap.size + 3) w0 w7 := hb6.trans (hb67.mono (by have := hb6.size; omega))
  have hm7 : Boxed w7 w3.heap.size 28 (.slice am ys.length cm) := (hb67.block _ hm6.lt).trans hm6
  have HM7 := Lib.hid (((HM3.out.below hb34).below hb46).below hb67)
  have hs7 := hb7.size
  obtain ⟨w8, hw8⟩ : ∃ w8, w8 = (w7.alloc (.cells #[.int .i64 0] 3)).alloc (.cells #[.int .i64 0] 3) := ⟨_, rfl⟩
  have hb78 : Below w7.heap.size w7 w8 := by rw [hw8]; exact ((Below.refl _ _).alloc (Nat.le_refl _) _).alloc (by simp) _
  have hs8 : w8.heap.size = w7.heap.size + 2 := by rw [hw8]; simp
  have bi8 : Boxed w8 w7.heap.size 3 (.int .i64 0) := by rw [hw8]; exact (Boxed.new w7 _ _).alloc _
  have ba8 : Boxed w8 (w7.heap.size + 1) 3 (.int .i64 0) := by
    rw [hw8]
    have h := Boxed.new (w7.alloc (.cells #[.int .i64 0] 3)) 3 (.int .i64 0)
    rw [World.size_alloc] at h
    exact h
  have hb8 : Below (w.heap.size + 3) w0 w8 := hb7.trans (hb78.mono (by omega))
  have g8 := (HAT.out w8 hb8).1.cell
  have HW8 := Lib.hid hw8
  rw [hw8] at g8
  have hlm := hbm.lt
  have hs34 : w3.heap.size < w7.heap.size := hm7.lt
  clear hw8 hbm hm6 HM3 HL3 hb34 hb46 hb45 hb56 hb67 hb1 hb2 hb3 hb4 hb5 hb6 B1 B2 B4
  gi_wp2_with fail
  rw [← HW8.out]
  have B8 := hb0.trans (hb8.mono (by omega))
  have A := Lib.hid (all_any a len cap bs w8 HZ.out (HP.out.below B8) (by have := HZ.out; omega) HN.out)
  refine ⟨trivial, ?_⟩
  with_reducible refine (callsIn_wide.2 A.out).mono ?_
  rintro e w9 ⟨rfl, a', c', hbox, hh, hc1, hc2, hb89⟩
  clear A g8
  rw [hs8] at hbox
  have hs9 := hbox.lt
  have hb79 : Below w7.heap.size w7 w9 := hb78.trans (hb89.mono (by omega))
  have bi9 : Boxed w9 w7.heap.size 3 (.int .i64 0) := (hb89.block _ bi8.lt).trans bi8
  have ba9 : Boxed w9 (w7.heap.size + 1) 3 (.int .i64 0) := (hb89.block _ ba8.lt).trans ba8
  have HBX := Lib.hid hbox
  have HH := Lib.hid hh
  have HC2 := Lib.hid hc2
  have HB7 := Lib.hid hb7
  clear hbox hh hc2 bi8 ba8 hb89 hb8 hb78 B8 hb7
  gi_wp2_with fail
  have hbl : bs.length ≤ 600 := by have := HZ.out; omega
  refine range_told (by omega) (gf := 25) (lb := #[.pointer (some ⟨w7.heap.size + 2, 0, none⟩)]) rfl (enters_of Try.func25 (by kernel_rfl) rfl)
    (encs := Rec.encs) (Kp := KeepB (w7.heap.size + 2)) (T := Told3 bs w9.heap.size) (S := fun xs => ∃ k, Goes bs xs k ∧ Frame.firstOf (bs.drop k) = none) (N := bs.length) (w0 := w9)
    (fun l J Jx W hW hJ hJx hY h0 => all1_in (3 - 1) (by omega) l (w7.heap.size + 2) w9.heap.size a' c' bs (by omega) hc1 HC2.out J Jx W hW.size hJ hY ((hW.block _ hs9).trans HBX.out) (HH.out.keep (KeepB.below (Bn := 0) hW)) h0)
    (fun h k => h.trans k) (fun W l o o' _ h ho => KeepB.other W l o o' h ho) (Told3.own bs _ _) (Below.refl _ _) (fun _ => rfl)
    (fun pre W => ∃ k : Nat, Goes bs pre k ∧ Boxed W w7.heap.size 3 (.int .i64 (pre.length : Int)) ∧ Boxed W (w7.heap.size + 1) 3 (.int .i64 (k : Int)) ∧ Below w7.heap.size w7 W ∧ w9.heap.size ≤ W.heap.size)
    (fun c pre W => c = (Code.exit 0) ∧ left = (pre.length : Int) ∧ ∃ k : Nat, Goes bs pre k ∧ Boxed W w7.heap.size 3 (.int .i64 (pre.length : Int)) ∧ Boxed W (w7.heap.size + 1) 3 (.int .i64 (k : Int)) ∧ Below w7.heap.size w7 W ∧ w9.heap.size ≤ W.heap.size)
    ?own ?ownx ⟨0, .start, bi9, ba9, hb79, Nat.le_refl _⟩ (fun x => { tmps := #[Value.slice a len cap, Value.int IntKind.i64 left, Value.pointer (some ⟨w.heap.size, 0, none⟩), Value.pointer (some ⟨w.heap.size + 1, 0, none⟩), Value.pointer (some ⟨w.heap.size + 1 + 1, 0, none⟩), Value.slice al ys.length cl, Value.int IntKind.i64 ((good : Nat) : Int), Value.pointer (some ⟨w3.heap.size, 0, none⟩), Value.int IntKind.i64 ((good : Nat) : Int), v1, Value.int IntKind.i64 ((k1 : Nat) : Int), Value.bool ok, v2, Value.int IntKind.i64 ((k1 : Nat) : Int), Value.bool ok, Value.pointer (some ⟨w7.heap.size, 0, none⟩), Value.pointer (some ⟨w7.heap.size + 1, 0, none⟩), Value.int IntKind.i64 ((x.at_ : Nat) : Int), Value.slice (some ⟨x.g, 0, none⟩) x.zs.length x.c, undef, undef, undef, Value.bool true, Value.bool false, Value.slice a len cap, Value.int IntKind.i64 ((len : Nat) : Int), Value.bool (decide ((600 : Int) < ((len : Nat) : Int))), Value.tuple #[Value.slice al ys.length cl, Value.int IntKind.i64 ((good : Nat) : Int)], Value.slice a len cap, Value.tuple #[Value.slice al ys.length cl, Value.int IntKind.i64 ((good : Nat) : Int)], Value.slice al ys.length cl, Value.int IntKind.i64 ((good : Nat) : Int), Value.tuple #[Value.slice am ys.length cm, Value.int IntKind.i64 ((good : Nat) : Int)], Value.slice a len cap, Value.tuple #[Value.slice am ys.length cm, Value.int IntKind.i64 ((good : Nat) : Int)], Value.slice am ys.length cm, Value.int IntKind.i64 ((good : Nat) : Int), Value.tuple #[v1, Value.int IntKind.i64 ((k1 : Nat) : Int), Value.bool ok], Value.slice a len cap, Value.tuple #[v1, Value.int IntKind.i64 ((k1 : Nat) : Int), Value.bool ok], v1, Value.int IntKind.i64 ((k1 : Nat) : Int), Value.bool ok, Value.tuple #[v2, Value.int IntKind.i64 ((k1 : Nat) : Int), Value.bool ok], Value.slice a len cap, Value.tuple #[v2, Value.int IntKind.i64 ((k1 : Nat) : Int), Value.bool ok], v2, Value.int IntKind.i64 ((k1 : Nat) : Int), Value.bool ok, Value.slice al ys.length cl, Value.slice am ys.length cm, Value.bool true, Value.bool false, Value.bool false, Value.int IntKind.i64 ((good : Nat) : Int), Value.int IntKind.i64 ((good : Nat) : Int), Value.bool false, Value.bool false, Value.bool false, v1, Value.string s1, v2, Value.string s1, Value.bool false, Value.bool false, Value.bool false, Value.int IntKind.i64 ((k1 : Nat) : Int), Value.int IntKind.i64 ((k1 : Nat) : Int), Value.bool false, Value.bool false, Value.bool false, Value.bool ok, Value.bool ok, Value.bool false, Value.bool false, Value.slice a len cap, Value.func (Fn.func 25) #[] #[Value.pointer (some ⟨w7.heap.size + 2, 0, none⟩)], Value.int IntKind.i64 ((x.at_ : Nat) : Int), Value.slice (some ⟨x.g, 0, none⟩) x.zs.length x.c, undef, undef, undef, undef, undef, undef, undef, undef, undef, undef, undef, undef, undef, undef, undef, undef, undef, undef, undef, undef, undef, undef, undef, undef, undef, undef, undef, undef, undef, undef, undef, undef, undef, undef, undef, undef, undef, undef, undef, undef, undef, undef, undef, undef], defers := [] }) ?assign ?body ?done ?stop
  case assign =>
    intro l x W K hK
    simp only [Rec.encs]
    gi_wp2
    exact hK
  case own =>
    rintro s X Y row ⟨k, hgo, hi1, ha1, hB, hs⟩ hg hr
    have hr2 : ∀ r, row = some r → ∃ o : Obj, X.heap[r]? = some o ∧ o.isCells = false := fun r e => (hr r e).2
    have hsz := hg.size
    exact ⟨k, hgo, (grownBy_keeps_cells hg hr2 hi1 rfl).trans hi1, (grownBy_keeps_cells hg hr2 ha1 rfl).trans ha1, hB.grown hg hB.size (fun k e => by have := (hr k e).1; omega), by omega⟩
  case ownx =>
    rintro c s X Y row ⟨hc, hleft, k, hgo, hi1, ha1, hB, hs⟩ hg hr
    have hr2 : ∀ r, row = some r → ∃ o : Obj, X.heap[r]? = some o ∧ o.isCells = false := fun r e => (hr r e).2
    have hsz := hg.size
    exact ⟨hc, hleft, k, hgo, (grownBy_keeps_cells hg hr2 hi1 rfl).trans hi1, (grownBy_keeps_cells hg hr2 ha1 rfl).trans ha1, hB.grown hg hB.size (fun k e => by have := (hr k e).1; omega), by omega⟩
  case body =>
    rintro l pre x W ⟨k, hgo, hi1, ha1, hB, hs⟩ hT hlt
    obtain ⟨⟨k', hgo'⟩, hmem⟩ := hT
    obtain ⟨hh, _, _⟩ := hmem x (by simp)
    obtain ⟨k0, m, hg0, hf, hat, hk'⟩ := hgo'.back
    obtain rfl := hgo.one hg0
    obtain ⟨hpl, hget⟩ := hgo'.here HP.out.hr HS2.out
    rw [List.length_map] at hpl
    have hle := hgo'.le HP.out.hr
    have hle0 := hgo.le HP.out.hr
    have hm6 : 6 ≤ m := by
      obtain ⟨_, h3, _, _⟩ := Frame.first_is (fun y hy => HP.out.hr y (List.mem_of_mem_drop hy)) hf
      rw [Frame.frame_len] at h3
      have := Num.put_len x.zs.length
      omega
    have hb0W : Below (w.heap.size + 3) w0 W := HB7.out.trans (hB.mono (by omega))
    have hmW : Boxed W w3.heap.size 28 (.slice am ys.length cm) := (hB.block _ hs34).trans hm7
    obtain ⟨xm, Am, Cm, rfl, hcm3, _, hrm⟩ := (HM7.out.below hB).at_ pre.length (by rw [List.length_map]; exact hpl)
    rw [hget] at hcm3 hrm
    have c1 := hi1.cell
    have c2 := ha1.cell
    have c3 := hmW.cell
    have c4 := (HAT.out W hb0W).1.cell
    have c5 := (HAT.out W hb0W).2.1.cell
    have f1 := hi1.frozen
    have f2 := ha1.frozen
    have q1 : ∀ n, (convert 22 9 (.slice (some ⟨x.g, 0, none⟩) x.zs.length x.c)).run Try.prog (W.drewN n) = .ok (.string (strOfNums x.zs)) (W.drewN n) := fun n => (hh.reads.below (drewN_below W n)).text _ _ rfl
    have q2 : ∀ n, (convert 22 9 (.slice Am x.zs.length Cm)).run Try.prog (W.drewN n) = .ok (.string (strOfNums x.zs)) (W.drewN n) := fun n => (hrm.below (drewN_below W n)).text _ _ rfl
    have hmx : Try.prog.follows .mixedOrders = true := by kernel_rfl
    subst hat
    have HGO := Lib.hid hgo'
    have HF := Lib.hid hf
    have HBW := Lib.hid hB
    have HB0 := Lib.hid hb0W
    have HI := Lib.hid hi1
    have HA := Lib.hid ha1
    clear hgo hgo' hg0 hf hB hb0W hmem hmW hget hh hrm hi1 ha1
    generalize strOfNums x.zs = sx at *
    have hd1 : decide (ys.length ≤ pre.length) = false := by rw [decide_eq_false_iff_not]; omega
    have hd2 : decide ((ys.length : Int) ≤ (pre.length : Int)) = false := by rw [decide_eq_false_iff_not]; omega
    gi_wp2_with fail
    refine quiet_round (noDefer_of (by kernel_rfl)) (by kernel_rfl) (by kernel_rfl) ?_
    repeat (gi_big_quiet_step (fail))
    refine wpQuietIn_nil ?_
    intro _ hw'
    obtain ⟨nq, hw''⟩ := hw'
    subst hw''
    have hkc : x.at_ + m ≤ len := by have := HZ.out; omega
    have hsub1 : ¬ cap = x.at_ := by omega
    have hBq : Below W.heap.size W (W.drewN nq) := drewN_below W nq
    have R : Calls Try.prog 12 #[.slice (Option.map (fun y => y.add x.at_) a) (len - x.at_) (cap - x.at_)] (W.drewN nq) fun e w' => ∃ v0, e = .returned (.tuple #[v0, .int .i64 (m : Int), .bool true]) ∧ Below (W.drewN nq).heap.size (W.drewN nq) w' := by
      refine (refFirst_any (Option.map (fun y => y.add x.at_) a) (len - x.at_) (cap - x.at_) (bs.drop x.at_) (W.drewN nq) (by rw [List.length_drop, HZ.out]) ((HP.out.below ((hb0.trans (HB0.out.mono (by omega))).trans (hBq.mono (by have := HB0.out.size; omega)))).drop x.at_) (by omega) (by omega) (by omega)).mono ?_
      intro e w' he
      rw [HF.out] at he
      obtain ⟨g, c, rfl, _, _, _, hb⟩ := he
      exact ⟨_, rfl, hb⟩
    have HR := Lib.hid R
    clear R
    gi_wp2_with fail
    refine ⟨trivial, ?_⟩
    with_reducible refine (CallsIn.inRound l (callsIn_wide.2 HR.out)).mono ?_
    rintro e W2 ⟨v0, rfl, hb2⟩
    clear HR q1 q2
    have hBW2 : Below W.heap.size W W2 := hBq.trans (hb2.mono hBq.size)
    have hi2 : Boxed W2 w7.heap.size 3 (.int .i64 (pre.length : Int)) := (hBW2.block _ HI.out.lt).trans HI.out
    have ha2 : Boxed W2 (w7.heap.size + 1) 3 (.int .i64 (x.at_ : Int)) := (hBW2.block _ HA.out.lt).trans HA.out
    have d1 := hi2.cell
    have d2 := ha2.cell
    have d3 := hi2.frozen
    have d4 := ha2.frozen
    have d5 : W2.cell? ⟨w.heap.size + 1, 0, none⟩ = some (.int .i64 left) := (hBW2.cell (World.block_lt_of_cell? W _ c5)).trans c5
    have hwW := HBW.out.size
    have hwW2 := hBW2.size
    have hfin : ∀ (va vi : Value), KeepsFrom w9.heap.size W ((W2.setCell ⟨w7.heap.size + 1, 0, none⟩ va).setCell ⟨w7.heap.size, 0, none⟩ vi) ∧ KeepB (w7.heap.size + 2) W ((W2.setCell ⟨w7.heap.size + 1, 0, none⟩ va).setCell ⟨w7.heap.size, 0, none⟩ vi) ∧
        Boxed ((W2.setCell ⟨w7.heap.size + 1, 0, none⟩ va).setCell ⟨w7.heap.size, 0, none⟩ vi) w7.heap.size 3 vi ∧ Boxed ((W2.setCell ⟨w7.heap.size + 1, 0, none⟩ va).setCell ⟨w7.heap.size, 0, none⟩ vi) (w7.heap.size + 1) 3 va ∧
        Below w7.heap.size w7 ((W2.setCell ⟨w7.heap.size + 1, 0, none⟩ va).setCell ⟨w7.heap.size, 0, none⟩ vi) ∧ w9.heap.size ≤ ((W2.setCell ⟨w7.heap.size + 1, 0, none⟩ va).setCell ⟨w7.heap.size, 0, none⟩ vi).heap.size := fun va vi => by
      have z1 := (KeepsOthers.setCell W2 ⟨w7.heap.size + 1, 0, none⟩ va).size
      have z2 := (KeepsOthers.setCell (W2.setCell ⟨w7.heap.size + 1, 0, none⟩ va) ⟨w7.heap.size, 0, none⟩ vi).size
      refine ⟨?_, ?_, ?_, ?_, ?_, by omega⟩
      · refine ⟨by omega, fun j o hj hjo ho => ?_⟩
        have hlt := lt_of_block hjo
        rw [Below.heap_setCell _ _ _ _ (show j ≠ w7.heap.size by omega), Below.heap_setCell _ _ _ _ (show j ≠ w7.heap.size + 1 by omega), hBW2.block j hlt]
        exact hjo
      · refine ⟨by omega, fun j cs t fr hj ht => ?_⟩
        have hlt := lt_of_block hj
        have n0 : j ≠ w7.heap.size := by
          rintro rfl
          rw [show W.heap[w7.heap.size]? = _ from HI.out] at hj
          simp at hj
          rcases ht with rfl | ht
          · simp at hj
          · omega
        have n1 : j ≠ w7.heap.size + 1 := by
          rintro rfl
          rw [show W.heap[w7.heap.size + 1]? = _ from HA.out] at hj
          simp at hj
          rcases ht with rfl | ht
          · simp at hj
          · omega
        rw [Below.heap_setCell _ _ _ _ (show j ≠ w7.heap.size from n0), Below.heap_setCell _ _ _ _ (show j ≠ w7.heap.size + 1 from n1), hBW2.block j hlt]
      · exact Boxed.set vi ((Below.heap_setCell _ _ _ _ (show w7.heap.size ≠ w7.heap.size + 1 by omega)).trans hi2)
      · exact (Below.heap_setCell _ _ _ _ (show w7.heap.size + 1 ≠ w7.heap.size by omega)).trans (ha2.set va)
      · exact ((HBW.out.trans (hBW2.mono hwW)).setCell (p := ⟨w7.heap.size + 1, 0, none⟩) (by show w7.heap.size ≤ w7.heap.size + 1; omega) va).setCell (p := ⟨w7.heap.size, 0, none⟩) (Nat.le_refl _) vi
    have HFIN := Lib.hid hfin
    clear hfin hBW2 hi2 ha2 hb2 hBq c1 c2 c3 c4 c5 f1 f2
    have hpm : pre.length + 1 ≤ 1000 := by omega
    by_cases hleft : (pre.length : Int) + 1 = left
    · gi_wp2
      obtain ⟨e1, e2, e3, e4, e5, e6⟩ := HFIN.out (.int .i64 ((x.at_ : Int) + (m : Int))) (.int .i64 left)
      have hll : (((pre ++ [x]).length : Nat) : Int) = left := by
        rw [List.length_append, List.length_singleton, Int.natCast_add]
        exact hleft
      refine ⟨e1, rfl, hll.symm, x.at_ + m, by rw [← hk']; exact HGO.out, ?_, ?_, e5, e6⟩
      · rw [hll]
        exact e3
      · rw [Int.natCast_add]
        exact e4
    · gi_wp2
      obtain ⟨e1, e2, e3, e4, e5, e6⟩ := HFIN.out (.int .i64 ((x.at_ : Int) + (m : Int))) (.int .i64 ((pre.length : Int) + 1))
      refine ⟨e1, e2, x.at_ + m, by rw [← hk']; exact HGO.out, ?_, ?_, e5, e6⟩
      · rw [List.length_append, List.length_singleton, Int.natCast_add]
        exact e3
      · rw [Int.natCast_add]
        exact e4
  case done =>
    rintro D zs W hD ⟨k, hgo, hnone⟩ _ ⟨k', _, hi1, _, hB, hs⟩ hK
    have hsc := hgo.scans (.stop hnone)
    rw [List.append_nil, Nat.add_zero] at hsc
    have hlen : zs.length = ys.length := by
      have h := congrArg List.length (hsc.one HS2.out).1
      simpa using h
    rw [hlen] at hi1
    have hb0W : Below (w.heap.size + 3) w0 W := HB7.out.trans (hB.mono (by omega))
    have hmW : Boxed W w3.heap.size 28 (.slice am ys.length cm) := (hB.block _ hs34).trans hm7
    have c1 := hi1.cell
    have c3 := hmW.cell
    have c5 := (HAT.out W hb0W).2.1.cell
    have c6 := (HAT.out W hb0W).2.2.cell
    have f6 := (HAT.out W hb0W).2.2.frozen
    have HRES := Lib.hid (HAT.out W hb0W).2.2
    have HBE := Lib.hid (hb0.trans (hb0W.mono (by omega)))
    have HK := Lib.hid hK
    have hwz := hB.size
    clear hgo hnone hsc hi1 hmW hB hb0W hK
    by_cases hleft : (ys.length : Int) = left
    · gi_wp2
      have hKd : (W.setCell ⟨w.heap.size + 1 + 1, 0, none⟩ (.bool true)).heap[D]? = some (.deferred (some [])) := (Below.heap_setCell _ _ _ _ (by show D ≠ w.heap.size + 1 + 1; omega)).trans HK.out
      have hVe : Boxed ((W.setCell ⟨w.heap.size + 1 + 1, 0, none⟩ (.bool true)).putObj D (.deferred none)) (w.heap.size + 1 + 1) 4 (.bool true) :=
        (World.putObj_heap_other (by omega)).trans (Boxed.set (.bool true) HRES.out)
      have hce := hVe.cell
      gi_wp2
      refine ⟨by simp, .inl ⟨_, _, rfl, run_takeDeferred hKd, ?_⟩⟩
      refine ⟨.bool true, by simp [results, Try.results4, go_sem, hce], rfl, ?_⟩
      exact (HBE.out.setCell (p := ⟨w.heap.size + 1 + 1, 0, none⟩) (by show w.heap.size ≤ w.heap.size + 1 + 1; omega) (.bool true)).grown (grownBy_putObj' _ D (.deferred none)) (by
        have h1 := HBE.out.size
        have h3 := (KeepsOthers.setCell W ⟨w.heap.size + 1 + 1, 0, none⟩ (.bool true)).size
        omega) (fun j e => by cases e; omega)
    · gi_wp2
      have hKd : (W.setCell ⟨w.heap.size + 1 + 1, 0, none⟩ (.bool true)).heap[D]? = some (.deferred (some [])) := (Below.heap_setCell _ _ _ _ (by show D ≠ w.heap.size + 1 + 1; omega)).trans HK.out
      have hVe : Boxed ((W.setCell ⟨w.heap.size + 1 + 1, 0, none⟩ (.bool true)).putObj D (.deferred none)) (w.heap.size + 1 + 1) 4 (.bool true) :=
        (World.putObj_heap_other (by omega)).trans (Boxed.set (.bool true) HRES.out)
      have hce := hVe.cell
      gi_wp2
      refine ⟨by simp, .inl ⟨_, _, rfl, run_takeDeferred hKd, ?_⟩⟩
      refine ⟨.bool true, by simp [results, Try.results4, go_sem, hce], rfl, ?_⟩
      exact (HBE.out.setCell (p := ⟨w.heap.size + 1 + 1, 0, none⟩) (by show w.heap.size ≤ w.heap.size + 1 + 1; omega) (.bool true)).grown (grownBy_putObj' _ D (.deferred none)) (by
        have h1 := HBE.out.size
        have h3 := (KeepsOthers.setCell W ⟨w.heap.size + 1 + 1, 0, none⟩ (.bool true)).size
        omega) (fun j e => by cases e; omega)
  case stop =>
    rintro D c zs W hD ⟨rfl, hleft, k', _, hi1, _, hB, hs⟩ hK
    have hb0W : Below (w.heap.size + 3) w0 W := HB7.out.trans (hB.mono (by omega))
    have hmW : Boxed W w3.heap.size 28 (.slice am ys.length cm) := (hB.block _ hs34).trans hm7
    have c1 := hi1.cell
    have c3 := hmW.cell
    have c5 := (HAT.out W hb0W).2.1.cell
    have c6 := (HAT.out W hb0W).2.2.cell
    have f6 := (HAT.out W hb0W).2.2.frozen
    have HRES := Lib.hid (HAT.out W hb0W).2.2
    have HBE := Lib.hid (hb0.trans (hb0W.mono (by omega)))
    have HK := Lib.hid hK
    have hwz := hB.size
    clear hi1 hmW hB hb0W hK
    subst hleft
    · gi_wp2
      have hKd : (W.setCell ⟨w.heap.size + 1 + 1, 0, none⟩ (.bool true)).heap[D]? = some (.deferred (some [])) := (Below.heap_setCell _ _ _ _ (by show D ≠ w.heap.size + 1 + 1; omega)).trans HK.out
      have hVe : Boxed ((W.setCell ⟨w.heap.size + 1 + 1, 0, none⟩ (.bool true)).putObj D (.deferred none)) (w.heap.size + 1 + 1) 4 (.bool true) :=
        (World.putObj_heap_other (by omega)).trans (Boxed.set (.bool true) HRES.out)
      have hce := hVe.cell
      gi_wp2
      refine ⟨by simp, .inl ⟨_, _, rfl, run_takeDeferred hKd, ?_⟩⟩
      refine ⟨.bool true, by simp [results, Try.results4, go_sem, hce], rfl, ?_⟩
      exact (HBE.out.setCell (p := ⟨w.heap.size + 1 + 1, 0, none⟩) (by show w.heap.size ≤ w.heap.size + 1 + 1; omega) (.bool true)).grown (grownBy_putObj' _ D (.deferred none)) (by
        have h1 := HBE.out.size
        have h3 := (KeepsOthers.setCell W ⟨w.heap.size + 1 + 1, 0, none⟩ (.bool true)).size
        omega) (fun j e => by cases e; omega)

end Go.Proofs.Ytlebeegcdadgiaa
