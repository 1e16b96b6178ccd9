/- job.taken, by its contract: the fields that stand from a place on. -/
import Derived.Test.YtoghalmjbbkjhaaGreatDoorMayJ
import Derived.Test.YtoghalmjbbkjhaaGreatDoorTakeC
import Derived.Test.YtoghalmjbbkjhaaGreatDoorPutC
namespace Go.Proofs.YtoghalmjbbkjhaaGreatDoor.Job
open Go.RowKit

/-- k numbers, taken one behind the other -/
def tkD (zs : List Int) : Nat → Option Nat → List Int × Option Nat
  | 0, st => ([], st)
  | k + 1, st => ((tkD zs k st).1 ++ [((tkN zs 18446744073709551615 (tkD zs k st).2).1 : Int)], (tkN zs 18446744073709551615 (tkD zs k st).2).2)
theorem tkD_len (zs : List Int) (st : Option Nat) : ∀ k, (tkD zs k st).1.length = k
  | 0 => rfl
  | k + 1 => by simp [tkD, tkD_len zs st k]
def zeroJ : J := ⟨0, ByteArray.mk #[], ByteArray.mk #[], 0, 0, 0, 0, 0, none, 0, [], false, 0, 0⟩
def J.at (j : J) (a : Option Addr) (c : Nat) : J := { j with da := a, dc := c }
/-- a job's fields, whether it may be or not; the place behind, if nothing was amiss -/
def takenM (zs : List Int) (st0 : Option Nat) : J × Option Nat :=
  let r0 := tkN zs 18446744073709551615 st0
  let r1 := tkT zs r0.2
  let r2 := tkT zs r1.2
  let r3 := tkN zs 3 r2.2
  let r4 := tkN zs 604800 r3.2
  let r5 := tkN zs 8 r4.2
  let r6 := tkN zs 5 r5.2
  let r7 := tkN zs 86400 r6.2
  let r8 := tkN zs 8 r7.2
  let r9 := tkD zs r8.1 r8.2
  let r10 := tkN zs 1 r9.2
  let r11 := tkN zs 18446744073709551615 r10.2
  let r12 := tkI zs r11.2
  (⟨(r0.1 : Int), r1.1, r2.1, (r3.1 : Int), (r4.1 : Int), (r5.1 : Int), (r6.1 : Int), (r7.1 : Int), none, 0, r9.1, ((r10.1 : Int) == 1), (r11.1 : Int), r12.1⟩, r12.2)

theorem jset_id {W : World} {B : Nat} {j : J} (h : W.heap[B]? = some (jobj j)) (x : Int) : (W.setCell ⟨B, 0, none⟩ (.int .u64 x)).heap[B]? = some (jobj { j with id := x }) := (row_set h 0 _).trans rfl
theorem jset_name {W : World} {B : Nat} {j : J} (h : W.heap[B]? = some (jobj j)) (x : ByteArray) : (W.setCell ⟨B, 1, none⟩ (.string x)).heap[B]? = some (jobj { j with name := x }) := (row_set h 1 _).trans rfl
theorem jset_expr {W : World} {B : Nat} {j : J} (h : W.heap[B]? = some (jobj j)) (x : ByteArray) : (W.setCell ⟨B, 2, none⟩ (.string x)).heap[B]? = some (jobj { j with expr := x }) := (row_set h 2 _).trans rfl
theorem jset_pol {W : World} {B : Nat} {j : J} (h : W.heap[B]? = some (jobj j)) (x : Int) : (W.setCell ⟨B, 3, none⟩ (.int .i64 x)).heap[B]? = some (jobj { j with pol := x }) := (row_set h 3 _).trans rfl
theorem jset_gra {W : World} {B : Nat} {j : J} (h : W.heap[B]? = some (jobj j)) (x : Int) : (W.setCell ⟨B, 4, none⟩ (.int .i64 x)).heap[B]? = some (jobj { j with gra := x }) := (row_set h 4 _).trans rfl
theorem jset_lim {W : World} {B : Nat} {j : J} (h : W.heap[B]? = some (jobj j)) (x : Int) : (W.setCell ⟨B, 5, none⟩ (.int .i64 x)).heap[B]? = some (jobj { j with lim := x }) := (row_set h 5 _).trans rfl
theorem jset_ret {W : World} {B : Nat} {j : J} (h : W.heap[B]? = some (jobj j)) (x : Int) : (W.setCell ⟨B, 6, none⟩ (.int .i64 x)).heap[B]? = some (jobj { j with ret := x }) := (row_set h 6 _).trans rfl
theorem jset_tim {W : World} {B : Nat} {j : J} (h : W.heap[B]? = some (jobj j)) (x : Int) : (W.setCell ⟨B, 7, none⟩ (.int .i64 x)).heap[B]? = some (jobj { j with tim := x }) := (row_set h 7 _).trans rfl
theorem jset_deps {W : World} {B : Nat} {j : J} (h : W.heap[B]? = some (jobj j)) (a : Option Addr) (ds : List Int) (n c : Nat) (hn : n = ds.length) : (W.setCell ⟨B, 8, none⟩ (.slice a n c)).heap[B]? = some (jobj { j with da := a, dc := c, deps := ds }) := by
  subst hn
  exact (row_set h 8 _).trans rfl
theorem jset_pau {W : World} {B : Nat} {j : J} (h : W.heap[B]? = some (jobj j)) (x : Bool) : (W.setCell ⟨B, 9, none⟩ (.bool x)).heap[B]? = some (jobj { j with pau := x }) := (row_set h 9 _).trans rfl
theorem jset_ver {W : World} {B : Nat} {j : J} (h : W.heap[B]? = some (jobj j)) (x : Int) : (W.setCell ⟨B, 10, none⟩ (.int .u64 x)).heap[B]? = some (jobj { j with ver := x }) := (row_set h 10 _).trans rfl
theorem jset_seen {W : World} {B : Nat} {j : J} (h : W.heap[B]? = some (jobj j)) (x : Int) : (W.setCell ⟨B, 11, none⟩ (.int .i64 x)).heap[B]? = some (jobj { j with seen := x }) := (row_set h 11 _).trans rfl

/-- what stands when the call comes to its end -/
structure Fin (w W : World) (G N E : Nat) (j : J) (n e : Int) (ds : List Int) (da : Option Addr) (dc : Nat) : Prop where
  bel : Below w.heap.size w W
  job : W.heap[G]? = some (jobj j)
  nx : W.heap[N]? = some (.cells #[.int .i64 n] 3 (0, 0))
  er : W.heap[E]? = some (.cells #[.int .i64 e] 33 (0, 0))
  row : RowU W (E + 1) ds (.slice da ds.length dc)
  lt : w.heap.size < G ∧ G < N ∧ N < E
theorem Fin.drew {w W : World} {G N E : Nat} {j : J} {n e : Int} {ds : List Int} {da : Option Addr} {dc : Nat} (h : Fin w W G N E j n e ds da dc) : Fin w W.drew G N E j n e ds da dc := ⟨h.bel.drew, h.job, h.nx, h.er, own_below h.row (Below.refl _ _).drew, h.lt⟩
theorem Fin.setJ {w W : World} {G N E : Nat} {j : J} {n e : Int} {ds : List Int} {da : Option Addr} {dc : Nat} (h : Fin w W G N E j n e ds da dc) : Fin w (W.setRow G j.cells) G N E j n e ds da dc := by
  obtain ⟨l1, l2, l3⟩ := h.lt
  refine ⟨h.bel.trans ⟨rfl, rfl, rfl, by rw [setRow_size]; exact Nat.le_refl _, fun k hk => setRow_other _ _ _ _ (by omega)⟩, setRow_heap _ _ _ _ _ _ h.job, (setRow_other _ _ _ _ (by omega)).trans h.nx, (setRow_other _ _ _ _ (by omega)).trans h.er, own_kept h.row (fun k e => setRow_other _ _ _ _ ?_), h.lt⟩
  have := (World.ownsRow.lt h.row k e).1
  omega
theorem Fin.setN {w W : World} {G N E : Nat} {j : J} {n e : Int} {ds : List Int} {da : Option Addr} {dc : Nat} (h : Fin w W G N E j n e ds da dc) : Fin w (W.setCell ⟨N, 0, none⟩ (.int .i64 n)) G N E j n e ds da dc := by
  obtain ⟨l1, l2, l3⟩ := h.lt
  refine ⟨h.bel.setCell (p := ⟨N, 0, none⟩) (by show w.heap.size ≤ N; omega) _, (Below.heap_setCell _ _ _ _ (by show G ≠ N; omega)).trans h.job, one_setCell h.nx, (Below.heap_setCell _ _ _ _ (by show E ≠ N; omega)).trans h.er, ownsRow_setCell_other h.row (fun e => ?_) _, h.lt⟩
  have := (World.ownsRow.lt h.row N e).1
  omega
theorem jfree {W : World} {B : Nat} {j : J} (h : W.heap[B]? = some (jobj j)) (i : Nat) : W.frozen? ⟨B, i, none⟩ = false := by simp [World.frozen?, h, jobj]
section
variable {w0 W W' : World} {a : Option Addr} {len cap N E : Nat} {zs : List Int} {st : Option Nat}
theorem takeN_is (most : Nat) (m : Int) (hm : m = (most : Int)) (h : Tk w0 a len cap N E zs st W) (b : Nat) (hb : b = w0.heap.size) :
    Calls Tryz.prog 52 #[.int .u64 m, .pointer (some ⟨E, 0, none⟩), .pointer (some ⟨b, 0, none⟩), .pointer (some ⟨N, 0, none⟩)] W fun e W' =>
      e = .returned (.int .u64 ((tkN zs most st).1 : Int)) ∧ Tk w0 a len cap N E zs (tkN zs most st).2 W' ∧ Eff N E W W' := by
  subst hm hb
  exact takeN_any most h
/-- a cell of another block is set -/
theorem Tk.other (h : Tk w0 a len cap N E zs st W) {B i : Nat} (v : Value) (h0 : w0.heap.size < B) (h1 : B ≠ N) (h2 : B ≠ E) : Tk w0 a len cap N E zs st (W.setCell ⟨B, i, none⟩ v) :=
  h.kept (h.bel.setCell (p := ⟨B, i, none⟩) (Nat.le_of_lt h0) v) (Below.heap_setCell _ _ _ _ (Nat.ne_of_lt h0)) (Below.heap_setCell _ _ _ _ (Ne.symm h1)) (Below.heap_setCell _ _ _ _ (Ne.symm h2))
end
set_option maxRecDepth 100000 in
set_option maxHeartbeats 2000000 in
theorem taken_any (a : Option Addr) (len cap p : Nat) (zs : List Int) (w : World) (hr : Pk.Reads w a zs) (hz : len = zs.length) (hl : len ≤ 1000000000000) (hp : p ≤ len) (hcap : len ≤ cap) (hcm : cap ≤ 9223372036854775807) :
    Calls Tryz.prog 29 #[.slice a len cap, .int .i64 (p : Int)] w fun e w' => ∃ (da : Option Addr) (dc : Nat) (n : Int), e = .returned (.tuple #[((takenM zs (some p)).1.at da dc).val, .int .i64 n, .bool (takenM zs (some p)).2.isSome]) ∧
      (∀ q, (takenM zs (some p)).2 = some q → n = (q : Int)) ∧ RowU w' w.heap.size (takenM zs (some p)).1.deps (.slice da (takenM zs (some p)).1.deps.length dc) ∧ Below w.heap.size w w' := by
  have HRD := Lib.hid hr
  have HZ := Lib.hid hz
  have HL := Lib.hid hl
  have HCAP := Lib.hid hcap
  have HCM := Lib.hid hcm
  clear hr hz hl hcap hcm
  obtain ⟨RES, hres⟩ : ∃ R, R = takenM zs (some p) := ⟨_, rfl⟩
  rw [← hres]
  have HRES := Lib.hid hres
  clear hres
  go_enter Tryz.func29, Tryz.ntmps29
  go_wp2_with fail
  obtain ⟨w4, hw4⟩ : ∃ W, W = (((w.alloc (.cells #[.slice a len cap] 32)).alloc (.cells zeroJ.cells 25)).alloc (.cells #[.int .i64 (p : Int)] 3)).alloc (.cells #[.int .i64 0] 33) := ⟨_, rfl⟩
  have hgoal := hw4
  unfold zeroJ J.cells jcells at hgoal
  dsimp only at hgoal
  try simp only [List.length_nil] at hgoal
  rw [← hgoal]
  clear hgoal
  have s1 : (w.alloc (.cells #[.slice a len cap] 32)).heap.size = w.heap.size + 1 := by simp
  have s2 : ((w.alloc (.cells #[.slice a len cap] 32)).alloc (.cells zeroJ.cells 25)).heap.size = w.heap.size + 2 := by simp
  have s3 : (((w.alloc (.cells #[.slice a len cap] 32)).alloc (.cells zeroJ.cells 25)).alloc (.cells #[.int .i64 (p : Int)] 3)).heap.size = w.heap.size + 3 := by simp
  have s4 : w4.heap.size = w.heap.size + 4 := by rw [hw4]; simp
  have hb4 : Below w.heap.size w w4 := by
    rw [hw4]
    exact ((((Below.refl _ _).alloc (Nat.le_refl _) _).alloc (by simp) _).alloc (by simp; omega) _).alloc (by simp; omega) _
  have hbx : w4.heap[w.heap.size]? = some (.cells #[.slice a len cap] 32 (0, 0)) := by
    rw [hw4, Below.heap_alloc _ _ _ (by rw [s3]; omega), Below.heap_alloc _ _ _ (by rw [s2]; omega), Below.heap_alloc _ _ _ (by rw [s1]; omega)]
    exact heap_alloc_new w _
  have hjj : w4.heap[w.heap.size + 1]? = some (jobj zeroJ) := by
    rw [hw4, Below.heap_alloc _ _ _ (by rw [s3]; omega), Below.heap_alloc _ _ _ (by rw [s2]; omega), ← s1]
    exact heap_alloc_new _ _
  have hnn : w4.heap[w.heap.size + 2]? = some (.cells #[.int .i64 (p : Int)] 3 (0, 0)) := by
    rw [hw4, Below.heap_alloc _ _ _ (by rw [s3]; omega), ← s2]
    exact heap_alloc_new _ _
  have hee : w4.heap[w.heap.size + 3]? = some (.cells #[.int .i64 0] 33 (0, 0)) := by
    rw [hw4, ← s3]
    exact heap_alloc_new _ _
  obtain ⟨G, hG⟩ : ∃ G, G = w.heap.size + 1 := ⟨_, rfl⟩
  obtain ⟨N, hN⟩ : ∃ N, N = w.heap.size + 1 + 1 := ⟨_, rfl⟩
  obtain ⟨E, hE⟩ : ∃ E, E = w.heap.size + 1 + 1 + 1 := ⟨_, rfl⟩
  have htk : Tk w a len cap N E zs (some p) w4 := by
    subst hN hE
    exact ⟨HRD.out, HZ.out, HL.out, HCAP.out, HCM.out, hb4, by omega, hbx, hp, hnn, hee⟩
  rw [← hE, ← hN, ← hG]
  rw [← hG] at hjj
  have hGN : G ≠ N := by omega
  have hGE : G ≠ E := by omega
  have hGlt : G < N := by omega
  have hbG : w.heap.size < G := by omega
  have hNE : N ≠ E ∧ N < E := by omega
  have hE4 : E + 1 = w4.heap.size := by omega
  have TK0 := Lib.hid htk
  have HJ0 := Lib.hid hjj
  have HE4 := Lib.hid hE4
  clear s1 s2 s3 s4 hb4 hbx hnn hee hw4 hG hN hE hE4 htk hjj hp HRD HZ HL HCAP HCM
  obtain ⟨j0, hj0⟩ : ∃ j, j = zeroJ := ⟨_, rfl⟩
  rw [← hj0] at HJ0
  have HD0 := Lib.hid hj0
  clear hj0
  refine (takeN_is 18446744073709551615 18446744073709551615 rfl TK0.out _ rfl).mono ?_
  rintro e w5 ⟨rfl, tk, ef⟩
  have hle := tkN_le zs 18446744073709551615 (some p)
  obtain ⟨r0, hr0⟩ : ∃ r, r = tkN zs 18446744073709551615 (some p) := ⟨_, rfl⟩
  rw [← hr0] at tk hle ⊢
  have RR0 := Lib.hid hr0
  clear hr0
  have hjk : w5.heap[G]? = some (jobj j0) := (ef.block G (Array.getElem?_eq_some_iff.1 HJ0.out).1 hGN hGE).trans HJ0.out
  obtain ⟨⟨c0, c1, c2, c3, c4, c5⟩, c6, c7, c8, c9, c10, c11⟩ := jobj_cells hjk
  have ff := jfree hjk 0
  obtain ⟨v0, hv0⟩ : ∃ x, x = (r0.1 : Int) := ⟨_, rfl⟩
  have hjn := jset_id hjk v0
  have tkn := tk.other (i := 0) (.int .u64 v0) hbG hGN hGE
  rw [hv0] at hjn tkn
  go_wp2_with fail
  obtain ⟨x1, hx1⟩ : ∃ W, W = w5.setCell ⟨G, 0, none⟩ (.int .u64 (r0.1 : Int)) := ⟨_, rfl⟩
  rw [← hx1] at hjn tkn ⊢
  obtain ⟨j1, hj1⟩ : ∃ j, j = ({ j0 with id := (r0.1 : Int) } : J) := ⟨_, rfl⟩
  rw [← hj1] at hjn
  have TK1 := Lib.hid tkn
  have HJ1 := Lib.hid hjn
  have HD1 := Lib.hid hj1
  have HX1 : Hid (w5.heap.size ≤ x1.heap.size) := Lib.hid (by rw [hx1]; simp [World.setCell])
  clear c0 c1 c2 c3 c4 c5 c6 c7 c8 c9 c10 c11 ff hjk hjn tkn tk hx1 hj1 hv0
  have HEF1 : Hid (w4.heap.size ≤ x1.heap.size) := Lib.hid (Nat.le_trans ef.size HX1.out)
  clear ef HX1
  refine (takeT_any TK1.out).mono ?_
  rintro e w6 ⟨rfl, tk, ef⟩
  obtain ⟨r1, hr1⟩ : ∃ r, r = tkT zs r0.2 := ⟨_, rfl⟩
  rw [← hr1] at tk ⊢
  have RR1 := Lib.hid hr1
  clear hr1
  have hjk : w6.heap[G]? = some (jobj j1) := (ef.block G (Array.getElem?_eq_some_iff.1 HJ1.out).1 hGN hGE).trans HJ1.out
  obtain ⟨⟨c0, c1, c2, c3, c4, c5⟩, c6, c7, c8, c9, c10, c11⟩ := jobj_cells hjk
  have ff := jfree hjk 1
  obtain ⟨v1, hv1⟩ : ∃ x, x = r1.1 := ⟨_, rfl⟩
  have hjn := jset_name hjk v1
  have tkn := tk.other (i := 1) (.string v1) hbG hGN hGE
  rw [hv1] at hjn tkn
  go_wp2_with fail
  obtain ⟨x2, hx2⟩ : ∃ W, W = w6.setCell ⟨G, 1, none⟩ (.string r1.1) := ⟨_, rfl⟩
  rw [← hx2] at hjn tkn ⊢
  obtain ⟨j2, hj2⟩ : ∃ j, j = ({ j1 with name := r1.1 } : J) := ⟨_, rfl⟩
  rw [← hj2] at hjn
  have TK2 := Lib.hid tkn
  have HJ2 := Lib.hid hjn
  have HD2 := Lib.hid hj2
  have HX2 : Hid (w6.heap.size ≤ x2.heap.size) := Lib.hid (by rw [hx2]; simp [World.setCell])
  clear c0 c1 c2 c3 c4 c5 c6 c7 c8 c9 c10 c11 ff hjk hjn tkn tk hx2 hj2 hv1
  have HEF2 : Hid (x1.heap.size ≤ x2.heap.size) := Lib.hid (Nat.le_trans ef.size HX2.out)
  clear ef HX2
  refine (takeT_any TK2.out).mono ?_
  rintro e w7 ⟨rfl, tk, ef⟩
  obtain ⟨r2, hr2⟩ : ∃ r, r = tkT zs r1.2 := ⟨_, rfl⟩
  rw [← hr2] at tk ⊢
  have RR2 := Lib.hid hr2
  clear hr2
  have hjk : w7.heap[G]? = some (jobj j2) := (ef.block G (Array.getElem?_eq_some_iff.1 HJ2.out).1 hGN hGE).trans HJ2.out
  obtain ⟨⟨c0, c1, c2, c3, c4, c5⟩, c6, c7, c8, c9, c10, c11⟩ := jobj_cells hjk
  have ff := jfree hjk 2
  obtain ⟨v2, hv2⟩ : ∃ x, x = r2.1 := ⟨_, rfl⟩
  have hjn := jset_expr hjk v2
  have tkn := tk.other (i := 2) (.string v2) hbG hGN hGE
  rw [hv2] at hjn tkn
  go_wp2_with fail
  obtain ⟨x3, hx3⟩ : ∃ W, W = w7.setCell ⟨G, 2, none⟩ (.string r2.1) := ⟨_, rfl⟩
  rw [← hx3] at hjn tkn ⊢
  obtain ⟨j3, hj3⟩ : ∃ j, j = ({ j2 with expr := r2.1 } : J) := ⟨_, rfl⟩
  rw [← hj3] at hjn
  have TK3 := Lib.hid tkn
  have HJ3 := Lib.hid hjn
  have HD3 := Lib.hid hj3
  have HX3 : Hid (w7.heap.size ≤ x3.heap.size) := Lib.hid (by rw [hx3]; simp [World.setCell])
  clear c0 c1 c2 c3 c4 c5 c6 c7 c8 c9 c10 c11 ff hjk hjn tkn tk hx3 hj3 hv2
  have HEF3 : Hid (x2.heap.size ≤ x3.heap.size) := Lib.hid (Nat.le_trans ef.size HX3.out)
  clear ef HX3
  refine (takeN_is 3 3 rfl TK3.out _ rfl).mono ?_
  rintro e w8 ⟨rfl, tk, ef⟩
  have hle := tkN_le zs 3 r2.2
  obtain ⟨r3, hr3⟩ : ∃ r, r = tkN zs 3 r2.2 := ⟨_, rfl⟩
  rw [← hr3] at tk hle ⊢
  have RR3 := Lib.hid hr3
  clear hr3
  have hjk : w8.heap[G]? = some (jobj j3) := (ef.block G (Array.getElem?_eq_some_iff.1 HJ3.out).1 hGN hGE).trans HJ3.out
  obtain ⟨⟨c0, c1, c2, c3, c4, c5⟩, c6, c7, c8, c9, c10, c11⟩ := jobj_cells hjk
  have ff := jfree hjk 3
  obtain ⟨v3, hv3⟩ : ∃ x, x = (r3.1 : Int) := ⟨_, rfl⟩
  have hjn := jset_pol hjk v3
  have tkn := tk.other (i := 3) (.int .i64 v3) hbG hGN hGE
  rw [hv3] at hjn tkn
  go_wp2_with fail
  obtain ⟨x4, hx4⟩ : ∃ W, W = w8.setCell ⟨G, 3, none⟩ (.int .i64 (r3.1 : Int)) := ⟨_, rfl⟩
  rw [← hx4] at hjn tkn ⊢
  obtain ⟨j4, hj4⟩ : ∃ j, j = ({ j3 with pol := (r3.1 : Int) } : J) := ⟨_, rfl⟩
  rw [← hj4] at hjn
  have TK4 := Lib.hid tkn
  have HJ4 := Lib.hid hjn
  have HD4 := Lib.hid hj4
  have HX4 : Hid (w8.heap.size ≤ x4.heap.size) := Lib.hid (by rw [hx4]; simp [World.setCell])
  clear c0 c1 c2 c3 c4 c5 c6 c7 c8 c9 c10 c11 ff hjk hjn tkn tk hx4 hj4 hv3
  have HEF4 : Hid (x3.heap.size ≤ x4.heap.size) := Lib.hid (Nat.le_trans ef.size HX4.out)
  clear ef HX4
  refine (takeN_is 604800 604800 rfl TK4.out _ rfl).mono ?_
  rintro e w9 ⟨rfl, tk, ef⟩
  have hle := tkN_le zs 604800 r3.2
  obtain ⟨r4, hr4⟩ : ∃ r, r = tkN zs 604800 r3.2 := ⟨_, rfl⟩
  rw [← hr4] at tk hle ⊢
  have RR4 := Lib.hid hr4
  clear hr4
  have hjk : w9.heap[G]? = some (jobj j4) := (ef.block G (Array.getElem?_eq_some_iff.1 HJ4.out).1 hGN hGE).trans HJ4.out
  obtain ⟨⟨c0, c1, c2, c3, c4, c5⟩, c6, c7, c8, c9, c10, c11⟩ := jobj_cells hjk
  have ff := jfree hjk 4
  obtain ⟨v4, hv4⟩ : ∃ x, x = (r4.1 : Int) := ⟨_, rfl⟩
  have hjn := jset_gra hjk v4
  have tkn := tk.other (i := 4) (.int .i64 v4) hbG hGN hGE
  rw [hv4] at hjn tkn
  go_wp2_with fail
  obtain ⟨x5, hx5⟩ : ∃ W, W = w9.setCell ⟨G, 4, none⟩ (.int .i64 (r4.1 : Int)) := ⟨_, rfl⟩
  rw [← hx5] at hjn tkn ⊢
  obtain ⟨j5, hj5⟩ : ∃ j, j = ({ j4 with gra := (r4.1 : Int) } : J) := ⟨_, rfl⟩
  rw [← hj5] at hjn
  have TK5 := Lib.hid tkn
  have HJ5 := Lib.hid hjn
  have HD5 := Lib.hid hj5
  have HX5 : Hid (w9.heap.size ≤ x5.heap.size) := Lib.hid (by rw [hx5]; simp [World.setCell])
  clear c0 c1 c2 c3 c4 c5 c6 c7 c8 c9 c10 c11 ff hjk hjn tkn tk hx5 hj5 hv4
  have HEF5 : Hid (x4.heap.size ≤ x5.heap.size) := Lib.hid (Nat.le_trans ef.size HX5.out)
  clear ef HX5
  refine (takeN_is 8 8 rfl TK5.out _ rfl).mono ?_
  rintro e w10 ⟨rfl, tk, ef⟩
  have hle := tkN_le zs 8 r4.2
  obtain ⟨r5, hr5⟩ : ∃ r, r = tkN zs 8 r4.2 := ⟨_, rfl⟩
  rw [← hr5] at tk hle ⊢
  have RR5 := Lib.hid hr5
  clear hr5
  have hjk : w10.heap[G]? = some (jobj j5) := (ef.block G (Array.getElem?_eq_some_iff.1 HJ5.out).1 hGN hGE).trans HJ5.out
  obtain ⟨⟨c0, c1, c2, c3, c4, c5⟩, c6, c7, c8, c9, c10, c11⟩ := jobj_cells hjk
  have ff := jfree hjk 5
  obtain ⟨v5, hv5⟩ : ∃ x, x = (r5.1 : Int) := ⟨_, rfl⟩
  have hjn := jset_lim hjk v5
  have tkn := tk.other (i := 5) (.int .i64 v5) hbG hGN hGE
  rw [hv5] at hjn tkn
  go_wp2_with fail
  obtain ⟨x6, hx6⟩ : ∃ W, W = w10.setCell ⟨G, 5, none⟩ (.int .i64 (r5.1 : Int)) := ⟨_, rfl⟩
  rw [← hx6] at hjn tkn ⊢
  obtain ⟨j6, hj6⟩ : ∃ j, j = ({ j5 with lim := (r5.1 : Int) } : J) := ⟨_, rfl⟩
  rw [← hj6] at hjn
  have TK6 := Lib.hid tkn
  have HJ6 := Lib.hid hjn
  have HD6 := Lib.hid hj6
  have HX6 : Hid (w10.heap.size ≤ x6.heap.size) := Lib.hid (by rw [hx6]; simp [World.setCell])
  clear c0 c1 c2 c3 c4 c5 c6 c7 c8 c9 c10 c11 ff hjk hjn tkn tk hx6 hj6 hv5
  have HEF6 : Hid (x5.heap.size ≤ x6.heap.size) := Lib.hid (Nat.le_trans ef.size HX6.out)
  clear ef HX6
  refine (takeN_is 5 5 rfl TK6.out _ rfl).mono ?_
  rintro e w11 ⟨rfl, tk, ef⟩
  have hle := tkN_le zs 5 r5.2
  obtain ⟨r6, hr6⟩ : ∃ r, r = tkN zs 5 r5.2 := ⟨_, rfl⟩
  rw [← hr6] at tk hle ⊢
  have RR6 := Lib.hid hr6
  clear hr6
  have hjk : w11.heap[G]? = some (jobj j6) := (ef.block G (Array.getElem?_eq_some_iff.1 HJ6.out).1 hGN hGE).trans HJ6.out
  obtain ⟨⟨c0, c1, c2, c3, c4, c5⟩, c6, c7, c8, c9, c10, c11⟩ := jobj_cells hjk
  have ff := jfree hjk 6
  obtain ⟨v6, hv6⟩ : ∃ x, x = (r6.1 : Int) := ⟨_, rfl⟩
  have hjn := jset_ret hjk v6
  have tkn := tk.other (i := 6) (.int .i64 v6) hbG hGN hGE
  rw [hv6] at hjn tkn
  go_wp2_with fail
  obtain ⟨x7, hx7⟩ : ∃ W, W = w11.setCell ⟨G, 6, none⟩ (.int .i64 (r6.1 : Int)) := ⟨_, rfl⟩
  rw [← hx7] at hjn tkn ⊢
  obtain ⟨j7, hj7⟩ : ∃ j, j = ({ j6 with ret := (r6.1 : Int) } : J) := ⟨_, rfl⟩
  rw [← hj7] at hjn
  have TK7 := Lib.hid tkn
  have HJ7 := Lib.hid hjn
  have HD7 := Lib.hid hj7
  have HX7 : Hid (w11.heap.size ≤ x7.heap.size) := Lib.hid (by rw [hx7]; simp [World.setCell])
  clear c0 c1 c2 c3 c4 c5 c6 c7 c8 c9 c10 c11 ff hjk hjn tkn tk hx7 hj7 hv6
  have HEF7 : Hid (x6.heap.size ≤ x7.heap.size) := Lib.hid (Nat.le_trans ef.size HX7.out)
  clear ef HX7
  refine (takeN_is 86400 86400 rfl TK7.out _ rfl).mono ?_
  rintro e w12 ⟨rfl, tk, ef⟩
  have hle := tkN_le zs 86400 r6.2
  obtain ⟨r7, hr7⟩ : ∃ r, r = tkN zs 86400 r6.2 := ⟨_, rfl⟩
  rw [← hr7] at tk hle ⊢
  have RR7 := Lib.hid hr7
  clear hr7
  have hjk : w12.heap[G]? = some (jobj j7) := (ef.block G (Array.getElem?_eq_some_iff.1 HJ7.out).1 hGN hGE).trans HJ7.out
  obtain ⟨⟨c0, c1, c2, c3, c4, c5⟩, c6, c7, c8, c9, c10, c11⟩ := jobj_cells hjk
  have ff := jfree hjk 7
  obtain ⟨v7, hv7⟩ : ∃ x, x = (r7.1 : Int) := ⟨_, rfl⟩
  have hjn := jset_tim hjk v7
  have tkn := tk.other (i := 7) (.int .i64 v7) hbG hGN hGE
  rw [hv7] at hjn tkn
  go_wp2_with fail
  obtain ⟨x8, hx8⟩ : ∃ W, W = w12.setCell ⟨G, 7, none⟩ (.int .i64 (r7.1 : Int)) := ⟨_, rfl⟩
  rw [← hx8] at hjn tkn ⊢
  obtain ⟨j8, hj8⟩ : ∃ j, j = ({ j7 with tim := (r7.1 : Int) } : J) := ⟨_, rfl⟩
  rw [← hj8] at hjn
  have TK8 := Lib.hid tkn
  have HJ8 := Lib.hid hjn
  have HD8 := Lib.hid hj8
  have HX8 : Hid (w12.heap.size ≤ x8.heap.size) := Lib.hid (by rw [hx8]; simp [World.setCell])
  clear c0 c1 c2 c3 c4 c5 c6 c7 c8 c9 c10 c11 ff hjk hjn tkn tk hx8 hj8 hv7
  have HEF8 : Hid (x7.heap.size ≤ x8.heap.size) := Lib.hid (Nat.le_trans ef.size HX8.out)
  clear ef HX8
  refine (takeN_is 8 8 rfl TK8.out _ rfl).mono ?_
  rintro e w13 ⟨rfl, tk, ef⟩
  have hle := tkN_le zs 8 r7.2
  obtain ⟨r8, hr8⟩ : ∃ r, r = tkN zs 8 r7.2 := ⟨_, rfl⟩
  rw [← hr8] at tk hle ⊢
  have RR8 := Lib.hid hr8
  clear hr8
  have hj8 : w13.heap[G]? = some (jobj j8) := (ef.block G (Array.getElem?_eq_some_iff.1 HJ8.out).1 hGN hGE).trans HJ8.out
  have hsz : E < w13.heap.size := tk.ltE
  have HJ9 := Lib.hid hj8
  have TK9 := Lib.hid tk
  clear tk ef hj8
  obtain ⟨cnt, hcnt⟩ : ∃ c, c = r8.1 := ⟨_, rfl⟩
  obtain ⟨s8, hs8⟩ : ∃ s, s = r8.2 := ⟨_, rfl⟩
  rw [← hs8] at TK9
  rw [← hcnt] at hle ⊢
  have HCNT := Lib.hid hcnt
  have HS8 := Lib.hid hs8
  clear hcnt hs8
  go_wp2_with fail
  have hj8d : Hid (j8.da = none ∧ j8.dc = 0 ∧ j8.deps = []) := Lib.hid (by rw [HD8.out, HD7.out, HD6.out, HD5.out, HD4.out, HD3.out, HD2.out, HD1.out, HD0.out]; exact ⟨rfl, rfl, rfl⟩)
  go_loopw [44] (fun s wr => ∃ (i : Nat) (da : Option Addr) (dc : Nat), s = .int .u64 (i : Int) ∧ i ≤ cnt ∧ Hid (Tk w a len cap N E zs (tkD zs i s8).2 wr) ∧ Hid (wr.heap[G]? = some (jobj { j8 with da := da, dc := dc, deps := (tkD zs i s8).1 })) ∧
    Hid (RowU wr (E + 1) (tkD zs i s8).1 (.slice da (tkD zs i s8).1.length dc))) (fun s _ => cnt - (intOf s).toNat)
  case atStart =>
    refine ⟨0, none, 0, rfl, Nat.zero_le _, TK9, Lib.hid ?_, Lib.hid (World.ownsRow_nil _ _ _ _)⟩
    have h := HJ9.out
    obtain ⟨d1, d2, d3⟩ := hj8d.out
    have e : ({ j8 with da := none, dc := 0, deps := (tkD zs 0 s8).1 } : J) = j8 := by
      cases j8
      simp only at d1 d2 d3
      subst d1 d2 d3
      rfl
    rw [e]
    exact h
  case round =>
    obtain ⟨i, da, dc, rfl, hi, HTK, HJL, HROW⟩ := hrel
    by_cases hlt : i < cnt
    · have hd : decide ((i : Int) < (cnt : Int)) = true := by simp; omega
      obtain ⟨si, hsi⟩ : ∃ s, s = (tkD zs i s8).2 := ⟨_, rfl⟩
      obtain ⟨ds, hds⟩ : ∃ s, s = (tkD zs i s8).1 := ⟨_, rfl⟩
      have HNX : Hid (tkD zs (i + 1) s8 = (ds ++ [((tkN zs 18446744073709551615 si).1 : Int)], (tkN zs 18446744073709551615 si).2)) := Lib.hid (by rw [hsi, hds]; rfl)
      have hdl : ds.length = i := by rw [hds, tkD_len]
      rw [← hsi] at HTK
      rw [← hds] at HJL HROW
      obtain ⟨dn, hdn⟩ : ∃ n, n = ds.length := ⟨_, rfl⟩
      have HDL := Lib.hid hdl
      have HDN := Lib.hid hdn
      clear hsi hds hdl hdn
      go_wp2_with fail
      refine wp_region_held_drew (S := fun _ => True) (by kernel_rfl) trivial (fun hHeld => ?_)
      obtain ⟨u0, hu0⟩ : ∃ u, u = wr.drew := ⟨_, rfl⟩
      have ht0 : Tk w a len cap N E zs si u0 := by rw [hu0]; exact HTK.out.below (Below.refl _ _).drew
      have hj0 : u0.heap[G]? = some (jobj { j8 with da := da, dc := dc, deps := ds }) := by rw [hu0]; exact HJL.out
      have hr0 : RowU u0 (E + 1) ds (.slice da ds.length dc) := by rw [hu0]; exact own_below HROW.out (Below.refl _ _).drew
      rw [← hu0]
      have TKu0 := Lib.hid ht0
      have HJu0 := Lib.hid hj0
      have HRu0 := Lib.hid hr0
      clear ht0 hj0 hr0 hu0 HTK HJL HROW
      refine wpAnyH_take (i := 0) (oi := ?_) (v := ?_) ?_ (by kernel_rfl) (by kernel_rfl) (by kernel_rfl) ?_ (Or.inl ⟨?_, ?_⟩) (by assumption) ?_
      rotate_left 2
      focus (simp only [List.getElem?_toArray, List.getElem?_cons_zero]; rfl)
      focus exact fun _ _ _ h => h
      focus rfl
      focus (intro W hS; (try dsimp only at hS); go_simp; (try with_reducible rfl))
      try simp only [Act.put]
      try simp only [List.setIfInBounds_toArray]
      try simp only [List.set_cons_succ]
      try simp only [List.set_cons_zero]
      refine wpAnyH_take (i := 2) (oi := ?_) (v := ?_) ?_ (by kernel_rfl) (by kernel_rfl) (by kernel_rfl) ?_ (Or.inl ⟨?_, ?_⟩) (by assumption) ?_
      rotate_left 2
      focus (simp only [List.getElem?_toArray, List.getElem?_cons_succ, List.getElem?_cons_zero]; rfl)
      focus exact fun _ _ _ h => h
      focus rfl
      focus (intro W hS; (try dsimp only at hS); go_simp; (try with_reducible rfl))
      try simp only [Act.put]
      try simp only [List.setIfInBounds_toArray]
      try simp only [List.set_cons_succ]
      try simp only [List.set_cons_zero]
      refine wpAnyH_ready (rs := [1, 3]) (by kernel_rfl) (by simp) ?_
      refine AllReadyH.cons (o := ?_) ?_ (fun K hK => ?_) ?_
      rotate_left
      focus (simp only [List.getElem?_toArray, List.getElem?_cons_succ, List.getElem?_cons_zero]; rfl)
      rw [if_pos (by rfl)]
      · obtain ⟨⟨c0, c1, c2, c3, c4, c5⟩, c6, c7, c8, c9, c10, c11⟩ := jobj_cells HJu0.out
        dsimp only at c8
        rw [← HDN.out] at c8
        go_simp
        clear c0 c1 c2 c3 c4 c5 c6 c7 c8 c9 c10 c11
        refine hK.out _ _ trivial (fun hHeld => ?_)
        clear hK K
        try simp only [Act.put]
        try simp only [List.setIfInBounds_toArray]
        try simp only [List.set_cons_succ]
        try simp only [List.set_cons_zero]
        refine wpAnyH_ready (rs := [3]) (by kernel_rfl) (by simp) ?_
        refine AllReadyH.cons (o := ?_) ?_ (fun K hK => ?_) AllReadyH.nil
        rotate_left
        focus (simp only [List.getElem?_toArray, List.getElem?_cons_succ, List.getElem?_cons_zero]; rfl)
        rw [if_pos (by rfl)]
        go_simp
        with_reducible refine (takeN_is 18446744073709551615 18446744073709551615 rfl TKu0.out _ rfl).mono ?_
        rintro e y1 ⟨rfl, tk, ef⟩
        have hjy : y1.heap[G]? = some (jobj { j8 with da := da, dc := dc, deps := ds }) := (ef.block G (Array.getElem?_eq_some_iff.1 HJu0.out).1 hGN hGE).trans HJu0.out
        have hry : RowU y1 (E + 1) ds (.slice da ds.length dc) := own_kept HRu0.out (fun k e => by
          have h1 := (World.ownsRow.lt HRu0.out k e)
          exact ef.block k h1.2 (by omega) (by omega))
        obtain ⟨rn, hrn⟩ : ∃ r, r = tkN zs 18446744073709551615 si := ⟨_, rfl⟩
        rw [← hrn] at tk HNX
        rw [← hrn]
        have TKy1 := Lib.hid tk
        have HJy1 := Lib.hid hjy
        have HRy1 := Lib.hid hry
        clear hrn tk ef hjy hry
        go_wp2_with fail
        refine hK.out _ _ trivial (fun hHeld => ?_)
        clear hK K
        try simp only [Act.put]
        try simp only [List.setIfInBounds_toArray]
        try simp only [List.set_cons_succ]
        try simp only [List.set_cons_zero]
        refine wpAnyH_ready (rs := [4]) (by kernel_rfl) (by simp) ?_
        refine AllReadyH.cons (o := ?_) ?_ (fun K hK => ?_) AllReadyH.nil
        rotate_left
        focus (simp only [List.getElem?_toArray, List.getElem?_cons_succ, List.getElem?_cons_zero]; rfl)
        rw [if_pos (by rfl)]
        go_simp
        obtain ⟨y2, hy2⟩ : ∃ W, W = y1.alloc (.cells #[.int .u64 (rn.1 : Int)] 22) := ⟨_, rfl⟩
        have hb2 : Below y1.heap.size y1 y2 := by rw [hy2]; exact (Below.refl _ _).alloc (Nat.le_refl _) _
        have hv2 : Vals y2 (some ⟨y1.heap.size, 0, none⟩) [uv (rn.1 : Int)] := by rw [hy2]; exact vals_row _ (heap_alloc_new y1 _) fun i hi => by simp at hi; subst hi; rfl
        rw [← hy2]
        have TKy2 := Lib.hid (TKy1.out.below hb2)
        have HJy2 := Lib.hid ((hb2.block G (Array.getElem?_eq_some_iff.1 HJy1.out).1).trans HJy1.out)
        have HRy2 := Lib.hid (own_below HRy1.out hb2)
        have HVy2 := Lib.hid hv2
        clear hy2 hb2 hv2
        refine hK.out _ _ trivial (fun hHeld => ?_)
        clear hK K
        try simp only [Act.put]
        try simp only [List.setIfInBounds_toArray]
        try simp only [List.set_cons_succ]
        try simp only [List.set_cons_zero]
        refine wpAnyH_ready (rs := [5]) (by kernel_rfl) (by simp) ?_
        refine AllReadyH.cons (o := ?_) ?_ (fun K hK => ?_) AllReadyH.nil
        rotate_left
        focus (simp only [List.getElem?_toArray, List.getElem?_cons_succ, List.getElem?_cons_zero]; rfl)
        rw [if_pos (by rfl)]
        have hsy := TKy2.out.ltE
        obtain ⟨v6, u6, hrun, hr6, hg6, _⟩ := run_app (B := E + 1) (bytes := 8) (m := 1) (c := 1) Tryz.underlying23 infoU64 rfl (by omega) HRy2.out (by omega) HVy2.out rfl (fun e => by cases e) (fun u hu => by simp at hu; subst hu; rfl) (by have := HDL.out; omega)
        rw [← HDN.out] at hrun
        refine wp_append_runR rfl rfl rfl hrun ?_
        have hj6 : u6.heap[G]? = some (jobj { j8 with da := da, dc := dc, deps := ds }) := (hg6.block G (Array.getElem?_eq_some_iff.1 HJy2.out).1 (fun e => by have := (World.ownsRow.lt HRy2.out G e.symm).1; have := TKy2.out.lt; omega)).trans HJy2.out
        have ht6 : Tk w a len cap N E zs rn.2 u6 := TKy2.out.kept (TKy2.out.bel.grown hg6 TKy2.out.bel.size (fun k e => by have := (World.ownsRow.lt HRy2.out k e).1; have := TKy2.out.lt; omega)) (hg6.block _ (by have := TKy2.out.lt; omega) (fun e => by have := (World.ownsRow.lt HRy2.out _ e.symm).1; have := TKy2.out.lt; omega)) (hg6.block _ (by have := TKy2.out.lt; omega) (fun e => by have := (World.ownsRow.lt HRy2.out _ e.symm).1; have := TKy2.out.lt; omega)) (hg6.block _ hsy (fun e => by have := (World.ownsRow.lt HRy2.out _ e.symm).1; omega))
        have hr6' : RowU u6 (E + 1) (ds ++ [(rn.1 : Int)]) v6 := by
          unfold RowU
          rw [List.length_append, List.map_append]
          exact hr6
        obtain ⟨a6, c6, hv6, hn6, hc6, hm6, _⟩ := own_shape hr6'
        obtain ⟨m6, hm6e⟩ : ∃ m, m = (ds ++ [(rn.1 : Int)]).length := ⟨_, rfl⟩
        rw [← hm6e] at hv6
        subst hv6
        have HM6 := Lib.hid hm6e
        have HJu6 := Lib.hid hj6
        have TKu6 := Lib.hid ht6
        have HRu6 := Lib.hid hr6'
        clear hrun hj6 ht6 hr6 hr6' hg6 hn6 hc6 hm6 hm6e hsy
        refine hK.out _ _ trivial (fun hHeld => ?_)
        clear hK K
        try simp only [Act.put]
        try simp only [List.setIfInBounds_toArray]
        try simp only [List.set_cons_succ]
        try simp only [List.set_cons_zero]
        refine wpAnyH_take (i := 6) (oi := ?_) (v := ?_) ?_ (by kernel_rfl) (by kernel_rfl) (by kernel_rfl) ?_ (Or.inl ⟨?_, ?_⟩) (by assumption) ?_
        rotate_left 2
        focus (simp only [List.getElem?_toArray, List.getElem?_cons_succ, List.getElem?_cons_zero]; rfl)
        focus exact fun _ _ _ h => h
        focus rfl
        focus (intro W hS; (try dsimp only at hS); go_simp; (try with_reducible rfl))
        try simp only [Act.put]
        try simp only [List.setIfInBounds_toArray]
        try simp only [List.set_cons_succ]
        try simp only [List.set_cons_zero]
        refine wpAnyH_ready (rs := [7]) (by kernel_rfl) (by simp) ?_
        refine AllReadyH.cons (o := ?_) ?_ (fun K hK => ?_) AllReadyH.nil
        rotate_left
        focus (simp only [List.getElem?_toArray, List.getElem?_cons_succ, List.getElem?_cons_zero]; rfl)
        rw [if_pos (by rfl)]
        obtain ⟨⟨c0, c1, c2, c3, c4, c5⟩, c6', c7, c8, c9, c10, c11⟩ := jobj_cells HJu6.out
        have ff := jfree HJu6.out 8
        dsimp only at c8
        go_simp
        clear c0 c1 c2 c3 c4 c5 c6' c7 c8 c9 c10 c11 ff
        refine hK.out _ _ trivial (fun hHeld => ?_)
        clear hK K
        try simp only [Act.put]
        try simp only [List.setIfInBounds_toArray]
        try simp only [List.set_cons_succ]
        try simp only [List.set_cons_zero]
        refine wpAnyH_done (by kernel_rfl) ?_ _
        have hjn := jset_deps HJu6.out a6 (ds ++ [(rn.1 : Int)]) m6 c6 HM6.out
        have tkn := TKu6.out.other (i := 8) (.slice a6 m6 c6) hbG hGN hGE
        have hrn : RowU (u6.setCell ⟨G, 8, none⟩ (.slice a6 m6 c6)) (E + 1) (ds ++ [(rn.1 : Int)]) (.slice a6 (ds ++ [(rn.1 : Int)]).length c6) := by
          rw [← HM6.out]
          refine ownsRow_setCell_other HRu6.out (fun e => ?_) _
          have := (World.ownsRow.lt HRu6.out G e).1
          have := TKu6.out.lt
          omega
        have TKn := Lib.hid tkn
        have HJn := Lib.hid hjn
        have HRn := Lib.hid hrn
        clear tkn hjn hrn
        go_wp2
        go_roundw
        case rel =>
          refine ⟨i + 1, a6, c6, by go_num, by omega, Lib.hid ?_, Lib.hid ?_, Lib.hid ?_⟩
          · rw [HNX.out]; exact TKn.out
          · rw [HNX.out]; exact HJn.out
          · rw [HNX.out]; exact HRn.out
        case measure => simp [intOf]; omega
      refine AllReadyH.cons (o := ?_) ?_ (fun K hK => ?_) AllReadyH.nil
      rotate_left
      focus (simp only [List.getElem?_toArray, List.getElem?_cons_succ, List.getElem?_cons_zero]; rfl)
      rw [if_pos (by rfl)]
      go_simp
      with_reducible refine (takeN_is 18446744073709551615 18446744073709551615 rfl TKu0.out _ rfl).mono ?_
      rintro e y1 ⟨rfl, tk, ef⟩
      have hjy : y1.heap[G]? = some (jobj { j8 with da := da, dc := dc, deps := ds }) := (ef.block G (Array.getElem?_eq_some_iff.1 HJu0.out).1 hGN hGE).trans HJu0.out
      have hry : RowU y1 (E + 1) ds (.slice da ds.length dc) := own_kept HRu0.out (fun k e => by
        have h1 := (World.ownsRow.lt HRu0.out k e)
        exact ef.block k h1.2 (by omega) (by omega))
      obtain ⟨rn, hrn⟩ : ∃ r, r = tkN zs 18446744073709551615 si := ⟨_, rfl⟩
      rw [← hrn] at tk HNX
      rw [← hrn]
      have TKy1 := Lib.hid tk
      have HJy1 := Lib.hid hjy
      have HRy1 := Lib.hid hry
      clear hrn tk ef hjy hry
      go_wp2_with fail
      refine hK.out _ _ trivial (fun hHeld => ?_)
      clear hK K
      try simp only [Act.put]
      try simp only [List.setIfInBounds_toArray]
      try simp only [List.set_cons_succ]
      try simp only [List.set_cons_zero]
      refine wpAnyH_ready (rs := [1, 4]) (by kernel_rfl) (by simp) ?_
      refine AllReadyH.cons (o := ?_) ?_ (fun K hK => ?_) ?_
      rotate_left
      focus (simp only [List.getElem?_toArray, List.getElem?_cons_succ, List.getElem?_cons_zero]; rfl)
      rw [if_pos (by rfl)]
      · obtain ⟨⟨c0, c1, c2, c3, c4, c5⟩, c6, c7, c8, c9, c10, c11⟩ := jobj_cells HJy1.out
        dsimp only at c8
        rw [← HDN.out] at c8
        go_simp
        clear c0 c1 c2 c3 c4 c5 c6 c7 c8 c9 c10 c11
        refine hK.out _ _ trivial (fun hHeld => ?_)
        clear hK K
        try simp only [Act.put]
        try simp only [List.setIfInBounds_toArray]
        try simp only [List.set_cons_succ]
        try simp only [List.set_cons_zero]
        refine wpAnyH_ready (rs := [4]) (by kernel_rfl) (by simp) ?_
        refine AllReadyH.cons (o := ?_) ?_ (fun K hK => ?_) AllReadyH.nil
        rotate_left
        focus (simp only [List.getElem?_toArray, List.getElem?_cons_succ, List.getElem?_cons_zero]; rfl)
        rw [if_pos (by rfl)]
        go_simp
        obtain ⟨y2, hy2⟩ : ∃ W, W = y1.alloc (.cells #[.int .u64 (rn.1 : Int)] 22) := ⟨_, rfl⟩
        have hb2 : Below y1.heap.size y1 y2 := by rw [hy2]; exact (Below.refl _ _).alloc (Nat.le_refl _) _
        have hv2 : Vals y2 (some ⟨y1.heap.size, 0, none⟩) [uv (rn.1 : Int)] := by rw [hy2]; exact vals_row _ (heap_alloc_new y1 _) fun i hi => by simp at hi; subst hi; rfl
        rw [← hy2]
        have TKy2 := Lib.hid (TKy1.out.below hb2)
        have HJy2 := Lib.hid ((hb2.block G (Array.getElem?_eq_some_iff.1 HJy1.out).1).trans HJy1.out)
        have HRy2 := Lib.hid (own_below HRy1.out hb2)
        have HVy2 := Lib.hid hv2
        clear hy2 hb2 hv2
        refine hK.out _ _ trivial (fun hHeld => ?_)
        clear hK K
        try simp only [Act.put]
        try simp only [List.setIfInBounds_toArray]
        try simp only [List.set_cons_succ]
        try simp only [List.set_cons_zero]
        refine wpAnyH_ready (rs := [5]) (by kernel_rfl) (by simp) ?_
        refine AllReadyH.cons (o := ?_) ?_ (fun K hK => ?_) AllReadyH.nil
        rotate_left
        focus (simp only [List.getElem?_toArray, List.getElem?_cons_succ, List.getElem?_cons_zero]; rfl)
        rw [if_pos (by rfl)]
        have hsy := TKy2.out.ltE
        obtain ⟨v6, u6, hrun, hr6, hg6, _⟩ := run_app (B := E + 1) (bytes := 8) (m := 1) (c := 1) Tryz.underlying23 infoU64 rfl (by omega) HRy2.out (by omega) HVy2.out rfl (fun e => by cases e) (fun u hu => by simp at hu; subst hu; rfl) (by have := HDL.out; omega)
        rw [← HDN.out] at hrun
        refine wp_append_runR rfl rfl rfl hrun ?_
        have hj6 : u6.heap[G]? = some (jobj { j8 with da := da, dc := dc, deps := ds }) := (hg6.block G (Array.getElem?_eq_some_iff.1 HJy2.out).1 (fun e => by have := (World.ownsRow.lt HRy2.out G e.symm).1; have := TKy2.out.lt; omega)).trans HJy2.out
        have ht6 : Tk w a len cap N E zs rn.2 u6 := TKy2.out.kept (TKy2.out.bel.grown hg6 TKy2.out.bel.size (fun k e => by have := (World.ownsRow.lt HRy2.out k e).1; have := TKy2.out.lt; omega)) (hg6.block _ (by have := TKy2.out.lt; omega) (fun e => by have := (World.ownsRow.lt HRy2.out _ e.symm).1; have := TKy2.out.lt; omega)) (hg6.block _ (by have := TKy2.out.lt; omega) (fun e => by have := (World.ownsRow.lt HRy2.out _ e.symm).1; have := TKy2.out.lt; omega)) (hg6.block _ hsy (fun e => by have := (World.ownsRow.lt HRy2.out _ e.symm).1; omega))
        have hr6' : RowU u6 (E + 1) (ds ++ [(rn.1 : Int)]) v6 := by
          unfold RowU
          rw [List.length_append, List.map_append]
          exact hr6
        obtain ⟨a6, c6, hv6, hn6, hc6, hm6, _⟩ := own_shape hr6'
        obtain ⟨m6, hm6e⟩ : ∃ m, m = (ds ++ [(rn.1 : Int)]).length := ⟨_, rfl⟩
        rw [← hm6e] at hv6
        subst hv6
        have HM6 := Lib.hid hm6e
        have HJu6 := Lib.hid hj6
        have TKu6 := Lib.hid ht6
        have HRu6 := Lib.hid hr6'
        clear hrun hj6 ht6 hr6 hr6' hg6 hn6 hc6 hm6 hm6e hsy
        refine hK.out _ _ trivial (fun hHeld => ?_)
        clear hK K
        try simp only [Act.put]
        try simp only [List.setIfInBounds_toArray]
        try simp only [List.set_cons_succ]
        try simp only [List.set_cons_zero]
        refine wpAnyH_take (i := 6) (oi := ?_) (v := ?_) ?_ (by kernel_rfl) (by kernel_rfl) (by kernel_rfl) ?_ (Or.inl ⟨?_, ?_⟩) (by assumption) ?_
        rotate_left 2
        focus (simp only [List.getElem?_toArray, List.getElem?_cons_succ, List.getElem?_cons_zero]; rfl)
        focus exact fun _ _ _ h => h
        focus rfl
        focus (intro W hS; (try dsimp only at hS); go_simp; (try with_reducible rfl))
        try simp only [Act.put]
        try simp only [List.setIfInBounds_toArray]
        try simp only [List.set_cons_succ]
        try simp only [List.set_cons_zero]
        refine wpAnyH_ready (rs := [7]) (by kernel_rfl) (by simp) ?_
        refine AllReadyH.cons (o := ?_) ?_ (fun K hK => ?_) AllReadyH.nil
        rotate_left
        focus (simp only [List.getElem?_toArray, List.getElem?_cons_succ, List.getElem?_cons_zero]; rfl)
        rw [if_pos (by rfl)]
        obtain ⟨⟨c0, c1, c2, c3, c4, c5⟩, c6', c7, c8, c9, c10, c11⟩ := jobj_cells HJu6.out
        have ff := jfree HJu6.out 8
        dsimp only at c8
        go_simp
        clear c0 c1 c2 c3 c4 c5 c6' c7 c8 c9 c10 c11 ff
        refine hK.out _ _ trivial (fun hHeld => ?_)
        clear hK K
        try simp only [Act.put]
        try simp only [List.setIfInBounds_toArray]
        try simp only [List.set_cons_succ]
        try simp only [List.set_cons_zero]
        refine wpAnyH_done (by kernel_rfl) ?_ _
        have hjn := jset_deps HJu6.out a6 (ds ++ [(rn.1 : Int)]) m6 c6 HM6.out
        have tkn := TKu6.out.other (i := 8) (.slice a6 m6 c6) hbG hGN hGE
        have hrn : RowU (u6.setCell ⟨G, 8, none⟩ (.slice a6 m6 c6)) (E + 1) (ds ++ [(rn.1 : Int)]) (.slice a6 (ds ++ [(rn.1 : Int)]).length c6) := by
          rw [← HM6.out]
          refine ownsRow_setCell_other HRu6.out (fun e => ?_) _
          have := (World.ownsRow.lt HRu6.out G e).1
          have := TKu6.out.lt
          omega
        have TKn := Lib.hid tkn
        have HJn := Lib.hid hjn
        have HRn := Lib.hid hrn
        clear tkn hjn hrn
        go_wp2
        go_roundw
        case rel =>
          refine ⟨i + 1, a6, c6, by go_num, by omega, Lib.hid ?_, Lib.hid ?_, Lib.hid ?_⟩
          · rw [HNX.out]; exact TKn.out
          · rw [HNX.out]; exact HJn.out
          · rw [HNX.out]; exact HRn.out
        case measure => simp [intOf]; omega
      refine AllReadyH.cons (o := ?_) ?_ (fun K hK => ?_) AllReadyH.nil
      rotate_left
      focus (simp only [List.getElem?_toArray, List.getElem?_cons_succ, List.getElem?_cons_zero]; rfl)
      rw [if_pos (by rfl)]
      go_simp
      obtain ⟨y2, hy2⟩ : ∃ W, W = y1.alloc (.cells #[.int .u64 (rn.1 : Int)] 22) := ⟨_, rfl⟩
      have hb2 : Below y1.heap.size y1 y2 := by rw [hy2]; exact (Below.refl _ _).alloc (Nat.le_refl _) _
      have hv2 : Vals y2 (some ⟨y1.heap.size, 0, none⟩) [uv (rn.1 : Int)] := by rw [hy2]; exact vals_row _ (heap_alloc_new y1 _) fun i hi => by simp at hi; subst hi; rfl
      rw [← hy2]
      have TKy2 := Lib.hid (TKy1.out.below hb2)
      have HJy2 := Lib.hid ((hb2.block G (Array.getElem?_eq_some_iff.1 HJy1.out).1).trans HJy1.out)
      have HRy2 := Lib.hid (own_below HRy1.out hb2)
      have HVy2 := Lib.hid hv2
      clear hy2 hb2 hv2
      refine hK.out _ _ trivial (fun hHeld => ?_)
      clear hK K
      try simp only [Act.put]
      try simp only [List.setIfInBounds_toArray]
      try simp only [List.set_cons_succ]
      try simp only [List.set_cons_zero]
      refine wpAnyH_ready (rs := [1]) (by kernel_rfl) (by simp) ?_
      refine AllReadyH.cons (o := ?_) ?_ (fun K hK => ?_) AllReadyH.nil
      rotate_left
      focus (simp only [List.getElem?_toArray, List.getElem?_cons_succ, List.getElem?_cons_zero]; rfl)
      rw [if_pos (by rfl)]
      obtain ⟨⟨c0, c1, c2, c3, c4, c5⟩, c6, c7, c8, c9, c10, c11⟩ := jobj_cells HJy2.out
      dsimp only at c8
      rw [← HDN.out] at c8
      go_simp
      clear c0 c1 c2 c3 c4 c5 c6 c7 c8 c9 c10 c11
      refine hK.out _ _ trivial (fun hHeld => ?_)
      clear hK K
      try simp only [Act.put]
      try simp only [List.setIfInBounds_toArray]
      try simp only [List.set_cons_succ]
      try simp only [List.set_cons_zero]
      refine wpAnyH_ready (rs := [5]) (by kernel_rfl) (by simp) ?_
      refine AllReadyH.cons (o := ?_) ?_ (fun K hK => ?_) AllReadyH.nil
      rotate_left
      focus (simp only [List.getElem?_toArray, List.getElem?_cons_succ, List.getElem?_cons_zero]; rfl)
      rw [if_pos (by rfl)]
      have hsy := TKy2.out.ltE
      obtain ⟨v6, u6, hrun, hr6, hg6, _⟩ := run_app (B := E + 1) (bytes := 8) (m := 1) (c := 1) Tryz.underlying23 infoU64 rfl (by omega) HRy2.out (by omega) HVy2.out rfl (fun e => by cases e) (fun u hu => by simp at hu; subst hu; rfl) (by have := HDL.out; omega)
      rw [← HDN.out] at hrun
      refine wp_append_runR rfl rfl rfl hrun ?_
      have hj6 : u6.heap[G]? = some (jobj { j8 with da := da, dc := dc, deps := ds }) := (hg6.block G (Array.getElem?_eq_some_iff.1 HJy2.out).1 (fun e => by have := (World.ownsRow.lt HRy2.out G e.symm).1; have := TKy2.out.lt; omega)).trans HJy2.out
      have ht6 : Tk w a len cap N E zs rn.2 u6 := TKy2.out.kept (TKy2.out.bel.grown hg6 TKy2.out.bel.size (fun k e => by have := (World.ownsRow.lt HRy2.out k e).1; have := TKy2.out.lt; omega)) (hg6.block _ (by have := TKy2.out.lt; omega) (fun e => by have := (World.ownsRow.lt HRy2.out _ e.symm).1; have := TKy2.out.lt; omega)) (hg6.block _ (by have := TKy2.out.lt; omega) (fun e => by have := (World.ownsRow.lt HRy2.out _ e.symm).1; have := TKy2.out.lt; omega)) (hg6.block _ hsy (fun e => by have := (World.ownsRow.lt HRy2.out _ e.symm).1; omega))
      have hr6' : RowU u6 (E + 1) (ds ++ [(rn.1 : Int)]) v6 := by
        unfold RowU
        rw [List.length_append, List.map_append]
        exact hr6
      obtain ⟨a6, c6, hv6, hn6, hc6, hm6, _⟩ := own_shape hr6'
      obtain ⟨m6, hm6e⟩ : ∃ m, m = (ds ++ [(rn.1 : Int)]).length := ⟨_, rfl⟩
      rw [← hm6e] at hv6
      subst hv6
      have HM6 := Lib.hid hm6e
      have HJu6 := Lib.hid hj6
      have TKu6 := Lib.hid ht6
      have HRu6 := Lib.hid hr6'
      clear hrun hj6 ht6 hr6 hr6' hg6 hn6 hc6 hm6 hm6e hsy
      refine hK.out _ _ trivial (fun hHeld => ?_)
      clear hK K
      try simp only [Act.put]
      try simp only [List.setIfInBounds_toArray]
      try simp only [List.set_cons_succ]
      try simp only [List.set_cons_zero]
      refine wpAnyH_take (i := 6) (oi := ?_) (v := ?_) ?_ (by kernel_rfl) (by kernel_rfl) (by kernel_rfl) ?_ (Or.inl ⟨?_, ?_⟩) (by assumption) ?_
      rotate_left 2
      focus (simp only [List.getElem?_toArray, List.getElem?_cons_succ, List.getElem?_cons_zero]; rfl)
      focus exact fun _ _ _ h => h
      focus rfl
      focus (intro W hS; (try dsimp only at hS); go_simp; (try with_reducible rfl))
      try simp only [Act.put]
      try simp only [List.setIfInBounds_toArray]
      try simp only [List.set_cons_succ]
      try simp only [List.set_cons_zero]
      refine wpAnyH_ready (rs := [7]) (by kernel_rfl) (by simp) ?_
      refine AllReadyH.cons (o := ?_) ?_ (fun K hK => ?_) AllReadyH.nil
      rotate_left
      focus (simp only [List.getElem?_toArray, List.getElem?_cons_succ, List.getElem?_cons_zero]; rfl)
      rw [if_pos (by rfl)]
      obtain ⟨⟨c0, c1, c2, c3, c4, c5⟩, c6', c7, c8, c9, c10, c11⟩ := jobj_cells HJu6.out
      have ff := jfree HJu6.out 8
      dsimp only at c8
      go_simp
      clear c0 c1 c2 c3 c4 c5 c6' c7 c8 c9 c10 c11 ff
      refine hK.out _ _ trivial (fun hHeld => ?_)
      clear hK K
      try simp only [Act.put]
      try simp only [List.setIfInBounds_toArray]
      try simp only [List.set_cons_succ]
      try simp only [List.set_cons_zero]
      refine wpAnyH_done (by kernel_rfl) ?_ _
      have hjn := jset_deps HJu6.out a6 (ds ++ [(rn.1 : Int)]) m6 c6 HM6.out
      have tkn := TKu6.out.other (i := 8) (.slice a6 m6 c6) hbG hGN hGE
      have hrn : RowU (u6.setCell ⟨G, 8, none⟩ (.slice a6 m6 c6)) (E + 1) (ds ++ [(rn.1 : Int)]) (.slice a6 (ds ++ [(rn.1 : Int)]).length c6) := by
        rw [← HM6.out]
        refine ownsRow_setCell_other HRu6.out (fun e => ?_) _
        have := (World.ownsRow.lt HRu6.out G e).1
        have := TKu6.out.lt
        omega
      have TKn := Lib.hid tkn
      have HJn := Lib.hid hjn
      have HRn := Lib.hid hrn
      clear tkn hjn hrn
      go_wp2
      go_roundw
      case rel =>
        refine ⟨i + 1, a6, c6, by go_num, by omega, Lib.hid ?_, Lib.hid ?_, Lib.hid ?_⟩
        · rw [HNX.out]; exact TKn.out
        · rw [HNX.out]; exact HJn.out
        · rw [HNX.out]; exact HRn.out
      case measure => simp [intOf]; omega
    · have e : i = cnt := by omega
      subst e
      have hd : decide ((i : Int) < (i : Int)) = false := by simp
      clear hle
      go_wp2_with fail
      obtain ⟨s9, hs9⟩ : ∃ s, s = (tkD zs i s8).2 := ⟨_, rfl⟩
      obtain ⟨ds, hds⟩ : ∃ s, s = (tkD zs i s8).1 := ⟨_, rfl⟩
      rw [← hs9] at HTK
      rw [← hds] at HJL HROW
      obtain ⟨j9, hj9⟩ : ∃ j, j = ({ j8 with da := da, dc := dc, deps := ds } : J) := ⟨_, rfl⟩
      rw [← hj9] at HJL
      have HS9 := Lib.hid hs9
      have HDS := Lib.hid hds
      have HDJ9 := Lib.hid hj9
      clear hs9 hds hj9 TK9 HJ9
      refine (takeN_is 1 1 rfl HTK.out _ rfl).mono ?_
      rintro e z1 ⟨rfl, tk, ef⟩
      obtain ⟨r10, hr10⟩ : ∃ r, r = tkN zs 1 s9 := ⟨_, rfl⟩
      rw [← hr10] at tk ⊢
      have RR10 := Lib.hid hr10
      clear hr10
      have hjk : z1.heap[G]? = some (jobj j9) := (ef.block G (Array.getElem?_eq_some_iff.1 HJL.out).1 hGN hGE).trans HJL.out
      have hrk : RowU z1 (E + 1) ds (.slice da ds.length dc) := own_kept HROW.out (fun k e => by
        have h1 := (World.ownsRow.lt HROW.out k e)
        exact ef.block k h1.2 (by omega) (by omega))
      obtain ⟨⟨c0, c1, c2, c3, c4, c5⟩, c6, c7, c8, c9, c10, c11⟩ := jobj_cells hjk
      have ff := jfree hjk 9
      obtain ⟨pz, hpz⟩ : ∃ x, x = ((r10.1 : Int) == 1) := ⟨_, rfl⟩
      have hjn := jset_pau hjk pz
      have tkn := tk.other (i := 9) (.bool pz) hbG hGN hGE
      have hrn : RowU (z1.setCell ⟨G, 9, none⟩ (.bool pz)) (E + 1) ds (.slice da ds.length dc) := ownsRow_setCell_other hrk (fun e => by have := (World.ownsRow.lt hrk G e).1; have := tk.lt; omega) _
      rw [hpz] at hjn tkn hrn
      clear tk ef
      go_wp2_with fail
      obtain ⟨z2, hz2⟩ : ∃ W, W = z1.setCell ⟨G, 9, none⟩ (.bool (((r10.1 : Int) == 1))) := ⟨_, rfl⟩
      rw [← hz2] at hjn tkn hrn ⊢
      rw [← hpz] at hjn
      obtain ⟨j10, hj10⟩ : ∃ j, j = ({ j9 with pau := pz } : J) := ⟨_, rfl⟩
      rw [← hj10] at hjn
      have TK10 := Lib.hid tkn
      have HJ10 := Lib.hid hjn
      have HR10 := Lib.hid hrn
      have HD10 := Lib.hid hj10
      have HPZ := Lib.hid hpz
      clear c0 c1 c2 c3 c4 c5 c6 c7 c8 c9 c10 c11 ff hjk hrk hjn tkn hrn hz2 hj10 hpz HTK HJL HROW
      refine (takeN_is 18446744073709551615 18446744073709551615 rfl TK10.out _ rfl).mono ?_
      rintro e z3 ⟨rfl, tk, ef⟩
      obtain ⟨r11, hr11⟩ : ∃ r, r = tkN zs 18446744073709551615 r10.2 := ⟨_, rfl⟩
      rw [← hr11] at tk ⊢
      have RR11 := Lib.hid hr11
      clear hr11
      have hjk : z3.heap[G]? = some (jobj j10) := (ef.block G (Array.getElem?_eq_some_iff.1 HJ10.out).1 hGN hGE).trans HJ10.out
      have hrk : RowU z3 (E + 1) ds (.slice da ds.length dc) := own_kept HR10.out (fun k e => by
        have h1 := (World.ownsRow.lt HR10.out k e)
        exact ef.block k h1.2 (by omega) (by omega))
      obtain ⟨⟨c0, c1, c2, c3, c4, c5⟩, c6, c7, c8, c9, c10, c11⟩ := jobj_cells hjk
      have ff := jfree hjk 10
      have hjn := jset_ver hjk (r11.1 : Int)
      have tkn := tk.other (i := 10) (.int .u64 (r11.1 : Int)) hbG hGN hGE
      have hrn : RowU (z3.setCell ⟨G, 10, none⟩ (.int .u64 (r11.1 : Int))) (E + 1) ds (.slice da ds.length dc) := ownsRow_setCell_other hrk (fun e => by have := (World.ownsRow.lt hrk G e).1; have := tk.lt; omega) _
      obtain ⟨j11, hj11⟩ : ∃ j, j = ({ j10 with ver := (r11.1 : Int) } : J) := ⟨_, rfl⟩
      rw [← hj11] at hjn
      have HD11 := Lib.hid hj11
      have TK11 := Lib.hid tkn
      have HJ11 := Lib.hid hjn
      have HR11 := Lib.hid hrn
      obtain ⟨s11, hs11⟩ : ∃ s, s = r11.2 := ⟨_, rfl⟩
      rw [← hs11] at TK11
      have HS11 := Lib.hid hs11
      have hE2 : (z3.setCell ⟨G, 10, none⟩ (.int .u64 (r11.1 : Int))).heap[E]? = z3.heap[E]? := Below.heap_setCell _ _ _ _ (Ne.symm hGE)
      clear hj11 tkn hjn hrn tk ef hrk hs11
      have HALL : Hid (RES = (({ j11 with seen := (tkI zs s11).1 } : J).at none 0, (tkI zs s11).2)) := Lib.hid (by
        rw [HRES.out, HD11.out, HD10.out, HDJ9.out, HD8.out, HD7.out, HD6.out, HD5.out, HD4.out, HD3.out, HD2.out, HD1.out, HD0.out, HPZ.out, HS11.out, RR11.out, RR10.out, HDS.out, HS9.out, HCNT.out, HS8.out, RR8.out, RR7.out, RR6.out, RR5.out, RR4.out, RR3.out, RR2.out, RR1.out, RR0.out]
        rfl)
      have HJDA : Hid (j11.da = da ∧ j11.dc = dc ∧ j11.deps = ds) := Lib.hid (by rw [HD11.out, HD10.out, HDJ9.out]; exact ⟨rfl, rfl, rfl⟩)
      have HSE0 : Hid (j11.seen = 0) := Lib.hid (by rw [HD11.out, HD10.out, HDJ9.out, HD8.out, HD7.out, HD6.out, HD5.out, HD4.out, HD3.out, HD2.out, HD1.out, HD0.out]; rfl)
      clear HRES HD11 HD10 HDJ9 HD8 HD7 HD6 HD5 HD4 HD3 HD2 HD1 HD0 HPZ HS11 RR11 RR10 HDS HS9 HCNT HS8 RR8 RR7 RR6 RR5 RR4 RR3 RR2 RR1 RR0
      cases s11 with
      | none =>
        obtain ⟨n, x1, x2⟩ := TK11.out.cells
        have d2 := cell_of_one x2
        have d2' := cell_of_one (hE2.symm.trans x2)
        have FIN0 := Lib.hid (show Fin w (z3.setCell ⟨G, 10, none⟩ (.int .u64 (r11.1 : Int))) G N E j11 n 4 ds da dc from ⟨TK11.out.bel, HJ11.out, x1, x2, HR11.out, hbG, by omega, hNE.2⟩)
        clear x1 x2 hE2
        go_wp2_with fail
        obtain ⟨z6, hz6⟩ : ∃ W, W = z3.setCell ⟨G, 10, none⟩ (.int .u64 (r11.1 : Int)) := ⟨_, rfl⟩
        rw [← hz6] at FIN0 ⊢
        clear hz6 d2 d2' c0 c1 c2 c3 c4 c5 c6 c7 c8 c9 c10 c11 ff hjk HJ11 TK11 HR11
        obtain ⟨j12, hj12⟩ : ∃ j, j = ({ j11 with seen := (tkI zs none).1 } : J) := ⟨_, rfl⟩
        have HJ12 := Lib.hid hj12
        have he12 : j11 = j12 := by
          rw [hj12]
          have h0 := HSE0.out
          cases j11
          simp only at h0
          subst h0
          rfl
        rw [he12] at FIN0
        have HST : Hid (false = (tkI zs none).2.isSome ∧ ∀ q, (tkI zs none).2 = some q → n = (q : Int)) := Lib.hid ⟨rfl, fun q hq => by cases hq⟩
        obtain ⟨st12, hst12⟩ : ∃ s, s = (tkI zs none).2 := ⟨_, rfl⟩
        rw [← hst12] at HST
        have HST12 := Lib.hid hst12
        obtain ⟨ev, hev⟩ : ∃ e : Int, e = 4 := ⟨_, rfl⟩
        have HEV : Hid ((ev == 0) = st12.isSome) := Lib.hid (by rw [hev, ← HST.out.1]; rfl)
        rw [← hev] at FIN0
        have HALL2 : Hid (RES = (j12.at none 0, st12)) := Lib.hid (by rw [HALL.out, HJ12.out, HST12.out])
        clear hj12 he12 hst12 hev HSE0 HALL HST12
        have HJ12D : Hid (j12.da = da ∧ j12.dc = dc ∧ j12.deps = ds) := Lib.hid (by rw [HJ12.out]; exact HJDA.out)
        have hS0 : z6.heap[G]? = some (jobj j12) ∧ z6.cell? ⟨N, 0, none⟩ = some (.int .i64 n) ∧ z6.cell? ⟨E, 0, none⟩ = some (.int .i64 ev) := ⟨FIN0.out.job, cell_of_one FIN0.out.nx, cell_of_one FIN0.out.er⟩
        clear HJ12 HJDA
        refine wp_region_held_drew (S := fun W => W.heap[G]? = some (jobj j12) ∧ W.cell? ⟨N, 0, none⟩ = some (.int .i64 n) ∧ W.cell? ⟨E, 0, none⟩ = some (.int .i64 ev)) (by kernel_rfl) hS0 (fun hHeld => ?_)
        obtain ⟨u0, hu0⟩ : ∃ u, u = z6.drew := ⟨_, rfl⟩
        have FINu0 : Hid (Fin w u0 G N E j12 n ev ds da dc) := Lib.hid (by rw [hu0]; exact FIN0.out.drew)
        rw [← hu0]
        have hSu : u0.heap[G]? = some (jobj j12) ∧ u0.cell? ⟨N, 0, none⟩ = some (.int .i64 n) ∧ u0.cell? ⟨E, 0, none⟩ = some (.int .i64 ev) := ⟨FINu0.out.job, cell_of_one FINu0.out.nx, cell_of_one FINu0.out.er⟩
        clear hu0 hS0 hHeld FIN0
        refine wpAnyH_take (i := 0) (oi := ?_) (v := ?_) ?_ (by kernel_rfl) (by kernel_rfl) (by kernel_rfl) ?_ (Or.inl ⟨?_, ?_⟩) (by assumption) ?_
        rotate_left 2
        focus (simp only [List.getElem?_toArray, List.getElem?_cons_zero]; rfl)
        focus exact fun _ _ _ h => h
        focus rfl
        focus (intro W hS; (try dsimp only at hS); obtain ⟨⟨k0, k1, k2, k3, k4, k5⟩, k6, k7, k8, k9, k10, k11⟩ := jobj_cells hS.1; have kn := hS.2.1; have ke := hS.2.2; go_simp; (try with_reducible rfl))
        try simp only [Act.put]
        try simp only [List.setIfInBounds_toArray]
        try simp only [List.set_cons_succ]
        try simp only [List.set_cons_zero]
        refine wpAnyH_take (i := 1) (oi := ?_) (v := ?_) ?_ (by kernel_rfl) (by kernel_rfl) (by kernel_rfl) ?_ (Or.inl ⟨?_, ?_⟩) (by assumption) ?_
        rotate_left 2
        focus (simp only [List.getElem?_toArray, List.getElem?_cons_succ, List.getElem?_cons_zero]; rfl)
        focus exact fun _ _ _ h => h
        focus rfl
        focus (intro W hS; (try dsimp only at hS); obtain ⟨⟨k0, k1, k2, k3, k4, k5⟩, k6, k7, k8, k9, k10, k11⟩ := jobj_cells hS.1; have kn := hS.2.1; have ke := hS.2.2; go_simp; (try with_reducible rfl))
        try simp only [Act.put]
        try simp only [List.setIfInBounds_toArray]
        try simp only [List.set_cons_succ]
        try simp only [List.set_cons_zero]
        refine wpAnyH_take (i := 2) (oi := ?_) (v := ?_) ?_ (by kernel_rfl) (by kernel_rfl) (by kernel_rfl) ?_ (Or.inl ⟨?_, ?_⟩) (by assumption) ?_
        rotate_left 2
        focus (simp only [List.getElem?_toArray, List.getElem?_cons_succ, List.getElem?_cons_zero]; rfl)
        focus exact fun _ _ _ h => h
        focus rfl
        focus (intro W hS; (try dsimp only at hS); obtain ⟨⟨k0, k1, k2, k3, k4, k5⟩, k6, k7, k8, k9, k10, k11⟩ := jobj_cells hS.1; have kn := hS.2.1; have ke := hS.2.2; go_simp; (try with_reducible rfl))
        try simp only [Act.put]
        try simp only [List.setIfInBounds_toArray]
        try simp only [List.set_cons_succ]
        try simp only [List.set_cons_zero]
        refine wpAnyH_take (i := 3) (oi := ?_) (v := ?_) ?_ (by kernel_rfl) (by kernel_rfl) (by kernel_rfl) ?_ (Or.inl ⟨?_, ?_⟩) (by assumption) ?_
        rotate_left 2
        focus (simp only [List.getElem?_toArray, List.getElem?_cons_succ, List.getElem?_cons_zero]; rfl)
        focus exact fun _ _ _ h => h
        focus rfl
        focus (intro W hS; (try dsimp only at hS); obtain ⟨⟨k0, k1, k2, k3, k4, k5⟩, k6, k7, k8, k9, k10, k11⟩ := jobj_cells hS.1; have kn := hS.2.1; have ke := hS.2.2; go_simp; (try with_reducible rfl))
        try simp only [Act.put]
        try simp only [List.setIfInBounds_toArray]
        try simp only [List.set_cons_succ]
        try simp only [List.set_cons_zero]
        refine wpAnyH_ready (rs := [4]) (by kernel_rfl) (by simp) ?_
        refine AllReadyH.cons (o := ?_) ?_ (fun K hK => ?_) AllReadyH.nil
        rotate_left
        focus (simp only [List.getElem?_toArray, List.getElem?_cons_succ, List.getElem?_cons_zero]; rfl)
        rw [if_pos (by rfl)]
        refine wp_store_row 25 _ _ rfl G j12.cells rfl rfl 25 j12.cells FINu0.out.job (by kernel_rfl) rfl (by kernel_rfl) ?_
        have FINu0j := Lib.hid FINu0.out.setJ
        obtain ⟨u0j, hu0j⟩ : ∃ X, X = u0.setRow G j12.cells := ⟨_, rfl⟩
        rw [← hu0j] at FINu0j ⊢
        clear hu0j
        refine hK.out _ _ ⟨FINu0j.out.job, cell_of_one FINu0j.out.nx, cell_of_one FINu0j.out.er⟩ (fun hHeld => ?_)
        clear hK K
        try simp only [Act.put]
        try simp only [List.setIfInBounds_toArray]
        try simp only [List.set_cons_succ]
        try simp only [List.set_cons_zero]
        refine wpAnyH_ready (rs := [5]) (by kernel_rfl) (by simp) ?_
        refine AllReadyH.cons (o := ?_) ?_ (fun K hK => ?_) AllReadyH.nil
        rotate_left
        focus (simp only [List.getElem?_toArray, List.getElem?_cons_succ, List.getElem?_cons_zero]; rfl)
        rw [if_pos (by rfl)]
        have kn := cell_of_one FINu0j.out.nx
        have kf := free_of_one FINu0j.out.nx
        go_simp
        have FINu0jn := Lib.hid FINu0j.out.setN
        obtain ⟨u0jn, hu0jn⟩ : ∃ X, X = u0j.setCell ⟨N, 0, none⟩ (.int .i64 n) := ⟨_, rfl⟩
        rw [← hu0jn] at FINu0jn ⊢
        clear hu0jn kn kf
        refine hK.out _ _ ⟨FINu0jn.out.job, cell_of_one FINu0jn.out.nx, cell_of_one FINu0jn.out.er⟩ (fun hHeld => ?_)
        clear hK K
        try simp only [Act.put]
        try simp only [List.setIfInBounds_toArray]
        try simp only [List.set_cons_succ]
        try simp only [List.set_cons_zero]
        refine wpAnyH_take (i := 6) (oi := ?_) (v := ?_) ?_ (by kernel_rfl) (by kernel_rfl) (by kernel_rfl) ?_ (Or.inl ⟨?_, ?_⟩) (by assumption) ?_
        rotate_left 2
        focus (simp only [List.getElem?_toArray, List.getElem?_cons_succ, List.getElem?_cons_zero]; rfl)
        focus exact fun _ _ _ h => h
        focus rfl
        focus (intro W hS; (try dsimp only at hS); obtain ⟨⟨k0, k1, k2, k3, k4, k5⟩, k6, k7, k8, k9, k10, k11⟩ := jobj_cells hS.1; have kn := hS.2.1; have ke := hS.2.2; go_simp; (try with_reducible rfl))
        try simp only [Act.put]
        try simp only [List.setIfInBounds_toArray]
        try simp only [List.set_cons_succ]
        try simp only [List.set_cons_zero]
        refine wpAnyH_done (by kernel_rfl) ?_ _
        go_wp2
        obtain ⟨⟨c0, c1, c2, c3, c4, c5⟩, c6, c7, c8, c9, c10, c11⟩ := jobj_cells FINu0jn.out.job
        have cn := cell_of_one FINu0jn.out.nx
        have hR : RES.1.at da dc = j12 := by
          obtain ⟨e1, e2, e3⟩ := HJ12D.out
          rw [HALL2.out]
          cases j12
          simp only at e1 e2
          subst e1 e2
          rfl
        have hR2 : RES.2 = st12 := by rw [HALL2.out]
        have hR3 : RES.1.deps = ds := by rw [HALL2.out]; exact HJ12D.out.2.2
        refine bodyPost_ret (v := .tuple #[j12.val, .int .i64 n, .bool (ev == 0)]) (by simp [results, Tryz.results29, go_sem, c0, c1, c2, c3, c4, c5, c6, c7, c8, c9, c10, c11, cn, J.val, J.cells, jcells]) rfl ?_
        refine ⟨da, dc, n, ?_, ?_, ?_, FINu0jn.out.bel⟩
        · rw [hR, hR2, HEV.out]
        · rw [hR2]; exact HST.out.2
        · rw [hR3]; exact own_less FINu0jn.out.row (by have := FINu0jn.out.lt; omega)
      | some q =>
        obtain ⟨hq, x1, x2⟩ := TK11.out.cells
        have d1 := cell_of_one x1
        have d2 := cell_of_one x2
        have d0 := cell_of_one TK11.out.box
        have d2' := cell_of_one (hE2.symm.trans x2)
        have hN2 : (z3.setCell ⟨G, 10, none⟩ (.int .u64 (r11.1 : Int))).heap[N]? = z3.heap[N]? := Below.heap_setCell _ _ _ _ (Ne.symm hGN)
        have hW2 : (z3.setCell ⟨G, 10, none⟩ (.int .u64 (r11.1 : Int))).heap[w.heap.size]? = z3.heap[w.heap.size]? := Below.heap_setCell _ _ _ _ (Nat.ne_of_lt hbG)
        have d1' := cell_of_one (hN2.symm.trans x1)
        have d0' := cell_of_one (hW2.symm.trans TK11.out.box)
        have HT := Lib.hid (takeI_any a len cap q zs _ (TK11.out.reads.below TK11.out.bel) TK11.out.hz (by have := TK11.out.hl; omega) hq)
        have HX1 := Lib.hid x1
        have HX2 := Lib.hid x2
        clear x1 x2 hE2 hN2 hW2
        go_wp2_with fail
        refine HT.out.mono ?_
        intro e z5 ht
        obtain ⟨D, hD⟩ : ∃ D, D = Num.dec 10 0 0 (zs.drop q) := ⟨_, rfl⟩
        have HTK : Hid (tkI zs (some q) = tkI1 q D) := Lib.hid (by rw [hD]; rfl)
        rw [← hD] at ht
        have HX : Hid (∃ (sv nv ev : Int), e = .returned (.tuple #[.int .i64 sv, .int .i64 nv, .int .i64 ev]) ∧ Below (z3.setCell ⟨G, 10, none⟩ (.int .u64 (r11.1 : Int))).heap.size (z3.setCell ⟨G, 10, none⟩ (.int .u64 (r11.1 : Int))) z5 ∧
            (tkI zs (some q)).1 = sv ∧ (ev == 0) = (tkI zs (some q)).2.isSome ∧ ∀ m, (tkI zs (some q)).2 = some m → nv = (m : Int)) := Lib.hid (by
          rw [HTK.out]
          cases D with
          | none => exact ⟨0, 0, 4, ht.1, ht.2, rfl, rfl, fun m hm => by cases hm⟩
          | some nk =>
            obtain ⟨v, k⟩ := nk
            exact ⟨Num.unzig v, (q : Int) + (k : Int), 0, ht.1, ht.2, rfl, rfl, fun m hm => by cases hm; omega⟩)
        obtain ⟨sv, nv, ev, rfl, hb5, hsv, hev, hnv⟩ := HX.out
        clear HX HTK hD ht HT c0 c1 c2 c3 c4 c5 c6 c7 c8 c9 c10 c11 ff hjk d0 d1 d2 d0' d1' d2'
        have hE := TK11.out.ltE
        have hj5 := (hb5.block G (Nat.lt_trans (Nat.lt_of_le_of_ne (by omega) hGE) hE)).trans HJ11.out
        have hn5 := (hb5.block N (Nat.lt_trans hNE.2 hE)).trans HX1.out
        have he5 := (hb5.block E hE).trans HX2.out
        have hr5 := own_below HR11.out hb5
        obtain ⟨⟨c0, c1, c2, c3, c4, c5⟩, c6, c7, c8, c9, c10, c11⟩ := jobj_cells hj5
        have ff := jfree hj5 11
        have hj6 := jset_seen hj5 sv
        have hn6 : (z5.setCell ⟨G, 11, none⟩ (.int .i64 sv)).heap[N]? = some (.cells #[.int .i64 (q : Int)] 3 (0, 0)) := (Below.heap_setCell _ _ _ _ (Ne.symm hGN)).trans hn5
        have he6 : ((z5.setCell ⟨G, 11, none⟩ (.int .i64 sv)).setCell ⟨N, 0, none⟩ (.int .i64 nv)).heap[E]? = some (.cells #[.int .i64 0] 33 (0, 0)) := (Below.heap_setCell _ _ _ _ (Ne.symm hNE.1)).trans ((Below.heap_setCell _ _ _ _ (Ne.symm hGE)).trans he5)
        have gN := cell_of_one hn6
        have fN := free_of_one hn6
        have gE := cell_of_one he6
        have fE := free_of_one he6
        have hn7 : (((z5.setCell ⟨G, 11, none⟩ (.int .i64 sv)).setCell ⟨N, 0, none⟩ (.int .i64 nv)).setCell ⟨E, 0, none⟩ (.int .i64 ev)).heap[N]? = some (.cells #[.int .i64 nv] 3 (0, 0)) := (Below.heap_setCell _ _ _ _ hNE.1).trans (one_setCell hn6)
        have he7 := one_setCell (u := .int .i64 ev) he6
        have hj7 : (((z5.setCell ⟨G, 11, none⟩ (.int .i64 sv)).setCell ⟨N, 0, none⟩ (.int .i64 nv)).setCell ⟨E, 0, none⟩ (.int .i64 ev)).heap[G]? = some (jobj { j11 with seen := sv }) := (Below.heap_setCell _ _ _ _ hGE).trans ((Below.heap_setCell _ _ _ _ hGN).trans hj6)
        have hr7 : RowU (((z5.setCell ⟨G, 11, none⟩ (.int .i64 sv)).setCell ⟨N, 0, none⟩ (.int .i64 nv)).setCell ⟨E, 0, none⟩ (.int .i64 ev)) (E + 1) ds (.slice da ds.length dc) :=
          ownsRow_setCell_other (ownsRow_setCell_other (ownsRow_setCell_other hr5 (fun e => by have := (World.ownsRow.lt hr5 G e).1; omega) _) (fun e => by have := (World.ownsRow.lt hr5 N e).1; omega) _) (fun e => by have := (World.ownsRow.lt hr5 E e).1; omega) _
        have hbel7 : Below w.heap.size w (((z5.setCell ⟨G, 11, none⟩ (.int .i64 sv)).setCell ⟨N, 0, none⟩ (.int .i64 nv)).setCell ⟨E, 0, none⟩ (.int .i64 ev)) :=
          (((TK11.out.bel.trans (hb5.mono TK11.out.bel.size)).setCell (p := ⟨G, 11, none⟩) (Nat.le_of_lt hbG) _).setCell (p := ⟨N, 0, none⟩) (by show w.heap.size ≤ N; omega) _).setCell (p := ⟨E, 0, none⟩) (by show w.heap.size ≤ E; omega) _
        have FIN0 := Lib.hid (show Fin w (((z5.setCell ⟨G, 11, none⟩ (.int .i64 sv)).setCell ⟨N, 0, none⟩ (.int .i64 nv)).setCell ⟨E, 0, none⟩ (.int .i64 ev)) G N E { j11 with seen := sv } nv ev ds da dc from ⟨hbel7, hj7, hn7, he7, hr7, hbG, by omega, hNE.2⟩)
        clear hj5 hn5 he5 hr5 hj6 hn6 he6 hn7 he7 hj7 hr7 hbel7 hb5 hE
        go_wp2_with fail
        obtain ⟨z6, hz6⟩ : ∃ W, W = ((z5.setCell ⟨G, 11, none⟩ (.int .i64 sv)).setCell ⟨N, 0, none⟩ (.int .i64 nv)).setCell ⟨E, 0, none⟩ (.int .i64 ev) := ⟨_, rfl⟩
        rw [← hz6] at FIN0 ⊢
        clear hz6 c0 c1 c2 c3 c4 c5 c6 c7 c8 c9 c10 c11 ff gN fN gE fE HJ11 TK11 HR11 HX1 HX2
        obtain ⟨j12, hj12⟩ : ∃ j, j = ({ j11 with seen := sv } : J) := ⟨_, rfl⟩
        rw [← hj12] at FIN0
        have HJ12 : Hid (j12 = { j11 with seen := (tkI zs (some q)).1 }) := Lib.hid (by rw [hj12, hsv])
        obtain ⟨st12, hst12⟩ : ∃ s, s = (tkI zs (some q)).2 := ⟨_, rfl⟩
        rw [← hst12] at hev hnv
        have HEV := Lib.hid hev
        obtain ⟨n, hn⟩ : ∃ n, n = nv := ⟨_, rfl⟩
        rw [← hn] at hnv FIN0 ⊢
        have HST : Hid ((ev == 0) = st12.isSome ∧ ∀ q, st12 = some q → n = (q : Int)) := Lib.hid ⟨hev, hnv⟩
        have HALL2 : Hid (RES = (j12.at none 0, st12)) := Lib.hid (by rw [HALL.out, HJ12.out, hst12])
        clear hj12 hst12 hev hnv hsv hn HSE0 HALL
        have HJ12D : Hid (j12.da = da ∧ j12.dc = dc ∧ j12.deps = ds) := Lib.hid (by rw [HJ12.out]; exact HJDA.out)
        have hS0 : z6.heap[G]? = some (jobj j12) ∧ z6.cell? ⟨N, 0, none⟩ = some (.int .i64 n) ∧ z6.cell? ⟨E, 0, none⟩ = some (.int .i64 ev) := ⟨FIN0.out.job, cell_of_one FIN0.out.nx, cell_of_one FIN0.out.er⟩
        clear HJ12 HJDA
        refine wp_region_held_drew (S := fun W => W.heap[G]? = some (jobj j12) ∧ W.cell? ⟨N, 0, none⟩ = some (.int .i64 n) ∧ W.cell? ⟨E, 0, none⟩ = some (.int .i64 ev)) (by kernel_rfl) hS0 (fun hHeld => ?_)
        obtain ⟨u0, hu0⟩ : ∃ u, u = z6.drew := ⟨_, rfl⟩
        have FINu0 : Hid (Fin w u0 G N E j12 n ev ds da dc) := Lib.hid (by rw [hu0]; exact FIN0.out.drew)
        rw [← hu0]
        have hSu : u0.heap[G]? = some (jobj j12) ∧ u0.cell? ⟨N, 0, none⟩ = some (.int .i64 n) ∧ u0.cell? ⟨E, 0, none⟩ = some (.int .i64 ev) := ⟨FINu0.out.job, cell_of_one FINu0.out.nx, cell_of_one FINu0.out.er⟩
        clear hu0 hS0 hHeld FIN0
        refine wpAnyH_take (i := 0) (oi := ?_) (v := ?_) ?_ (by kernel_rfl) (by kernel_rfl) (by kernel_rfl) ?_ (Or.inl ⟨?_, ?_⟩) (by assumption) ?_
        rotate_left 2
        focus (simp only [List.getElem?_toArray, List.getElem?_cons_zero]; rfl)
        focus exact fun _ _ _ h => h
        focus rfl
        focus (intro W hS; (try dsimp only at hS); obtain ⟨⟨k0, k1, k2, k3, k4, k5⟩, k6, k7, k8, k9, k10, k11⟩ := jobj_cells hS.1; have kn := hS.2.1; have ke := hS.2.2; go_simp; (try with_reducible rfl))
        try simp only [Act.put]
        try simp only [List.setIfInBounds_toArray]
        try simp only [List.set_cons_succ]
        try simp only [List.set_cons_zero]
        refine wpAnyH_take (i := 1) (oi := ?_) (v := ?_) ?_ (by kernel_rfl) (by kernel_rfl) (by kernel_rfl) ?_ (Or.inl ⟨?_, ?_⟩) (by assumption) ?_
        rotate_left 2
        focus (simp only [List.getElem?_toArray, List.getElem?_cons_succ, List.getElem?_cons_zero]; rfl)
        focus exact fun _ _ _ h => h
        focus rfl
        focus (intro W hS; (try dsimp only at hS); obtain ⟨⟨k0, k1, k2, k3, k4, k5⟩, k6, k7, k8, k9, k10, k11⟩ := jobj_cells hS.1; have kn := hS.2.1; have ke := hS.2.2; go_simp; (try with_reducible rfl))
        try simp only [Act.put]
        try simp only [List.setIfInBounds_toArray]
        try simp only [List.set_cons_succ]
        try simp only [List.set_cons_zero]
        refine wpAnyH_take (i := 2) (oi := ?_) (v := ?_) ?_ (by kernel_rfl) (by kernel_rfl) (by kernel_rfl) ?_ (Or.inl ⟨?_, ?_⟩) (by assumption) ?_
        rotate_left 2
        focus (simp only [List.getElem?_toArray, List.getElem?_cons_succ, List.getElem?_cons_zero]; rfl)
        focus exact fun _ _ _ h => h
        focus rfl
        focus (intro W hS; (try dsimp only at hS); obtain ⟨⟨k0, k1, k2, k3, k4, k5⟩, k6, k7, k8, k9, k10, k11⟩ := jobj_cells hS.1; have kn := hS.2.1; have ke := hS.2.2; go_simp; (try with_reducible rfl))
        try simp only [Act.put]
        try simp only [List.setIfInBounds_toArray]
        try simp only [List.set_cons_succ]
        try simp only [List.set_cons_zero]
        refine wpAnyH_take (i := 3) (oi := ?_) (v := ?_) ?_ (by kernel_rfl) (by kernel_rfl) (by kernel_rfl) ?_ (Or.inl ⟨?_, ?_⟩) (by assumption) ?_
        rotate_left 2
        focus (simp only [List.getElem?_toArray, List.getElem?_cons_succ, List.getElem?_cons_zero]; rfl)
        focus exact fun _ _ _ h => h
        focus rfl
        focus (intro W hS; (try dsimp only at hS); obtain ⟨⟨k0, k1, k2, k3, k4, k5⟩, k6, k7, k8, k9, k10, k11⟩ := jobj_cells hS.1; have kn := hS.2.1; have ke := hS.2.2; go_simp; (try with_reducible rfl))
        try simp only [Act.put]
        try simp only [List.setIfInBounds_toArray]
        try simp only [List.set_cons_succ]
        try simp only [List.set_cons_zero]
        refine wpAnyH_ready (rs := [4]) (by kernel_rfl) (by simp) ?_
        refine AllReadyH.cons (o := ?_) ?_ (fun K hK => ?_) AllReadyH.nil
        rotate_left
        focus (simp only [List.getElem?_toArray, List.getElem?_cons_succ, List.getElem?_cons_zero]; rfl)
        rw [if_pos (by rfl)]
        refine wp_store_row 25 _ _ rfl G j12.cells rfl rfl 25 j12.cells FINu0.out.job (by kernel_rfl) rfl (by kernel_rfl) ?_
        have FINu0j := Lib.hid FINu0.out.setJ
        obtain ⟨u0j, hu0j⟩ : ∃ X, X = u0.setRow G j12.cells := ⟨_, rfl⟩
        rw [← hu0j] at FINu0j ⊢
        clear hu0j
        refine hK.out _ _ ⟨FINu0j.out.job, cell_of_one FINu0j.out.nx, cell_of_one FINu0j.out.er⟩ (fun hHeld => ?_)
        clear hK K
        try simp only [Act.put]
        try simp only [List.setIfInBounds_toArray]
        try simp only [List.set_cons_succ]
        try simp only [List.set_cons_zero]
        refine wpAnyH_ready (rs := [5]) (by kernel_rfl) (by simp) ?_
        refine AllReadyH.cons (o := ?_) ?_ (fun K hK => ?_) AllReadyH.nil
        rotate_left
        focus (simp only [List.getElem?_toArray, List.getElem?_cons_succ, List.getElem?_cons_zero]; rfl)
        rw [if_pos (by rfl)]
        have kn := cell_of_one FINu0j.out.nx
        have kf := free_of_one FINu0j.out.nx
        go_simp
        have FINu0jn := Lib.hid FINu0j.out.setN
        obtain ⟨u0jn, hu0jn⟩ : ∃ X, X = u0j.setCell ⟨N, 0, none⟩ (.int .i64 n) := ⟨_, rfl⟩
        rw [← hu0jn] at FINu0jn ⊢
        clear hu0jn kn kf
        refine hK.out _ _ ⟨FINu0jn.out.job, cell_of_one FINu0jn.out.nx, cell_of_one FINu0jn.out.er⟩ (fun hHeld => ?_)
        clear hK K
        try simp only [Act.put]
        try simp only [List.setIfInBounds_toArray]
        try simp only [List.set_cons_succ]
        try simp only [List.set_cons_zero]
        refine wpAnyH_take (i := 6) (oi := ?_) (v := ?_) ?_ (by kernel_rfl) (by kernel_rfl) (by kernel_rfl) ?_ (Or.inl ⟨?_, ?_⟩) (by assumption) ?_
        rotate_left 2
        focus (simp only [List.getElem?_toArray, List.getElem?_cons_succ, List.getElem?_cons_zero]; rfl)
        focus exact fun _ _ _ h => h
        focus rfl
        focus (intro W hS; (try dsimp only at hS); obtain ⟨⟨k0, k1, k2, k3, k4, k5⟩, k6, k7, k8, k9, k10, k11⟩ := jobj_cells hS.1; have kn := hS.2.1; have ke := hS.2.2; go_simp; (try with_reducible rfl))
        try simp only [Act.put]
        try simp only [List.setIfInBounds_toArray]
        try simp only [List.set_cons_succ]
        try simp only [List.set_cons_zero]
        refine wpAnyH_done (by kernel_rfl) ?_ _
        go_wp2
        obtain ⟨⟨c0, c1, c2, c3, c4, c5⟩, c6, c7, c8, c9, c10, c11⟩ := jobj_cells FINu0jn.out.job
        have cn := cell_of_one FINu0jn.out.nx
        have hR : RES.1.at da dc = j12 := by
          obtain ⟨e1, e2, e3⟩ := HJ12D.out
          rw [HALL2.out]
          cases j12
          simp only at e1 e2
          subst e1 e2
          rfl
        have hR2 : RES.2 = st12 := by rw [HALL2.out]
        have hR3 : RES.1.deps = ds := by rw [HALL2.out]; exact HJ12D.out.2.2
        refine bodyPost_ret (v := .tuple #[j12.val, .int .i64 n, .bool (ev == 0)]) (by simp [results, Tryz.results29, go_sem, c0, c1, c2, c3, c4, c5, c6, c7, c8, c9, c10, c11, cn, J.val, J.cells, jcells]) rfl ?_
        refine ⟨da, dc, n, ?_, ?_, ?_, FINu0jn.out.bel⟩
        · rw [hR, hR2, HEV.out]
        · rw [hR2]; exact HST.out.2
        · rw [hR3]; exact own_less FINu0jn.out.row (by have := FINu0jn.out.lt; omega)
end Go.Proofs.YtoghalmjbbkjhaaGreatDoor.Job
