/- The laws' parameters are opened: a job, bytes. job.May, by its contract: of any job. -/
import Derived.Test.YtpbnjibomdilhaaGreatDoorMag
import Derived.Test.YtpbnjibomdilhaaGreatDoorTabB
import Derived.Deep.SlicePairs
import Derived.Lib.SmallJoins
import Derived.ProofKit
import Derived.Test.YtpbnjibomdilhaaGreatDoorMah
namespace Go.Proofs.YtpbnjibomdilhaaGreatDoor.Job
open Go.ChangeShapes Go.WideShapes Go.RowKit Go.Lib

theorem spotNone {w : World} {x : Addr} {v : Value} (h : w.cell? x = some v) : x = ⟨x.block, x.off, none⟩ := by
  obtain ⟨b, o, s⟩ := x
  cases s with
  | none => rfl
  | some n =>
    unfold World.cell? at h
    split at h
    · simp at h
    · cases h
theorem addNone (b q i : Nat) : (⟨b, q, none⟩ : Addr).add i = ⟨b, q + i, none⟩ := by
  unfold Addr.add
  split
  · subst i; rfl
  · rfl
theorem cellsJob : Tryz.prog.cellsOf 29 = 12 := by kernel_rfl
theorem array12 {α : Type} {cs : Array α} (h : cs.size = 12) : ∃ c0 c1 c2 c3 c4 c5 c6 c7 c8 c9 c10 c11, cs = #[c0, c1, c2, c3, c4, c5, c6, c7, c8, c9, c10, c11] := by
  obtain ⟨l⟩ := cs
  match l, h with
  | [c0, c1, c2, c3, c4, c5, c6, c7, c8, c9, c10, c11], _ => exact ⟨c0, c1, c2, c3, c4, c5, c6, c7, c8, c9, c10, c11, rfl⟩
section
variable {H : Type} {enc : TypeId × Value → H} {w : World} {base : Nat} {held : Bool}
/-- numbers that came in -/
theorem open_u64s {fuel : Nat} {a : Option Addr} {len cap : Nat} {x : DataW H × List MemPlace} (h : DataW.trod enc Tryz.prog w base (fun _ => true) held fuel 27 [.slice a len cap] = some x) :
    ∃ zs : List Int, zs.length = len ∧ Vals w a (zs.map uv) ∧ (∀ x ∈ zs, U64 x) ∧ len ≤ cap ∧ cap ≤ maxLen ∧ (a = none → len = 0 ∧ cap = 0) := by
  rcases open_ints Tryz.underlying27 Tryz.underlying26 (by kernel_rfl) h with ⟨hcs, _⟩ | ⟨y, l, c, zs, hcs, _, hl, hm, hz, _, hcell, hwz⟩
  · simp at hcs
    obtain ⟨rfl, rfl, rfl⟩ := hcs
    exact ⟨[], rfl, Vals.nil _ _, (fun x hx => by cases hx), Nat.le_refl _, Nat.zero_le _, fun _ => ⟨rfl, rfl⟩⟩
  · simp at hcs
    obtain ⟨rfl, rfl, rfl⟩ := hcs
    have hzl : zs.length = cap := by simpa using hz
    refine ⟨zs.take len, by simp; omega, ?_, fun x hx => of_wf_u (hwz x (List.mem_of_mem_take hx)), hl, hm, fun e => by cases e⟩
    by_cases hc0 : cap = 0
    · obtain rfl : zs = [] := List.eq_nil_of_length_eq_zero (by omega)
      rw [List.take_nil]
      exact Vals.nil _ _
    · have hy : y = ⟨y.block, y.off, none⟩ := spotNone (by simpa [Addr.add] using hcell 0 (by omega))
      refine ⟨y.block, y.off, fun _ => congrArg some hy, fun k hk => ?_⟩
      have hk' : k < len := by simp at hk; omega
      have h1 := hcell k (by omega)
      rw [hy, addNone] at h1
      refine ⟨World.block_lt_of_cell? w ⟨y.block, y.off + k, none⟩ h1, ?_⟩
      rw [h1, List.getElem_map, List.getElem_take]
      simp [List.getD, show k < zs.length by omega, uv]
set_option maxRecDepth 100000 in
set_option maxHeartbeats 1000000 in
/-- a job that came in -/
theorem open_job {r : Reach} {b0 : Nat} {v : Value} {d : DataW H} {p : List MemPlace} (hv : Value.okWide Tryz.prog w r b0 29 v) (h : DataW.Trod enc Tryz.prog w base (fun _ => true) held 29 v d p) :
    ∃ j : J, v = j.val ∧ JF w j := by
  obtain ⟨cs, rfl, hsz⟩ := okWide_struct Tryz.underlying29 hv
  obtain ⟨c0, c1, c2, c3, c4, c5, c6, c7, c8, c9, c10, c11, rfl⟩ := array12 (hsz.trans cellsJob)
  obtain ⟨fuel, hf⟩ := h
  obtain ⟨xs, n, -, hx, hl, hlen, hf⟩ := DataW.trod_struct Tryz.underlying29 hf
  match xs, hlen with
  | [y0, y1, y2, y3, y4, y5, y6, y7, y8, y9, y10, y11], _ =>
    have h0 : DataW.trod enc Tryz.prog w base (fun _ => true) held n 26 [c0] = some y0 := hf 0 _ rfl
    have h1 : DataW.trod enc Tryz.prog w base (fun _ => true) held n 9 [c1] = some y1 := hf 1 _ rfl
    have h2 : DataW.trod enc Tryz.prog w base (fun _ => true) held n 9 [c2] = some y2 := hf 2 _ rfl
    have h3 : DataW.trod enc Tryz.prog w base (fun _ => true) held n 3 [c3] = some y3 := hf 3 _ rfl
    have h4 : DataW.trod enc Tryz.prog w base (fun _ => true) held n 2 [c4] = some y4 := hf 4 _ rfl
    have h5 : DataW.trod enc Tryz.prog w base (fun _ => true) held n 3 [c5] = some y5 := hf 5 _ rfl
    have h6 : DataW.trod enc Tryz.prog w base (fun _ => true) held n 3 [c6] = some y6 := hf 6 _ rfl
    have h7 : DataW.trod enc Tryz.prog w base (fun _ => true) held n 2 [c7] = some y7 := hf 7 _ rfl
    have h8 : DataW.trod enc Tryz.prog w base (fun _ => true) held n 27 [c8] = some y8 := hf 8 _ rfl
    have h9 : DataW.trod enc Tryz.prog w base (fun _ => true) held n 4 [c9] = some y9 := hf 9 _ rfl
    have h10 : DataW.trod enc Tryz.prog w base (fun _ => true) held n 26 [c10] = some y10 := hf 10 _ rfl
    have h11 : DataW.trod enc Tryz.prog w base (fun _ => true) held n 2 [c11] = some y11 := hf 11 _ rfl
    obtain ⟨id, e0, -, w0⟩ := DataW.trod_int Tryz.underlying26 h0
    obtain ⟨name, e1, -, -⟩ := DataW.trod_string Tryz.underlying9 h1
    obtain ⟨expr, e2, -, -⟩ := DataW.trod_string Tryz.underlying9 h2
    obtain ⟨pol, e3, -, -⟩ := DataW.trod_int Tryz.underlying3 h3
    obtain ⟨gra, e4, -, -⟩ := DataW.trod_int Tryz.underlying2 h4
    obtain ⟨lim, e5, -, -⟩ := DataW.trod_int Tryz.underlying3 h5
    obtain ⟨ret, e6, -, -⟩ := DataW.trod_int Tryz.underlying3 h6
    obtain ⟨tim, e7, -, -⟩ := DataW.trod_int Tryz.underlying2 h7
    obtain ⟨pau, e9, -⟩ := DataW.trod_bool Tryz.underlying4 h9
    obtain ⟨ver, e10, -, w10⟩ := DataW.trod_int Tryz.underlying26 h10
    obtain ⟨seen, e11, -, -⟩ := DataW.trod_int Tryz.underlying2 h11
    have hs : ∃ a len cap, c8 = .slice a len cap := by
      rcases open_ints Tryz.underlying27 Tryz.underlying26 (by kernel_rfl) h8 with ⟨hcs, _⟩ | ⟨y, l, c, zs, hcs, _⟩
      · exact ⟨_, _, _, by simpa using hcs⟩
      · exact ⟨_, _, _, by simpa using hcs⟩
    obtain ⟨a, len, cap, rfl⟩ := hs
    obtain ⟨zs, rfl, hz, hu, hc, hm, hn⟩ := open_u64s h8
    obtain rfl : c0 = .int .u64 id := by simpa using e0
    obtain rfl : c1 = .string name := by simpa using e1
    obtain rfl : c2 = .string expr := by simpa using e2
    obtain rfl : c3 = .int .i64 pol := by simpa using e3
    obtain rfl : c4 = .int .i64 gra := by simpa using e4
    obtain rfl : c5 = .int .i64 lim := by simpa using e5
    obtain rfl : c6 = .int .i64 ret := by simpa using e6
    obtain rfl : c7 = .int .i64 tim := by simpa using e7
    obtain rfl : c9 = .bool pau := by simpa using e9
    obtain rfl : c10 = .int .u64 ver := by simpa using e10
    obtain rfl : c11 = .int .i64 seen := by simpa using e11
    exact ⟨⟨id, name, expr, pol, gra, lim, ret, tim, a, cap, zs, pau, ver, seen⟩, rfl, ⟨of_wf_u w0, of_wf_u w10, hu, hz, hn, hc, hm⟩⟩
end
end Go.Proofs.YtpbnjibomdilhaaGreatDoor.Job

namespace Go.Proofs.YtpbnjibomdilhaaGreatDoor.Job
open Go.RowKit

theorem loop_len (s : ByteArray) : ∀ (n i : Nat) (r : List UInt8), s.size - i = n → (ByteArray.toList.loop s i r).length = n + r.length
  | 0, i, r, h => by
    rw [ByteArray.toList.loop, if_neg (by omega), List.length_reverse]; omega
  | n + 1, i, r, h => by
    rw [ByteArray.toList.loop, if_pos (by omega), loop_len s n (i + 1) _ (by omega), List.length_cons]; omega
theorem tl_empty (s : ByteArray) : s.toList.isEmpty = decide (s.size = 0) := by
  have h := loop_len s s.size 0 [] rfl
  have e : s.toList.length = s.size := by unfold ByteArray.toList; simpa using h
  cases hl : s.toList with
  | nil => rw [hl] at e; simp at e; rw [← e]; rfl
  | cons a l => rw [hl] at e; simp at e; rw [← e]; simp

set_option maxRecDepth 100000 in
theorem withinI_any (n l h : Int) (w : World) : Calls Tryz.prog 86 #[.int .i64 n, .int .i64 l, .int .i64 h] w fun e w' => e = .returned (.bool (within n l h)) ∧ w' = w := by
  unfold within
  by_cases h1 : l ≤ n
  · have d1 : decide (l ≤ n) = true := decide_eq_true h1
    rw [d1, Bool.true_and]
    go_enter Tryz.func86, Tryz.ntmps86
    go_wp2
    go_ret
    exact ⟨by first | rfl | simp, rfl⟩
  · have d1 : decide (l ≤ n) = false := decide_eq_false h1
    rw [d1, Bool.false_and]
    go_enter Tryz.func86, Tryz.ntmps86
    go_wp2
    go_ret
    exact ⟨by first | rfl | simp, rfl⟩
set_option maxRecDepth 100000 in
theorem withinL_any (n l h : Int) (w : World) : Calls Tryz.prog 87 #[.int .i64 n, .int .i64 l, .int .i64 h] w fun e w' => e = .returned (.bool (within n l h)) ∧ w' = w := by
  unfold within
  by_cases h1 : l ≤ n
  · have d1 : decide (l ≤ n) = true := decide_eq_true h1
    rw [d1, Bool.true_and]
    go_enter Tryz.func87, Tryz.ntmps87
    go_wp2
    go_ret
    exact ⟨by first | rfl | simp, rfl⟩
  · have d1 : decide (l ≤ n) = false := decide_eq_false h1
    rw [d1, Bool.false_and]
    go_enter Tryz.func87, Tryz.ntmps87
    go_wp2
    go_ret
    exact ⟨by first | rfl | simp, rfl⟩

set_option maxRecDepth 100000 in
set_option maxHeartbeats 4000000 in
theorem numbersMay_any (j : J) (w : World) : Calls Tryz.prog 64 #[j.val] w fun e w' => e = .returned (.bool j.nums) ∧ Below w.heap.size w w' := by
  obtain ⟨id, name, expr, pol, gra, lim, ret, tim, da, dc, deps, pau, ver, seen⟩ := j
  unfold J.val J.cells jcells J.nums
  dsimp only
  have H1 := Lib.hid (withinI_any pol 1 3)
  have H2 := Lib.hid (withinL_any gra 0 604800)
  have H3 := Lib.hid (withinI_any lim 1 8)
  have H4 := Lib.hid (withinI_any ret 0 5)
  have H5 := Lib.hid (withinL_any tim 1 86400)
  have H6 := Lib.hid (withinL_any seen (-1) 13569465599)
  generalize within pol 1 3 = c1 at *
  generalize within gra 0 604800 = c2 at *
  generalize within lim 1 8 = c3 at *
  generalize within ret 0 5 = c4 at *
  generalize within tim 1 86400 = c5 at *
  generalize within seen (-1) 13569465599 = c6 at *
  obtain ⟨k, hk⟩ : ∃ k, k = deps.length := ⟨_, rfl⟩
  rw [← hk]
  clear hk
  go_enter Tryz.func64, Tryz.ntmps64
  go_wp2_with fail
  refine (H1.out _).mono ?_
  rintro e w1 ⟨rfl, rfl⟩
  cases c1 with
  | false =>
    go_wp2_with fail
    go_ret
    exact ⟨rfl, (Below.refl _ _).alloc (Nat.le_refl _) _⟩
  | true =>
  go_wp2_with fail
  refine (H2.out _).mono ?_
  rintro e w1 ⟨rfl, rfl⟩
  cases c2 with
  | false =>
    go_wp2_with fail
    go_ret
    exact ⟨rfl, (Below.refl _ _).alloc (Nat.le_refl _) _⟩
  | true =>
  go_wp2_with fail
  refine (H3.out _).mono ?_
  rintro e w1 ⟨rfl, rfl⟩
  cases c3 with
  | false =>
    go_wp2_with fail
    go_ret
    exact ⟨rfl, (Below.refl _ _).alloc (Nat.le_refl _) _⟩
  | true =>
  go_wp2_with fail
  refine (H4.out _).mono ?_
  rintro e w1 ⟨rfl, rfl⟩
  cases c4 with
  | false =>
    go_wp2_with fail
    go_ret
    exact ⟨rfl, (Below.refl _ _).alloc (Nat.le_refl _) _⟩
  | true =>
  go_wp2_with fail
  refine (H5.out _).mono ?_
  rintro e w1 ⟨rfl, rfl⟩
  cases c5 with
  | false =>
    go_wp2_with fail
    go_ret
    exact ⟨rfl, (Below.refl _ _).alloc (Nat.le_refl _) _⟩
  | true =>
  go_wp2_with fail
  refine (H6.out _).mono ?_
  rintro e w1 ⟨rfl, rfl⟩
  go_wp2_with fail
  go_ret
  exact ⟨by first | rfl | simp, (Below.refl _ _).alloc (Nat.le_refl _) _⟩

/-- a job in a block of a call's own -/
def jobj (j : J) : Obj := .cells j.cells 29 (0, 0)
theorem jobj_cells {W : World} {B : Nat} {j : J} (h : W.heap[B]? = some (jobj j)) :
    (W.cell? ⟨B, 0, none⟩ = some (.int .u64 j.id) ∧ W.cell? ⟨B, 1, none⟩ = some (.string j.name) ∧ W.cell? ⟨B, 2, none⟩ = some (.string j.expr) ∧ W.cell? ⟨B, 3, none⟩ = some (.int .i64 j.pol) ∧
    W.cell? ⟨B, 4, none⟩ = some (.int .i64 j.gra) ∧ W.cell? ⟨B, 5, none⟩ = some (.int .i64 j.lim)) ∧ (W.cell? ⟨B, 6, none⟩ = some (.int .i64 j.ret) ∧ W.cell? ⟨B, 7, none⟩ = some (.int .i64 j.tim) ∧
    W.cell? ⟨B, 8, none⟩ = some (.slice j.da j.deps.length j.dc) ∧ W.cell? ⟨B, 9, none⟩ = some (.bool j.pau) ∧ W.cell? ⟨B, 10, none⟩ = some (.int .u64 j.ver) ∧ W.cell? ⟨B, 11, none⟩ = some (.int .i64 j.seen)) :=
  ⟨⟨cell_of_row _ B 0 _ _ _ h, cell_of_row _ B 1 _ _ _ h, cell_of_row _ B 2 _ _ _ h, cell_of_row _ B 3 _ _ _ h, cell_of_row _ B 4 _ _ _ h, cell_of_row _ B 5 _ _ _ h⟩, cell_of_row _ B 6 _ _ _ h, cell_of_row _ B 7 _ _ _ h, cell_of_row _ B 8 _ _ _ h, cell_of_row _ B 9 _ _ _ h, cell_of_row _ B 10 _ _ _ h, cell_of_row _ B 11 _ _ _ h⟩

/-- the box of a parameter -/
theorem box_new (w : World) (j : J) : (w.alloc (.cells #[.int .u64 j.id, .string j.name, .string j.expr, .int .i64 j.pol, .int .i64 j.gra, .int .i64 j.lim, .int .i64 j.ret, .int .i64 j.tim, .slice j.da j.deps.length j.dc, .bool j.pau, .int .u64 j.ver, .int .i64 j.seen] 29)).heap[w.heap.size]? = some (jobj j) := heap_alloc_new w _

set_option maxRecDepth 100000 in
set_option maxHeartbeats 4000000 in
theorem mayJ_any (j : J) (w : World) (hw : TabsOn w) (hn : NamesOn w) : Calls Tryz.prog 40 #[j.val] w fun e w' => e = .returned (.int .i64 j.err) ∧ Below w.heap.size w w' := by
  have HNUM := Lib.hid (numbersMay_any j)
  have HP := Lib.hid (fun W hW => parseX_any j.expr W (hw.next hW) (hn.next hW))
  have HER := Lib.hid (@J.err_name j)
  have HEE := Lib.hid (@J.err_expr j)
  have HED := Lib.hid (@J.err_deps j)
  have HES := Lib.hid (@J.err_rest j)
  have HB := Lib.hid (box_new w j)
  generalize j.err = r at *
  generalize j.nums = nums at *
  unfold J.val J.cells jcells at *
  unfold pres7 xval xcells at HP
  generalize Cron.pB j.expr.data.toList = B at *
  generalize Cron.pS j.expr.data.toList = S at *
  generalize Cron.pErr j.expr.data.toList = pe at *
  clear hw hn
  by_cases h0 : j.name.size = 0
  · have hd0 : j.name.toList.isEmpty = true := by rw [tl_empty, decide_eq_true h0]
    have hR := HER.out (.inl h0)
    subst hR
    clear HNUM HP HER HEE HED HES h0
    go_enter Tryz.func40, Tryz.ntmps40
    go_wp2_with fail
    go_ret
    exact ⟨rfl, (Below.refl _ _).alloc (Nat.le_refl _) _⟩
  have hd0 : j.name.toList.isEmpty = false := by rw [tl_empty, decide_eq_false h0]
  by_cases h32 : 32 < j.name.size
  · have hR := HER.out (.inr h32)
    have hd : decide ((32 : Int) < (j.name.size : Int)) = true := by simp; omega
    subst hR
    clear HNUM HP HER HEE HED HES h0
    go_enter Tryz.func40, Tryz.ntmps40
    go_wp2_with fail
    go_ret
    exact ⟨rfl, (Below.refl _ _).alloc (Nat.le_refl _) _⟩
  have hd : decide ((32 : Int) < (j.name.size : Int)) = false := by simp; omega
  have hnn : ¬ (j.name.size = 0 ∨ 32 < j.name.size) := by omega
  have HEE := Lib.hid (HEE.out hnn)
  have HED := Lib.hid (HED.out hnn)
  have HES := Lib.hid (HES.out hnn)
  clear HER h0 h32 hnn
  go_enter Tryz.func40, Tryz.ntmps40
  go_wp2_with fail
  refine (HP.out _ ((Below.refl _ _).alloc (Nat.le_refl _) _)).mono ?_
  rintro e w1 ⟨rfl, hb1⟩
  have hx0 : (⟨w.heap.size, 0, none⟩ : Addr) = ⟨w.heap.size, 0, none⟩ := rfl
  have hs1 := hb1.size
  have hbel1 : Below w.heap.size w w1 := ((Below.refl _ _).alloc (Nat.le_refl _) _).trans (hb1.mono (by simp))
  have hrow1 : w1.heap[w.heap.size]? = some (jobj j) := (hb1.block _ (by simp)).trans HB.out
  have hrow2 : (w1.alloc (.cells #[.int .u64 ((B 0 : Nat) : Int), .bool (S 0), .int .u64 ((B 1 : Nat) : Int), .bool (S 1), .int .u64 ((B 2 : Nat) : Int), .bool (S 2), .int .u64 ((B 3 : Nat) : Int), .bool (S 3), .int .u64 ((B 4 : Nat) : Int), .bool (S 4)] 101)).heap[w.heap.size]? = some (jobj j) :=
    (((Below.refl _ _).alloc (Nat.le_refl _) _).block _ (by simp at hs1; omega)).trans hrow1
  have hbel2 := hbel1.alloc hbel1.size (.cells #[.int .u64 ((B 0 : Nat) : Int), .bool (S 0), .int .u64 ((B 1 : Nat) : Int), .bool (S 1), .int .u64 ((B 2 : Nat) : Int), .bool (S 2), .int .u64 ((B 3 : Nat) : Int), .bool (S 3), .int .u64 ((B 4 : Nat) : Int), .bool (S 4)] 101)
  have HR2 := Lib.hid hrow2
  have HL2 := Lib.hid hbel2
  clear hb1 hs1 hbel1 hrow1 hrow2 hbel2 hx0 HP HB
  by_cases hp : pe = 0
  · subst hp
    have HED := Lib.hid (HED.out rfl)
    have HES := Lib.hid (HES.out rfl)
    clear HEE
    obtain ⟨⟨c0, c1, c2, c3, c4, c5⟩, c6, c7, c8, c9, c10, c11⟩ := jobj_cells HR2.out
    by_cases h8 : 8 < j.deps.length
    · have hR := HED.out h8
      have hd8 : decide ((8 : Int) < (j.deps.length : Int)) = true := by simp; omega
      subst hR
      clear HED HES HNUM
      go_wp2_with fail
      go_ret
      exact ⟨rfl, HL2.out⟩
    · have hR := HES.out h8
      have hd8 : decide ((8 : Int) < (j.deps.length : Int)) = false := by simp; omega
      clear HED HES
      go_wp2_with fail
      refine (HNUM.out _).mono ?_
      rintro e w3 ⟨rfl, hb3⟩
      have HL3 := Lib.hid (HL2.out.trans (hb3.mono HL2.out.size))
      clear hb3 c0 c1 c2 c3 c4 c5 c6 c7 c8 c9 c10 c11
      cases nums with
      | true =>
        rw [if_neg (by simp)] at hR
        subst hR
        go_wp2_with fail
        go_ret
        exact ⟨rfl, HL3.out⟩
      | false =>
        rw [if_pos rfl] at hR
        subst hR
        go_wp2_with fail
        go_ret
        exact ⟨rfl, HL3.out⟩
  · have hR := HEE.out hp
    have hpd : decide ((pe : Int) = 0) = false := by simp; omega
    have hpi : ¬ (pe : Int) = 0 := by omega
    subst hR
    clear HEE HED HES HNUM
    go_wp2_with fail
    go_ret
    exact ⟨rfl, HL2.out⟩

/-- a job that is more than the law looks at -/
def J.great (j : J) : Bool := decide (100 < j.name.size) || (decide (600 < j.expr.size) || decide (20 < j.deps.length))
end Go.Proofs.YtpbnjibomdilhaaGreatDoor.Job
