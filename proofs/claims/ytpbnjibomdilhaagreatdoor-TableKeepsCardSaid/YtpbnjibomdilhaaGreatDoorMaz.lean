/- The steps that come in. The law's parameter is opened: steps with jobs within. The law's code, in pieces. -/
import Derived.Test.YtpbnjibomdilhaaGreatDoorMay
import Derived.Deep.Cut
import Derived.Deep.CutRange
import Derived.Test.YtpbnjibomdilhaaGreatDoorMam
import Derived.Deep.CutBlock
namespace Go.Proofs.YtpbnjibomdilhaaGreatDoor.Job
open Go.RowKit Go.Maps

structure OpV where
  kind : Int
  id : Int
  j : J
  pau : Bool
  seen : Int
instance : Inhabited J := ⟨zeroJ⟩
instance : Inhabited OpV := ⟨⟨0, 0, zeroJ, false, 0⟩⟩
def encO (o : OpV) : List Value := [.int .i64 o.kind, .int .u64 o.id, .int .u64 o.j.id, .string o.j.name, .string o.j.expr, .int .i64 o.j.pol, .int .i64 o.j.gra, .int .i64 o.j.lim, .int .i64 o.j.ret, .int .i64 o.j.tim, .slice o.j.da o.j.deps.length o.j.dc, .bool o.j.pau, .int .u64 o.j.ver, .int .i64 o.j.seen, .bool o.pau, .int .i64 o.seen]
abbrev OpV.cs (o : OpV) : Array Value := #[.int .i64 o.kind, .int .u64 o.id, .int .u64 o.j.id, .string o.j.name, .string o.j.expr, .int .i64 o.j.pol, .int .i64 o.j.gra, .int .i64 o.j.lim, .int .i64 o.j.ret, .int .i64 o.j.tim, .slice o.j.da o.j.deps.length o.j.dc, .bool o.j.pau, .int .u64 o.j.ver, .int .i64 o.j.seen, .bool o.pau, .int .i64 o.seen]
def opobj (o : OpV) : Obj := .cells o.cs 31 (0, 0)
/-- the steps that came in -/
structure OpsF (w : World) (a : Option Addr) (l : List OpV) : Prop where
  at_ : ∃ g q, (l ≠ [] → a = some ⟨g, q, none⟩) ∧ ∀ i (h : i < l.length), g < w.heap.size ∧ ∀ c, c < 16 → w.cell? ⟨g, q + (i * 16 + c), none⟩ = (encO l[i])[c]?
  each : ∀ o ∈ l, JF w o.j ∧ U64 o.id
theorem OpsF.cells {w : World} {g q : Nat} {o : OpV} {i : Nat} (h : ∀ c, c < 16 → w.cell? ⟨g, q + (i * 16 + c), none⟩ = (encO o)[c]?) :
    ((w.cell? ⟨g, q + i * 16, none⟩ = some (.int .i64 o.kind) ∧ w.cell? ⟨g, q + i * 16 + 1, none⟩ = some (.int .u64 o.id) ∧ w.cell? ⟨g, q + i * 16 + 2, none⟩ = some (.int .u64 o.j.id) ∧ w.cell? ⟨g, q + i * 16 + 3, none⟩ = some (.string o.j.name)) ∧
    (w.cell? ⟨g, q + i * 16 + 4, none⟩ = some (.string o.j.expr) ∧ w.cell? ⟨g, q + i * 16 + 5, none⟩ = some (.int .i64 o.j.pol) ∧ w.cell? ⟨g, q + i * 16 + 6, none⟩ = some (.int .i64 o.j.gra) ∧ w.cell? ⟨g, q + i * 16 + 7, none⟩ = some (.int .i64 o.j.lim))) ∧
    ((w.cell? ⟨g, q + i * 16 + 8, none⟩ = some (.int .i64 o.j.ret) ∧ w.cell? ⟨g, q + i * 16 + 9, none⟩ = some (.int .i64 o.j.tim) ∧ w.cell? ⟨g, q + i * 16 + 10, none⟩ = some (.slice o.j.da o.j.deps.length o.j.dc) ∧ w.cell? ⟨g, q + i * 16 + 11, none⟩ = some (.bool o.j.pau)) ∧
    (w.cell? ⟨g, q + i * 16 + 12, none⟩ = some (.int .u64 o.j.ver) ∧ w.cell? ⟨g, q + i * 16 + 13, none⟩ = some (.int .i64 o.j.seen) ∧ w.cell? ⟨g, q + i * 16 + 14, none⟩ = some (.bool o.pau) ∧ w.cell? ⟨g, q + i * 16 + 15, none⟩ = some (.int .i64 o.seen))) :=
  ⟨⟨⟨h 0 (by omega), h 1 (by omega), h 2 (by omega), h 3 (by omega)⟩, ⟨h 4 (by omega), h 5 (by omega), h 6 (by omega), h 7 (by omega)⟩⟩, ⟨⟨h 8 (by omega), h 9 (by omega), h 10 (by omega), h 11 (by omega)⟩, ⟨h 12 (by omega), h 13 (by omega), h 14 (by omega), h 15 (by omega)⟩⟩⟩
theorem op_cells {W : World} {B : Nat} {o : OpV} (h : W.heap[B]? = some (opobj o)) :
    ((W.cell? ⟨B, 0, none⟩ = some (.int .i64 o.kind) ∧ W.cell? ⟨B, 1, none⟩ = some (.int .u64 o.id) ∧ W.cell? ⟨B, 2, none⟩ = some (.int .u64 o.j.id) ∧ W.cell? ⟨B, 3, none⟩ = some (.string o.j.name)) ∧
    (W.cell? ⟨B, 4, none⟩ = some (.string o.j.expr) ∧ W.cell? ⟨B, 5, none⟩ = some (.int .i64 o.j.pol) ∧ W.cell? ⟨B, 6, none⟩ = some (.int .i64 o.j.gra) ∧ W.cell? ⟨B, 7, none⟩ = some (.int .i64 o.j.lim))) ∧
    ((W.cell? ⟨B, 8, none⟩ = some (.int .i64 o.j.ret) ∧ W.cell? ⟨B, 9, none⟩ = some (.int .i64 o.j.tim) ∧ W.cell? ⟨B, 10, none⟩ = some (.slice o.j.da o.j.deps.length o.j.dc) ∧ W.cell? ⟨B, 11, none⟩ = some (.bool o.j.pau)) ∧
    (W.cell? ⟨B, 12, none⟩ = some (.int .u64 o.j.ver) ∧ W.cell? ⟨B, 13, none⟩ = some (.int .i64 o.j.seen) ∧ W.cell? ⟨B, 14, none⟩ = some (.bool o.pau) ∧ W.cell? ⟨B, 15, none⟩ = some (.int .i64 o.seen))) :=
  ⟨⟨⟨cell_of_row _ B 0 _ _ _ h, cell_of_row _ B 1 _ _ _ h, cell_of_row _ B 2 _ _ _ h, cell_of_row _ B 3 _ _ _ h⟩, ⟨cell_of_row _ B 4 _ _ _ h, cell_of_row _ B 5 _ _ _ h, cell_of_row _ B 6 _ _ _ h, cell_of_row _ B 7 _ _ _ h⟩⟩,
   ⟨⟨cell_of_row _ B 8 _ _ _ h, cell_of_row _ B 9 _ _ _ h, cell_of_row _ B 10 _ _ _ h, cell_of_row _ B 11 _ _ _ h⟩, ⟨cell_of_row _ B 12 _ _ _ h, cell_of_row _ B 13 _ _ _ h, cell_of_row _ B 14 _ _ _ h, cell_of_row _ B 15 _ _ _ h⟩⟩⟩
theorem op_eff {k b O : Nat} {w w' : World} {o : OpV} (h : w.heap[O]? = some (opobj o)) (hf : Eff k b w w') (h1 : O ≠ k) (h2 : O ≠ b) : w'.heap[O]? = some (opobj o) := (hf.block O (lt_of_block h) h1 h2).trans h
theorem job_eff {k b O : Nat} {w w' : World} {o : J} (h : w.heap[O]? = some (jobj o)) (hf : Eff k b w w') (h1 : O ≠ k) (h2 : O ≠ b) : w'.heap[O]? = some (jobj o) := (hf.block O (lt_of_block h) h1 h2).trans h
theorem JobsF.eff {k b : Nat} {w w' : World} {a : Option Addr} {l : List J} (h : JobsF w a l) (hf : Eff k b w w') (ha : ∀ x, a = some x → x.block ≠ k ∧ x.block ≠ b) (hd : ∀ j ∈ l, ∀ x, j.da = some x → x.block ≠ k ∧ x.block ≠ b) : JobsF w' a l := by
  obtain ⟨⟨g, q, h1, h2⟩, h3⟩ := h
  refine ⟨⟨g, q, h1, fun i hi => ⟨Nat.lt_of_lt_of_le (h2 i hi).1 hf.size, fun c hc => ?_⟩⟩, fun j hj => (h3 j hj).kept hf.size fun x hx hl => hf.block _ hl (hd j hj x hx).1 (hd j hj x hx).2⟩
  have hne : l ≠ [] := fun e => by rw [e] at hi; simp at hi
  have hg := ha _ (h1 hne)
  have := hf.block g (h2 i hi).1 hg.1 hg.2
  rw [← (h2 i hi).2 c hc]
  unfold World.cell?
  simp only []
  rw [this]
theorem change_all {w : World} {k b : Nat} {L : List J} {last : Int} {n : Nat} (h : TabAt w k b L last) (hk : Kit w) (ho : Ok L last n) (hn : n ≤ 1000) {id : Int} (hi : U64 id) {j : J} (hj : JF w j) (hd : j.deps.length ≤ 12) :
    Calls Tryz.prog 11 #[.pointer (some ⟨k, 0, none⟩), .int .u64 id, j.val] w (ChangePost w k b L last id j) := by
  cases hf : findJ L id with
  | none => exact change_no h hi hf
  | some was => exact change_yes h hk ho hn hi hf hj hd
theorem rem_all {w : World} {k b : Nat} {L : List J} {last : Int} {n : Nat} (h : TabAt w k b L last) (ho : Ok L last n) {id : Int} (hi : U64 id) :
    Calls Tryz.prog 12 #[.pointer (some ⟨k, 0, none⟩), .int .u64 id] w (RemPost w k b L last id) := by
  cases hf : findJ L id with
  | none => exact rem_no h hi hf
  | some was => exact rem_yes h ho hi hf
theorem see_all {w : World} {k b : Nat} {L : List J} {last : Int} {n : Nat} (h : TabAt w k b L last) (ho : Ok L last n) {id : Int} (hi : U64 id) (s : Int) :
    Calls Tryz.prog 14 #[.pointer (some ⟨k, 0, none⟩), .int .u64 id, .int .i64 s] w (NotePost w k b L last id s fun j => j.seenAt s) := by
  cases hf : findJ L id with
  | none => exact see_no h hi hf s _
  | some was => exact see_yes h ho hi hf s
theorem pause_all {w : World} {k b : Nat} {L : List J} {last : Int} {n : Nat} (h : TabAt w k b L last) (ho : Ok L last n) {id : Int} (hi : U64 id) (p : Bool) (s : Int) :
    Calls Tryz.prog 13 #[.pointer (some ⟨k, 0, none⟩), .int .u64 id, .bool p, .int .i64 s] w (NotePost w k b L last id s (pauF p s)) := by
  cases hf : findJ L id with
  | none => exact pause_no h hi hf p s _
  | some was => exact pause_yes h ho hi hf p s
end Go.Proofs.YtpbnjibomdilhaaGreatDoor.Job

namespace Go.Proofs.YtpbnjibomdilhaaGreatDoor.Job
open Go.ChangeShapes Go.WideShapes Go.RowKit Go.Lib

theorem cellsOp : Tryz.prog.cellsOf 31 = 16 := by kernel_rfl
section
variable {H : Type} {enc : TypeId × Value → H} {w : World} {base : Nat} {held : Bool}
set_option maxRecDepth 100000 in
set_option maxHeartbeats 1000000 in
/-- a job's cells that came in -/
theorem open_jcells {n : Nat} {c0 c1 c2 c3 c4 c5 c6 c7 c8 c9 c10 c11 : Value} {x : DataW H × List MemPlace} (h : DataW.trod enc Tryz.prog w base (fun _ => true) held n 29 [c0, c1, c2, c3, c4, c5, c6, c7, c8, c9, c10, c11] = some x) :
    ∃ j : J, [c0, c1, c2, c3, c4, c5, c6, c7, c8, c9, c10, c11] = encJ j ∧ JF w j := by
  obtain ⟨xs, n, -, hx, hl, hlen, hf⟩ := DataW.trod_struct Tryz.underlying29 h
  match xs, hlen with
  | [y0, y1, y2, y3, y4, y5, y6, y7, y8, y9, y10, y11], _ =>
    have h0 : DataW.trod enc Tryz.prog w base (fun _ => true) held n 26 [c0] = some y0 := hf 0 _ rfl
    have h1 : DataW.trod enc Tryz.prog w base (fun _ => true) held n 9 [c1] = some y1 := hf 1 _ rfl
    have h2 : DataW.trod enc Tryz.prog w base (fun _ => true) held n 9 [c2] = some y2 := hf 2 _ rfl
    have h3 : DataW.trod enc Tryz.prog w base (fun _ => true) held n 3 [c3] = some y3 := hf 3 _ rfl
    have h4 : DataW.trod enc Tryz.prog w base (fun _ => true) held n 2 [c4] = some y4 := hf 4 _ rfl
    have h5 : DataW.trod enc Tryz.prog w base (fun _ => true) held n 3 [c5] = some y5 := hf 5 _ rfl
    have h6 : DataW.trod enc Tryz.prog w base (fun _ => true) held n 3 [c6] = some y6 := hf 6 _ rfl
    have h7 : DataW.trod enc Tryz.prog w base (fun _ => true) held n 2 [c7] = some y7 := hf 7 _ rfl
    have h8 : DataW.trod enc Tryz.prog w base (fun _ => true) held n 27 [c8] = some y8 := hf 8 _ rfl
    have h9 : DataW.trod enc Tryz.prog w base (fun _ => true) held n 4 [c9] = some y9 := hf 9 _ rfl
    have h10 : DataW.trod enc Tryz.prog w base (fun _ => true) held n 26 [c10] = some y10 := hf 10 _ rfl
    have h11 : DataW.trod enc Tryz.prog w base (fun _ => true) held n 2 [c11] = some y11 := hf 11 _ rfl
    obtain ⟨id, e0, -, w0⟩ := DataW.trod_int Tryz.underlying26 h0
    obtain ⟨name, e1, -, -⟩ := DataW.trod_string Tryz.underlying9 h1
    obtain ⟨expr, e2, -, -⟩ := DataW.trod_string Tryz.underlying9 h2
    obtain ⟨pol, e3, -, -⟩ := DataW.trod_int Tryz.underlying3 h3
    obtain ⟨gra, e4, -, -⟩ := DataW.trod_int Tryz.underlying2 h4
    obtain ⟨lim, e5, -, -⟩ := DataW.trod_int Tryz.underlying3 h5
    obtain ⟨ret, e6, -, -⟩ := DataW.trod_int Tryz.underlying3 h6
    obtain ⟨tim, e7, -, -⟩ := DataW.trod_int Tryz.underlying2 h7
    obtain ⟨pau, e9, -⟩ := DataW.trod_bool Tryz.underlying4 h9
    obtain ⟨ver, e10, -, w10⟩ := DataW.trod_int Tryz.underlying26 h10
    obtain ⟨seen, e11, -, -⟩ := DataW.trod_int Tryz.underlying2 h11
    have hs : ∃ a len cap, c8 = .slice a len cap := by
      rcases open_ints Tryz.underlying27 Tryz.underlying26 (by kernel_rfl) h8 with ⟨hcs, _⟩ | ⟨y, l, c, zs, hcs, _⟩
      · exact ⟨_, _, _, by simpa using hcs⟩
      · exact ⟨_, _, _, by simpa using hcs⟩
    obtain ⟨a, len, cap, rfl⟩ := hs
    obtain ⟨zs, rfl, hz, hu, hc, hm, hn⟩ := open_u64s h8
    obtain rfl : c0 = .int .u64 id := by simpa using e0
    obtain rfl : c1 = .string name := by simpa using e1
    obtain rfl : c2 = .string expr := by simpa using e2
    obtain rfl : c3 = .int .i64 pol := by simpa using e3
    obtain rfl : c4 = .int .i64 gra := by simpa using e4
    obtain rfl : c5 = .int .i64 lim := by simpa using e5
    obtain rfl : c6 = .int .i64 ret := by simpa using e6
    obtain rfl : c7 = .int .i64 tim := by simpa using e7
    obtain rfl : c9 = .bool pau := by simpa using e9
    obtain rfl : c10 = .int .u64 ver := by simpa using e10
    obtain rfl : c11 = .int .i64 seen := by simpa using e11
    exact ⟨⟨id, name, expr, pol, gra, lim, ret, tim, a, cap, zs, pau, ver, seen⟩, rfl, ⟨of_wf_u w0, of_wf_u w10, hu, hz, hn, hc, hm⟩⟩
set_option maxRecDepth 100000 in
set_option maxHeartbeats 1000000 in
theorem open_op {n : Nat} {cs : List Value} {x : DataW H × List MemPlace} (hl : cs.length = 16) (h : DataW.trod enc Tryz.prog w base (fun _ => true) held n 31 cs = some x) :
    ∃ o : OpV, cs = encO o ∧ JF w o.j ∧ U64 o.id := by
  obtain ⟨xs, k, -, hx, -, hlen, hf⟩ := DataW.trod_struct Tryz.underlying31 h
  match xs, hlen, cs, hl with
  | [y0, y1, y2, y3, y4], _, [c0, c1, d0, d1, d2, d3, d4, d5, d6, d7, d8, d9, d10, d11, c3, c4], _ =>
    have h0 : DataW.trod enc Tryz.prog w base (fun _ => true) held k 3 [c0] = some y0 := hf 0 _ rfl
    have h1 : DataW.trod enc Tryz.prog w base (fun _ => true) held k 26 [c1] = some y1 := hf 1 _ rfl
    have h2 : DataW.trod enc Tryz.prog w base (fun _ => true) held k 29 [d0, d1, d2, d3, d4, d5, d6, d7, d8, d9, d10, d11] = some y2 := hf 2 _ rfl
    have h3 : DataW.trod enc Tryz.prog w base (fun _ => true) held k 4 [c3] = some y3 := hf 3 _ rfl
    have h4 : DataW.trod enc Tryz.prog w base (fun _ => true) held k 2 [c4] = some y4 := hf 4 _ rfl
    obtain ⟨z, e0, -, -⟩ := DataW.trod_int Tryz.underlying3 h0
    obtain ⟨id, e1, -, w1⟩ := DataW.trod_int Tryz.underlying26 h1
    obtain ⟨j, ej, hj⟩ := open_jcells h2
    obtain ⟨pau, e3, -⟩ := DataW.trod_bool Tryz.underlying4 h3
    obtain ⟨seen, e4, -, -⟩ := DataW.trod_int Tryz.underlying2 h4
    obtain rfl : c0 = .int .i64 z := by simpa using e0
    obtain rfl : c1 = .int .u64 id := by simpa using e1
    obtain rfl : c3 = .bool pau := by simpa using e3
    obtain rfl : c4 = .int .i64 seen := by simpa using e4
    refine ⟨⟨z, id, j, pau, seen⟩, ?_, hj, of_wf_u w1⟩
    unfold encJ at ej
    simp only [List.cons.injEq, and_true] at ej
    obtain ⟨rfl, rfl, rfl, rfl, rfl, rfl, rfl, rfl, rfl, rfl, rfl, rfl⟩ := ej
    rfl
set_option maxRecDepth 100000 in
/-- the steps that came in -/
theorem open_ops {fuel : Nat} {a : Option Addr} {len cap : Nat} {x : DataW H × List MemPlace} (h : DataW.trod enc Tryz.prog w base (fun _ => true) held fuel 22 [.slice a len cap] = some x) : ∃ l : List OpV, l.length = len ∧ OpsF w a l := by
  rcases Go.Deep.open_slice Tryz.underlying22 h with ⟨hcs, _⟩ | ⟨y, l, c, m, n, D, Pl, hcs, _, hl, hm, hmm, _, hx⟩
  · simp at hcs
    obtain ⟨rfl, rfl, rfl⟩ := hcs
    exact ⟨[], rfl, ⟨⟨0, 0, fun h => absurd rfl h, fun i hi => absurd hi (by simp)⟩, fun o ho => (by cases ho)⟩⟩
  · simp at hcs
    obtain ⟨rfl, rfl, rfl⟩ := hcs
    simp only [if_true] at hmm
    subst hmm
    have each : ∀ i, i < m → ∃ o : OpV, (∀ c, c < 16 → w.cell? (y.add (i * 16 + c)) = (encO o)[c]?) ∧ JF w o.j ∧ U64 o.id := fun i hi => by
      obtain ⟨cs', h1, h2⟩ := hx i hi
      rw [cellsOp] at h1
      obtain ⟨_, hlen, hcell⟩ := World.cells?_some h1
      obtain ⟨o, rfl, hf⟩ := open_op hlen h2
      refine ⟨o, fun c hc => ?_, hf⟩
      have e := hcell c (by omega)
      rw [Go.Deep.add_add] at e
      exact e
    obtain ⟨q, hq⟩ := Go.Deep.choose_lt each
    have hlm : len ≤ m := hl
    refine ⟨(List.range len).map q, by simp, ?_, fun o ho => ?_⟩
    · by_cases h0 : len = 0
      · exact ⟨0, 0, fun hne => absurd (by rw [h0]; rfl) hne, fun i hi => by simp at hi; omega⟩
      · have hy : y = ⟨y.block, y.off, none⟩ := spotNone (v := .int .i64 (q 0).kind) (by simpa [Addr.add, encO] using (hq 0 (by omega)).1 0 (by omega))
        refine ⟨y.block, y.off, fun _ => congrArg some hy, fun i hi => ?_⟩
        have hil : i < len := by simpa using hi
        have hg : ((List.range len).map q)[i] = q i := by simp
        rw [hg]
        have hc : ∀ c, c < 16 → w.cell? ⟨y.block, y.off + (i * 16 + c), none⟩ = (encO (q i))[c]? := fun c hc => by
          have e := (hq i (by omega)).1 c hc
          rw [hy, addNone] at e
          exact e
        exact ⟨World.block_lt_of_cell? w ⟨y.block, y.off + (i * 16 + 0), none⟩ (hc 0 (by omega)), hc⟩
    · obtain ⟨i, hi, rfl⟩ := List.mem_map.1 ho
      exact (hq i (by have := List.mem_range.1 hi; omega)).2
end
end Go.Proofs.YtpbnjibomdilhaaGreatDoor.Job

namespace Go.Proofs.YtpbnjibomdilhaaGreatDoor.Job
open Go.RowKit Go.Maps

def findBlock (n : Nat) : Code → Option Code
  | .block m c => if m = n then some (.block m c) else findBlock n c
  | .seq a b => match findBlock n a with
    | some c => some c
    | none => findBlock n b
  | .cond _ a b => match findBlock n a with
    | some c => some c
    | none => findBlock n b
  | .scope c => findBlock n c
  | .loop c => findBlock n c
  | _ => none
def findRegion (n : Nat) : Code → Option Code
  | .region m ops d => if m = n then some (.region m ops d) else none
  | .block _ c => findRegion n c
  | .seq a b => match findRegion n a with
    | some c => some c
    | none => findRegion n b
  | .cond _ a b => match findRegion n a with
    | some c => some c
    | none => findRegion n b
  | .scope c => findRegion n c
  | .loop c => findRegion n c
  | _ => none
noncomputable def blk (n : Nat) : Code := ((Tryz.f3.body.bind (findBlock n)).getD .skip)
noncomputable def rgn (n : Nat) : Code := ((Tryz.f3.body.bind (findRegion n)).getD .skip)
/-- what is told of the row of a table that is as it always is -/
theorem mayRow_any {w : World} {B : Nat} {a : Option Addr} {c : Nat} {l : List Gph.NodeV} {L : List J} {last : Int} {n : Nat} (hr : Gph.RowN B (.slice a l.length c) l w) (hn : ∀ x ∈ l, Gph.NodeF w x ∧ ∀ y, x.da = some y → y.block < B) (ho : Ok L last n) (hof : Gph.rowOf l = rowJ L) :
    Calls Tryz.prog 16 #[.slice a l.length c] w fun e w' => e = .returned (.int .i64 0) ∧ Below w.heap.size w w' := by
  have hlen : l.length = L.length := by have := congrArg List.length hof; simpa [Gph.rowOf, rowJ] using this
  have hmay := Gph.may_any (c := c) (hr.read fun x hx => (hn x hx).1).1 (by rw [hlen]; have := ho.len; omega) (fun x hx => by
    have hm : (x.id, x.deps) ∈ rowJ L := by rw [← hof]; exact List.mem_map.2 ⟨x, hx, rfl⟩
    obtain ⟨m, hm1, e⟩ := rowJ_mem.1 hm
    have e2 : m.deps = x.deps := congrArg Prod.snd e
    rw [← e2]
    exact ho.deps (by omega) m hm1)
  rw [hof, ho.row] at hmay
  exact hmay
theorem deps_bare {l L : List J} {m : Nat} (h : l.map J.bare = L.map J.bare) (hd : ∀ j ∈ L, j.deps.length ≤ m) : ∀ j ∈ l, j.deps.length ≤ m := fun j hj => by
  have hm : (j.id, j.deps) ∈ rowJ L := by rw [← rowJ_bare h]; exact rowJ_mem.2 ⟨j, hj, rfl⟩
  obtain ⟨x, hx, e⟩ := rowJ_mem.1 hm
  have e2 : x.deps = j.deps := congrArg Prod.snd e
  rw [← e2]
  exact hd x hx
theorem len_bare {l L : List J} (h : l.map J.bare = L.map J.bare) : l.length = L.length := by have := congrArg List.length h; simpa using this
/-- what the switch leaves -/
def SwRel (w w7 : World) (k b : Nat) (L : List J) (last : Int) (i : Nat) (o : OpV) (v : Value) (wc : World) : Prop :=
  ∃ (e0 : Int) (L' : List J) (last' : Int), v = .int .i64 e0 ∧ St w wc k b L' last' (i + 1) ∧ StepOk i o.kind o.id L last e0 L' last' ∧ Eff k b w7 wc
end Go.Proofs.YtpbnjibomdilhaaGreatDoor.Job
