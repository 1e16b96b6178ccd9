/- slices.Sort at []uint64: the whole, at a row of the caller's own. Rows of numbers and of nodes that are read. -/
import Derived.Test.YtpbnjibomdilhaaGreatDoorGSu6
import Derived.Test.YtpbnjibomdilhaaGreatDoorGGraphM
import Derived.WalkKit
import Derived.Lib.Hide
import Derived.OneCell
import Derived.IntWalk
import Derived.Laws.Rows
import Derived.Deep.AppendLies
import Derived.DataElems
import Derived.BigQuiet
import Derived.Tactics2
import Derived.Deep.RegionHeld3
namespace Go.Proofs.YtpbnjibomdilhaaGreatDoor.Gph
open Go.RowKit Go.Sort

theorem sort_u (blk off cap : Nat) (zs : List Int) (w : World) (hH : Holds encU w blk off zs.toArray) (hblk : blk < w.heap.size) (hsz : zs.length < 4611686018427387904) :
    Calls Tryz.prog 38 #[.slice (some ⟨blk, off, none⟩) zs.length cap] w fun e w' =>
      e = .returned (.tuple #[]) ∧ ∃ n os, w' = grow (putRow encU (Sort.ahead w n) blk off (zs.mergeSort fun x y => decide (x ≤ y)).toArray) os := by
  have hLen : ∀ w, Calls Tryz.prog 62 #[.int .u64 (zs.length : Int)] w fun e w' => e = .returned (.int .i64 (bitsLen zs.length : Nat)) ∧ w' = w := fun w => by
    have h := Tryz.bits_Len (zs.length : Int) w (by omega) (by omega)
    rwa [Int.toNat_natCast, bitLen_eq _ (by omega)] at h
  have hk : bitsLen zs.length ≤ 62 := (bitsLen_le_iff zs.length 62).2 (by omega)
  have hp := pdq_u (zs.length + 1) blk off cap zs.length 0 zs.length (bitsLen zs.length) zs.toArray w (by omega) (by simp) hH hblk (Nat.zero_le _) (Nat.le_refl _) hsz (by omega) (.inl rfl)
  have he : (pdq ltInt zs.toArray 0 zs.length (bitsLen zs.length) true true) = (zs.mergeSort fun x y => decide (x ≤ y)).toArray := by
    have h := sortInt zs
    have e : Sort.sort ltInt zs.toArray = pdq ltInt zs.toArray 0 zs.length (bitsLen zs.length) true true := by simp [Sort.sort]
    rw [← e, ← h]
  rw [he] at hp
  have HP := Lib.hid hp
  have HL := Lib.hid hLen
  clear hp hLen hH
  go_enter Tryz.func38, Tryz.ntmps38
  go_wp2_with fail
  refine (HL.out _).mono ?_
  rintro e w1 ⟨rfl, rfl⟩
  go_wp2_with fail
  refine HP.out.mono ?_
  rintro e w2 ⟨rfl, n, os, hw⟩
  go_wp2
  go_end0
  exact ⟨rfl, n, os, rfl⟩

theorem insertion_none (x : Option Addr) (cap : Nat) (w : World) :
    Calls Tryz.prog 72 #[.slice x 0 cap, .int .i64 0, .int .i64 0] w fun e w' => e = .returned (.tuple #[]) ∧ w' = w := by
  go_enter Tryz.func72, Tryz.ntmps72
  go_wp2
  go_loopw [6] (fun vi wr => vi = .int .i64 1 ∧ wr = w) (fun _ _ => 0)
  case atStart => exact ⟨rfl, rfl⟩
  case round =>
    obtain ⟨rfl, rfl⟩ := hrel
    go_wp2
    go_end0
    exact ⟨rfl, rfl⟩

theorem pdq_none (x : Option Addr) (cap : Nat) (w : World) :
    Calls Tryz.prog 61 #[.slice x 0 cap, .int .i64 0, .int .i64 0, .int .i64 0] w fun e w' => e = .returned (.tuple #[]) ∧ w' = w := by
  go_enter Tryz.func61, Tryz.ntmps61
  go_wp2
  go_loopw [1, 2, 3, 8, 9] (fun s1 s2 s3 s8 s9 wr => s1 = .int .i64 0 ∧ s2 = .int .i64 0 ∧ s3 = .int .i64 0 ∧ s8 = .bool true ∧ s9 = .bool true ∧ wr = w) (fun _ _ _ _ _ _ => 0)
  case atStart => exact ⟨rfl, rfl, rfl, rfl, rfl, rfl⟩
  case round =>
    obtain ⟨rfl, rfl, rfl, rfl, rfl, rfl⟩ := hrel
    go_wp2_with (go_at_call 72; refine (insertion_none _ _ _).mono ?_; rintro e w1 ⟨rfl, rfl⟩)
    (try simp only [Exit.inBlock, Exit.then]); refine bodyPost_ret (results_none rfl _ _ _) rfl ?_
    exact ⟨rfl, rfl⟩

theorem sort_none (x : Option Addr) (cap : Nat) (w : World) :
    Calls Tryz.prog 38 #[.slice x 0 cap] w fun e w' => e = .returned (.tuple #[]) ∧ w' = w := by
  have h : Calls Tryz.prog 62 #[.int .u64 0] w fun e w' => e = .returned (.int .i64 0) ∧ w' = w := Tryz.bits_Len 0 w (by omega) (by omega)
  have HL := Lib.hid h
  clear h
  go_enter Tryz.func38, Tryz.ntmps38
  go_wp2_with fail
  refine HL.out.mono ?_
  rintro e w1 ⟨rfl, rfl⟩
  go_wp2_with fail
  refine (pdq_none _ _ _).mono ?_
  rintro e w1 ⟨rfl, rfl⟩
  go_wp2
  go_end0
  exact ⟨rfl, rfl⟩

theorem holds_own {w : World} {g : Nat} {cur : Array Value} {e : TypeId} {ss : List Int} (hb : w.heap[g]? = some (.cells cur e (0, 0))) (ht : cur.toList.take ss.length = ss.map encU) : Holds encU w g 0 ss.toArray := by
  intro j hj
  have hj' : j < ss.length := by simpa using hj
  refine ⟨?_, by simp [World.frozen?, hb]⟩
  have h1 : (cur.toList.take ss.length)[j]? = (ss.map encU)[j]? := by rw [ht]
  rw [List.getElem?_take_of_lt hj'] at h1
  simp only [World.cell?, hb, Nat.zero_add]
  simp only [Option.isSome_none, Bool.false_eq_true, if_false]
  rw [← Array.getElem?_toList, h1]
  simp [hj']

theorem heap_put_row {w : World} {g n : Nat} {os : Array Obj} {cur : Array Value} {e : TypeId} {fr : Nat × Nat} (d : Array Int) (hb : w.heap[g]? = some (.cells cur e fr)) :
    (grow (putRow encU (Sort.ahead w n) g 0 d) os).heap[g]? = some (.cells (putCells encU 0 d cur) e fr) := by
  have hg : g < w.heap.size := (Array.getElem?_eq_some_iff.1 hb).1
  rw [heap_grow_old _ _ (by simpa using hg)]
  simp [putRow, mapBlock, Sort.ahead, Array.getElem?_modify, hb, onCells]

theorem grown_put_row {w : World} {g n : Nat} {os : Array Obj} (d : Array Int) : w.grownBy (grow (putRow encU (Sort.ahead w n) g 0 d) os) (some g) := by
  refine ⟨rfl, rfl, rfl, by simp, fun k hk hne => ?_⟩
  rw [heap_grow_old _ _ (by simpa using hk)]
  have : g ≠ k := fun e => hne (by rw [e])
  simp [putRow, mapBlock, Sort.ahead, Array.getElem?_modify, this]

theorem take_put (cur : Array Value) (ts : List Int) (h : ts.length ≤ cur.size) : (putCells encU 0 ts.toArray cur).toList.take ts.length = ts.map encU := by
  apply List.ext_getElem?
  intro k
  by_cases hk : k < ts.length
  · rw [List.getElem?_take_of_lt hk, Array.getElem?_toList]
    simp [putCells, show k < cur.size by omega, hk]
  · rw [List.getElem?_eq_none (by simp; omega), List.getElem?_eq_none (by simp; omega)]

/-- slices.Sort of a row of the caller's own: it is sorted then -/
theorem sort_own {w : World} {B : Nat} {v : Value} {ss : List Int} (h : w.ownsRow B 26 1 v ss.length (ss.map encU)) (hsz : ss.length < 1000000000) :
    Calls Tryz.prog 38 #[v] w fun e w' => e = .returned (.tuple #[]) ∧
      w'.ownsRow B 26 1 v ss.length ((ss.mergeSort fun x y => decide (x ≤ y)).map encU) ∧ w.grownBy w' v.ownBlock := by
  rcases h.2 with ⟨rfl, h0⟩ | ⟨g, cap, cur, rfl, hB, hg, r1, r2, r3, r4⟩
  · obtain rfl : ss = [] := List.eq_nil_of_length_eq_zero (by simpa using h0)
    refine (sort_none none 0 w).mono ?_
    rintro e w' ⟨rfl, rfl⟩
    exact ⟨rfl, by simpa using h, World.grownBy.refl _ _⟩
  · have hlt : g < w.heap.size := (Array.getElem?_eq_some_iff.1 hg).1
    refine (sort_u g 0 cap ss w (holds_own hg (by simpa using r4)) hlt (by omega)).mono ?_
    rintro e w' ⟨rfl, n, os, rfl⟩
    have hl : (ss.mergeSort fun x y => decide (x ≤ y)).length = ss.length := List.length_mergeSort _
    refine ⟨rfl, ⟨by simp [hl], .inr ⟨g, cap, _, rfl, hB, heap_put_row _ hg, r1, r2, by simp [putCells, r3], ?_⟩⟩, grown_put_row _⟩
    rw [Nat.mul_one, ← hl]
    exact take_put cur _ (by rw [hl]; omega)

end Go.Proofs.YtpbnjibomdilhaaGreatDoor.Gph

namespace Go.Proofs.YtpbnjibomdilhaaGreatDoor.Gph
open Go.RowKit Gr

theorem bel_drewN {B : Nat} {a w : World} (h : Below B a w) (n : Nat) : Below B a (w.drewN n) := ⟨h.os, h.tape, h.output, h.size, h.block⟩

theorem stays {w w' : World} {p : Addr} {v : Value} (hb : Below w.heap.size w w') (h : w.cell? p = some v) : w'.cell? p = some v := (hb.cell (World.block_lt_of_cell? w p h)).trans h
/-- a world that has only drawn -/
def Drew (w w' : World) : Prop := ∃ m, w' = w.drewN m
theorem Drew.refl (w : World) : Drew w w := ⟨0, by simp [World.drewN]⟩
theorem Drew.more {w wr : World} (h : Drew w wr) (n : Nat) : Drew w (wr.drewN n) := by
  obtain ⟨m, rfl⟩ := h
  exact ⟨m + n, by simp [World.drewN, Nat.add_assoc]⟩
theorem Drew.drew {w wr : World} (h : Drew w wr) : Drew w wr.drew := h.more 1
theorem Drew.trans {a b c : World} (h : Drew a b) (k : Drew b c) : Drew a c := by
  obtain ⟨m, rfl⟩ := k
  exact h.more m
theorem Drew.bel {w wr : World} (h : Drew w wr) : Below w.heap.size w wr := by
  obtain ⟨m, rfl⟩ := h
  exact bel_drewN (Below.refl _ _) m
theorem Drew.of_eq {w w' : World} (h : w' = w) : Drew w w' := by rw [h]; exact Drew.refl _

def U64 (x : Int) : Prop := 0 ≤ x ∧ x < 18446744073709551616
theorem wf_u {x : Int} (h : U64 x) : (Lit.int .u64 x).wf = true := by
  obtain ⟨h1, h2⟩ := h
  simp [Lit.wf, IntKind.min, IntKind.max, IntKind.signed, IntKind.bits]; omega
theorem of_wf_u {x : Int} (h : (Lit.int .u64 x).wf = true) : U64 x := by
  have hb : 0 ≤ x ∧ x ≤ 18446744073709551615 := by simpa [Lit.wf, IntKind.min, IntKind.max, IntKind.signed, IntKind.bits] using h
  exact ⟨hb.1, by omega⟩

/-- the numbers zs are read at a -/
structure NumsF (w : World) (a : Option Addr) (zs : List Int) : Prop where
  at_ : ∃ g q, (zs ≠ [] → a = some ⟨g, q, none⟩) ∧ ∀ i (h : i < zs.length), g < w.heap.size ∧ w.cell? ⟨g, q + i, none⟩ = some (.int .u64 zs[i])
  fit : ∀ x ∈ zs, U64 x
theorem NumsF.nil (w : World) (a : Option Addr) : NumsF w a [] := ⟨⟨0, 0, fun h => absurd rfl h, fun i h => absurd h (by simp)⟩, fun x hx => by cases hx⟩
theorem NumsF.below {w w' : World} {a : Option Addr} {zs : List Int} (h : NumsF w a zs) (hb : Below w.heap.size w w') : NumsF w' a zs := by
  obtain ⟨⟨g, q, h1, h2⟩, h3⟩ := h
  exact ⟨⟨g, q, h1, fun i hi => ⟨Nat.lt_of_lt_of_le (h2 i hi).1 hb.size, (hb.cell (p := ⟨g, q + i, none⟩) (h2 i hi).1).trans (h2 i hi).2⟩⟩, h3⟩
theorem NumsF.take {w : World} {a : Option Addr} {zs : List Int} (h : NumsF w a zs) (k : Nat) : NumsF w a (zs.take k) := by
  obtain ⟨⟨g, q, h1, h2⟩, h3⟩ := h
  refine ⟨⟨g, q, fun hne => h1 fun e => hne (by rw [e]; simp), fun i hi => ?_⟩, fun x hx => h3 x (List.mem_of_mem_take hx)⟩
  have hi2 : i < zs.length := by rw [List.length_take] at hi; omega
  rw [List.getElem_take]
  exact h2 i hi2

/-- a node as it is read: where its Deps lie -/
structure NodeV where
  id : Int
  da : Option Addr
  dc : Nat
  deps : List Int
instance : Inhabited NodeV := ⟨⟨0, none, 0, []⟩⟩
def encN (v : NodeV) : List Value := [.int .u64 v.id, .slice v.da v.deps.length v.dc]
def NodeV.node (v : NodeV) : Int × List Int := (v.id, v.deps)
def rowOf (l : List NodeV) : Row := l.map NodeV.node
theorem rowOf_len (l : List NodeV) : (rowOf l).length = l.length := by simp [rowOf]
theorem rowOf_ids (l : List NodeV) : ids (rowOf l) = l.map (·.id) := by simp [rowOf, ids, NodeV.node]
theorem rowOf_at {l : List NodeV} {i : Nat} (h : i < l.length) : (rowOf l)[i]'(by rw [rowOf_len]; exact h) = (l[i].id, l[i].deps) := by simp [rowOf, NodeV.node]

/-- a node's own part -/
structure NodeF (w : World) (v : NodeV) : Prop where
  id : U64 v.id
  deps : NumsF w v.da v.deps
  cap : v.deps.length ≤ v.dc
  big : v.dc ≤ maxLen
theorem NodeF.below {w w' : World} {v : NodeV} (h : NodeF w v) (hb : Below w.heap.size w w') : NodeF w' v := ⟨h.id, h.deps.below hb, h.cap, h.big⟩

/-- the nodes l are read at a -/
structure NodesF (w : World) (a : Option Addr) (l : List NodeV) : Prop where
  at_ : ∃ b q, (l ≠ [] → a = some ⟨b, q, none⟩) ∧ ∀ i (h : i < l.length), b < w.heap.size ∧ w.cell? ⟨b, q + i * 2, none⟩ = some (.int .u64 l[i].id) ∧ w.cell? ⟨b, q + i * 2 + 1, none⟩ = some (.slice l[i].da l[i].deps.length l[i].dc)
  each : ∀ v ∈ l, NodeF w v
theorem NodesF.nil (w : World) (a : Option Addr) : NodesF w a [] := ⟨⟨0, 0, fun h => absurd rfl h, fun i h => absurd h (by simp)⟩, fun x hx => by cases hx⟩
theorem NodesF.below {w w' : World} {a : Option Addr} {l : List NodeV} (h : NodesF w a l) (hb : Below w.heap.size w w') : NodesF w' a l := by
  obtain ⟨⟨b, q, h1, h2⟩, h3⟩ := h
  exact ⟨⟨b, q, h1, fun i hi => ⟨Nat.lt_of_lt_of_le (h2 i hi).1 hb.size, (hb.cell (p := ⟨b, q + i * 2, none⟩) (h2 i hi).1).trans (h2 i hi).2.1, (hb.cell (p := ⟨b, q + i * 2 + 1, none⟩) (h2 i hi).1).trans (h2 i hi).2.2⟩⟩, fun v hv => (h3 v hv).below hb⟩
theorem NodesF.take {w : World} {a : Option Addr} {l : List NodeV} (h : NodesF w a l) (k : Nat) : NodesF w a (l.take k) := by
  obtain ⟨⟨b, q, h1, h2⟩, h3⟩ := h
  refine ⟨⟨b, q, fun hne => h1 fun e => hne (by rw [e]; simp), fun i hi => ?_⟩, fun x hx => h3 x (List.mem_of_mem_take hx)⟩
  have hi2 : i < l.length := by rw [List.length_take] at hi; omega
  rw [List.getElem_take]
  exact h2 i hi2
theorem rowOf_take (l : List NodeV) (k : Nat) : rowOf (l.take k) = (rowOf l).take k := by simp [rowOf, List.map_take]

end Go.Proofs.YtpbnjibomdilhaaGreatDoor.Gph
