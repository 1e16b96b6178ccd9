/- Rows of numbers and of nodes that are read. -/
import Derived.Test.YthbaldjdfehhlaaGraphM
import Derived.WalkKit
import Derived.Lib.Hide
import Derived.OneCell
import Derived.IntWalk
import Derived.Laws.Rows
import Derived.Deep.AppendLies
import Derived.DataElems
import Derived.BigQuiet
import Derived.Tactics2
import Derived.Deep.RegionHeld3
namespace Go.Proofs.Ythbaldjdfehhlaa
open Go.RowKit Gr

theorem bel_drewN {B : Nat} {a w : World} (h : Below B a w) (n : Nat) : Below B a (w.drewN n) := ⟨h.os, h.tape, h.output, h.size, h.block⟩

theorem stays {w w' : World} {p : Addr} {v : Value} (hb : Below w.heap.size w w') (h : w.cell? p = some v) : w'.cell? p = some v := (hb.cell (World.block_lt_of_cell? w p h)).trans h
/-- a world that has only drawn -/
def Drew (w w' : World) : Prop := ∃ m, w' = w.drewN m
theorem Drew.refl (w : World) : Drew w w := ⟨0, by simp [World.drewN]⟩
theorem Drew.more {w wr : World} (h : Drew w wr) (n : Nat) : Drew w (wr.drewN n) := by
  obtain ⟨m, rfl⟩ := h
  exact ⟨m + n, by simp [World.drewN, Nat.add_assoc]⟩
theorem Drew.drew {w wr : World} (h : Drew w wr) : Drew w wr.drew := h.more 1
theorem Drew.trans {a b c : World} (h : Drew a b) (k : Drew b c) : Drew a c := by
  obtain ⟨m, rfl⟩ := k
  exact h.more m
theorem Drew.bel {w wr : World} (h : Drew w wr) : Below w.heap.size w wr := by
  obtain ⟨m, rfl⟩ := h
  exact bel_drewN (Below.refl _ _) m
theorem Drew.of_eq {w w' : World} (h : w' = w) : Drew w w' := by rw [h]; exact Drew.refl _

def U64 (x : Int) : Prop := 0 ≤ x ∧ x < 18446744073709551616
theorem wf_u {x : Int} (h : U64 x) : (Lit.int .u64 x).wf = true := by
  obtain ⟨h1, h2⟩ := h
  simp [Lit.wf, IntKind.min, IntKind.max, IntKind.signed, IntKind.bits]; omega
theorem of_wf_u {x : Int} (h : (Lit.int .u64 x).wf = true) : U64 x := by
  have hb : 0 ≤ x ∧ x ≤ 18446744073709551615 := by simpa [Lit.wf, IntKind.min, IntKind.max, IntKind.signed, IntKind.bits] using h
  exact ⟨hb.1, by omega⟩

/-- the numbers zs are read at a -/
structure NumsF (w : World) (a : Option Addr) (zs : List Int) : Prop where
  at_ : ∃ g q, (zs ≠ [] → a = some ⟨g, q, none⟩) ∧ ∀ i (h : i < zs.length), g < w.heap.size ∧ w.cell? ⟨g, q + i, none⟩ = some (.int .u64 zs[i])
  fit : ∀ x ∈ zs, U64 x
theorem NumsF.nil (w : World) (a : Option Addr) : NumsF w a [] := ⟨⟨0, 0, fun h => absurd rfl h, fun i h => absurd h (by simp)⟩, fun x hx => by cases hx⟩
theorem NumsF.below {w w' : World} {a : Option Addr} {zs : List Int} (h : NumsF w a zs) (hb : Below w.heap.size w w') : NumsF w' a zs := by
  obtain ⟨⟨g, q, h1, h2⟩, h3⟩ := h
  exact ⟨⟨g, q, h1, fun i hi => ⟨Nat.lt_of_lt_of_le (h2 i hi).1 hb.size, (hb.cell (p := ⟨g, q + i, none⟩) (h2 i hi).1).trans (h2 i hi).2⟩⟩, h3⟩
theorem NumsF.take {w : World} {a : Option Addr} {zs : List Int} (h : NumsF w a zs) (k : Nat) : NumsF w a (zs.take k) := by
  obtain ⟨⟨g, q, h1, h2⟩, h3⟩ := h
  refine ⟨⟨g, q, fun hne => h1 fun e => hne (by rw [e]; simp), fun i hi => ?_⟩, fun x hx => h3 x (List.mem_of_mem_take hx)⟩
  have hi2 : i < zs.length := by rw [List.length_take] at hi; omega
  rw [List.getElem_take]
  exact h2 i hi2

/-- a node as it is read: where its Deps lie -/
structure NodeV where
  id : Int
  da : Option Addr
  dc : Nat
  deps : List Int
instance : Inhabited NodeV := ⟨⟨0, none, 0, []⟩⟩
def encN (v : NodeV) : List Value := [.int .u64 v.id, .slice v.da v.deps.length v.dc]
def NodeV.node (v : NodeV) : Int × List Int := (v.id, v.deps)
def rowOf (l : List NodeV) : Row := l.map NodeV.node
theorem rowOf_len (l : List NodeV) : (rowOf l).length = l.length := by simp [rowOf]
theorem rowOf_ids (l : List NodeV) : ids (rowOf l) = l.map (·.id) := by simp [rowOf, ids, NodeV.node]
theorem rowOf_at {l : List NodeV} {i : Nat} (h : i < l.length) : (rowOf l)[i]'(by rw [rowOf_len]; exact h) = (l[i].id, l[i].deps) := by simp [rowOf, NodeV.node]

/-- a node's own part -/
structure NodeF (w : World) (v : NodeV) : Prop where
  id : U64 v.id
  deps : NumsF w v.da v.deps
  cap : v.deps.length ≤ v.dc
  big : v.dc ≤ maxLen
theorem NodeF.below {w w' : World} {v : NodeV} (h : NodeF w v) (hb : Below w.heap.size w w') : NodeF w' v := ⟨h.id, h.deps.below hb, h.cap, h.big⟩

/-- the nodes l are read at a -/
structure NodesF (w : World) (a : Option Addr) (l : List NodeV) : Prop where
  at_ : ∃ b q, (l ≠ [] → a = some ⟨b, q, none⟩) ∧ ∀ i (h : i < l.length), b < w.heap.size ∧ w.cell? ⟨b, q + i * 2, none⟩ = some (.int .u64 l[i].id) ∧ w.cell? ⟨b, q + i * 2 + 1, none⟩ = some (.slice l[i].da l[i].deps.length l[i].dc)
  each : ∀ v ∈ l, NodeF w v
theorem NodesF.nil (w : World) (a : Option Addr) : NodesF w a [] := ⟨⟨0, 0, fun h => absurd rfl h, fun i h => absurd h (by simp)⟩, fun x hx => by cases hx⟩
theorem NodesF.below {w w' : World} {a : Option Addr} {l : List NodeV} (h : NodesF w a l) (hb : Below w.heap.size w w') : NodesF w' a l := by
  obtain ⟨⟨b, q, h1, h2⟩, h3⟩ := h
  exact ⟨⟨b, q, h1, fun i hi => ⟨Nat.lt_of_lt_of_le (h2 i hi).1 hb.size, (hb.cell (p := ⟨b, q + i * 2, none⟩) (h2 i hi).1).trans (h2 i hi).2.1, (hb.cell (p := ⟨b, q + i * 2 + 1, none⟩) (h2 i hi).1).trans (h2 i hi).2.2⟩⟩, fun v hv => (h3 v hv).below hb⟩
theorem NodesF.take {w : World} {a : Option Addr} {l : List NodeV} (h : NodesF w a l) (k : Nat) : NodesF w a (l.take k) := by
  obtain ⟨⟨b, q, h1, h2⟩, h3⟩ := h
  refine ⟨⟨b, q, fun hne => h1 fun e => hne (by rw [e]; simp), fun i hi => ?_⟩, fun x hx => h3 x (List.mem_of_mem_take hx)⟩
  have hi2 : i < l.length := by rw [List.length_take] at hi; omega
  rw [List.getElem_take]
  exact h2 i hi2
theorem rowOf_take (l : List NodeV) (k : Nat) : rowOf (l.take k) = (rowOf l).take k := by simp [rowOf, List.map_take]

end Go.Proofs.Ythbaldjdfehhlaa
