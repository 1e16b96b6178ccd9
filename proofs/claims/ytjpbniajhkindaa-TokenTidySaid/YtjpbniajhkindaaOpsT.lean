/- The steps that come in. -/
import Derived.Test.YtjpbniajhkindaaBkB
import Derived.IntWalk
namespace Go.Proofs.Ytjpbniajhkindaa
open Go.RowKit Go.Maps Go.Sort Dsk Tok

theorem bel_drewN {B : Nat} {a w : World} (h : Below B a w) (n : Nat) : Below B a (w.drewN n) := ⟨h.os, h.tape, h.output, h.size, h.block⟩

/-- a step that came in -/
structure OpV where
  kind : Int
  job : Nat
  token : Nat
  sa : Option Addr
  sc : Nat
  ss : List Int
  ba : Option Addr
  bl : Nat
  bc : Nat
/-- the steps that came in -/
structure OpsF (w : World) (a : Option Addr) (l : List OpV) : Prop where
  cell : ∀ i (h : i < l.length), ∃ b q, a = some ⟨b, q, none⟩ ∧ b < w.heap.size ∧ w.cell? ⟨b, q + i * 5, none⟩ = some (.int .i64 l[i].kind) ∧ w.cell? ⟨b, q + i * 5 + 1, none⟩ = some (.int .u64 (l[i].job : Int)) ∧ w.cell? ⟨b, q + i * 5 + 2, none⟩ = some (.int .u64 (l[i].token : Int)) ∧
    w.cell? ⟨b, q + i * 5 + 3, none⟩ = some (.slice l[i].sa l[i].ss.length l[i].sc) ∧ w.cell? ⟨b, q + i * 5 + 4, none⟩ = some (.slice l[i].ba l[i].bl l[i].bc)
  fit : ∀ o ∈ l, o.job < top64 ∧ o.token < top64 ∧ -9223372036854775808 ≤ o.kind ∧ o.kind ≤ 9223372036854775807
  stay : ∀ o ∈ l, (∀ k (h : k < o.ss.length), ∃ gs of, o.sa = some ⟨gs, of, none⟩ ∧ gs < w.heap.size ∧ w.cell? ⟨gs, of + k, none⟩ = some (.int .i64 o.ss[k])) ∧ ∀ x ∈ o.ss, -9223372036854775808 ≤ x ∧ x ≤ 9223372036854775807


end Go.Proofs.Ytjpbniajhkindaa
