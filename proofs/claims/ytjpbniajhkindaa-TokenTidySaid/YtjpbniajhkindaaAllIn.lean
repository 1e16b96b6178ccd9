/- frame.All's iterator, by its contract: it tells the records of a file, frame by frame, until a round says 'no more'. -/
import Derived.Test.YtjpbniajhkindaaAll
namespace Go.Proofs.Ytjpbniajhkindaa
open Go.RowKit Go.Shelf
attribute [local go_sem] Oper.semAt_some

/-- a record that was told: where its frame begins, the block of its bytes, that block's room, the bytes -/
structure Rec where
  at_ : Nat
  g : Nat
  c : Nat
  zs : List Int

def Rec.val (x : Rec) : Value := .slice (some ⟨x.g, 0, none⟩) x.zs.length x.c
def Rec.encs (x : Rec) : Array Value := #[.int .i64 (x.at_ : Int), .slice (some ⟨x.g, 0, none⟩) x.zs.length x.c]

/-- the records, as far as they were told: k bytes were gone over -/
inductive Goes (bs : List Int) : List Rec → Nat → Prop
  | start : Goes bs [] 0
  | next {pre x m k} : Goes bs pre k → Frame.firstOf (bs.drop k) = some (x.zs, m) → x.at_ = k → Goes bs (pre ++ [x]) (k + m)

theorem Goes.one {bs : List Int} {pre : List Rec} {k k' : Nat} (h : Goes bs pre k) (h' : Goes bs pre k') : k = k' := by
  induction h generalizing k' with
  | start =>
    generalize hl : ([] : List Rec) = l at h'
    cases h' with
    | start => rfl
    | next => simp at hl
  | @next pre x m k h0 h1 h2 ih =>
    generalize hl : pre ++ [x] = l at h'
    cases h' with
    | start => simp at hl
    | @next pre' x' m' k'' h0' h1' h2' =>
      obtain ⟨rfl, hx⟩ := List.append_inj' hl rfl
      simp only [List.cons.injEq, and_true] at hx
      subst hx
      obtain rfl := ih h0'
      rw [h1] at h1'
      simp only [Option.some.injEq, Prod.mk.injEq] at h1'
      rw [h1'.2]

theorem Goes.le {bs : List Int} {pre : List Rec} {k : Nat} (hr : ∀ x ∈ bs, 0 ≤ x ∧ x ≤ 255) (h : Goes bs pre k) : k ≤ bs.length ∧ 6 * pre.length ≤ k := by
  induction h with
  | start => simp
  | @next pre x m k h0 h1 h2 ih =>
    obtain ⟨_, h3, _, h4⟩ := Frame.first_is (fun y hy => hr y (List.mem_of_mem_drop hy)) h1
    rw [Frame.frame_len] at h3
    have := Num.put_len x.zs.length
    rw [List.length_drop] at h4
    rw [List.length_append, List.length_singleton]
    omega

theorem Goes.scans {bs : List Int} {pre : List Rec} {k : Nat} (h : Goes bs pre k) : ∀ {l : List (List Int)} {g : Nat}, Frame.Scans (bs.drop k) l g → Frame.Scans bs (pre.map Rec.zs ++ l) (k + g) := by
  induction h with
  | start => intro l g hs; simpa using hs
  | @next pre x m k h0 h1 h2 ih =>
    intro l g hs
    have h3 := ih (.more h1 (by rw [List.drop_drop]; exact hs))
    rw [List.map_append, List.append_assoc, Nat.add_assoc]
    exact h3

/-- what is told of memory: each record's bytes stand in a block from B on -/
def Told3 (bs : List Int) (B : Nat) (pre : List Rec) (W : World) : Prop := (∃ k, Goes bs pre k) ∧ ∀ x ∈ pre, Here W x.g x.zs ∧ B ≤ x.g ∧ x.zs.length ≤ x.c

/-- what a round keeps: bytes, and the block Bn -/
structure KeepB (Bn : Nat) (W W' : World) : Prop where
  size : W.heap.size ≤ W'.heap.size
  same : ∀ (k : Nat) (cs : Array Value) (t : TypeId) (fr : Nat × Nat), W.heap[k]? = some (.cells cs t fr) → (t = 5 ∨ k = Bn) → W'.heap[k]? = W.heap[k]?

theorem KeepB.refl (Bn : Nat) (W : World) : KeepB Bn W W := ⟨Nat.le_refl _, fun _ _ _ _ _ _ => rfl⟩
theorem KeepB.trans {Bn : Nat} {A B C : World} (h : KeepB Bn A B) (k : KeepB Bn B C) : KeepB Bn A C :=
  ⟨Nat.le_trans h.size k.size, fun i cs t fr hi ht => (k.same i cs t fr ((h.same i cs t fr hi ht).trans hi) ht).trans (h.same i cs t fr hi ht)⟩
theorem KeepB.other {Bn : Nat} (W : World) (l : Nat) (o o' : Obj) (h : W.heap[l]? = some o) (ho : o.isCells = false) : KeepB Bn W (W.putObj l o') :=
  ⟨by simp, fun k cs t fr hk _ => World.putObj_heap_other (fun e => by subst e; rw [h] at hk; cases hk; cases ho)⟩
theorem KeepB.below {Bn : Nat} {W W' : World} (h : Below W.heap.size W W') : KeepB Bn W W' :=
  ⟨h.size, fun k _ _ _ hk _ => h.block k (lt_of_block hk)⟩

theorem Here.keep {W W' : World} {g : Nat} {zs : List Int} {Bn : Nat} (h : Here W g zs) (hk : KeepB Bn W W') : Here W' g zs := by
  obtain ⟨cs, fr, hg, _⟩ := h.blk
  exact h.other (hk.same g cs _ fr hg (.inl rfl))
theorem HereA.keep {W W' : World} {a : Option Addr} {zs : List Int} {Bn : Nat} (h : HereA W a zs) (hk : KeepB Bn W W') : HereA W' a zs := by
  rcases h with ⟨rfl, rfl⟩ | ⟨g, rfl, h⟩
  · exact .inl ⟨rfl, rfl⟩
  · exact .inr ⟨g, rfl, h.keep hk⟩
theorem boxed_keep {W W' : World} {Bn : Nat} {t : TypeId} {v : Value} (h : Boxed W Bn t v) (hk : KeepB Bn W W') : Boxed W' Bn t v :=
  (hk.same Bn _ _ _ h (.inr rfl)).trans h
theorem Told3.keep {bs : List Int} {B : Nat} {pre : List Rec} {W W' : World} {Bn : Nat} (h : Told3 bs B pre W) (hk : KeepB Bn W W') : Told3 bs B pre W' :=
  ⟨h.1, fun x hx => ⟨(h.2 x hx).1.keep hk, (h.2 x hx).2⟩⟩
theorem Told3.own (bs : List Int) (B B' : Nat) : OwnFrom B' (Told3 bs B) := fun s A W row hs hg hr => ⟨hs.1, fun x hx => ⟨by
  have h := (hs.2 x hx).1
  obtain ⟨cs, fr, hb, _⟩ := h.blk
  exact h.other (grownBy_keeps_cells hg (fun r e => (hr r e).2) hb rfl), (hs.2 x hx).2⟩⟩

theorem below_grows {W W' : World} (h : Below W.heap.size W W') : W.grownBy W' none := ⟨h.os, h.tape, h.output, h.size, fun k hk _ => h.block k hk⟩

end Go.Proofs.Ytjpbniajhkindaa
