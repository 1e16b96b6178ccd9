/- The disk's small functions, by their contracts: bytes.Clone, refusal, now. -/
import Derived.Test.YtchmipeehhbniaaDisk
import Derived.Test.YtchmipeehhbniaaRowReads
import Derived.Test.YtchmipeehhbniaaShelf
import Derived.WalkKit
import Derived.Laws.Cover3
import Derived.Lib.Hide
namespace Go.Proofs.Ytchmipeehhbniaa
open Go.RowKit Go.Maps Dsk

/-- bytes.Clone of bytes that are read: a row of the call's own -/
theorem clone_reads (a : Option Addr) (len cap : Nat) (zs : List Int) (w : World) (hz : len = zs.length) (hp : Reads w a zs) (hl : zs.length ≤ 1048577) (hn : a = none → cap = 0) :
    Calls Try.prog 21 #[.slice a len cap] w fun e w' => ∃ v, e = .returned v ∧ Row w' w.heap.size zs v ∧ Below w.heap.size w w' := by
  subst hz
  cases a with
  | some x =>
    refine (Try.bytes_Clone_at x zs.length cap zs w rfl (by omega) (fun i hi => hp.at hi)).mono ?_
    rintro e w' ⟨v, rfl, h1, _, h2⟩
    exact ⟨v, rfl, h1, h2⟩
  | none =>
    obtain rfl := hn rfl
    have hzs : zs = [] := by
      cases zs with
      | nil => rfl
      | cons z zs =>
        obtain ⟨x, hx, _⟩ := hp.cell 0 (by simp)
        cases hx
    subst hzs
    refine (Try.bytes_Clone_nil _ _ w).mono ?_
    rintro e w' ⟨rfl, rfl⟩
    exact ⟨_, rfl, World.ownsRow_nil _ _ _ _, Below.refl _ _⟩

theorem clone_row {B : Nat} (v : Value) (zs : List Int) (w : World) (h : Row w B zs v) (hr : ∀ x ∈ zs, 0 ≤ x ∧ x ≤ 255) (hl : zs.length ≤ 1048577) :
    Calls Try.prog 21 #[v] w fun e w' => ∃ v', e = .returned v' ∧ Row w' w.heap.size zs v' ∧ Below w.heap.size w w' := by
  obtain ⟨a, cap, rfl, h1, h2, h3⟩ := h.reads hr (by omega)
  refine clone_reads a _ cap zs w rfl h1 hl fun ha => ?_
  subst ha
  rcases h.2 with ⟨hv, _⟩ | ⟨g, c, cur, hv, _⟩
  · injection hv
  · cases hv

theorem DiskIn.cell {w : World} {B : Nat} {o : Tags} {g b N : Nat} {D : DataW Value} {M : Files} {l : Option Name} (h : DiskIn w B o g b D M N l) : w.cell? ⟨g, 0, none⟩ = some (.map (some b)) := by
  rw [cell_of_row w g 0 _ _ _ h.blk]; rfl

theorem map_nil (w : World) (x : Option Nat) : (binOp .eql 25 (.map x) (.map none)).run Try.prog w = .ok (.bool x.isNone) w := by
  simp only [binOp]
  simp [run_equal_map_nil w 25 9 47 x Try.underlying25]

theorem refusal_ok (g b : Nat) (l : Name) (w : World) (hc : w.cell? ⟨g, 0, none⟩ = some (.map (some b))) (h1 : 1 ≤ l.length) (h2 : l.length ≤ 64) :
    Calls Try.prog 22 #[.pointer (some ⟨g, 0, none⟩), .string ⟨l.toArray⟩] w fun e w' => e = .returned (.int .i64 0) ∧ w = w' := by
  have hne : l ≠ [] := fun e => by rw [e] at h1; simp at h1
  have hem : l.isEmpty = false := by cases l <;> simp_all
  have hd : decide (64 < (l.length : Int)) = false := by simp; omega
  clear h1 h2
  have hm := map_nil w (some b)
  simp only [Option.isNone_some] at hm
  go_enter Try.func22, Try.ntmps22
  go_wp2
  go_ret
  exact ⟨rfl, rfl⟩

theorem refusal_nil (x : Value) (w : World) :
    Calls Try.prog 22 #[.pointer none, x] w fun e w' => e = .returned (.int .i64 1) ∧ w = w' := by
  go_enter Try.func22, Try.ntmps22
  go_wp2
  go_ret
  exact ⟨rfl, rfl⟩

theorem refusal_zero (g : Nat) (x : Value) (w : World) (hc : w.cell? ⟨g, 0, none⟩ = some (.map none)) :
    Calls Try.prog 22 #[.pointer (some ⟨g, 0, none⟩), x] w fun e w' => e = .returned (.int .i64 1) ∧ w = w' := by
  have hm := map_nil w none
  simp only [Option.isNone_none] at hm
  go_enter Try.func22, Try.ntmps22
  go_wp2
  go_ret
  exact ⟨rfl, rfl⟩

/-- &f.sure -/
theorem now_sure (fb : Nat) (a : Option Addr) (cap : Nat) (w : World) (hc : w.cell? ⟨fb, 3, none⟩ = some (.slice a 0 cap)) :
    Calls Try.prog 20 #[.pointer (some ⟨fb, 0, none⟩)] w fun e w' => e = .returned (.pointer (some ⟨fb, 0, none⟩)) ∧ w = w' := by
  go_enter Try.func20, Try.ntmps20
  go_wp2
  go_ret
  exact ⟨rfl, rfl⟩

/-- &f.later[n-1] -/
theorem now_later (fb gl n cap : Nat) (w : World) (hn : n + 1 ≤ 1000000000) (hc : w.cell? ⟨fb, 3, none⟩ = some (.slice (some ⟨gl, 0, none⟩) (n + 1) cap)) :
    Calls Try.prog 20 #[.pointer (some ⟨fb, 0, none⟩)] w fun e w' => e = .returned (.pointer (some ⟨gl, n * 3, none⟩)) ∧ w = w' := by
  go_enter Try.func20, Try.ntmps20
  go_wp2
  go_ret
  exact ⟨rfl, rfl⟩

end Go.Proofs.Ytchmipeehhbniaa
