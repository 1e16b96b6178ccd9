/- frame.Scan, by its contract: all records of a file, and how many bytes are good. -/
import Derived.Test.YtjpbniajhkindaaAllIn
import Derived.Maps.AppendAt
namespace Go.Proofs.Ytjpbniajhkindaa
open Go.RowKit Go.Shelf
attribute [local go_sem] Oper.semAt_some

theorem infoSl : (Try.prog.info? 33).map (fun i => (i.zero, i.size, i.bytes)) = some (some (.slice none 0 0), 1, 24) := by kernel_rfl

def lastOf (xs : List Rec) : Nat := ((xs.getLast?).map Rec.at_).getD 0
theorem lastOf_snoc (xs : List Rec) (x : Rec) : lastOf (xs ++ [x]) = x.at_ := by simp [lastOf]

theorem Goes.last {bs : List Int} {xs : List Rec} {k : Nat} (h : Goes bs xs k) : (xs = [] ∧ k = 0 ∧ lastOf xs = 0) ∨ ∃ zs m, Frame.firstOf (bs.drop (lastOf xs)) = some (zs, m) ∧ k = lastOf xs + m := by
  cases h with
  | start => exact .inl ⟨rfl, rfl, rfl⟩
  | @next pre x m k h0 h1 h2 => exact .inr ⟨x.zs, m, by rw [lastOf_snoc, h2]; exact h1, by rw [lastOf_snoc, h2]⟩

theorem own_less {w : World} {B B' : Nat} {e : TypeId} {size : Nat} {v : Value} {n : Nat} {xs : List Value} (h : w.ownsRow B e size v n xs) (hB : B' ≤ B) : w.ownsRow B' e size v n xs := by
  refine ⟨h.1, ?_⟩
  rcases h.2 with hn | ⟨g, cap, cur, rfl, hb, rest⟩
  · exact .inl hn
  · exact .inr ⟨g, cap, cur, rfl, by omega, rest⟩

theorem own_same {w w' : World} {B : Nat} {e : TypeId} {size : Nat} {v : Value} {n : Nat} {xs : List Value} (h : w.ownsRow B e size v n xs) (hs : ∀ g cs fr, B ≤ g → w.heap[g]? = some (.cells cs e fr) → w'.heap[g]? = w.heap[g]?) : w'.ownsRow B e size v n xs := by
  refine ⟨h.1, ?_⟩
  rcases h.2 with hn | ⟨g, cap, cur, rfl, hb, hg, rest⟩
  · exact .inl hn
  · exact .inr ⟨g, cap, cur, rfl, hb, (hs g _ _ hb hg).trans hg, rest⟩

/-- what Scan tells -/
structure Scanned (bs : List Int) (w w' : World) (xs : List Rec) (v : Value) (good : Nat) : Prop where
  row : w'.ownsRow w.heap.size 33 1 v xs.length (xs.map Rec.val)
  here : ∀ x ∈ xs, Here w' x.g x.zs ∧ w.heap.size ≤ x.g ∧ x.zs.length ≤ x.c
  scans : Frame.Scans bs (xs.map Rec.zs) good
  below : Below w.heap.size w w'

/-- the body: what a round keeps -/
theorem scan_kept {W w1 : World} {n1 R0 R1 Bn : Nat} {v v' : Value} {k : Nat} {xs : List Value} {tmp : Obj} (hrow : W.ownsRow n1 33 1 v k xs) (hgrow : (W.alloc tmp).grownBy w1 v.ownBlock) (hBn : Bn < n1) (h0 : R0 ≠ Bn) (h1 : R1 ≠ Bn) (u0 u1 u1' : Value)
    (hb0 : Boxed W R0 99 u0) (hb1 : Boxed W R1 3 u1) :
    KeepB Bn W ((w1.setCell ⟨R0, 0, none⟩ v').setCell ⟨R1, 0, none⟩ u1') := by
  have hsz : W.heap.size ≤ w1.heap.size := by have := hgrow.size; simp at this; omega
  refine ⟨?_, fun j cs t fr hj ht => ?_⟩
  · have a1 := (KeepsOthers.setCell w1 ⟨R0, 0, none⟩ v').size
    have a2 := (KeepsOthers.setCell (w1.setCell ⟨R0, 0, none⟩ v') ⟨R1, 0, none⟩ u1').size
    omega
  · have hlt := lt_of_block hj
    have n0 : j ≠ R0 := by
      rintro rfl
      rw [show W.heap[j]? = _ from hb0] at hj
      simp at hj
      rcases ht with rfl | rfl
      · simp at hj
      · exact h0 rfl
    have n1' : j ≠ R1 := by
      rintro rfl
      rw [show W.heap[j]? = _ from hb1] at hj
      simp at hj
      rcases ht with rfl | rfl
      · simp at hj
      · exact h1 rfl
    have nv : some j ≠ v.ownBlock := by
      rcases hrow.2 with ⟨rfl, _⟩ | ⟨g, cap, cur, rfl, hb, hgb, _⟩
      · simp [Value.ownBlock]
      · intro e
        obtain rfl : j = g := by simpa [Value.ownBlock] using e
        rcases ht with rfl | rfl
        · rw [hgb] at hj; simp at hj
        · omega
    rw [Below.heap_setCell _ _ _ _ (show j ≠ R1 from n1'), Below.heap_setCell _ _ _ _ (show j ≠ R0 from n0), hgrow.block j (by simp; omega) nv, Below.heap_alloc _ _ _ hlt]

theorem first_more (a : Option Addr) (len cap : Nat) (bs : List Int) (w : World) (hz : len = bs.length) (hp : Reads w a bs) (hl : len ≤ 9223372036854775806) (hcap : len ≤ cap) (hcm : cap ≤ 9223372036854775807) (last k : Nat)
    (h : (Frame.firstOf bs = none ∧ k = last) ∨ ∃ zs m, Frame.firstOf bs = some (zs, m) ∧ k = last + m) :
    Calls Try.prog 30 #[.slice a len cap] w fun e w' => ∃ v0 ok, ∃ m : Nat, e = .returned (.tuple #[v0, .int .i64 (m : Int), .bool ok]) ∧ k = last + m ∧ Below w.heap.size w w' := by
  refine (first_any a len cap bs w hz hp hl hcap hcm).mono ?_
  intro e w' he
  rcases h with ⟨h1, h2⟩ | ⟨zs, m, h1, h2⟩
  · rw [h1] at he
    exact ⟨_, _, 0, he.1, h2, he.2⟩
  · rw [h1] at he
    obtain ⟨g, c, he, _, _, _, hb⟩ := he
    exact ⟨_, _, m, he, h2, hb⟩

end Go.Proofs.Ytjpbniajhkindaa
