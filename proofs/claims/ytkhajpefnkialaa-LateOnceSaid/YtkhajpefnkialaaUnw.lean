/- unwanted (and its closure), by their contracts: of a lot that may be. -/
import Derived.Test.YtkhajpefnkialaaMayL
namespace Go.Proofs.Ytkhajpefnkialaa.Job
open Go.RowKit

/-- how many stand ahead of the first that is not so -/
def lates (p : Int → Bool) : List Int → Nat
  | [] => 0
  | x :: r => if p x then lates p r + 1 else 0
theorem lates_le (p : Int → Bool) : ∀ xs : List Int, lates p xs ≤ xs.length
  | [] => Nat.le_refl _
  | x :: r => by
    rw [lates]
    split
    · have := lates_le p r; simp; omega
    · exact Nat.zero_le _
theorem lates_yes (p : Int → Bool) : ∀ (xs : List Int) (i : Nat) (h : i < xs.length), i < lates p xs → p xs[i] = true
  | [], i, h, _ => absurd h (by simp)
  | x :: r, i, h, hl => by
    rw [lates] at hl
    split at hl
    · rename_i hp
      match i, h with
      | 0, _ => exact hp
      | i + 1, h => exact lates_yes p r i (by simpa using h) (by omega)
    · omega
theorem lates_no (p : Int → Bool) : ∀ (xs : List Int) (h : lates p xs < xs.length), p xs[lates p xs] = false
  | [], h => absurd h (by simp)
  | x :: r, h => by
    by_cases hp : p x = true
    · have e : lates p (x :: r) = lates p r + 1 := by rw [lates, if_pos hp]
      have h2 : lates p r < r.length := by rw [e] at h; simpa using h
      have := lates_no p r h2
      simp only [e, List.getElem_cons_succ]
      exact this
    · have e : lates p (x :: r) = 0 := by rw [lates, if_neg hp]
      simp only [e, List.getElem_cons_zero]
      simpa using hp
/-- is it too late? -/
def Lt.late (l : Lt) (x : Int) : Bool := decide (l.gra < l.now - x)
/-- from which place on they are skipped -/
def Lt.frm (l : Lt) : Nat := if l.pol = 3 then 0 else l.ds.length
/-- how many of them, whatever room there is -/
def Lt.cnt (l : Lt) : Nat := if l.pol = 1 then lates l.late l.cs else if l.pol = 3 then l.ds.length + l.cs.length - 1 else 0

set_option maxRecDepth 100000 in
theorem late1_any {w : World} {B : Nat} {l : Lt} (hb : w.heap[B]? = some (lobj l)) {x : Int} (h0 : 0 ≤ l.now) (h1 : l.now < 13569465600) (h2 : 0 ≤ x) (h3 : x ≤ 9223372036854775807) :
    Calls Try.prog 12 #[.int .i64 x, .pointer (some ⟨B, 0, none⟩)] w fun e w' => e = .returned (.bool (l.late x)) ∧ w' = w := by
  obtain ⟨⟨c0, c1, c2⟩, c3, c4, c5⟩ := lobj_cells hb
  unfold Lt.late
  obtain ⟨pol, gra, now, da, dc, ds, ca, cc, cs, room⟩ := l
  dsimp only at *
  have g1 : -13569465600 ≤ now - x + 9223372036854775808 := by omega
  have g2 : now - x < 13569465600 := by omega
  have g3 : -9223372036854775808 ≤ now - x := by omega
  go_enter Try.func12, Try.ntmps12
  go_wp2_with fail
  go_ret
  exact ⟨rfl, rfl⟩

set_option maxRecDepth 100000 in
set_option maxHeartbeats 4000000 in
theorem unwanted_any {w : World} {l : Lt} (hl : LtF w l) (hp : 1 ≤ l.pol ∧ l.pol ≤ 3) (hn : 0 ≤ l.now ∧ l.now < 13569465600) (hd : l.ds.length ≤ 64) (hc : l.cs.length ≤ 64) (h0 : ∀ x ∈ l.cs, 0 ≤ x ∧ x ≤ 9223372036854775807) :
    Calls Try.prog 10 #[l.val] w fun e w' => e = .returned (.tuple #[.int .i64 (l.frm : Int), .int .i64 (l.cnt : Int)]) ∧ Below w.heap.size w w' := by
  obtain ⟨wa, hwa⟩ : ∃ W, W = w.alloc (.cells l.cells 24) := ⟨_, rfl⟩
  have HBX := Lib.hid (show wa.heap[w.heap.size]? = some (lobj l) by rw [hwa]; exact heap_alloc_new w _)
  have HBA := Lib.hid (show Below w.heap.size w wa by rw [hwa]; exact (Below.refl _ _).alloc (Nat.le_refl _) _)
  have HC1 := Lib.hid (fun wr (h : Drew wa wr) x (hx : x ∈ l.cs) => late1_any (B := w.heap.size) ((h.bel.block _ (Array.getElem?_eq_some_iff.1 HBX.out).1).trans HBX.out) hn.1 hn.2 (h0 x hx).1 (h0 x hx).2)
  have HLF := Lib.hid (hl.below HBA.out)
  have HFR := Lib.hid (show l.frm = if l.pol = 3 then 0 else l.ds.length from rfl)
  have HCN := Lib.hid (show l.cnt = if l.pol = 1 then lates l.late l.cs else if l.pol = 3 then l.ds.length + l.cs.length - 1 else 0 from rfl)
  have HLL := Lib.hid (lates_le l.late l.cs)
  have HYES := Lib.hid (lates_yes l.late l.cs)
  have HNO := Lib.hid (lates_no l.late l.cs)
  generalize l.frm = fr at *
  generalize l.cnt = cn at *
  generalize lates l.late l.cs = la at *
  clear hl h0 hn
  unfold lobj Lt.val Lt.cells lcells at *
  have HWA := Lib.hid hwa
  clear hwa
  obtain ⟨⟨c0, c1, c2⟩, c3, c4, c5⟩ := lobj_cells (l := l) HBX.out
  by_cases p1 : l.pol = 1
  · rw [p1] at c0 HWA HFR HCN ⊢
    rw [if_neg (by decide)] at HFR
    rw [if_pos rfl] at HCN
    clear hp p1
    go_enter Try.func10, Try.ntmps10
    go_wp2_with fail
    rw [← HWA.out]
    go_loopw [3] (fun v3 wr => ∃ n : Nat, v3 = .int .i64 (n : Int) ∧ n ≤ la ∧ Drew wa wr) (fun v3 _ => la - (intOf v3).toNat)
    case atStart => exact ⟨0, rfl, Nat.zero_le _, Drew.refl _⟩
    case round =>
      obtain ⟨n, rfl, hn, hdr⟩ := hrel
      have HDR := Lib.hid hdr
      obtain ⟨⟨b0, b1, b2⟩, b3, b4, b5⟩ := lobj_cells (l := l) ((hdr.bel.block _ (Array.getElem?_eq_some_iff.1 HBX.out).1).trans HBX.out)
      by_cases hlt : n < l.cs.length
      · have d1 : decide ((n : Int) < (l.cs.length : Int)) = true := by simp; omega
        obtain ⟨⟨g, q, h1, h2⟩, -⟩ := HLF.out.come
        have ea := h1 (by intro e; have := congrArg List.length e; rw [List.length_map, List.length_nil] at this; unfold Lt.come at this; dsimp only at this; omega)
        obtain ⟨hg, hc0⟩ := h2 n (by rw [List.length_map]; exact hlt)
        rw [List.getElem_map] at hc0
        have hc2 := (hdr.bel.cell (p := ⟨g, q + n, none⟩) hg).trans hc0
        unfold Lt.come at ea hc2
        dsimp only at ea hc2
        rw [ea] at b4
        clear ea
        have hmem : l.cs[n] ∈ l.cs := List.getElem_mem hlt
        have hyes := HYES.out n hlt
        have hno := fun (e : n = la) => (show l.late l.cs[n] = false from by subst e; exact HNO.out hlt)
        obtain ⟨x, hx⟩ : ∃ x, l.cs[n] = x := ⟨_, rfl⟩
        rw [hx] at hc2 hmem hyes hno
        unfold iv at hc2
        have HC2 := Lib.hid (HC1.out _ hdr x hmem)
        have hb0 : (0 : Int) ≤ n := by omega
        have hb1 : (n : Int) < 64 := by omega
        by_cases hla : n < la
        · rw [hyes hla] at HC2
          have HLA := Lib.hid hla
          clear hyes hno hmem hx hdr h1 h2 hc0 hg hla hn
          go_wp2_with fail
          refine HC2.out.mono ?_
          rintro e w1 ⟨rfl, rfl⟩
          go_wp2_with fail
          go_roundw
          case rel => exact ⟨n + 1, by go_num, by have := HLA.out; omega, HDR.out⟩
          case measure => have := HLA.out; simp [intOf]; omega
        · have hna : n = la := by omega
          rw [hno hna] at HC2
          have HNA := Lib.hid hna
          clear hyes hno hmem hx hdr h1 h2 hc0 hg hla hn hna
          go_wp2_with fail
          refine HC2.out.mono ?_
          rintro e w1 ⟨rfl, rfl⟩
          go_wp2_with fail
          go_ret2
          exact ⟨by rw [HCN.out, HFR.out, ← HNA.out]; rfl, HBA.out.trans (HDR.out.bel.mono HBA.out.size)⟩
      · have d1 : decide ((n : Int) < (l.cs.length : Int)) = false := by simp; omega
        have HNA := Lib.hid (show n = la by have := HLL.out; omega)
        clear hdr hn
        go_wp2_with fail
        go_ret2
        exact ⟨by rw [HCN.out, HFR.out, ← HNA.out]; rfl, HBA.out.trans (HDR.out.bel.mono HBA.out.size)⟩
  · by_cases p2 : l.pol = 2
    · rw [p2] at c0 HWA HFR HCN ⊢
      rw [if_neg (by decide)] at HFR
      rw [if_neg (by decide), if_neg (by decide)] at HCN
      clear hp p1 p2
      go_enter Try.func10, Try.ntmps10
      go_wp2_with fail
      rw [← HWA.out]
      go_ret2
      exact ⟨by rw [HCN.out, HFR.out]; rfl, HBA.out⟩
    · have p3 : l.pol = 3 := by omega
      rw [p3] at c0 HWA HFR HCN ⊢
      rw [if_pos rfl] at HFR
      rw [if_neg (by decide), if_pos rfl] at HCN
      clear hp p1 p2 p3
      go_enter Try.func10, Try.ntmps10
      go_wp2_with fail
      all_goals
        rw [← HWA.out]
        go_ret2
        refine ⟨?_, HBA.out⟩
        rw [HCN.out, HFR.out]
        simp
        omega
end Go.Proofs.Ytkhajpefnkialaa.Job
