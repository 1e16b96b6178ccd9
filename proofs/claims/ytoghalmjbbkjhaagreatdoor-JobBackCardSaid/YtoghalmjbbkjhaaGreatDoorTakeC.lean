/- The closures of job.taken, by their contracts: numbers and texts, taken one behind the other, until something is amiss. -/
import Derived.Test.YtoghalmjbbkjhaaGreatDoorMag
import Derived.Test.YtoghalmjbbkjhaaGreatDoorMar
import Derived.Test.YtoghalmjbbkjhaaGreatDoorMai
namespace Go.Proofs.YtoghalmjbbkjhaaGreatDoor.Job
open Go.RowKit

/-- what is taken at a place (none: something was amiss): the number, and the next place -/
def tkN1 (most p : Nat) : Option (Nat × Nat) → Nat × Option Nat
  | none => (0, none)
  | some (v, k) => if v ≤ most then (v, some (p + k)) else (0, none)
def tkN (zs : List Int) (most : Nat) : Option Nat → Nat × Option Nat
  | none => (0, none)
  | some p => tkN1 most p (Num.dec 10 0 0 (zs.drop p))
/-- the text -/
def tkT1 (zs : List Int) (p : Nat) : Option (Nat × Nat) → ByteArray × Option Nat
  | none => (ByteArray.empty, none)
  | some (n, k) => if n ≤ 4096 ∧ p + k + n ≤ zs.length then (strOfNums ((zs.drop (p + k)).take n), some (p + k + n)) else (ByteArray.empty, none)
def tkT (zs : List Int) : Option Nat → ByteArray × Option Nat
  | none => (ByteArray.empty, none)
  | some p => tkT1 zs p (Num.dec 10 0 0 (zs.drop p))
/-- the whole number -/
def tkI1 (p : Nat) : Option (Nat × Nat) → Int × Option Nat
  | none => (0, none)
  | some (v, k) => (Num.unzig v, some (p + k))
def tkI (zs : List Int) : Option Nat → Int × Option Nat
  | none => (0, none)
  | some p => tkI1 p (Num.dec 10 0 0 (zs.drop p))
theorem tkN_le (zs : List Int) (most : Nat) (st : Option Nat) : (tkN zs most st).1 ≤ most := by
  cases st with
  | none => simp only [tkN]; exact Nat.zero_le _
  | some p =>
    simp only [tkN]
    cases Num.dec 10 0 0 (zs.drop p) with
    | none => simp only [tkN1]; exact Nat.zero_le _
    | some nk =>
      obtain ⟨v, k⟩ := nk
      simp only [tkN1]
      split
      · assumption
      · exact Nat.zero_le _

/-- all but the blocks N and E stands -/
structure Eff (N E : Nat) (w w' : World) : Prop where
  os : w'.os = w.os
  tape : w'.tape = w.tape
  output : w'.output = w.output
  size : w.heap.size ≤ w'.heap.size
  block : ∀ k, k < w.heap.size → k ≠ N → k ≠ E → w'.heap[k]? = w.heap[k]?
theorem Eff.refl (N E : Nat) (w : World) : Eff N E w w := ⟨rfl, rfl, rfl, Nat.le_refl _, fun _ _ _ _ => rfl⟩
theorem Eff.of {N E : Nat} {w w' : World} (h : Below w.heap.size w w') : Eff N E w w' := ⟨h.os, h.tape, h.output, h.size, fun k hk _ _ => h.block k hk⟩
theorem Eff.trans {N E : Nat} {a b c : World} (h : Eff N E a b) (g : Eff N E b c) : Eff N E a c :=
  ⟨g.os.trans h.os, g.tape.trans h.tape, g.output.trans h.output, Nat.le_trans h.size g.size, fun k hk h1 h2 => (g.block k (Nat.lt_of_lt_of_le hk h.size) h1 h2).trans (h.block k hk h1 h2)⟩
theorem Eff.setN {N E : Nat} {a b : World} (h : Eff N E a b) (v : Value) : Eff N E a (b.setCell ⟨N, 0, none⟩ v) :=
  ⟨h.os, h.tape, h.output, by rw [show (b.setCell ⟨N, 0, none⟩ v).heap.size = b.heap.size by simp [World.setCell]]; exact h.size, fun k hk h1 h2 => (Below.heap_setCell _ _ _ _ h1).trans (h.block k hk h1 h2)⟩
theorem Eff.setE {N E : Nat} {a b : World} (h : Eff N E a b) (v : Value) : Eff N E a (b.setCell ⟨E, 0, none⟩ v) :=
  ⟨h.os, h.tape, h.output, by rw [show (b.setCell ⟨E, 0, none⟩ v).heap.size = b.heap.size by simp [World.setCell]]; exact h.size, fun k hk h1 h2 => (Below.heap_setCell _ _ _ _ h2).trans (h.block k hk h1 h2)⟩

/-- the three cells that the closures share: the bytes (block B, made first), the next place (N), what is amiss (E) -/
structure Tk (w0 : World) (a : Option Addr) (len cap N E : Nat) (zs : List Int) (st : Option Nat) (W : World) : Prop where
  reads : Pk.Reads w0 a zs
  hz : len = zs.length
  hl : len ≤ 1000000000000
  hcap : len ≤ cap
  hcm : cap ≤ 9223372036854775807
  bel : Below w0.heap.size w0 W
  lt : w0.heap.size < N ∧ N < E
  box : W.heap[w0.heap.size]? = some (.cells #[.slice a len cap] 32 (0, 0))
  cells : match st with
    | some p => p ≤ len ∧ W.heap[N]? = some (.cells #[.int .i64 (p : Int)] 3 (0, 0)) ∧ W.heap[E]? = some (.cells #[.int .i64 0] 33 (0, 0))
    | none => ∃ n : Int, W.heap[N]? = some (.cells #[.int .i64 n] 3 (0, 0)) ∧ W.heap[E]? = some (.cells #[.int .i64 4] 33 (0, 0))
section
variable {w0 W W' : World} {a : Option Addr} {len cap N E : Nat} {zs : List Int} {st : Option Nat}
/-- it stands where these blocks do -/
theorem Tk.kept (h : Tk w0 a len cap N E zs st W) (hb : Below w0.heap.size w0 W') (h1 : W'.heap[w0.heap.size]? = W.heap[w0.heap.size]?) (h2 : W'.heap[N]? = W.heap[N]?) (h3 : W'.heap[E]? = W.heap[E]?) : Tk w0 a len cap N E zs st W' := by
  refine ⟨h.reads, h.hz, h.hl, h.hcap, h.hcm, hb, h.lt, h1.trans h.box, ?_⟩
  have hc := h.cells
  cases st with
  | none =>
    obtain ⟨n, c1, c2⟩ := hc
    exact ⟨n, h2.trans c1, h3.trans c2⟩
  | some p =>
    obtain ⟨c0, c1, c2⟩ := hc
    exact ⟨c0, h2.trans c1, h3.trans c2⟩
theorem Tk.ltE (h : Tk w0 a len cap N E zs st W) : E < W.heap.size := by
  have hc := h.cells
  cases st with
  | none =>
    obtain ⟨n, _, c2⟩ := hc
    exact (Array.getElem?_eq_some_iff.1 c2).1
  | some p =>
    obtain ⟨_, _, c2⟩ := hc
    exact (Array.getElem?_eq_some_iff.1 c2).1
theorem Tk.below (h : Tk w0 a len cap N E zs st W) (hb : Below W.heap.size W W') : Tk w0 a len cap N E zs st W' := by
  have h1 := h.ltE
  have h2 := h.lt
  exact h.kept (h.bel.trans (hb.mono h.bel.size)) (hb.block _ (by omega)) (hb.block _ (by omega)) (hb.block _ (by omega))
/-- another state, the cells N and E set -/
theorem Tk.some_ (h : Tk w0 a len cap N E zs st W) (e : Eff N E W W') {p : Nat} (hp : p ≤ len) (c1 : W'.heap[N]? = some (.cells #[.int .i64 (p : Int)] 3 (0, 0))) (c2 : W'.heap[E]? = some (.cells #[.int .i64 0] 33 (0, 0))) : Tk w0 a len cap N E zs (some p) W' := by
  have h1 := h.ltE
  have h2 := h.lt
  exact ⟨h.reads, h.hz, h.hl, h.hcap, h.hcm, ⟨e.os.trans h.bel.os, e.tape.trans h.bel.tape, e.output.trans h.bel.output, Nat.le_trans h.bel.size e.size, fun k hk => (e.block k (Nat.lt_of_lt_of_le hk h.bel.size) (by omega) (by omega)).trans (h.bel.block k hk)⟩, h.lt, (e.block _ (by omega) (by omega) (by omega)).trans h.box, hp, c1, c2⟩
theorem Tk.none_ (h : Tk w0 a len cap N E zs st W) (e : Eff N E W W') {n : Int} (c1 : W'.heap[N]? = some (.cells #[.int .i64 n] 3 (0, 0))) (c2 : W'.heap[E]? = some (.cells #[.int .i64 4] 33 (0, 0))) : Tk w0 a len cap N E zs none W' := by
  have h1 := h.ltE
  have h2 := h.lt
  exact ⟨h.reads, h.hz, h.hl, h.hcap, h.hcm, ⟨e.os.trans h.bel.os, e.tape.trans h.bel.tape, e.output.trans h.bel.output, Nat.le_trans h.bel.size e.size, fun k hk => (e.block k (Nat.lt_of_lt_of_le hk h.bel.size) (by omega) (by omega)).trans (h.bel.block k hk)⟩, h.lt, (e.block _ (by omega) (by omega) (by omega)).trans h.box, n, c1, c2⟩

/-- what stands behind the stores to N and E -/
theorem stored {W : World} {N E : Nat} {x y u v : Value} {s t : TypeId} (hne : N ≠ E) (c1 : W.heap[N]? = some (.cells #[x] s (0, 0))) (c2 : W.heap[E]? = some (.cells #[y] t (0, 0))) :
    ((W.setCell ⟨N, 0, none⟩ u).setCell ⟨E, 0, none⟩ v).heap[N]? = some (.cells #[u] s (0, 0)) ∧ ((W.setCell ⟨N, 0, none⟩ u).setCell ⟨E, 0, none⟩ v).heap[E]? = some (.cells #[v] t (0, 0)) := by
  exact ⟨(Below.heap_setCell _ _ _ _ hne).trans (one_setCell c1), one_setCell (v := y) ((Below.heap_setCell _ _ _ _ (Ne.symm hne)).trans c2)⟩

set_option maxRecDepth 100000 in
set_option maxHeartbeats 2000000 in
theorem takeN_any (most : Nat) (h : Tk w0 a len cap N E zs st W) :
    Calls Tryz.prog 52 #[.int .u64 (most : Int), .pointer (some ⟨E, 0, none⟩), .pointer (some ⟨w0.heap.size, 0, none⟩), .pointer (some ⟨N, 0, none⟩)] W fun e W' =>
      e = .returned (.int .u64 ((tkN zs most st).1 : Int)) ∧ Tk w0 a len cap N E zs (tkN zs most st).2 W' ∧ Eff N E W W' := by
  have H := Lib.hid h
  have hlt := h.lt
  have cb := cell_of_one h.box
  cases st with
  | none =>
    obtain ⟨n, c1, c2⟩ := h.cells
    have d2 := cell_of_one c2
    have hd : decide ((most : Int) < 0) = false := by simp
    clear h c1 c2
    go_enter Tryz.func52, Tryz.ntmps52
    go_wp2_with fail
    go_ret
    exact ⟨rfl, H.out, Eff.refl _ _ _⟩
  | some p =>
    obtain ⟨hp, c1, c2⟩ := h.cells
    have d1 := cell_of_one c1
    have d2 := cell_of_one c2
    have HT := Lib.hid (Pk.take_any a len cap p zs W (h.reads.below h.bel) h.hz (by have := h.hl; omega) hp)
    have HLT := Lib.hid (fun n j hh => Num.dec_lt 10 0 0 (zs.drop p) n j (by omega) (by simp) (fun x hx => h.reads.hr x (List.mem_of_mem_drop hx)) hh)
    have HZ := Lib.hid h.hz
    have HC1 := Lib.hid c1
    have HC2 := Lib.hid c2
    have HHL := Lib.hid h.hl
    obtain ⟨B, hB⟩ : ∃ B, B = w0.heap.size := ⟨_, rfl⟩
    rw [← hB] at hlt cb ⊢
    clear h c1 c2 hB
    obtain ⟨D, hD⟩ : ∃ D, D = Num.dec 10 0 0 (zs.drop p) := ⟨_, rfl⟩
    have HR : Hid (tkN zs most (some p) = tkN1 most p D) := Lib.hid (by rw [hD]; rfl)
    rw [← hD] at HT HLT
    clear hD
    go_enter Tryz.func52, Tryz.ntmps52
    go_wp2_with fail
    refine HT.out.mono ?_
    intro e w1 ht
    clear HT
    cases D with
    | none =>
      obtain ⟨rfl, hb⟩ := ht
      have HB := Lib.hid hb
      have hE := H.out.ltE
      have hEN : E ≠ N := by omega
      have x1 := (hb.block N (by omega)).trans HC1.out
      have x2 := (hb.block E hE).trans HC2.out
      have f1 := free_of_one x1
      have g1 := cell_of_one x1
      have f2 : (w1.setCell ⟨N, 0, none⟩ (.int .i64 0)).frozen? ⟨E, 0, none⟩ = false := free_of_one ((Below.heap_setCell _ _ _ _ hEN).trans x2)
      have g2 : (w1.setCell ⟨N, 0, none⟩ (.int .i64 0)).cell? ⟨E, 0, none⟩ = some (.int .i64 0) := cell_of_one ((Below.heap_setCell _ _ _ _ hEN).trans x2)
      obtain ⟨y1, y2⟩ := stored (u := .int .i64 0) (v := .int .i64 4) (by omega) x1 x2
      have d3 := cell_of_one y2
      have HY1 := Lib.hid y1
      have HY2 := Lib.hid y2
      clear hb x1 x2 y1 y2 hp hE HLT
      have hd : decide ((most : Int) < 0) = false := by simp
      go_wp2_with fail
      go_ret
      rw [HR.out]
      have he : Eff N E W ((w1.setCell ⟨N, 0, none⟩ (.int .i64 0)).setCell ⟨E, 0, none⟩ (.int .i64 4)) := ((Eff.of HB.out).setN _).setE _
      exact ⟨rfl, H.out.none_ he HY1.out HY2.out, he⟩
    | some nk =>
      obtain ⟨v, k⟩ := nk
      obtain ⟨rfl, hb⟩ := ht
      obtain ⟨hv, hk0, hk⟩ := HLT.out v k rfl
      have hpk : p + k ≤ len := by rw [List.length_drop] at hk; have := HZ.out; omega
      obtain ⟨q, hq⟩ : ∃ q : Nat, q = p + k := ⟨_, rfl⟩
      have hqc : (p : Int) + (k : Int) = (q : Int) := by omega
      rw [hqc]
      have HB := Lib.hid hb
      have hE := H.out.ltE
      have hEN : E ≠ N := by omega
      have x1 := (hb.block N (by omega)).trans HC1.out
      have x2 := (hb.block E hE).trans HC2.out
      have f1 := free_of_one x1
      have g1 := cell_of_one x1
      have f2 : (w1.setCell ⟨N, 0, none⟩ (.int .i64 (q : Int))).frozen? ⟨E, 0, none⟩ = false := free_of_one ((Below.heap_setCell _ _ _ _ hEN).trans x2)
      have g2 : (w1.setCell ⟨N, 0, none⟩ (.int .i64 (q : Int))).cell? ⟨E, 0, none⟩ = some (.int .i64 0) := cell_of_one ((Below.heap_setCell _ _ _ _ hEN).trans x2)
      obtain ⟨y1, y2⟩ := stored (u := .int .i64 (q : Int)) (v := .int .i64 0) (by omega) x1 x2
      have d3 := cell_of_one y2
      have f3 := free_of_one y2
      have HY1 := Lib.hid y1
      have HY2 := Lib.hid y2
      have HQ := Lib.hid hq
      have HPK := Lib.hid hpk
      have z1 := one_setCell (u := .int .i64 4) y2
      have z0 : (((w1.setCell ⟨N, 0, none⟩ (.int .i64 (q : Int))).setCell ⟨E, 0, none⟩ (.int .i64 0)).setCell ⟨E, 0, none⟩ (.int .i64 4)).heap[N]? = _ := (Below.heap_setCell _ _ _ _ (Ne.symm hEN)).trans y1
      have d4 := cell_of_one z1
      have HZ0 := Lib.hid z0
      have HZ1 := Lib.hid z1
      clear hb x1 x2 y1 y2 hp hE HLT hk0 hk hq hpk hqc z0 z1
      have he : Eff N E W ((w1.setCell ⟨N, 0, none⟩ (.int .i64 (q : Int))).setCell ⟨E, 0, none⟩ (.int .i64 0)) := ((Eff.of HB.out).setN _).setE _
      have HE := Lib.hid he
      clear he
      by_cases hvm : v ≤ most
      · have hd : decide ((most : Int) < (v : Int)) = false := by simp; omega
        have hd2 : ¬ (most : Int) < (v : Int) := by omega
        go_wp2_with fail
        go_ret
        rw [HR.out]
        simp only [tkN1, if_pos hvm]
        rw [← HQ.out]
        exact ⟨rfl, H.out.some_ HE.out (by rw [HQ.out]; exact HPK.out) HY1.out HY2.out, HE.out⟩
      · have hd : decide ((most : Int) < (v : Int)) = true := by simp; omega
        have hd2 : (most : Int) < (v : Int) := by omega
        go_wp2_with fail
        go_ret
        rw [HR.out]
        simp only [tkN1, if_neg hvm]
        exact ⟨rfl, H.out.none_ (HE.out.setE _) HZ0.out HZ1.out, HE.out.setE _⟩

set_option maxRecDepth 100000 in
set_option maxHeartbeats 2000000 in
theorem takeT_any (h : Tk w0 a len cap N E zs st W) :
    Calls Tryz.prog 54 #[.pointer (some ⟨E, 0, none⟩), .pointer (some ⟨w0.heap.size, 0, none⟩), .pointer (some ⟨N, 0, none⟩)] W fun e W' =>
      e = .returned (.string (tkT zs st).1) ∧ Tk w0 a len cap N E zs (tkT zs st).2 W' ∧ Eff N E W W' := by
  have H := Lib.hid h
  have hlt := h.lt
  have cb := cell_of_one h.box
  cases st with
  | none =>
    obtain ⟨n, c1, c2⟩ := h.cells
    have d2 := cell_of_one c2
    clear h c1 c2
    go_enter Tryz.func54, Tryz.ntmps54
    go_wp2_with fail
    go_ret
    exact ⟨rfl, H.out, Eff.refl _ _ _⟩
  | some p =>
    obtain ⟨hp, c1, c2⟩ := h.cells
    have d1 := cell_of_one c1
    have d2 := cell_of_one c2
    have HT := Lib.hid (Pk.takeText_any a len cap p zs W (h.reads.below h.bel) h.hz (by have := h.hl; omega) hp h.hcap h.hcm)
    have HZ := Lib.hid h.hz
    have HC1 := Lib.hid c1
    have HC2 := Lib.hid c2
    obtain ⟨B, hB⟩ : ∃ B, B = w0.heap.size := ⟨_, rfl⟩
    rw [← hB] at hlt cb ⊢
    clear h c1 c2 hB
    obtain ⟨D, hD⟩ : ∃ D, D = Num.dec 10 0 0 (zs.drop p) := ⟨_, rfl⟩
    have HR : Hid (tkT zs (some p) = tkT1 zs p D) := Lib.hid (by rw [hD]; rfl)
    rw [← hD] at HT
    clear hD
    have hE := H.out.ltE
    -- what is told: a text and a place, or that something is amiss
    have HALL : Hid (∀ e w1, Pk.TookText W w1 len p zs e D → Below W.heap.size W w1 ∧ ((∃ (t : ByteArray) (q : Nat), e = .returned (.tuple #[.string t, .int .i64 (q : Int), .int .i64 0]) ∧ q ≤ len ∧ tkT zs (some p) = (t, some q)) ∨ (e = .returned (.tuple #[.string ByteArray.empty, .int .i64 0, .int .i64 4]) ∧ tkT zs (some p) = (ByteArray.empty, none)))) := Lib.hid (by
      intro e w1 ht
      cases D with
      | none => exact ⟨ht.2, .inr ⟨ht.1, HR.out⟩⟩
      | some nk =>
        obtain ⟨n, k⟩ := nk
        obtain ⟨hb, ht⟩ := ht
        by_cases hc : n ≤ 4096 ∧ p + k + n ≤ len
        · rw [if_pos hc] at ht
          refine ⟨hb, .inl ⟨_, p + k + n, by rw [ht, Int.natCast_add, Int.natCast_add], hc.2, ?_⟩⟩
          rw [HR.out]
          simp only [tkT1]
          rw [if_pos (by rw [← HZ.out]; exact hc)]
        · rw [if_neg hc] at ht
          refine ⟨hb, .inr ⟨ht, ?_⟩⟩
          rw [HR.out]
          simp only [tkT1]
          rw [if_neg (by rw [← HZ.out]; exact hc)])
    clear HR
    go_enter Tryz.func54, Tryz.ntmps54
    go_wp2_with fail
    refine HT.out.mono ?_
    intro e w1 ht
    obtain ⟨hb, ht⟩ := HALL.out e w1 ht
    clear HT HALL
    have HB := Lib.hid hb
    have hEN : E ≠ N := by omega
    have x1 := (hb.block N (by omega)).trans HC1.out
    have x2 := (hb.block E hE).trans HC2.out
    have f1 := free_of_one x1
    have g1 := cell_of_one x1
    rcases ht with ⟨t, q, rfl, hq, hr⟩ | ⟨rfl, hr⟩
    · have f2 : (w1.setCell ⟨N, 0, none⟩ (.int .i64 (q : Int))).frozen? ⟨E, 0, none⟩ = false := free_of_one ((Below.heap_setCell _ _ _ _ hEN).trans x2)
      have g2 : (w1.setCell ⟨N, 0, none⟩ (.int .i64 (q : Int))).cell? ⟨E, 0, none⟩ = some (.int .i64 0) := cell_of_one ((Below.heap_setCell _ _ _ _ hEN).trans x2)
      obtain ⟨y1, y2⟩ := stored (u := .int .i64 (q : Int)) (v := .int .i64 0) (by omega) x1 x2
      have HY1 := Lib.hid y1
      have HY2 := Lib.hid y2
      have HR := Lib.hid hr
      have HQ := Lib.hid hq
      clear hb x1 x2 y1 y2 hp hE hr hq
      have he : Eff N E W ((w1.setCell ⟨N, 0, none⟩ (.int .i64 (q : Int))).setCell ⟨E, 0, none⟩ (.int .i64 0)) := ((Eff.of HB.out).setN _).setE _
      have HE := Lib.hid he
      clear he
      go_wp2_with fail
      go_ret
      rw [HR.out]
      exact ⟨rfl, H.out.some_ HE.out HQ.out HY1.out HY2.out, HE.out⟩
    · have f2 : (w1.setCell ⟨N, 0, none⟩ (.int .i64 0)).frozen? ⟨E, 0, none⟩ = false := free_of_one ((Below.heap_setCell _ _ _ _ hEN).trans x2)
      have g2 : (w1.setCell ⟨N, 0, none⟩ (.int .i64 0)).cell? ⟨E, 0, none⟩ = some (.int .i64 0) := cell_of_one ((Below.heap_setCell _ _ _ _ hEN).trans x2)
      obtain ⟨y1, y2⟩ := stored (u := .int .i64 0) (v := .int .i64 4) (by omega) x1 x2
      have HY1 := Lib.hid y1
      have HY2 := Lib.hid y2
      have HR := Lib.hid hr
      clear hb x1 x2 y1 y2 hp hE hr
      have he : Eff N E W ((w1.setCell ⟨N, 0, none⟩ (.int .i64 0)).setCell ⟨E, 0, none⟩ (.int .i64 4)) := ((Eff.of HB.out).setN _).setE _
      have HE := Lib.hid he
      clear he
      go_wp2_with fail
      go_ret
      rw [HR.out]
      exact ⟨rfl, H.out.none_ HE.out HY1.out HY2.out, HE.out⟩
end

/-- what TakeInt tells -/
def TookI (w w' : World) (p : Nat) (e : Ending) : Option (Nat × Nat) → Prop
  | none => e = .returned (.tuple #[.int .i64 0, .int .i64 0, .int .i64 4]) ∧ Below w.heap.size w w'
  | some (n, k) => e = .returned (.tuple #[.int .i64 (Num.unzig n), .int .i64 ((p : Int) + (k : Int)), .int .i64 0]) ∧ Below w.heap.size w w'
set_option maxRecDepth 100000 in
set_option maxHeartbeats 1000000 in
theorem takeI_any (a : Option Addr) (len cap p : Nat) (zs : List Int) (w : World) (hlies : Pk.Reads w a zs) (hz : len = zs.length) (hl : len ≤ 9223372036854775806) (hp : p ≤ len) :
    Calls Tryz.prog 56 #[.slice a len cap, .int .i64 (p : Int)] w fun e w' => TookI w w' p e (Num.dec 10 0 0 (zs.drop p)) := by
  have hlt := fun n j h => Num.dec_lt 10 0 0 (zs.drop p) n j (by omega) (by simp) (fun x hx => hlies.hr x (List.mem_of_mem_drop hx)) h
  have HT := Lib.hid (Pk.take_any a len cap p zs w hlies hz hl hp)
  have HLT := Lib.hid hlt
  clear hlt hlies hz
  obtain ⟨D, hD⟩ : ∃ D, D = Num.dec 10 0 0 (zs.drop p) := ⟨_, rfl⟩
  rw [← hD] at HT HLT ⊢
  clear hD
  go_enter Tryz.func56, Tryz.ntmps56
  go_wp2_with fail
  refine HT.out.mono ?_
  intro e w1 ht
  clear HT
  cases D with
  | none =>
    obtain ⟨rfl, hb⟩ := ht
    have h0 : bits .and .u64 0 1 = 0 := by decide
    go_wp2_with fail
    go_ret3
    exact ⟨rfl, hb⟩
  | some nk =>
    obtain ⟨n, k⟩ := nk
    obtain ⟨rfl, hb⟩ := ht
    have hn := (HLT.out n k rfl).1
    have h0 := Num.and1 n hn
    by_cases hpar : n % 2 = 0
    · have he : Num.unzig n = (n : Int) / 2 := by simp [Num.unzig, hpar]
      have HE := Lib.hid he
      have hp2 : (n : Int) % 2 = 0 := by omega
      clear he
      go_wp2_with fail
      go_ret3
      exact ⟨by rw [HE.out]; rfl, hb⟩
    · have he : Num.unzig n = -((n : Int) / 2) - 1 := by simp [Num.unzig, hpar]
      have HE := Lib.hid he
      have hp2 : (n : Int) % 2 = 1 := by omega
      clear he
      go_wp2_with fail
      go_ret3
      exact ⟨by rw [HE.out]; rfl, hb⟩
end Go.Proofs.YtoghalmjbbkjhaaGreatDoor.Job
