/- An expression held against none at all. cron.Parse, by its contract. A job as it lies in memory; what is wrong with it; its bytes: plain mathematics. -/
import Derived.Test.YtpbnjibomdilhaaGreatDoorMaf
import Derived.ChangeKeysEq
import Derived.Test.YtpbnjibomdilhaaGreatDoorMag
namespace Go.Proofs.YtpbnjibomdilhaaGreatDoor
open Go.RowKit

theorem infoF : ∃ i, Tryz.prog.info? 99 = some i := by
  have h : (Tryz.prog.info? 99).isSome = true := by kernel_rfl
  exact Option.isSome_iff_exists.1 h
theorem cellsF : Tryz.prog.cellsOf 99 = 2 := by kernel_rfl
theorem eq_other (b : Nat → Nat) (s : Nat → Bool) (h : b 0 ≠ 0) (W : World) : (Op.equalIn 10000 101 (.agg (xcells b s)) (.agg zeroX)).run Tryz.prog W = .ok false W := by
  obtain ⟨i, hi⟩ := infoF
  rw [show (10000 : Nat) = 9999 + 1 from rfl, run_equalIn_array W 9999 _ _ Tryz.underlying101 hi, cellsF]
  have g0 : (((b 0 : Nat) : Int) == 0) = false := by simp; exact h
  rw [show List.range 5 = [0, 1, 2, 3, 4] from rfl]
  unfold xcells
  simp [Op.eqItems, go_sem, g0]
theorem eq_none (W : World) : (Op.equalIn 10000 101 (.agg zeroX) (.agg zeroX)).run Tryz.prog W = .ok true W := by
  obtain ⟨i, hi⟩ := infoF
  rw [show (10000 : Nat) = 9999 + 1 from rfl, run_equalIn_array W 9999 _ _ Tryz.underlying101 hi, cellsF]
  rw [show List.range 5 = [0, 1, 2, 3, 4] from rfl]
  simp [Op.eqItems, go_sem]
end Go.Proofs.YtpbnjibomdilhaaGreatDoor

namespace Go.Proofs.YtpbnjibomdilhaaGreatDoor
open Go.RowKit

namespace Cron
theorem p_long {l : List UInt8} (h : 400 < l.length) : pErr l = 3 ∧ pB l = (fun _ => 0) ∧ pS l = (fun _ => false) := by
  refine ⟨?_, ?_, ?_⟩
  · unfold pErr; rw [if_pos h]
  · funext k; unfold pB; rw [if_pos h]
  · funext k; unfold pS; rw [if_pos h]
theorem p_plain {l : List UInt8} (h : ¬ 400 < l.length) (hp : Lib.hasPrefix l [64] = false) : pErr l = spErr l ∧ pB l = spB l ∧ pS l = spS l := by
  refine ⟨?_, ?_, ?_⟩
  · unfold pErr; rw [if_neg h, if_neg (by rw [hp]; decide)]
  · funext k; unfold pB; rw [if_neg h, if_neg (by rw [hp]; decide)]
  · funext k; unfold pS; rw [if_neg h, if_neg (by rw [hp]; decide)]
theorem p_name {l : List UInt8} (h : ¬ 400 < l.length) (hp : Lib.hasPrefix l [64] = true) : pErr l = (if nameOf l = none then 70 else 0) ∧ pB l = nmB l ∧ pS l = nmS l := by
  refine ⟨?_, ?_, ?_⟩
  · unfold pErr; rw [if_neg h, if_pos hp]
  · funext k; unfold pB; rw [if_neg h, if_pos hp]
  · funext k; unfold pS; rw [if_neg h, if_pos hp]
end Cron

/-- what Parse tells -/
def pres7 (b : Nat → Nat) (s : Nat → Bool) (e : Nat) : Value := .tuple #[xval b s, .int .i64 (e : Int)]
set_option maxRecDepth 100000 in
set_option maxHeartbeats 4000000 in
theorem parseX_any (s : ByteArray) (w : World) (hw : TabsOn w) (hn : NamesOn w) : Calls Tryz.prog 63 #[.string s] w fun e w' => e = .returned (pres7 (Cron.pB s.data.toList) (Cron.pS s.data.toList) (Cron.pErr s.data.toList)) ∧ Below w.heap.size w w' := by
  have o : OwnX w w.heap.size (fun _ => 0) (fun _ => false) (w.alloc (.cells zeroX 101)) := OwnX.new w (fun _ => 0) (fun _ => false)
  have O := Lib.hid o
  have HW := Lib.hid hw
  have HN := Lib.hid hn
  have hsz : s.size = s.data.toList.length := Lib.size_eq s
  clear hw hn
  by_cases hl : 400 < s.data.toList.length
  · obtain ⟨e1, e2, e3⟩ := Cron.p_long hl
    rw [e1, e2, e3]
    have gl : decide ((400 : Int) < (s.size : Int)) = true := by simp; omega
    clear e1 e2 e3 hl hsz
    clear o
    go_enter Tryz.func63, Tryz.ntmps63
    go_wp2_with fail
    have hbF := O.out.bel
    have hrF := O.out.row
    clear O
    change bodyPost _ _ _ _ _ (w.alloc (.cells zeroX 101))
    generalize w.alloc (.cells zeroX 101) = WF at *
    obtain ⟨c0, c1, c2, c3, c4, c5, c6, c7, c8, c9⟩ := xobj_cells hrF
    refine bodyPost_ret (v := .tuple #[xval (fun _ => 0) (fun _ => false), .int .i64 3]) (by simp [results, Tryz.results63, go_sem, c0, c1, c2, c3, c4, c5, c6, c7, c8, c9, xval, xcells]) rfl ⟨rfl, hbF⟩
  · have gl : decide ((400 : Int) < (s.size : Int)) = false := by simp; omega
    have h4 : s.size ≤ 400 := by omega
    cases hp : Lib.hasPrefix s.data.toList [64]
    · obtain ⟨e1, e2, e3⟩ := Cron.p_plain hl hp
      rw [e1, e2, e3]
      have SPL := fun W hW => spelled_any s h4 W hW
      have HPF := Lib.hid hp
      clear e1 e2 e3 hl hsz h4 o hp
      generalize Cron.spB s.data.toList = B at *
      generalize Cron.spS s.data.toList = S at *
      generalize Cron.spErr s.data.toList = E at *
      unfold pres7
      unfold xval xcells at SPL
      have SPL2 := Lib.hid SPL
      clear SPL
      go_enter Tryz.func63, Tryz.ntmps63
      go_wp2_with fail
      with_reducible refine (Tryz.strings_HasPrefix _ _ _).mono ?_
      rintro e w1 ⟨rfl, rfl⟩
      rw [show (ByteArray.mk #[64]).data.toList = [64] from rfl, HPF.out]
      go_wp2_with fail
      with_reducible refine (SPL2.out _ (HW.out.next O.out.bel)).mono ?_
      rintro e w1 ⟨rfl, hb1⟩
      have O1 := Lib.hid (O.out.below hb1)
      clear hb1 O SPL2
      obtain ⟨c0, c1, c2, c3, c4, c5, c6, c7, c8, c9⟩ := xobj_cells O1.out.row
      have f := fun j => row_free O1.out.row j
      go_wp2_with fail
      change bodyPost _ _ _ _ _ (putX _ w.heap.size B S)
      have hbF := putX_below (b := B) (s := S) O1.out.bel (Nat.le_refl w.heap.size)
      have hrF := putX_row (b := B) (s := S) O1.out.row
      clear c0 c1 c2 c3 c4 c5 c6 c7 c8 c9 f
      generalize putX _ w.heap.size B S = WF at *
      obtain ⟨c0, c1, c2, c3, c4, c5, c6, c7, c8, c9⟩ := xobj_cells hrF
      refine bodyPost_ret (v := .tuple #[xval B S, .int .i64 (E : Int)]) (by simp [results, Tryz.results63, go_sem, c0, c1, c2, c3, c4, c5, c6, c7, c8, c9, xval, xcells]) rfl ⟨rfl, hbF⟩
    · obtain ⟨e1, e2, e3⟩ := Cron.p_name hl hp
      rw [e1, e2, e3]
      have NMD := fun W hW hN => named_any s W hW hN
      have HPF := Lib.hid hp
      clear e1 e2 e3 hl hsz h4 o hp
      cases hno : Cron.nameOf s.data.toList with
      | none =>
        rw [if_pos rfl]
        obtain ⟨e1, e2⟩ := Cron.nm_none hno
        rw [e1, e2] at NMD
        rw [e1, e2]
        unfold pres7
        unfold xval xcells at NMD
        have NMD2 := Lib.hid NMD
        clear NMD e1 e2 hno
        go_enter Tryz.func63, Tryz.ntmps63
        go_wp2_with fail
        with_reducible refine (Tryz.strings_HasPrefix _ _ _).mono ?_
        rintro e w1 ⟨rfl, rfl⟩
        rw [show (ByteArray.mk #[64]).data.toList = [64] from rfl, HPF.out]
        go_wp2_with fail
        with_reducible refine (NMD2.out _ (HW.out.next O.out.bel) (HN.out.next O.out.bel)).mono ?_
        rintro e w1 ⟨rfl, hb1⟩
        have O1 := Lib.hid (O.out.below hb1)
        clear hb1 O NMD2
        have OX := Lib.hid (O1.out.alloc (.cells zeroX 101))
        obtain ⟨c0, c1, c2, c3, c4, c5, c6, c7, c8, c9⟩ := xobj_cells OX.out.row
        have f := fun j => row_free OX.out.row j
        have hEQ := eq_none
        have z0 : (((0 : Nat) : Int)) = 0 := rfl
        simp only [z0]
        go_wp2_with fail
        change bodyPost _ _ _ _ _ (putX _ w.heap.size (fun _ => 0) (fun _ => false))
        have hbF := putX_below (b := fun _ => 0) (s := fun _ => false) OX.out.bel (Nat.le_refl w.heap.size)
        have hrF := putX_row (b := fun _ => 0) (s := fun _ => false) OX.out.row
        clear c0 c1 c2 c3 c4 c5 c6 c7 c8 c9 f
        generalize putX _ w.heap.size (fun _ => 0) (fun _ => false) = WF at *
        obtain ⟨c0, c1, c2, c3, c4, c5, c6, c7, c8, c9⟩ := xobj_cells hrF
        refine bodyPost_ret (v := .tuple #[xval (fun _ => 0) (fun _ => false), .int .i64 70]) (by simp [results, Tryz.results63, go_sem, c0, c1, c2, c3, c4, c5, c6, c7, c8, c9, xval, xcells]) rfl ⟨rfl, hbF⟩
      | some t =>
        rw [if_neg (by simp)]
        obtain ⟨e1, e2⟩ := Cron.nm_some hno
        have hz := (Cron.name_ok hno).2
        rw [e1, e2] at NMD
        rw [e1, e2]
        unfold pres7
        generalize Cron.spB t = B at *
        generalize Cron.spS t = S at *
        unfold xval xcells at NMD
        have NMD2 := Lib.hid NMD
        clear NMD e1 e2 hno
        go_enter Tryz.func63, Tryz.ntmps63
        go_wp2_with fail
        with_reducible refine (Tryz.strings_HasPrefix _ _ _).mono ?_
        rintro e w1 ⟨rfl, rfl⟩
        rw [show (ByteArray.mk #[64]).data.toList = [64] from rfl, HPF.out]
        go_wp2_with fail
        with_reducible refine (NMD2.out _ (HW.out.next O.out.bel) (HN.out.next O.out.bel)).mono ?_
        rintro e w1 ⟨rfl, hb1⟩
        have O1 := Lib.hid (O.out.below hb1)
        clear hb1 O NMD2
        have OX := Lib.hid (O1.out.alloc (.cells #[.int .u64 ((B 0 : Nat) : Int), .bool (S 0), .int .u64 ((B 1 : Nat) : Int), .bool (S 1), .int .u64 ((B 2 : Nat) : Int), .bool (S 2), .int .u64 ((B 3 : Nat) : Int), .bool (S 3), .int .u64 ((B 4 : Nat) : Int), .bool (S 4)] 101))
        obtain ⟨c0, c1, c2, c3, c4, c5, c6, c7, c8, c9⟩ := xobj_cells OX.out.row
        have f := fun j => row_free OX.out.row j
        have hEQ := eq_other B S hz
        unfold xcells at hEQ
        go_wp2_with fail
        change bodyPost _ _ _ _ _ (putX _ w.heap.size B S)
        have hbF := putX_below (b := B) (s := S) OX.out.bel (Nat.le_refl w.heap.size)
        have hrF := putX_row (b := B) (s := S) OX.out.row
        clear c0 c1 c2 c3 c4 c5 c6 c7 c8 c9 f
        generalize putX _ w.heap.size B S = WF at *
        obtain ⟨c0, c1, c2, c3, c4, c5, c6, c7, c8, c9⟩ := xobj_cells hrF
        refine bodyPost_ret (v := .tuple #[xval B S, .int .i64 0]) (by simp [results, Tryz.results63, go_sem, c0, c1, c2, c3, c4, c5, c6, c7, c8, c9, xval, xcells]) rfl ⟨rfl, hbF⟩
end Go.Proofs.YtpbnjibomdilhaaGreatDoor

namespace Go.Proofs.YtpbnjibomdilhaaGreatDoor.Job
open Go.RowKit

/-- a job; its Deps lie at da -/
structure J where
  id : Int
  name : ByteArray
  expr : ByteArray
  pol : Int
  gra : Int
  lim : Int
  ret : Int
  tim : Int
  da : Option Addr
  dc : Nat
  deps : List Int
  pau : Bool
  ver : Int
  seen : Int
def jcells (id : Int) (name expr : ByteArray) (pol gra lim ret tim : Int) (da : Option Addr) (dl dc : Nat) (pau : Bool) (ver seen : Int) : Array Value :=
  #[.int .u64 id, .string name, .string expr, .int .i64 pol, .int .i64 gra, .int .i64 lim, .int .i64 ret, .int .i64 tim, .slice da dl dc, .bool pau, .int .u64 ver, .int .i64 seen]
def J.cells (j : J) : Array Value := jcells j.id j.name j.expr j.pol j.gra j.lim j.ret j.tim j.da j.deps.length j.dc j.pau j.ver j.seen
def J.val (j : J) : Value := .agg j.cells

def within (n low high : Int) : Bool := decide (low ≤ n) && decide (n ≤ high)
/-- may all numbers that are bounded be? -/
def J.nums (j : J) : Bool := within j.pol 1 3 && (within j.gra 0 604800 && (within j.lim 1 8 && (within j.ret 0 5 && (within j.tim 1 86400 && within j.seen (-1) 13569465599))))
/-- what is wrong with it -/
def J.err (j : J) : Int := if j.name.size = 0 ∨ 32 < j.name.size then 140 else if Cron.pErr j.expr.data.toList ≠ 0 then (Cron.pErr j.expr.data.toList : Int) else if 8 < j.deps.length then 3 else if j.nums = false then 2 else 0
theorem J.err_name {j : J} (h : j.name.size = 0 ∨ 32 < j.name.size) : j.err = 140 := by unfold J.err; rw [if_pos h]
theorem J.err_expr {j : J} (h : ¬ (j.name.size = 0 ∨ 32 < j.name.size)) (h2 : Cron.pErr j.expr.data.toList ≠ 0) : j.err = (Cron.pErr j.expr.data.toList : Int) := by unfold J.err; rw [if_neg h, if_pos h2]
theorem J.err_deps {j : J} (h : ¬ (j.name.size = 0 ∨ 32 < j.name.size)) (h2 : Cron.pErr j.expr.data.toList = 0) (h3 : 8 < j.deps.length) : j.err = 3 := by unfold J.err; rw [if_neg h, if_neg (by simp [h2]), if_pos h3]
theorem J.err_rest {j : J} (h : ¬ (j.name.size = 0 ∨ 32 < j.name.size)) (h2 : Cron.pErr j.expr.data.toList = 0) (h3 : ¬ 8 < j.deps.length) : j.err = if j.nums = false then 2 else 0 := by unfold J.err; rw [if_neg h, if_neg (by simp [h2]), if_neg h3]
/-- a job that may be -/
structure J.May (j : J) : Prop where
  name : 1 ≤ j.name.size ∧ j.name.size ≤ 32
  expr : Cron.pErr j.expr.data.toList = 0
  deps : j.deps.length ≤ 8
  pol : 1 ≤ j.pol ∧ j.pol ≤ 3
  gra : 0 ≤ j.gra ∧ j.gra ≤ 604800
  lim : 1 ≤ j.lim ∧ j.lim ≤ 8
  ret : 0 ≤ j.ret ∧ j.ret ≤ 5
  tim : 1 ≤ j.tim ∧ j.tim ≤ 86400
  seen : -1 ≤ j.seen ∧ j.seen ≤ 13569465599
theorem within_iff {n l h : Int} : within n l h = true ↔ l ≤ n ∧ n ≤ h := by simp [within]
theorem J.may_iff {j : J} : j.err = 0 ↔ j.May := by
  constructor
  · intro h
    by_cases h1 : j.name.size = 0 ∨ 32 < j.name.size
    · rw [J.err_name h1] at h; omega
    · by_cases h2 : Cron.pErr j.expr.data.toList = 0
      · by_cases h3 : 8 < j.deps.length
        · rw [J.err_deps h1 h2 h3] at h; omega
        · rw [J.err_rest h1 h2 h3] at h
          cases hn : j.nums
          · rw [hn] at h; simp at h
          · simp only [J.nums, Bool.and_eq_true, within_iff] at hn
            obtain ⟨a, b, c, d, e, f⟩ := hn
            exact ⟨by omega, h2, by omega, a, b, c, d, e, f⟩
      · rw [J.err_expr h1 h2] at h; omega
  · intro h
    have h1 := h.name
    have h2 := h.deps
    rw [J.err_rest (by omega) h.expr (by omega)]
    have : j.nums = true := by
      simp only [J.nums, Bool.and_eq_true, within_iff]
      exact ⟨h.pol, h.gra, h.lim, h.ret, h.tim, h.seen⟩
    rw [this]
    rfl

end Go.Proofs.YtpbnjibomdilhaaGreatDoor.Job
