/- cron.asker and its closure, by their contracts. The reference's Join, by its contract. cron.DayFits, cron.Fits, and the reference's, by their contracts. -/
import Derived.Test.YtoghalmjbbkjhaaGreatDoorMaf
import Derived.Test.YtoghalmjbbkjhaaGreatDoorCJoinC
import Derived.Deep.RegionHeld3
namespace Go.Proofs.YtoghalmjbbkjhaaGreatDoor
open Go.RowKit

/-- what a closure of asker's holds: whether both may be, the expression, what the clock shows -/
structure Asks (M X S : Nat) (g : Bool) (b : Nat → Nat) (s : Nat → Bool) (v : Nat → Int) (W : World) : Prop where
  m : W.heap[M]? = some (.cells #[.bool g] 4 (0, 0))
  x : W.heap[X]? = some (xobj b s)
  n : W.heap[S]? = some (.cells #[.int .i64 (v 0), .int .i64 (v 1), .int .i64 (v 2), .int .i64 (v 3), .int .i64 (v 4)] 104 (0, 0))
theorem Asks.below {M X S : Nat} {g : Bool} {b : Nat → Nat} {s : Nat → Bool} {v : Nat → Int} {W W' : World} (a : Asks M X S g b s v W) (hb : Below W.heap.size W W') : Asks M X S g b s v W' :=
  ⟨(hb.block _ (lt_of_block a.m)).trans a.m, (hb.block _ (lt_of_block a.x)).trans a.x, (hb.block _ (lt_of_block a.n)).trans a.n⟩
theorem Asks.shown {M X S : Nat} {g : Bool} {b : Nat → Nat} {s : Nat → Bool} {v : Nat → Int} {W : World} (a : Asks M X S g b s v W) : ∀ k, k < 5 → W.cell? ⟨S, k, none⟩ = some (.int .i64 (v k)) :=
  five (cell_of_row _ S 0 _ _ _ a.n) (cell_of_row _ S 1 _ _ _ a.n) (cell_of_row _ S 2 _ _ _ a.n) (cell_of_row _ S 3 _ _ _ a.n) (cell_of_row _ S 4 _ _ _ a.n)
def askArgs (k M X S : Nat) : Array Value := #[.int .i64 (k : Int), .pointer (some ⟨M, 0, none⟩), .pointer (some ⟨X, 0, none⟩), .pointer (some ⟨S, 0, none⟩)]
set_option maxRecDepth 100000 in
set_option maxHeartbeats 2000000 in
theorem asks_any (k : Nat) (hk : k < 5) (z : Int) (hz : z = (k : Int)) (M X S : Nat) (g : Bool) (b : Nat → Nat) (s : Nat → Bool) (v : Nat → Int) (hb : ∀ k, k < 5 → b k < 2 ^ 64) (hv : ∀ k, k < 5 → -9223372036854775808 ≤ v k ∧ v k ≤ 9223372036854775807) (w : World) (a : Asks M X S g b s v w) :
    Calls Tryz.prog 65 #[.int .i64 z, .pointer (some ⟨M, 0, none⟩), .pointer (some ⟨X, 0, none⟩), .pointer (some ⟨S, 0, none⟩)] w fun e w' => e = .returned (.bool (g && Fld.has (b k) (v k))) ∧ Below w.heap.size w w' := by
  subst hz
  have cm := cell_of_row _ M 0 _ _ _ a.m
  obtain ⟨cx, cy⟩ := xobj_at a.x k hk
  have cs := a.shown k hk
  have HA := Lib.hid (fun W => has_any (b k) (hb k hk) (s k) (v k) W (hv k hk))
  have hk5 : (k : Int) < 5 := by omega
  clear a hb hv
  cases g
  · go_enter Tryz.func65, Tryz.ntmps65
    go_wp2_with fail
    go_quiet (fail)
    go_wp2_with fail
    go_ret
    exact ⟨rfl, many_drew (Below.refl _ _) nq⟩
  · go_enter Tryz.func65, Tryz.ntmps65
    go_wp2_with fail
    go_region_held3 (fun w' => w'.cell? ⟨M, 0, none⟩ = some (.bool true) ∧ w'.cell? ⟨X, k * 2, none⟩ = some (.int .u64 ((b k : Nat) : Int)) ∧ w'.cell? ⟨X, k * 2 + 1, none⟩ = some (.bool (s k)) ∧ w'.cell? ⟨S, k, none⟩ = some (.int .i64 (v k)) ∧ Below w.heap.size w w')
      (first
        | exact ⟨cm, cx, cy, cs, (Below.refl _ _).drew⟩
        | go_keep
        | (go_split_ands; exact ⟨stays hb9 (by assumption), stays hb9 (by assumption), stays hb9 (by assumption), stays hb9 (by assumption), Below.trans (by assumption) (hb9.mono (Below.size (by assumption)))⟩))
      (first
        | (go_at_call 41; with_reducible refine (HA.out _).mono ?_; rintro e w9 ⟨rfl, hb9⟩))
    rename_i hHeld
    obtain ⟨_, _, _, _, hBW⟩ := hHeld
    go_wp2_with fail
    go_ret
    exact ⟨rfl, hBW⟩

/-- what a clock shows, in the fields' order -/
def shows (m d h i k : Int) : Nat → Int
  | 0 => i
  | 1 => h
  | 2 => d
  | 3 => m
  | _ => k
/-- an expression and a clock, in blocks of a call's own -/
structure BX (w : World) (b : Nat → Nat) (s : Nat → Bool) (y m d h i x k : Int) (W : World) : Prop where
  bel : Below w.heap.size w W
  xr : W.heap[w.heap.size]? = some (xobj b s)
  cr : W.heap[w.heap.size + 1]? = some (Civ.clk y m d h i x k)
theorem BX.below {w : World} {b : Nat → Nat} {s : Nat → Bool} {y m d h i x k : Int} {W W' : World} (t : BX w b s y m d h i x k W) (hb : Below W.heap.size W W') : BX w b s y m d h i x k W' :=
  ⟨t.bel.trans (hb.mono t.bel.size), (hb.block _ (lt_of_block t.xr)).trans t.xr, (hb.block _ (lt_of_block t.cr)).trans t.cr⟩
theorem BX.asks {w : World} {b : Nat → Nat} {s : Nat → Bool} {y m d h i x k : Int} {W : World} (t : BX w b s y m d h i x k W) (g : Bool) :
    Asks W.heap.size w.heap.size (W.heap.size + 1) g b s (shows m d h i k) ((W.alloc (.cells #[.bool g] 4)).alloc (.cells #[.int .i64 i, .int .i64 h, .int .i64 d, .int .i64 m, .int .i64 k] 104)) ∧ Below w.heap.size w ((W.alloc (.cells #[.bool g] 4)).alloc (.cells #[.int .i64 i, .int .i64 h, .int .i64 d, .int .i64 m, .int .i64 k] 104)) := by
  have h1 := heap_alloc_new W (.cells #[.bool g] 4)
  have b1 : Below W.heap.size W (W.alloc (.cells #[.bool g] 4)) := (Below.refl _ _).alloc (Nat.le_refl _) _
  have s1 : (W.alloc (.cells #[.bool g] 4)).heap.size = W.heap.size + 1 := by simp
  generalize W.alloc (.cells #[.bool g] 4) = W1 at *
  have h2 := heap_alloc_new W1 (.cells #[.int .i64 i, .int .i64 h, .int .i64 d, .int .i64 m, .int .i64 k] 104)
  have b2 : Below W1.heap.size W1 (W1.alloc (.cells #[.int .i64 i, .int .i64 h, .int .i64 d, .int .i64 m, .int .i64 k] 104)) := (Below.refl _ _).alloc (Nat.le_refl _) _
  generalize W1.alloc (.cells #[.int .i64 i, .int .i64 h, .int .i64 d, .int .i64 m, .int .i64 k] 104) = W2 at *
  rw [s1] at h2
  have t2 := (t.below b1).below b2
  exact ⟨⟨(b2.block _ (by omega)).trans h1, t2.xr, h2⟩, t2.bel⟩
theorem BX.start (w : World) (b : Nat → Nat) (s : Nat → Bool) (y m d h i x k : Int) : BX w b s y m d h i x k ((w.alloc (.cells #[.int .u64 ((b 0 : Nat) : Int), .bool (s 0), .int .u64 ((b 1 : Nat) : Int), .bool (s 1), .int .u64 ((b 2 : Nat) : Int), .bool (s 2), .int .u64 ((b 3 : Nat) : Int), .bool (s 3), .int .u64 ((b 4 : Nat) : Int), .bool (s 4)] 43)).alloc (.cells #[.int .i64 y, .int .i64 m, .int .i64 d, .int .i64 h, .int .i64 i, .int .i64 x, .int .i64 k] 49)) := by
  have o := OwnX.new w b s
  have s1 : (w.alloc (.cells #[.int .u64 ((b 0 : Nat) : Int), .bool (s 0), .int .u64 ((b 1 : Nat) : Int), .bool (s 1), .int .u64 ((b 2 : Nat) : Int), .bool (s 2), .int .u64 ((b 3 : Nat) : Int), .bool (s 3), .int .u64 ((b 4 : Nat) : Int), .bool (s 4)] 43)).heap.size = w.heap.size + 1 := by simp
  have r := heap_alloc_new (w.alloc (.cells #[.int .u64 ((b 0 : Nat) : Int), .bool (s 0), .int .u64 ((b 1 : Nat) : Int), .bool (s 1), .int .u64 ((b 2 : Nat) : Int), .bool (s 2), .int .u64 ((b 3 : Nat) : Int), .bool (s 3), .int .u64 ((b 4 : Nat) : Int), .bool (s 4)] 43)) (.cells #[.int .i64 y, .int .i64 m, .int .i64 d, .int .i64 h, .int .i64 i, .int .i64 x, .int .i64 k] 49)
  rw [s1] at r
  exact ⟨(o.alloc _).bel, (o.alloc _).row, r⟩

set_option maxRecDepth 100000 in
set_option maxHeartbeats 2000000 in
theorem asker_any (b : Nat → Nat) (s : Nat → Bool) (hb : ∀ k, k < 5 → b k < 2 ^ 64) (y m d h i x k : Int) (w : World) (hw : World7 w) :
    Calls Tryz.prog 37 #[xval b s, .agg #[.int .i64 y, .int .i64 m, .int .i64 d, .int .i64 h, .int .i64 i, .int .i64 x, .int .i64 k]] w fun e w' => ∃ M X S, e = .returned (.func (.func 65) #[] #[.pointer (some ⟨M, 0, none⟩), .pointer (some ⟨X, 0, none⟩), .pointer (some ⟨S, 0, none⟩)]) ∧ Asks M X S (Cron.may b && decide (Stm.may y m d h i x k)) b s (shows m d h i k) w' ∧ Below w.heap.size w w' := by
  have BX0 := Lib.hid (BX.start w b s y m d h i x k)
  have MX := fun W hW => mayX_any b s hb W hW
  have MC := fun W hW => Civ.mayC_any y m d h i x k W hW
  have HW := Lib.hid hw
  generalize Cron.may b = g at *
  generalize decide (Stm.may y m d h i x k) = g' at *
  clear hb hw
  unfold xval xcells at *
  have MX := Lib.hid MX
  have MC := Lib.hid MC
  go_enter Tryz.func37, Tryz.ntmps37
  go_wp2_with fail
  with_reducible refine (MX.out _ (HW.out.next BX0.out.bel).tabs).mono ?_
  rintro e w1 ⟨rfl, hb1⟩
  have BX1 := Lib.hid (BX0.out.below hb1)
  clear hb1 BX0 MX
  cases g
  · have BX3 := Lib.hid (BX1.out.below ((Below.refl _ _).alloc (Nat.le_refl _) (.cells #[.bool false] 4)))
    obtain ⟨d0, d1, d2, d3, d4, d5, d6⟩ := Civ.clk_cells BX3.out.cr
    go_wp2_with fail
    go_ret
    exact ⟨_, _, _, rfl, (BX1.out.asks false).1, (BX1.out.asks false).2⟩
  · obtain ⟨d0, d1, d2, d3, d4, d5, d6⟩ := Civ.clk_cells BX1.out.cr
    go_wp2_with fail
    with_reducible refine (MC.out _ (HW.out.mon.on BX1.out.bel)).mono ?_
    rintro e w2 ⟨rfl, hb2⟩
    have BX2 := Lib.hid (BX1.out.below hb2)
    clear d0 d1 d2 d3 d4 d5 d6 BX1 hb2
    have BX3 := Lib.hid (BX2.out.below ((Below.refl _ _).alloc (Nat.le_refl _) (.cells #[.bool g'] 4)))
    obtain ⟨d0, d1, d2, d3, d4, d5, d6⟩ := Civ.clk_cells BX3.out.cr
    go_wp2_with fail
    go_ret
    exact ⟨_, _, _, rfl, (BX2.out.asks g').1, (BX2.out.asks g').2⟩
end Go.Proofs.YtoghalmjbbkjhaaGreatDoor

namespace Go.Proofs.YtoghalmjbbkjhaaGreatDoor.Civ
open Go.RowKit

end Go.Proofs.YtoghalmjbbkjhaaGreatDoor.Civ

namespace Go.Proofs.YtoghalmjbbkjhaaGreatDoor
open Go.RowKit

namespace Cron
theorem dayFits_eq (b : Nat → Nat) (s : Nat → Bool) (y m d h i x k : Int) : dayFits b s y m d h i x k = ((bif s 2 || s 4 then ((may b && decide (Stm.may y m d h i x k)) && Fld.has (b 2) d) && ((may b && decide (Stm.may y m d h i x k)) && Fld.has (b 4) k) else ((may b && decide (Stm.may y m d h i x k)) && Fld.has (b 2) d) || ((may b && decide (Stm.may y m d h i x k)) && Fld.has (b 4) k)) && ((may b && decide (Stm.may y m d h i x k)) && Fld.has (b 3) m)) := by
  unfold dayFits days
  generalize may b = p1
  generalize decide (Stm.may y m d h i x k) = p2
  generalize Fld.has (b 2) d = p3
  generalize Fld.has (b 3) m = p4
  generalize Fld.has (b 4) k = p5
  generalize s 2 = q1
  generalize s 4 = q2
  revert p1 p2 p3 p4 p5 q1 q2
  decide
theorem fits_eq (b : Nat → Nat) (s : Nat → Bool) (y m d h i x k : Int) : fits b s y m d h i x k = (((may b && decide (Stm.may y m d h i x k)) && Fld.has (b 0) i) && (((may b && decide (Stm.may y m d h i x k)) && Fld.has (b 1) h) && dayFits b s y m d h i x k)) := by
  unfold fits dayFits
  generalize may b = p1
  generalize decide (Stm.may y m d h i x k) = p2
  generalize Fld.has (b 0) i = p3
  generalize Fld.has (b 1) h = p4
  generalize days b s m d k = p5
  revert p1 p2 p3 p4 p5
  decide
theorem dayFits_ref (b : Nat → Nat) (s : Nat → Bool) (y m d h i x k : Int) : dayFits b s y m d h i x k = (decide (Stm.may y m d h i x k) && (may b && (Fld.has (b 3) m && (bif !(s 2) && !(s 4) then Fld.has (b 2) d || Fld.has (b 4) k else Fld.has (b 2) d && Fld.has (b 4) k)))) := by
  unfold dayFits days
  generalize may b = p1
  generalize decide (Stm.may y m d h i x k) = p2
  generalize Fld.has (b 2) d = p3
  generalize Fld.has (b 3) m = p4
  generalize Fld.has (b 4) k = p5
  generalize s 2 = q1
  generalize s 4 = q2
  revert p1 p2 p3 p4 p5 q1 q2
  decide
end Cron

/-- that a clock's numbers are numbers of the machine's -/
def inInts (m d h i k : Int) : Prop := ∀ j, j < 5 → -9223372036854775808 ≤ shows m d h i k j ∧ shows m d h i k j ≤ 9223372036854775807
set_option maxRecDepth 100000 in
set_option maxHeartbeats 4000000 in
theorem dayFits_any (b : Nat → Nat) (s : Nat → Bool) (hb : ∀ k, k < 5 → b k < 2 ^ 64) (y m d h i x k : Int) (hv : inInts m d h i k) (w : World) (hw : World7 w) :
    Calls Tryz.prog 38 #[xval b s, .agg #[.int .i64 y, .int .i64 m, .int .i64 d, .int .i64 h, .int .i64 i, .int .i64 x, .int .i64 k]] w fun e w' => e = .returned (.bool (Cron.dayFits b s y m d h i x k)) ∧ Below w.heap.size w w' := by
  have BX0 := Lib.hid (BX.start w b s y m d h i x k)
  have AK := fun W hW => asker_any b s hb y m d h i x k W hW
  have HE := Lib.hid (Cron.dayFits_eq b s y m d h i x k)
  have HW := Lib.hid hw
  generalize (Cron.may b && decide (Stm.may y m d h i x k)) = g at *
  generalize Cron.dayFits b s y m d h i x k = R at *
  clear hw
  have A2 := Lib.hid (fun M X S W (a : Asks M X S g b s (shows m d h i k) W) => asks_any 2 (by decide) 2 rfl M X S g b s (shows m d h i k) hb hv W a)
  have A3 := Lib.hid (fun M X S W (a : Asks M X S g b s (shows m d h i k) W) => asks_any 3 (by decide) 3 rfl M X S g b s (shows m d h i k) hb hv W a)
  have A4 := Lib.hid (fun M X S W (a : Asks M X S g b s (shows m d h i k) W) => asks_any 4 (by decide) 4 rfl M X S g b s (shows m d h i k) hb hv W a)
  have e2 : shows m d h i k 2 = d := rfl
  have e3 : shows m d h i k 3 = m := rfl
  have e4 : shows m d h i k 4 = k := rfl
  rw [e2] at A2
  rw [e3] at A3
  rw [e4] at A4
  generalize (g && Fld.has (b 2) d) = p2 at *
  generalize (g && Fld.has (b 3) m) = p3 at *
  generalize (g && Fld.has (b 4) k) = p4 at *
  unfold xval xcells at *
  have AK := Lib.hid AK
  clear e2 e3 e4 hb hv
  go_enter Tryz.func38, Tryz.ntmps38
  go_wp2_with fail
  with_reducible refine (AK.out _ (HW.out.next BX0.out.bel)).mono ?_
  rintro e w1 ⟨M, X, S, rfl, ha, hb1⟩
  have BX1 := Lib.hid (BX0.out.below hb1)
  have HA1 := Lib.hid ha
  clear ha hb1 BX0 AK
  go_wp2_with fail
  with_reducible refine (A2.out _ _ _ _ HA1.out).mono ?_
  rintro e w2 ⟨rfl, hb2⟩
  have BX2 := Lib.hid (BX1.out.below hb2)
  have HA2 := Lib.hid (HA1.out.below hb2)
  clear hb2 BX1 HA1 A2
  go_wp2_with fail
  with_reducible refine (A4.out _ _ _ _ HA2.out).mono ?_
  rintro e w3 ⟨rfl, hb3⟩
  have BX3 := Lib.hid (BX2.out.below hb3)
  have HA3 := Lib.hid (HA2.out.below hb3)
  clear hb3 BX2 HA2 A4
  obtain ⟨c0, c1, c2, c3, c4, c5, c6, c7, c8, c9⟩ := xobj_cells BX3.out.xr
  clear c0 c1 c2 c3 c4 c6 c7 c8
  have A3' := Lib.hid (A3.out _ _ _ _ HA3.out)
  clear A3
  generalize s 2 = s2 at c5 HE ⊢
  generalize s 4 = s4 at c9 HE ⊢
  cases p2 <;> cases p4 <;> cases s2 <;> cases s4 <;> (go_wp2_with fail) <;> first
    | (go_ret
       exact ⟨by rw [HE.out]; rfl, BX3.out.bel⟩)
    | (with_reducible refine A3'.out.mono ?_
       rintro e w4 ⟨rfl, hb4⟩
       have HB4 := Lib.hid (BX3.out.bel.trans (hb4.mono BX3.out.bel.size))
       clear hb4
       go_wp2_with fail
       go_ret
       exact ⟨by rw [HE.out]; rfl, HB4.out⟩)

set_option maxRecDepth 100000 in
set_option maxHeartbeats 4000000 in
theorem fits_any (b : Nat → Nat) (s : Nat → Bool) (hb : ∀ k, k < 5 → b k < 2 ^ 64) (y m d h i x k : Int) (hv : inInts m d h i k) (w : World) (hw : World7 w) :
    Calls Tryz.prog 16 #[xval b s, .agg #[.int .i64 y, .int .i64 m, .int .i64 d, .int .i64 h, .int .i64 i, .int .i64 x, .int .i64 k]] w fun e w' => e = .returned (.bool (Cron.fits b s y m d h i x k)) ∧ Below w.heap.size w w' := by
  have BX0 := Lib.hid (BX.start w b s y m d h i x k)
  have AK := fun W hW => asker_any b s hb y m d h i x k W hW
  have HE := Lib.hid (Cron.fits_eq b s y m d h i x k)
  have DF := fun W hW => dayFits_any b s hb y m d h i x k hv W hW
  have HW := Lib.hid hw
  generalize (Cron.may b && decide (Stm.may y m d h i x k)) = g at *
  generalize Cron.fits b s y m d h i x k = R at *
  generalize Cron.dayFits b s y m d h i x k = p5 at *
  clear hw
  have A0 := Lib.hid (fun M X S W (a : Asks M X S g b s (shows m d h i k) W) => asks_any 0 (by decide) 0 rfl M X S g b s (shows m d h i k) hb hv W a)
  have A1 := Lib.hid (fun M X S W (a : Asks M X S g b s (shows m d h i k) W) => asks_any 1 (by decide) 1 rfl M X S g b s (shows m d h i k) hb hv W a)
  have e0 : shows m d h i k 0 = i := rfl
  have e1 : shows m d h i k 1 = h := rfl
  rw [e0] at A0
  rw [e1] at A1
  generalize (g && Fld.has (b 0) i) = p0 at *
  generalize (g && Fld.has (b 1) h) = p1 at *
  unfold xval xcells at *
  have AK := Lib.hid AK
  have DF := Lib.hid DF
  clear e0 e1 hb hv
  go_enter Tryz.func16, Tryz.ntmps16
  go_wp2_with fail
  with_reducible refine (AK.out _ (HW.out.next BX0.out.bel)).mono ?_
  rintro e w1 ⟨M, X, S, rfl, ha, hb1⟩
  have BX1 := Lib.hid (BX0.out.below hb1)
  have HA1 := Lib.hid ha
  clear ha hb1 BX0 AK
  go_wp2_with fail
  with_reducible refine (A0.out _ _ _ _ HA1.out).mono ?_
  rintro e w2 ⟨rfl, hb2⟩
  have BX2 := Lib.hid (BX1.out.below hb2)
  have HA2 := Lib.hid (HA1.out.below hb2)
  clear hb2 BX1 HA1 A0
  cases p0
  · go_wp2_with fail
    go_ret
    exact ⟨by rw [HE.out]; rfl, BX2.out.bel⟩
  · go_wp2_with fail
    with_reducible refine (A1.out _ _ _ _ HA2.out).mono ?_
    rintro e w3 ⟨rfl, hb3⟩
    have BX3 := Lib.hid (BX2.out.below hb3)
    clear hb3 BX2 HA2 A1
    cases p1
    · go_wp2_with fail
      go_ret
      exact ⟨by rw [HE.out]; rfl, BX3.out.bel⟩
    · obtain ⟨c0, c1, c2, c3, c4, c5, c6, c7, c8, c9⟩ := xobj_cells BX3.out.xr
      obtain ⟨d0, d1, d2, d3, d4, d5, d6⟩ := Civ.clk_cells BX3.out.cr
      go_wp2_with fail
      with_reducible refine (DF.out _ (HW.out.next BX3.out.bel)).mono ?_
      rintro e w4 ⟨rfl, hb4⟩
      have HB4 := Lib.hid (BX3.out.bel.trans (hb4.mono BX3.out.bel.size))
      clear hb4 c0 c1 c2 c3 c4 c5 c6 c7 c8 c9 d0 d1 d2 d3 d4 d5 d6
      go_wp2_with fail
      go_ret
      exact ⟨by rw [HE.out]; rfl, HB4.out⟩

end Go.Proofs.YtoghalmjbbkjhaaGreatDoor
