/- cron.asker and its closure, by their contracts. -/
import Derived.Test.YtgcineaodfomeaaDoorAskX
import Derived.Test.YtgcineaodfomeaaDoorCJoinC
import Derived.Deep.RegionHeld3
namespace Go.Proofs.YtgcineaodfomeaaDoor
open Go.RowKit

/-- what a closure of asker's holds: whether both may be, the expression, what the clock shows -/
structure Asks (M X S : Nat) (g : Bool) (b : Nat → Nat) (s : Nat → Bool) (v : Nat → Int) (W : World) : Prop where
  m : W.heap[M]? = some (.cells #[.bool g] 4 (0, 0))
  x : W.heap[X]? = some (xobj b s)
  n : W.heap[S]? = some (.cells #[.int .i64 (v 0), .int .i64 (v 1), .int .i64 (v 2), .int .i64 (v 3), .int .i64 (v 4)] 68 (0, 0))
theorem Asks.below {M X S : Nat} {g : Bool} {b : Nat → Nat} {s : Nat → Bool} {v : Nat → Int} {W W' : World} (a : Asks M X S g b s v W) (hb : Below W.heap.size W W') : Asks M X S g b s v W' :=
  ⟨(hb.block _ (lt_of_block a.m)).trans a.m, (hb.block _ (lt_of_block a.x)).trans a.x, (hb.block _ (lt_of_block a.n)).trans a.n⟩
theorem Asks.shown {M X S : Nat} {g : Bool} {b : Nat → Nat} {s : Nat → Bool} {v : Nat → Int} {W : World} (a : Asks M X S g b s v W) : ∀ k, k < 5 → W.cell? ⟨S, k, none⟩ = some (.int .i64 (v k)) :=
  five (cell_of_row _ S 0 _ _ _ a.n) (cell_of_row _ S 1 _ _ _ a.n) (cell_of_row _ S 2 _ _ _ a.n) (cell_of_row _ S 3 _ _ _ a.n) (cell_of_row _ S 4 _ _ _ a.n)
def askArgs (k M X S : Nat) : Array Value := #[.int .i64 (k : Int), .pointer (some ⟨M, 0, none⟩), .pointer (some ⟨X, 0, none⟩), .pointer (some ⟨S, 0, none⟩)]
set_option maxRecDepth 100000 in
set_option maxHeartbeats 2000000 in
theorem asks_any (k : Nat) (hk : k < 5) (z : Int) (hz : z = (k : Int)) (M X S : Nat) (g : Bool) (b : Nat → Nat) (s : Nat → Bool) (v : Nat → Int) (hb : ∀ k, k < 5 → b k < 2 ^ 64) (hv : ∀ k, k < 5 → -9223372036854775808 ≤ v k ∧ v k ≤ 9223372036854775807) (w : World) (a : Asks M X S g b s v w) :
    Calls Tryd.prog 44 #[.int .i64 z, .pointer (some ⟨M, 0, none⟩), .pointer (some ⟨X, 0, none⟩), .pointer (some ⟨S, 0, none⟩)] w fun e w' => e = .returned (.bool (g && Fld.has (b k) (v k))) ∧ Below w.heap.size w w' := by
  subst hz
  have cm := cell_of_row _ M 0 _ _ _ a.m
  obtain ⟨cx, cy⟩ := xobj_at a.x k hk
  have cs := a.shown k hk
  have HA := Lib.hid (fun W => has_any (b k) (hb k hk) (s k) (v k) W (hv k hk))
  have hk5 : (k : Int) < 5 := by omega
  clear a hb hv
  cases g
  · go_enter Tryd.func44, Tryd.ntmps44
    go_wp2_with fail
    go_quiet (fail)
    go_wp2_with fail
    go_ret
    exact ⟨rfl, many_drew (Below.refl _ _) nq⟩
  · go_enter Tryd.func44, Tryd.ntmps44
    go_wp2_with fail
    go_region_held3 (fun w' => w'.cell? ⟨M, 0, none⟩ = some (.bool true) ∧ w'.cell? ⟨X, k * 2, none⟩ = some (.int .u64 ((b k : Nat) : Int)) ∧ w'.cell? ⟨X, k * 2 + 1, none⟩ = some (.bool (s k)) ∧ w'.cell? ⟨S, k, none⟩ = some (.int .i64 (v k)) ∧ Below w.heap.size w w')
      (first
        | exact ⟨cm, cx, cy, cs, (Below.refl _ _).drew⟩
        | go_keep
        | (go_split_ands; exact ⟨stays hb9 (by assumption), stays hb9 (by assumption), stays hb9 (by assumption), stays hb9 (by assumption), Below.trans (by assumption) (hb9.mono (Below.size (by assumption)))⟩))
      (first
        | (go_at_call 23; with_reducible refine (HA.out _).mono ?_; rintro e w9 ⟨rfl, hb9⟩))
    rename_i hHeld
    obtain ⟨_, _, _, _, hBW⟩ := hHeld
    go_wp2_with fail
    go_ret
    exact ⟨rfl, hBW⟩

/-- what a clock shows, in the fields' order -/
def shows (m d h i k : Int) : Nat → Int
  | 0 => i
  | 1 => h
  | 2 => d
  | 3 => m
  | _ => k
/-- an expression and a clock, in blocks of a call's own -/
structure BX (w : World) (b : Nat → Nat) (s : Nat → Bool) (y m d h i x k : Int) (W : World) : Prop where
  bel : Below w.heap.size w W
  xr : W.heap[w.heap.size]? = some (xobj b s)
  cr : W.heap[w.heap.size + 1]? = some (Civ.clk y m d h i x k)
theorem BX.below {w : World} {b : Nat → Nat} {s : Nat → Bool} {y m d h i x k : Int} {W W' : World} (t : BX w b s y m d h i x k W) (hb : Below W.heap.size W W') : BX w b s y m d h i x k W' :=
  ⟨t.bel.trans (hb.mono t.bel.size), (hb.block _ (lt_of_block t.xr)).trans t.xr, (hb.block _ (lt_of_block t.cr)).trans t.cr⟩
theorem BX.asks {w : World} {b : Nat → Nat} {s : Nat → Bool} {y m d h i x k : Int} {W : World} (t : BX w b s y m d h i x k W) (g : Bool) :
    Asks W.heap.size w.heap.size (W.heap.size + 1) g b s (shows m d h i k) ((W.alloc (.cells #[.bool g] 4)).alloc (.cells #[.int .i64 i, .int .i64 h, .int .i64 d, .int .i64 m, .int .i64 k] 68)) ∧ Below w.heap.size w ((W.alloc (.cells #[.bool g] 4)).alloc (.cells #[.int .i64 i, .int .i64 h, .int .i64 d, .int .i64 m, .int .i64 k] 68)) := by
  have h1 := heap_alloc_new W (.cells #[.bool g] 4)
  have b1 : Below W.heap.size W (W.alloc (.cells #[.bool g] 4)) := (Below.refl _ _).alloc (Nat.le_refl _) _
  have s1 : (W.alloc (.cells #[.bool g] 4)).heap.size = W.heap.size + 1 := by simp
  generalize W.alloc (.cells #[.bool g] 4) = W1 at *
  have h2 := heap_alloc_new W1 (.cells #[.int .i64 i, .int .i64 h, .int .i64 d, .int .i64 m, .int .i64 k] 68)
  have b2 : Below W1.heap.size W1 (W1.alloc (.cells #[.int .i64 i, .int .i64 h, .int .i64 d, .int .i64 m, .int .i64 k] 68)) := (Below.refl _ _).alloc (Nat.le_refl _) _
  generalize W1.alloc (.cells #[.int .i64 i, .int .i64 h, .int .i64 d, .int .i64 m, .int .i64 k] 68) = W2 at *
  rw [s1] at h2
  have t2 := (t.below b1).below b2
  exact ⟨⟨(b2.block _ (by omega)).trans h1, t2.xr, h2⟩, t2.bel⟩
theorem BX.start (w : World) (b : Nat → Nat) (s : Nat → Bool) (y m d h i x k : Int) : BX w b s y m d h i x k ((w.alloc (.cells #[.int .u64 ((b 0 : Nat) : Int), .bool (s 0), .int .u64 ((b 1 : Nat) : Int), .bool (s 1), .int .u64 ((b 2 : Nat) : Int), .bool (s 2), .int .u64 ((b 3 : Nat) : Int), .bool (s 3), .int .u64 ((b 4 : Nat) : Int), .bool (s 4)] 26)).alloc (.cells #[.int .i64 y, .int .i64 m, .int .i64 d, .int .i64 h, .int .i64 i, .int .i64 x, .int .i64 k] 36)) := by
  have o := OwnX.new w b s
  have s1 : (w.alloc (.cells #[.int .u64 ((b 0 : Nat) : Int), .bool (s 0), .int .u64 ((b 1 : Nat) : Int), .bool (s 1), .int .u64 ((b 2 : Nat) : Int), .bool (s 2), .int .u64 ((b 3 : Nat) : Int), .bool (s 3), .int .u64 ((b 4 : Nat) : Int), .bool (s 4)] 26)).heap.size = w.heap.size + 1 := by simp
  have r := heap_alloc_new (w.alloc (.cells #[.int .u64 ((b 0 : Nat) : Int), .bool (s 0), .int .u64 ((b 1 : Nat) : Int), .bool (s 1), .int .u64 ((b 2 : Nat) : Int), .bool (s 2), .int .u64 ((b 3 : Nat) : Int), .bool (s 3), .int .u64 ((b 4 : Nat) : Int), .bool (s 4)] 26)) (.cells #[.int .i64 y, .int .i64 m, .int .i64 d, .int .i64 h, .int .i64 i, .int .i64 x, .int .i64 k] 36)
  rw [s1] at r
  exact ⟨(o.alloc _).bel, (o.alloc _).row, r⟩

set_option maxRecDepth 100000 in
set_option maxHeartbeats 2000000 in
theorem asker_any (b : Nat → Nat) (s : Nat → Bool) (hb : ∀ k, k < 5 → b k < 2 ^ 64) (y m d h i x k : Int) (w : World) (hw : World7 w) :
    Calls Tryd.prog 29 #[xval b s, .agg #[.int .i64 y, .int .i64 m, .int .i64 d, .int .i64 h, .int .i64 i, .int .i64 x, .int .i64 k]] w fun e w' => ∃ M X S, e = .returned (.func (.func 44) #[] #[.pointer (some ⟨M, 0, none⟩), .pointer (some ⟨X, 0, none⟩), .pointer (some ⟨S, 0, none⟩)]) ∧ Asks M X S (Cron.may b && decide (Stm.may y m d h i x k)) b s (shows m d h i k) w' ∧ Below w.heap.size w w' := by
  have BX0 := Lib.hid (BX.start w b s y m d h i x k)
  have MX := fun W hW => mayX_any b s hb W hW
  have MC := fun W hW => Civ.mayC_any y m d h i x k W hW
  have HW := Lib.hid hw
  generalize Cron.may b = g at *
  generalize decide (Stm.may y m d h i x k) = g' at *
  clear hb hw
  unfold xval xcells at *
  have MX := Lib.hid MX
  have MC := Lib.hid MC
  go_enter Tryd.func29, Tryd.ntmps29
  go_wp2_with fail
  with_reducible refine (MX.out _ (HW.out.next BX0.out.bel).tabs).mono ?_
  rintro e w1 ⟨rfl, hb1⟩
  have BX1 := Lib.hid (BX0.out.below hb1)
  clear hb1 BX0 MX
  cases g
  · have BX3 := Lib.hid (BX1.out.below ((Below.refl _ _).alloc (Nat.le_refl _) (.cells #[.bool false] 4)))
    obtain ⟨d0, d1, d2, d3, d4, d5, d6⟩ := Civ.clk_cells BX3.out.cr
    go_wp2_with fail
    go_ret
    exact ⟨_, _, _, rfl, (BX1.out.asks false).1, (BX1.out.asks false).2⟩
  · obtain ⟨d0, d1, d2, d3, d4, d5, d6⟩ := Civ.clk_cells BX1.out.cr
    go_wp2_with fail
    with_reducible refine (MC.out _ (HW.out.mon.on BX1.out.bel)).mono ?_
    rintro e w2 ⟨rfl, hb2⟩
    have BX2 := Lib.hid (BX1.out.below hb2)
    clear d0 d1 d2 d3 d4 d5 d6 BX1 hb2
    have BX3 := Lib.hid (BX2.out.below ((Below.refl _ _).alloc (Nat.le_refl _) (.cells #[.bool g'] 4)))
    obtain ⟨d0, d1, d2, d3, d4, d5, d6⟩ := Civ.clk_cells BX3.out.cr
    go_wp2_with fail
    go_ret
    exact ⟨_, _, _, rfl, (BX2.out.asks g').1, (BX2.out.asks g').2⟩
end Go.Proofs.YtgcineaodfomeaaDoor
