/- put, by its contract. -/
import Derived.Test.YtmfemedcjgeheaaGreatDoorPutD
import Derived.Laws.Tables
import Derived.Laws.CopyOwn
namespace Go.Proofs.YtmfemedcjgeheaaGreatDoor
open Go.RowKit Go.Maps Go.Sort Dsk Wl

theorem DiskAt.setCell {w : World} {B g N : Nat} {o : Tags} {M : Files} (h : DiskAt w B o g M N) {a : Addr} (ha : o a.block = none) (v : Value) : DiskAt (w.setCell a v) B o g M N := by
  obtain ⟨b, D, hd⟩ := h
  exact ⟨b, D, hd.setCell ha v⟩
theorem DiskAt.setRow {w : World} {B g N sb : Nat} {o : Tags} {M : Files} (h : DiskAt w B o g M N) (ha : o sb = none) (cs : Array Value) : DiskAt (w.setRow sb cs) B o g M N := by
  obtain ⟨b, D, hd⟩ := h
  exact ⟨b, D, hd.same (by simp) fun k e => setRow_other _ _ _ _ fun e0 => e (by rw [e0]; exact ha)⟩
theorem StepU.row (sb : Nat) (o : Tags) (w : World) (cs : Array Value) : StepU sb o w o (w.setRow sb cs) := ⟨rfl, rfl, rfl, by simp, fun k _ hk _ => setRow_other _ _ _ _ hk, fun _ _ e => e⟩
theorem ReadsF.setRow {w : World} {o : Tags} {U sb : Nat} {a : Option Addr} {zs : List Int} (h : ReadsF w o U a zs) (hu : U ≤ sb) (cs : Array Value) : Reads (w.setRow sb cs) a zs := by
  refine ⟨fun i hi => ?_, h.1.hr, h.1.hl⟩
  obtain ⟨x, hx, hlt, hc⟩ := h.1.cell i hi
  have hxU := (h.2 x hx (by omega)).2
  refine ⟨x, hx, by simpa using hlt, ?_⟩
  rw [cell_setRow_other _ _ _ _ (by rw [add_block]; omega)]
  exact hc
theorem Row.setSeg {w : World} {B g j : Nat} {zs : List Int} {u x : Value} {cs : Array Value} {fr : Nat × Nat} (h : Row w B zs u) (hg : w.heap[g]? = some (.cells cs 75 fr)) : Row (w.setCell ⟨g, j, none⟩ x) B zs u :=
  h.keep fun k e => by
    rcases h.2 with ⟨rfl, _⟩ | ⟨g', cap, cur, rfl, _, hb, _⟩
    · cases e
    · have e1 : g' = k := by simpa [Value.ownBlock] using e
      subst e1
      exact set_seg hg hb (by decide)

set_option maxRecDepth 100000 in
set_option maxHeartbeats 2000000 in
theorem put_more {w : World} {B g N N2 : Nat} {o : Tags} {M M2 : Files} {er : Int} (h : Live w B o g M N) (sb : Nat) (c : Cur) (e : Ent) (a : Option Addr) (cp : Nat) (U : Nat) (hsb : SBox w o sb c) (hfr : c.fresh = false) (hk : c.num ≤ 99999999) (he : e.ok) (hr : ReadsF w o U a e.body) (hBs : B ≤ sb)
    (HA : Hid (AppendsTo B g M N (nameOf c.num) (frm e) er M2 N2)) :
    Calls Tryz.prog 46 #[.pointer (some ⟨sb, 0, none⟩), .pointer (some ⟨g, 0, none⟩), .agg #[.int .u64 (e.ix : Int), .int .u64 (e.term : Int), .slice a e.body.length cp]] w fun r w' => r = .returned (.int .i64 er) ∧ ∃ o', DiskAt w' B o' g M2 N2 ∧ StepU sb o w o' w' ∧ SBox w' o' sb ⟨c.num, c.n + 1⟩ := by
  obtain ⟨⟨x, y, z, hbx⟩, hfree⟩ := hsb
  have hsbs := lt_of_block hbx
  have hal : Below w.heap.size w (w.alloc (.cells #[.int .u64 (e.ix : Int), .int .u64 (e.term : Int), .slice a e.body.length cp] 55)) := (Below.refl _ _).alloc (Nat.le_refl _) _
  have hbx1 := (hal.block sb hsbs).trans hbx
  have s0 : (w.alloc (.cells #[.int .u64 (e.ix : Int), .int .u64 (e.term : Int), .slice a e.body.length cp] 55)).cell? ⟨sb, 0, none⟩ = some (.int .i64 (c.num : Int)) := by rw [cell_of_row _ _ 0 _ _ _ hbx1]; rfl
  have s1 : (w.alloc (.cells #[.int .u64 (e.ix : Int), .int .u64 (e.term : Int), .slice a e.body.length cp] 55)).cell? ⟨sb, 1, none⟩ = some x := by rw [cell_of_row _ _ 1 _ _ _ hbx1]; rfl
  have s2 : (w.alloc (.cells #[.int .u64 (e.ix : Int), .int .u64 (e.term : Int), .slice a e.body.length cp] 55)).cell? ⟨sb, 2, none⟩ = some y := by rw [cell_of_row _ _ 2 _ _ _ hbx1]; rfl
  have s3 : (w.alloc (.cells #[.int .u64 (e.ix : Int), .int .u64 (e.term : Int), .slice a e.body.length cp] 55)).cell? ⟨sb, 3, none⟩ = some (.int .i64 (c.n : Int)) := by rw [cell_of_row _ _ 3 _ _ _ hbx1]; rfl
  have s4 : (w.alloc (.cells #[.int .u64 (e.ix : Int), .int .u64 (e.term : Int), .slice a e.body.length cp] 55)).cell? ⟨sb, 4, none⟩ = some z := by rw [cell_of_row _ _ 4 _ _ _ hbx1]; rfl
  have HE := Lib.hid he
  unfold Cur.fresh at hfr
  simp only [Bool.or_eq_false_iff, decide_eq_false_iff_not] at hfr
  obtain ⟨k, n⟩ := c
  dsimp only at *
  have hg8 : decide ((8 : Int) ≤ (n : Int)) = false := by simp; omega
  have hg0 : ((k : Int) == 0) = false := by rw [beq_eq_false_iff_ne]; omega
  have hn8 : n < 8 := by omega
  have hkk : k ≤ 99999999 := hk
  have HRECF := Lib.hid (fun (W : World) (hW : Reads W a e.body) => record_any e a cp W he hW)
  have RDS := Lib.hid (hr.1.below hal)
  have HBXW := Lib.hid hbx1
  have HDW := Lib.hid (h.disk.below hal)
  have HTW := Lib.hid (h.below hal).tabs
  have HBW := Lib.hid (h.below hal).hB
  have HSW := Lib.hid ((Step.of_below o hal).toU sb)
  have HFREEW := Lib.hid hfree
  clear h hal hbx hbx1 he hr hfree hfr hsbs hk
  go_enter Tryz.func46, Tryz.ntmps46
  go_wp2_with fail
  clear s0 s1 s2 s3 s4
  refine (HRECF.out (w.alloc (.cells #[.int .u64 (e.ix : Int), .int .u64 (e.term : Int), .slice a e.body.length cp] 55)) RDS.out).mono ?_
  rintro r w2 ⟨rg, rc, rfl, hrow, hb2⟩
  have hlen := rec_len HE.out
  have HFP := Lib.hid (framePut_any (some ⟨rg, 0, none⟩) (recOf e).length rc (recOf e) w2 rfl (hrow.here (rec_range HE.out) (by omega)).1.reads (by omega))
  have HB2 := Lib.hid hb2
  have HBX2 := Lib.hid ((hb2.block sb (lt_of_block HBXW.out)).trans HBXW.out)
  clear hrow hb2 hlen
  go_wp2_with fail
  refine HFP.out.mono ?_
  rintro r w3 ⟨fg, fc, rfl, hfrow, hb3⟩
  have hflen : (frm e).length = (Frame.frameOf (recOf e)).length := rfl
  have HFROW := Lib.hid (show Row w3 w2.heap.size (frm e) (.slice (some ⟨fg, 0, none⟩) (frm e).length fc) from hfrow)
  rw [← hflen]
  have hbx3 := (hb3.block sb (lt_of_block HBX2.out)).trans HBX2.out
  have HB3 := Lib.hid (HB2.out.trans (hb3.mono HB2.out.size))
  have s0 : w3.cell? ⟨sb, 0, none⟩ = some (.int .i64 (k : Int)) := by rw [cell_of_row _ _ 0 _ _ _ hbx3]; rfl
  have s1 : w3.cell? ⟨sb, 1, none⟩ = some x := by rw [cell_of_row _ _ 1 _ _ _ hbx3]; rfl
  have s2 : w3.cell? ⟨sb, 2, none⟩ = some y := by rw [cell_of_row _ _ 2 _ _ _ hbx3]; rfl
  have s3 : w3.cell? ⟨sb, 3, none⟩ = some (.int .i64 (n : Int)) := by rw [cell_of_row _ _ 3 _ _ _ hbx3]; rfl
  have s4 : w3.cell? ⟨sb, 4, none⟩ = some z := by rw [cell_of_row _ _ 4 _ _ _ hbx3]; rfl
  have z3 : w3.frozen? ⟨sb, 3, none⟩ = false := frozen_row hbx3
  have HBX3 := Lib.hid hbx3
  clear hfrow hb3 hbx3 HFP hflen
  go_wp2_with fail
  have hx4 : (w3.setCell ⟨sb, 3, none⟩ (.int .i64 ((n : Int) + 1))).heap[sb]? = some (.cells #[.int .i64 (k : Int), x, y, .int .i64 ((n : Int) + 1), z] 75 (0, 0)) := cells_set HBX3.out 3 _
  have hd4 : DiskAt (w3.setCell ⟨sb, 3, none⟩ (.int .i64 ((n : Int) + 1))) B o g M N := (HDW.out.below HB3.out).setCell HFREEW.out _
  have ht4 : Tabs B (w3.setCell ⟨sb, 3, none⟩ (.int .i64 ((n : Int) + 1))) := HTW.out.below ((HB3.out.mono HBW.out).setCell (p := ⟨sb, 3, none⟩) hBs _)
  have hz4 : B ≤ (w3.setCell ⟨sb, 3, none⟩ (.int .i64 ((n : Int) + 1))).heap.size := by have := HB3.out.size; have := HBW.out; simp [World.setCell]; omega
  have hr4 := HFROW.out.setSeg (j := 3) (x := .int .i64 ((n : Int) + 1)) HBX3.out
  have HS4 := Lib.hid (StepU.trans ((Step.of_below o HB3.out).toU sb) (StepU.set sb 3 o w3 (.int .i64 ((n : Int) + 1))))
  generalize w3.setCell ⟨sb, 3, none⟩ (.int .i64 ((n : Int) + 1)) = w4 at *
  have HNM := Lib.hid (name_any B _ x y (.int .i64 ((n : Int) + 1)) z w4 hkk ht4 hz4)
  try rw [hcast] at HNM
  have HX4 := Lib.hid hx4
  have HD4 := Lib.hid hd4
  have HZ4 := Lib.hid hz4
  have HR4 := Lib.hid hr4
  clear hx4 hd4 ht4 hz4 hr4 s0 s1 s2 s3 s4 z3 HFROW
  refine HNM.out.mono ?_
  rintro r w5 ⟨rfl, hb5⟩
  have HAP := Lib.hid (HA.out w5 o (some ⟨fg, 0, none⟩) fc (HD4.out.below hb5) (Nat.le_trans HZ4.out hb5.size) (((HR4.out.here (frm_range HE.out) (by have := (frm_len HE.out).2; omega)).1.reads).below hb5) (fun h => by cases h))
  have HB5 := Lib.hid hb5
  have HX5 := Lib.hid ((hb5.block sb (lt_of_block HX4.out)).trans HX4.out)
  clear hb5 HNM
  go_wp2_with fail
  refine HAP.out.mono ?_
  rintro r w6 ⟨rfl, o6, hd6, hs6⟩
  have HD6 := Lib.hid hd6
  have HS6 := Lib.hid hs6
  clear hd6 hs6 HAP
  go_wp2_with fail
  go_ret
  exact ⟨rfl, o6, HD6.out, HSW.out.trans (HS4.out.trans (((Step.of_below o HB5.out).trans HS6.out).toU sb)), ⟨⟨_, _, _, by have hq := (HS6.out.block sb (lt_of_block HX5.out) HFREEW.out).trans HX5.out; simpa using hq⟩, HS6.out.free sb (lt_of_block HX5.out) HFREEW.out (by simp [Value.ownBlock])⟩⟩

set_option maxRecDepth 100000 in
set_option maxHeartbeats 2000000 in
theorem put_first {w : World} {B g N N2 : Nat} {o : Tags} {M M2 : Files} {er : Int} (h : Live w B o g M N) (sb : Nat) (c : Cur) (e : Ent) (a : Option Addr) (cp : Nat) (U : Nat) (hsb : SBox w o sb c) (hc0 : c.num = 0) (hc1 : c.n < 8) (hUs : U ≤ sb) (he : e.ok) (hr : ReadsF w o U a e.body) (hBs : B ≤ sb)
    (HA : Hid (AppendsTo B g M N (nameOf (c.num + 1)) (frm e) er M2 N2)) :
    Calls Tryz.prog 46 #[.pointer (some ⟨sb, 0, none⟩), .pointer (some ⟨g, 0, none⟩), .agg #[.int .u64 (e.ix : Int), .int .u64 (e.term : Int), .slice a e.body.length cp]] w fun r w' => r = .returned (.int .i64 er) ∧ ∃ o', DiskAt w' B o' g M2 N2 ∧ StepU sb o w o' w' ∧ SBox w' o' sb ⟨c.num + 1, 1⟩ := by
  obtain ⟨⟨x, y, z, hbx⟩, hfree⟩ := hsb
  have hsbs := lt_of_block hbx
  have hal : Below w.heap.size w (w.alloc (.cells #[.int .u64 (e.ix : Int), .int .u64 (e.term : Int), .slice a e.body.length cp] 55)) := (Below.refl _ _).alloc (Nat.le_refl _) _
  have hbx1 := (hal.block sb hsbs).trans hbx
  have s0 : (w.alloc (.cells #[.int .u64 (e.ix : Int), .int .u64 (e.term : Int), .slice a e.body.length cp] 55)).cell? ⟨sb, 0, none⟩ = some (.int .i64 (c.num : Int)) := by rw [cell_of_row _ _ 0 _ _ _ hbx1]; rfl
  have s1 : (w.alloc (.cells #[.int .u64 (e.ix : Int), .int .u64 (e.term : Int), .slice a e.body.length cp] 55)).cell? ⟨sb, 1, none⟩ = some x := by rw [cell_of_row _ _ 1 _ _ _ hbx1]; rfl
  have s2 : (w.alloc (.cells #[.int .u64 (e.ix : Int), .int .u64 (e.term : Int), .slice a e.body.length cp] 55)).cell? ⟨sb, 2, none⟩ = some y := by rw [cell_of_row _ _ 2 _ _ _ hbx1]; rfl
  have s3 : (w.alloc (.cells #[.int .u64 (e.ix : Int), .int .u64 (e.term : Int), .slice a e.body.length cp] 55)).cell? ⟨sb, 3, none⟩ = some (.int .i64 (c.n : Int)) := by rw [cell_of_row _ _ 3 _ _ _ hbx1]; rfl
  have s4 : (w.alloc (.cells #[.int .u64 (e.ix : Int), .int .u64 (e.term : Int), .slice a e.body.length cp] 55)).cell? ⟨sb, 4, none⟩ = some z := by rw [cell_of_row _ _ 4 _ _ _ hbx1]; rfl
  have HE := Lib.hid he
  have heb : (w.alloc (.cells #[.int .u64 (e.ix : Int), .int .u64 (e.term : Int), .slice a e.body.length cp] 55)).heap[w.heap.size]? = some (.cells #[.int .u64 (e.ix : Int), .int .u64 (e.term : Int), .slice a e.body.length cp] 55 (0, 0)) := heap_alloc_new _ _
  obtain ⟨k, n⟩ := c
  dsimp only at *
  have hg0 : ((k : Int) == 0) = true := by rw [beq_iff_eq]; omega
  have hgt : ((k : Int) == 99999999) = false := by rw [beq_eq_false_iff_ne]; omega
  have hkk : k + 1 ≤ 99999999 := by omega
  have hcast : ((k + 1 : Nat) : Int) = (k : Int) + 1 := by omega
  have HC0 := Lib.hid hc0
  clear hc0
  have hg8 : decide ((8 : Int) ≤ (n : Int)) = false := by simp; omega
  have HRECF := Lib.hid (fun (W : World) (hW : Reads W a e.body) => record_any e a cp W he hW)
  have HEB := Lib.hid heb
  have HSBS := Lib.hid hsbs
  have RDS := Lib.hid (ReadsF.setRow (w := (w.alloc (.cells #[.int .u64 (e.ix : Int), .int .u64 (e.term : Int), .slice a e.body.length cp] 55))) ⟨hr.1.below hal, hr.2⟩ hUs #[.int .i64 ((k : Int) + 1), .slice none 0 0, .int .i64 0, .int .i64 0, .int .u64 0])
  have HBXW := Lib.hid (setRow_heap _ sb _ #[.int .i64 ((k : Int) + 1), .slice none 0 0, .int .i64 0, .int .i64 0, .int .u64 0] _ _ hbx1)
  have HDW := Lib.hid (DiskAt.setRow (h.disk.below hal) hfree #[.int .i64 ((k : Int) + 1), .slice none 0 0, .int .i64 0, .int .i64 0, .int .u64 0])
  have HTW := Lib.hid ((h.below hal).tabs.below (below_setRow (Below.refl B _) hBs #[.int .i64 ((k : Int) + 1), .slice none 0 0, .int .i64 0, .int .i64 0, .int .u64 0]))
  have HBW := Lib.hid (show B ≤ ((w.alloc (.cells #[.int .u64 (e.ix : Int), .int .u64 (e.term : Int), .slice a e.body.length cp] 55)).setRow sb #[.int .i64 ((k : Int) + 1), .slice none 0 0, .int .i64 0, .int .i64 0, .int .u64 0]).heap.size by have := (h.below hal).hB; simpa using this)
  have HSW := Lib.hid (((Step.of_below o hal).toU sb).trans (StepU.row sb o _ #[.int .i64 ((k : Int) + 1), .slice none 0 0, .int .i64 0, .int .i64 0, .int .u64 0]))
  have HFREEW := Lib.hid hfree
  have hsr := hbx1
  clear h hal hbx hbx1 he hr hfree hsbs heb hUs
  have t0 : ((w.alloc (.cells #[.int .u64 (e.ix : Int), .int .u64 (e.term : Int), .slice a e.body.length cp] 55)).setRow sb #[.int .i64 ((k : Int) + 1), .slice none 0 0, .int .i64 0, .int .i64 0, .int .u64 0]).cell? ⟨w.heap.size, 0, none⟩ = some (.int .u64 (e.ix : Int)) := by rw [cell_setRow_other _ _ _ _ (Nat.ne_of_gt HSBS.out), cell_of_row _ _ 0 _ _ _ HEB.out]; rfl
  have t1 : ((w.alloc (.cells #[.int .u64 (e.ix : Int), .int .u64 (e.term : Int), .slice a e.body.length cp] 55)).setRow sb #[.int .i64 ((k : Int) + 1), .slice none 0 0, .int .i64 0, .int .i64 0, .int .u64 0]).cell? ⟨w.heap.size, 1, none⟩ = some (.int .u64 (e.term : Int)) := by rw [cell_setRow_other _ _ _ _ (Nat.ne_of_gt HSBS.out), cell_of_row _ _ 1 _ _ _ HEB.out]; rfl
  have t2 : ((w.alloc (.cells #[.int .u64 (e.ix : Int), .int .u64 (e.term : Int), .slice a e.body.length cp] 55)).setRow sb #[.int .i64 ((k : Int) + 1), .slice none 0 0, .int .i64 0, .int .i64 0, .int .u64 0]).cell? ⟨w.heap.size, 2, none⟩ = some (.slice a e.body.length cp) := by rw [cell_setRow_other _ _ _ _ (Nat.ne_of_gt HSBS.out), cell_of_row _ _ 2 _ _ _ HEB.out]; rfl
  go_enter Tryz.func46, Tryz.ntmps46
  go_wp2_with (refine wpList_store_row rfl 75 _ _ rfl sb #[.int .i64 ((k : Int) + 1), .slice none 0 0, .int .i64 0, .int .i64 0, .int .u64 0] rfl rfl 75 #[.int .i64 (k : Int), x, y, .int .i64 (n : Int), z] hsr (by kernel_rfl) rfl (by kernel_rfl) ?_)
  clear s0 s1 s2 s3 s4 t0 t1 t2 hsr
  refine (HRECF.out _ RDS.out).mono ?_
  rintro r w2 ⟨rg, rc, rfl, hrow, hb2⟩
  have hlen := rec_len HE.out
  have HFP := Lib.hid (framePut_any (some ⟨rg, 0, none⟩) (recOf e).length rc (recOf e) w2 rfl (hrow.here (rec_range HE.out) (by omega)).1.reads (by omega))
  have HB2 := Lib.hid hb2
  have HBX2 := Lib.hid ((hb2.block sb (lt_of_block HBXW.out)).trans HBXW.out)
  clear hrow hb2 hlen
  go_wp2_with fail
  refine HFP.out.mono ?_
  rintro r w3 ⟨fg, fc, rfl, hfrow, hb3⟩
  have hflen : (frm e).length = (Frame.frameOf (recOf e)).length := rfl
  have HFROW := Lib.hid (show Row w3 w2.heap.size (frm e) (.slice (some ⟨fg, 0, none⟩) (frm e).length fc) from hfrow)
  rw [← hflen]
  have hbx3 := (hb3.block sb (lt_of_block HBX2.out)).trans HBX2.out
  have HB3 := Lib.hid (HB2.out.trans (hb3.mono HB2.out.size))
  have s0 : w3.cell? ⟨sb, 0, none⟩ = some (.int .i64 ((k : Int) + 1)) := by rw [cell_of_row _ _ 0 _ _ _ hbx3]; rfl
  have s1 : w3.cell? ⟨sb, 1, none⟩ = some (.slice none 0 0) := by rw [cell_of_row _ _ 1 _ _ _ hbx3]; rfl
  have s2 : w3.cell? ⟨sb, 2, none⟩ = some (.int .i64 0) := by rw [cell_of_row _ _ 2 _ _ _ hbx3]; rfl
  have s3 : w3.cell? ⟨sb, 3, none⟩ = some (.int .i64 0) := by rw [cell_of_row _ _ 3 _ _ _ hbx3]; rfl
  have s4 : w3.cell? ⟨sb, 4, none⟩ = some (.int .u64 0) := by rw [cell_of_row _ _ 4 _ _ _ hbx3]; rfl
  have z3 : w3.frozen? ⟨sb, 3, none⟩ = false := frozen_row hbx3
  have HBX3 := Lib.hid hbx3
  clear hfrow hb3 hbx3 HFP hflen
  go_wp2_with fail
  have hx4 : (w3.setCell ⟨sb, 3, none⟩ (.int .i64 1)).heap[sb]? = some (.cells #[.int .i64 ((k : Int) + 1), .slice none 0 0, .int .i64 0, .int .i64 1, .int .u64 0] 75 (0, 0)) := cells_set HBX3.out 3 _
  have hd4 : DiskAt (w3.setCell ⟨sb, 3, none⟩ (.int .i64 1)) B o g M N := (HDW.out.below HB3.out).setCell HFREEW.out _
  have ht4 : Tabs B (w3.setCell ⟨sb, 3, none⟩ (.int .i64 1)) := HTW.out.below ((HB3.out.mono HBW.out).setCell (p := ⟨sb, 3, none⟩) hBs _)
  have hz4 : B ≤ (w3.setCell ⟨sb, 3, none⟩ (.int .i64 1)).heap.size := by have := HB3.out.size; have := HBW.out; simp [World.setCell]; omega
  have hr4 := HFROW.out.setSeg (j := 3) (x := .int .i64 1) HBX3.out
  have HS4 := Lib.hid (StepU.trans ((Step.of_below o HB3.out).toU sb) (StepU.set sb 3 o w3 (.int .i64 1)))
  generalize w3.setCell ⟨sb, 3, none⟩ (.int .i64 1) = w4 at *
  have HNM := Lib.hid (name_any B (k + 1) (.slice none 0 0) (.int .i64 0) (.int .i64 1) (.int .u64 0) w4 hkk ht4 hz4)
  try rw [hcast] at HNM
  have HX4 := Lib.hid hx4
  have HD4 := Lib.hid hd4
  have HZ4 := Lib.hid hz4
  have HR4 := Lib.hid hr4
  clear hx4 hd4 ht4 hz4 hr4 s0 s1 s2 s3 s4 z3 HFROW
  refine HNM.out.mono ?_
  rintro r w5 ⟨rfl, hb5⟩
  have HAP := Lib.hid (HA.out w5 o (some ⟨fg, 0, none⟩) fc (HD4.out.below hb5) (Nat.le_trans HZ4.out hb5.size) (((HR4.out.here (frm_range HE.out) (by have := (frm_len HE.out).2; omega)).1.reads).below hb5) (fun h => by cases h))
  have HB5 := Lib.hid hb5
  have HX5 := Lib.hid ((hb5.block sb (lt_of_block HX4.out)).trans HX4.out)
  clear hb5 HNM
  go_wp2_with fail
  refine HAP.out.mono ?_
  rintro r w6 ⟨rfl, o6, hd6, hs6⟩
  have HD6 := Lib.hid hd6
  have HS6 := Lib.hid hs6
  clear hd6 hs6 HAP
  go_wp2_with fail
  go_ret
  exact ⟨rfl, o6, HD6.out, HSW.out.trans (HS4.out.trans (((Step.of_below o HB5.out).trans HS6.out).toU sb)), ⟨⟨_, _, _, by have hq := (HS6.out.block sb (lt_of_block HX5.out) HFREEW.out).trans HX5.out; simpa using hq⟩, HS6.out.free sb (lt_of_block HX5.out) HFREEW.out (by simp [Value.ownBlock])⟩⟩

set_option maxRecDepth 100000 in
set_option maxHeartbeats 2000000 in
theorem put_full {w : World} {B g N N2 : Nat} {o : Tags} {M M2 : Files} {er : Int} (h : Live w B o g M N) (sb : Nat) (c : Cur) (e : Ent) (a : Option Addr) (cp : Nat) (U : Nat) (hsb : SBox w o sb c) (hc0 : 1 ≤ c.num ∧ c.num < 99999999) (hc1 : 8 ≤ c.n) (hcn : c.n ≤ 1000000000) (hM : (M (nameOf c.num)).isSome = true) (hUs : U ≤ sb) (he : e.ok) (hr : ReadsF w o U a e.body) (hBs : B ≤ sb)
    (HA : Hid (AppendsTo B g (syncM M c) N (nameOf (c.num + 1)) (frm e) er M2 N2)) :
    Calls Tryz.prog 46 #[.pointer (some ⟨sb, 0, none⟩), .pointer (some ⟨g, 0, none⟩), .agg #[.int .u64 (e.ix : Int), .int .u64 (e.term : Int), .slice a e.body.length cp]] w fun r w' => r = .returned (.int .i64 er) ∧ ∃ o', DiskAt w' B o' g M2 N2 ∧ StepU sb o w o' w' ∧ SBox w' o' sb ⟨c.num + 1, 1⟩ := by
  obtain ⟨⟨x, y, z, hbx⟩, hfree⟩ := hsb
  have hsbs := lt_of_block hbx
  have hal : Below w.heap.size w (w.alloc (.cells #[.int .u64 (e.ix : Int), .int .u64 (e.term : Int), .slice a e.body.length cp] 55)) := (Below.refl _ _).alloc (Nat.le_refl _) _
  have hbx1 := (hal.block sb hsbs).trans hbx
  have s0 : (w.alloc (.cells #[.int .u64 (e.ix : Int), .int .u64 (e.term : Int), .slice a e.body.length cp] 55)).cell? ⟨sb, 0, none⟩ = some (.int .i64 (c.num : Int)) := by rw [cell_of_row _ _ 0 _ _ _ hbx1]; rfl
  have s1 : (w.alloc (.cells #[.int .u64 (e.ix : Int), .int .u64 (e.term : Int), .slice a e.body.length cp] 55)).cell? ⟨sb, 1, none⟩ = some x := by rw [cell_of_row _ _ 1 _ _ _ hbx1]; rfl
  have s2 : (w.alloc (.cells #[.int .u64 (e.ix : Int), .int .u64 (e.term : Int), .slice a e.body.length cp] 55)).cell? ⟨sb, 2, none⟩ = some y := by rw [cell_of_row _ _ 2 _ _ _ hbx1]; rfl
  have s3 : (w.alloc (.cells #[.int .u64 (e.ix : Int), .int .u64 (e.term : Int), .slice a e.body.length cp] 55)).cell? ⟨sb, 3, none⟩ = some (.int .i64 (c.n : Int)) := by rw [cell_of_row _ _ 3 _ _ _ hbx1]; rfl
  have s4 : (w.alloc (.cells #[.int .u64 (e.ix : Int), .int .u64 (e.term : Int), .slice a e.body.length cp] 55)).cell? ⟨sb, 4, none⟩ = some z := by rw [cell_of_row _ _ 4 _ _ _ hbx1]; rfl
  have HE := Lib.hid he
  have heb : (w.alloc (.cells #[.int .u64 (e.ix : Int), .int .u64 (e.term : Int), .slice a e.body.length cp] 55)).heap[w.heap.size]? = some (.cells #[.int .u64 (e.ix : Int), .int .u64 (e.term : Int), .slice a e.body.length cp] 55 (0, 0)) := heap_alloc_new _ _
  obtain ⟨k, n⟩ := c
  have hsM : syncM M ⟨k, n⟩ = upd M (nameOf k) (settled (M.at (nameOf k)).now) := if_pos hc1
  rw [hsM] at HA
  dsimp only at *
  have hg0 : ((k : Int) == 0) = false := by rw [beq_eq_false_iff_ne]; omega
  have hgt : ((k : Int) == 99999999) = false := by rw [beq_eq_false_iff_ne]; omega
  have hkk : k + 1 ≤ 99999999 := by omega
  have hcast : ((k + 1 : Nat) : Int) = (k : Int) + 1 := by omega
  have hg8 : decide ((8 : Int) ≤ (n : Int)) = true := by simp; omega
  have HRECF := Lib.hid (fun (W : World) (hW : Reads W a e.body) => record_any e a cp W he hW)
  have HL1 := Lib.hid (h.below hal)
  have HNM0 := Lib.hid (HL1.out.name k x y (.int .i64 (n : Int)) z (by omega))
  have HM := Lib.hid hM
  have HR := Lib.hid (show ReadsF (w.alloc (.cells #[.int .u64 (e.ix : Int), .int .u64 (e.term : Int), .slice a e.body.length cp] 55)) o U a e.body from ⟨hr.1.below hal, hr.2⟩)
  have HAL := Lib.hid hal
  have HBX1 := Lib.hid hbx1
  have HEB1 := Lib.hid heb
  have HSBS := Lib.hid hsbs
  have HFREE := Lib.hid hfree
  have HFE := Lib.hid (h.free (Nat.le_refl _))
  have HC0 := Lib.hid hc0
  clear h hal hbx hbx1 he hr hfree hsbs heb hM hsM hc0
  go_enter Tryz.func46, Tryz.ntmps46
  go_wp2_with fail
  refine HNM0.out.mono ?_
  rintro r w2 ⟨rfl, hb2⟩
  have HSY := Lib.hid (sync_any g B N o M (nameOf k) w2 (HL1.out.disk.below hb2) HM.out (by rw [name_len]; decide) (by rw [name_len]; decide) (by have := HL1.out.few; omega) (HL1.out.at_ _))
  have HB2 := Lib.hid hb2
  clear hb2 HNM0 s0 s1 s2 s3 s4
  go_wp2_with fail
  refine HSY.out.mono ?_
  rintro r w3 ⟨rfl, o3, hd3, hs3⟩
  have hst : Step o (w.alloc (.cells #[.int .u64 (e.ix : Int), .int .u64 (e.term : Int), .slice a e.body.length cp] 55)) o3 w3 := (Step.of_below o HB2.out).trans hs3
  have hsb1 : sb < (w.alloc (.cells #[.int .u64 (e.ix : Int), .int .u64 (e.term : Int), .slice a e.body.length cp] 55)).heap.size := by have := HSBS.out; simp; omega
  have hbx3 := (hst.block sb hsb1 HFREE.out).trans HBX1.out
  have heb3 := (hst.block w.heap.size (by simp) HFE.out).trans HEB1.out
  have hfree3 : o3 sb = none := hst.free sb hsb1 HFREE.out (by simp [Value.ownBlock])
  have hr3 := HR.out.stepU (hst.toU sb) hUs (by omega)
  have s0 : w3.cell? ⟨sb, 0, none⟩ = some (.int .i64 (k : Int)) := by rw [cell_of_row _ _ 0 _ _ _ hbx3]; rfl
  have s3 : w3.cell? ⟨sb, 3, none⟩ = some (.int .i64 (n : Int)) := by rw [cell_of_row _ _ 3 _ _ _ hbx3]; rfl
  have HEB := Lib.hid heb3
  have RDS := Lib.hid (hr3.setRow hUs #[.int .i64 ((k : Int) + 1), .slice none 0 0, .int .i64 0, .int .i64 0, .int .u64 0])
  have HBXW := Lib.hid (setRow_heap _ sb _ #[.int .i64 ((k : Int) + 1), .slice none 0 0, .int .i64 0, .int .i64 0, .int .u64 0] _ _ hbx3)
  have HDW := Lib.hid (hd3.setRow hfree3 #[.int .i64 ((k : Int) + 1), .slice none 0 0, .int .i64 0, .int .i64 0, .int .u64 0])
  have HTW := Lib.hid ((HL1.out.tabs_step hst).below (below_setRow (Below.refl B _) hBs #[.int .i64 ((k : Int) + 1), .slice none 0 0, .int .i64 0, .int .i64 0, .int .u64 0]))
  have HBW := Lib.hid (show B ≤ (w3.setRow sb #[.int .i64 ((k : Int) + 1), .slice none 0 0, .int .i64 0, .int .i64 0, .int .u64 0]).heap.size by have := HL1.out.hB; have := hst.size; rw [setRow_size]; omega)
  have HSW := Lib.hid ((((Step.of_below o HAL.out).trans hst).toU sb).trans (StepU.row sb o3 w3 #[.int .i64 ((k : Int) + 1), .slice none 0 0, .int .i64 0, .int .i64 0, .int .u64 0]))
  have HFREEW := Lib.hid hfree3
  have hsr := hbx3
  clear hd3 hs3 hst hsb1 hbx3 heb3 hfree3 hr3 HSY HL1 HBX1 HEB1
  have t0 : (w3.setRow sb #[.int .i64 ((k : Int) + 1), .slice none 0 0, .int .i64 0, .int .i64 0, .int .u64 0]).cell? ⟨w.heap.size, 0, none⟩ = some (.int .u64 (e.ix : Int)) := by rw [cell_setRow_other _ _ _ _ (Nat.ne_of_gt HSBS.out), cell_of_row _ _ 0 _ _ _ HEB.out]; rfl
  have t1 : (w3.setRow sb #[.int .i64 ((k : Int) + 1), .slice none 0 0, .int .i64 0, .int .i64 0, .int .u64 0]).cell? ⟨w.heap.size, 1, none⟩ = some (.int .u64 (e.term : Int)) := by rw [cell_setRow_other _ _ _ _ (Nat.ne_of_gt HSBS.out), cell_of_row _ _ 1 _ _ _ HEB.out]; rfl
  have t2 : (w3.setRow sb #[.int .i64 ((k : Int) + 1), .slice none 0 0, .int .i64 0, .int .i64 0, .int .u64 0]).cell? ⟨w.heap.size, 2, none⟩ = some (.slice a e.body.length cp) := by rw [cell_setRow_other _ _ _ _ (Nat.ne_of_gt HSBS.out), cell_of_row _ _ 2 _ _ _ HEB.out]; rfl

  go_wp2_with (refine wpList_store_row rfl 75 _ _ rfl sb #[.int .i64 ((k : Int) + 1), .slice none 0 0, .int .i64 0, .int .i64 0, .int .u64 0] rfl rfl 75 #[.int .i64 (k : Int), x, y, .int .i64 (n : Int), z] hsr (by kernel_rfl) rfl (by kernel_rfl) ?_)
  clear s0 s3 t0 t1 t2 hsr
  refine (HRECF.out _ RDS.out).mono ?_
  rintro r w2 ⟨rg, rc, rfl, hrow, hb2⟩
  have hlen := rec_len HE.out
  have HFP := Lib.hid (framePut_any (some ⟨rg, 0, none⟩) (recOf e).length rc (recOf e) w2 rfl (hrow.here (rec_range HE.out) (by omega)).1.reads (by omega))
  have HB2 := Lib.hid hb2
  have HBX2 := Lib.hid ((hb2.block sb (lt_of_block HBXW.out)).trans HBXW.out)
  clear hrow hb2 hlen
  go_wp2_with fail
  refine HFP.out.mono ?_
  rintro r w3 ⟨fg, fc, rfl, hfrow, hb3⟩
  have hflen : (frm e).length = (Frame.frameOf (recOf e)).length := rfl
  have HFROW := Lib.hid (show Row w3 w2.heap.size (frm e) (.slice (some ⟨fg, 0, none⟩) (frm e).length fc) from hfrow)
  rw [← hflen]
  have hbx3 := (hb3.block sb (lt_of_block HBX2.out)).trans HBX2.out
  have HB3 := Lib.hid (HB2.out.trans (hb3.mono HB2.out.size))
  have s0 : w3.cell? ⟨sb, 0, none⟩ = some (.int .i64 ((k : Int) + 1)) := by rw [cell_of_row _ _ 0 _ _ _ hbx3]; rfl
  have s1 : w3.cell? ⟨sb, 1, none⟩ = some (.slice none 0 0) := by rw [cell_of_row _ _ 1 _ _ _ hbx3]; rfl
  have s2 : w3.cell? ⟨sb, 2, none⟩ = some (.int .i64 0) := by rw [cell_of_row _ _ 2 _ _ _ hbx3]; rfl
  have s3 : w3.cell? ⟨sb, 3, none⟩ = some (.int .i64 0) := by rw [cell_of_row _ _ 3 _ _ _ hbx3]; rfl
  have s4 : w3.cell? ⟨sb, 4, none⟩ = some (.int .u64 0) := by rw [cell_of_row _ _ 4 _ _ _ hbx3]; rfl
  have z3 : w3.frozen? ⟨sb, 3, none⟩ = false := frozen_row hbx3
  have HBX3 := Lib.hid hbx3
  clear hfrow hb3 hbx3 HFP hflen
  go_wp2_with fail
  have hx4 : (w3.setCell ⟨sb, 3, none⟩ (.int .i64 1)).heap[sb]? = some (.cells #[.int .i64 ((k : Int) + 1), .slice none 0 0, .int .i64 0, .int .i64 1, .int .u64 0] 75 (0, 0)) := cells_set HBX3.out 3 _
  have hd4 : DiskAt (w3.setCell ⟨sb, 3, none⟩ (.int .i64 1)) B o3 g (upd M (nameOf k) (settled (M.at (nameOf k)).now)) N := (HDW.out.below HB3.out).setCell HFREEW.out _
  have ht4 : Tabs B (w3.setCell ⟨sb, 3, none⟩ (.int .i64 1)) := HTW.out.below ((HB3.out.mono HBW.out).setCell (p := ⟨sb, 3, none⟩) hBs _)
  have hz4 : B ≤ (w3.setCell ⟨sb, 3, none⟩ (.int .i64 1)).heap.size := by have := HB3.out.size; have := HBW.out; simp [World.setCell]; omega
  have hr4 := HFROW.out.setSeg (j := 3) (x := .int .i64 1) HBX3.out
  have HS4 := Lib.hid (StepU.trans ((Step.of_below o3 HB3.out).toU sb) (StepU.set sb 3 o3 w3 (.int .i64 1)))
  generalize w3.setCell ⟨sb, 3, none⟩ (.int .i64 1) = w4 at *
  have HNM := Lib.hid (name_any B (k + 1) (.slice none 0 0) (.int .i64 0) (.int .i64 1) (.int .u64 0) w4 hkk ht4 hz4)
  try rw [hcast] at HNM
  have HX4 := Lib.hid hx4
  have HD4 := Lib.hid hd4
  have HZ4 := Lib.hid hz4
  have HR4 := Lib.hid hr4
  clear hx4 hd4 ht4 hz4 hr4 s0 s1 s2 s3 s4 z3 HFROW
  refine HNM.out.mono ?_
  rintro r w5 ⟨rfl, hb5⟩
  have HAP := Lib.hid (HA.out w5 o3 (some ⟨fg, 0, none⟩) fc (HD4.out.below hb5) (Nat.le_trans HZ4.out hb5.size) (((HR4.out.here (frm_range HE.out) (by have := (frm_len HE.out).2; omega)).1.reads).below hb5) (fun h => by cases h))
  have HB5 := Lib.hid hb5
  have HX5 := Lib.hid ((hb5.block sb (lt_of_block HX4.out)).trans HX4.out)
  clear hb5 HNM
  go_wp2_with fail
  refine HAP.out.mono ?_
  rintro r w6 ⟨rfl, o6, hd6, hs6⟩
  have HD6 := Lib.hid hd6
  have HS6 := Lib.hid hs6
  clear hd6 hs6 HAP
  go_wp2_with fail
  go_ret
  exact ⟨rfl, o6, HD6.out, HSW.out.trans (HS4.out.trans (((Step.of_below o3 HB5.out).trans HS6.out).toU sb)), ⟨⟨_, _, _, by have hq := (HS6.out.block sb (lt_of_block HX5.out) HFREEW.out).trans HX5.out; simpa using hq⟩, HS6.out.free sb (lt_of_block HX5.out) HFREEW.out (by simp [Value.ownBlock])⟩⟩

end Go.Proofs.YtmfemedcjgeheaaGreatDoor
