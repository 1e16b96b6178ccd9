/- framed, parse and learn, by their contracts. learn, write, Open and Accept, by their contracts. -/
import Derived.Test.YtjpbniajhkindaaTops
import Derived.Test.YtjpbniajhkindaaRecV
import Derived.Test.YtjpbniajhkindaaLivV
namespace Go.Proofs.Ytjpbniajhkindaa
open Go.RowKit Go.Maps Go.Sort Dsk Tok

/-- nothing that was there has turned but the block b -/
structure Only (b : Nat) (w w' : World) : Prop where
  os : w'.os = w.os
  tape : w'.tape = w.tape
  output : w'.output = w.output
  size : w.heap.size ≤ w'.heap.size
  block : ∀ i, i < w.heap.size → i ≠ b → w'.heap[i]? = w.heap[i]?
theorem Only.refl (b : Nat) (w : World) : Only b w w := ⟨rfl, rfl, rfl, Nat.le_refl _, fun _ _ _ => rfl⟩
theorem Only.trans {b : Nat} {w w1 w2 : World} (h : Only b w w1) (k : Only b w1 w2) : Only b w w2 :=
  ⟨k.os.trans h.os, k.tape.trans h.tape, k.output.trans h.output, Nat.le_trans h.size k.size, fun i hi hb => (k.block i (Nat.lt_of_lt_of_le hi h.size) hb).trans (h.block i hi hb)⟩
theorem Only.of_below {w w' : World} (b : Nat) (h : Below w.heap.size w w') : Only b w w' := ⟨h.os, h.tape, h.output, h.size, fun i hi _ => h.block i hi⟩
theorem Only.of_grown {b : Nat} {w w' : World} (h : w.grownBy w' (some b)) : Only b w w' := ⟨h.os, h.tape, h.output, h.size, fun i hi hb => h.block i hi (by simpa using hb)⟩
theorem Only.below {b B : Nat} {w w' : World} (h : Only b w w') (hB : B ≤ w.heap.size) (hb : B ≤ b) : Below B w w' :=
  ⟨h.os, h.tape, h.output, h.size, fun i hi => h.block i (by omega) (by omega)⟩
theorem Reads.only {b : Nat} {w w' : World} {a : Option Addr} {zs : List Int} (h : Reads w a zs) (ho : Only b w w') (hb : ∃ es c, w.heap[b]? = some (.map es c)) : Reads w' a zs :=
  ⟨fun i hi => by
    obtain ⟨x, hx, hlt, hc⟩ := h.cell i hi
    have hne : (x.add i).block ≠ b := fun e => by
      obtain ⟨es, c, hb⟩ := hb
      unfold World.cell? at hc
      rw [e, hb] at hc
      simp at hc
    have hbl : (x.add i).block = x.block := by unfold Addr.add; split <;> rfl
    refine ⟨x, hx, Nat.lt_of_lt_of_le hlt ho.size, ?_⟩
    rw [← hc]
    unfold World.cell?
    rw [ho.block _ (by rw [hbl]; exact hlt) hne], h.hr, h.hl⟩
theorem TopsAt.isMap {w : World} {b n : Nat} {f : Nat → Nat} (h : TopsAt w b f n) : ∃ es c, w.heap[b]? = some (.map es c) := by
  obtain ⟨D, ⟨es, c, hb, _⟩, _⟩ := h.map
  exact ⟨es, c, hb⟩

set_option maxRecDepth 100000 in
set_option maxHeartbeats 1000000 in
theorem framed_any {j t : Nat} (hj : j < top64) (ht : t < top64) (w : World) :
    Calls Try.prog 19 #[.int .u64 (j : Int), .int .u64 (t : Int)] w fun e w' => ∃ g c, e = .returned (.slice (some ⟨g, 0, none⟩) (Frame.frameOf (rb (j, t))).length c) ∧
      Row w' w.heap.size (Frame.frameOf (rb (j, t))) (.slice (some ⟨g, 0, none⟩) (Frame.frameOf (rb (j, t))).length c) ∧ Below w.heap.size w w' := by
  have HP1 := Lib.hid (fun w => put_any j hj w)
  have HP2 := Lib.hid (fun w => put_any t ht w)
  have HR := Lib.hid (And.intro (put_range hj) (put_range ht))
  have hl := rb_len (j, t)
  have hfl := frame_le (j, t)
  have hre : rb (j, t) = Num.put j ++ (Num.put t ++ []) := rfl
  rw [List.append_nil] at hre
  have HRE := Lib.hid hre
  have HRR := Lib.hid (rb_range (r := (j, t)) ⟨hj, ht⟩)
  have hp1 := Num.put_len j
  have hp2 := Num.put_len t
  clear hre
  go_enter Try.func19, Try.ntmps19
  go_wp2_with fail
  refine (HP1.out _).mono ?_
  rintro e w1 ⟨v1, rfl, hrow1, hb1⟩
  obtain ⟨a1, c1, rfl, hh1, hn1, hc1, hc1', _⟩ := row_src hrow1 HR.out.1 (by omega)
  have H1 := Lib.hid hh1
  have HB1 := Lib.hid hb1
  have HN1 := Lib.hid hn1
  clear hrow1 hh1 hb1 hn1
  go_wp2_with fail
  refine (HP2.out _).mono ?_
  rintro e w2 ⟨v2, rfl, hrow2, hb2⟩
  obtain ⟨a2, c2, rfl, hh2, hn2, hc2, hc2', _⟩ := row_src hrow2 HR.out.2 (by omega)
  have hh12 := H1.out.below hb2
  have HB2 := Lib.hid (HB1.out.trans (hb2.mono HB1.out.size))
  have hal : Below w2.heap.size w2 (w2.alloc (.cells #[.slice a1 (Num.put j).length c1, .slice a2 (Num.put t).length c2] 33)) := (Below.refl _ _).alloc (Nat.le_refl _) _
  have hblk := heap_alloc_new w2 (.cells #[.slice a1 (Num.put j).length c1, .slice a2 (Num.put t).length c2] 33)
  have hparts : Parts (w2.alloc (.cells #[.slice a1 (Num.put j).length c1, .slice a2 (Num.put t).length c2] 33)) w2.heap.size 2 (fun i => if i = 0 then a1 else a2) (fun i => if i = 0 then Num.put j else Num.put t) (fun i => if i = 0 then c1 else c2) := by
    refine ⟨fun i hi => ?_, fun i hi e => ?_, fun i hi ad e => ?_⟩
    · rw [cell_of_row _ _ i _ _ _ hblk]
      match i, hi with
      | 0, _ => rfl
      | 1, _ => rfl
    · match i, hi, e with
      | 0, _, e => exact HN1.out e
      | 1, _, e => exact hn2 e
    · match i, hi, e with
      | 0, _, e => exact reads_news (hh12.below hal).reads ad e
      | 1, _, e => exact reads_news (hh2.below hal).reads ad e
  have hcat : cat (fun i => if i = 0 then Num.put j else Num.put t) 2 = rb (j, t) := by rw [HRE.out]; rfl
  have hJ := join_any w2.heap.size 2 2 _ _ _ _ hparts (by omega) (by rw [hcat]; omega)
  rw [hcat] at hJ
  have HJ := Lib.hid hJ
  have HAL := Lib.hid (HB2.out.trans (hal.mono HB2.out.size))
  clear hrow2 hh2 hh12 hb2 hn2 hal hblk hparts hcat hJ
  go_wp2_with fail
  refine HJ.out.mono ?_
  rintro e w3 ⟨g3, c3, rfl, hrow3, hb3⟩
  obtain ⟨a3, c3', he3, hh3, _, _, _, _⟩ := row_src hrow3 HRR.out (by omega)
  have ha3 : a3 = some ⟨g3, 0, none⟩ := by cases he3; rfl
  subst ha3
  have HF := Lib.hid (framePut_any (some ⟨g3, 0, none⟩) (rb (j, t)).length c3 (rb (j, t)) w3 rfl hh3.reads (by omega))
  have HB3 := Lib.hid (HAL.out.trans (hb3.mono HAL.out.size))
  clear hrow3 hh3 hb3 he3
  go_wp2_with fail
  refine HF.out.mono ?_
  rintro e w4 ⟨g, c, rfl, hrow, hb4⟩
  have HRW := Lib.hid hrow
  have HB4 := Lib.hid (HB3.out.trans (hb4.mono HB3.out.size))
  have hs3 := HB3.out.size
  clear hrow hb4
  go_wp2_with fail
  go_ret
  exact ⟨g, c, rfl, own_base HRW.out hs3, HB4.out⟩

set_option maxRecDepth 100000 in
/-- a number is taken off a record -/
theorem parse1_any (eb rbk ab : Nat) (a : Option Addr) (c p n k : Nat) (zs : List Int) (w : World) (hr : Reads w a zs) (hl : zs.length ≤ 1000000) (hp : p ≤ zs.length) (hd : Num.dec 10 0 0 (zs.drop p) = some (n, k))
    (he : Boxed w eb 27 (.int .i64 0)) (hb : Boxed w rbk 33 (.slice a zs.length c)) (ha : Boxed w ab 3 (.int .i64 (p : Int))) (hne : ab ≠ eb) :
    Calls Try.prog 44 #[.pointer (some ⟨eb, 0, none⟩), .pointer (some ⟨rbk, 0, none⟩), .pointer (some ⟨ab, 0, none⟩)] w fun e w' =>
      e = .returned (.int .u64 (n : Int)) ∧ ∃ w1, Below w.heap.size w w1 ∧ w' = (w1.setCell ⟨ab, 0, none⟩ (.int .i64 ((p + k : Nat) : Int))).setCell ⟨eb, 0, none⟩ (.int .i64 0) := by
  have HT := Lib.hid (take_any a zs.length c p zs w hr rfl (by omega) hp)
  rw [hd] at HT
  have hce := he.cell
  have hcb := hb.cell
  have hca := ha.cell
  have HE := Lib.hid he
  have HA := Lib.hid ha
  clear hr he hb ha hd
  go_enter Try.func44, Try.ntmps44
  go_wp2_with fail
  refine HT.out.mono ?_
  rintro e w1 ⟨rfl, hb1⟩
  have he1 : Boxed w1 eb _ _ := (hb1.block _ HE.out.lt).trans HE.out
  have ha1 : Boxed w1 ab _ _ := (hb1.block _ HA.out.lt).trans HA.out
  have hc1 := he1.cell
  have hf1 := he1.frozen
  have hc2 := ha1.cell
  have hf2 := ha1.frozen
  have HB1 := Lib.hid hb1
  clear hb1 he1 ha1
  go_wp2
  go_ret
  exact ⟨rfl, w1, HB1.out, rfl⟩

theorem boxed_set {w : World} {b : Nat} {t : TypeId} {v : Value} (h : Boxed w b t v) (x : Addr) (u : Value) (hne : x.block ≠ b) : Boxed (w.setCell x u) b t v :=
  (Below.heap_setCell _ _ _ _ (fun e => hne e.symm)).trans h

set_option maxRecDepth 100000 in
set_option maxHeartbeats 1000000 in
theorem parse_any {j t : Nat} (hj : j < top64) (ht : t < top64) (a : Option Addr) (c : Nat) (w : World) (hr : Reads w a (rb (j, t))) :
    Calls Try.prog 31 #[.slice a (rb (j, t)).length c] w fun e w' => e = .returned (.tuple #[.int .u64 (j : Int), .int .u64 (t : Int), .bool true]) ∧ Below w.heap.size w w' := by
  have hl := rb_len (j, t)
  have hre : rb (j, t) = Num.put j ++ Num.put t := by
    have : rb (j, t) = Num.put j ++ (Num.put t ++ []) := rfl
    rw [this, List.append_nil]
  have hd1 : Num.dec 10 0 0 ((rb (j, t)).drop 0) = some (j, (Num.put j).length) := by rw [List.drop_zero, hre]; exact Num.dec_put j hj _
  have hd2 : Num.dec 10 0 0 ((rb (j, t)).drop (0 + (Num.put j).length)) = some (t, (Num.put t).length) := by
    rw [Nat.zero_add, hre, List.drop_left]
    have := Num.dec_put t ht []
    rwa [List.append_nil] at this
  have hlen : (rb (j, t)).length = (Num.put j).length + (Num.put t).length := by rw [hre, List.length_append]
  have hp1 := Num.put_len j
  have hp2 := Num.put_len t
  obtain ⟨zs, hzs⟩ : ∃ zs, zs = rb (j, t) := ⟨_, rfl⟩
  rw [← hzs] at hr hl hd1 hd2 hlen ⊢
  obtain ⟨k1, hk1⟩ : ∃ k, k = (Num.put j).length := ⟨_, rfl⟩
  obtain ⟨k2, hk2⟩ : ∃ k, k = (Num.put t).length := ⟨_, rfl⟩
  rw [← hk1] at hd1 hd2 hlen hp1
  rw [← hk2] at hd2 hlen hp2
  obtain ⟨W, hW⟩ : ∃ W, W = ((w.alloc (.cells #[.slice a zs.length c] 33)).alloc (.cells #[.int .i64 0] 3)).alloc (.cells #[.int .i64 0] 27) := ⟨_, rfl⟩
  have hb0 : Below w.heap.size w W := by rw [hW]; exact (((Below.refl _ _).alloc (Nat.le_refl _) _).alloc (by simp) _).alloc (by simp; omega) _
  have x0 : Boxed W w.heap.size 33 (.slice a zs.length c) := by rw [hW]; exact ((Boxed.new w _ _).alloc _).alloc _
  have x1 : Boxed W (w.heap.size + 1) 3 (.int .i64 0) := by
    rw [hW]
    have := (Boxed.new (w.alloc (.cells #[.slice a zs.length c] 33)) 3 (.int .i64 0)).alloc (.cells #[.int .i64 0] 27)
    simpa using this
  have x2 : Boxed W (w.heap.size + 1 + 1) 27 (.int .i64 0) := by
    rw [hW]
    have := Boxed.new ((w.alloc (.cells #[.slice a zs.length c] 33)).alloc (.cells #[.int .i64 0] 3)) 27 (.int .i64 0)
    simpa using this
  have hsW : W.heap.size = w.heap.size + 3 := by rw [hW]; simp
  have HR0 := Lib.hid hr
  have HR := Lib.hid (hr.below hb0)
  have X0 := Lib.hid x0
  have X1 := Lib.hid x1
  have X2 := Lib.hid x2
  have HB0 := Lib.hid hb0
  have HN1 := Lib.hid (parse1_any (w.heap.size + 1 + 1) w.heap.size (w.heap.size + 1) a c 0 j k1 zs W HR.out (by omega) (by omega) hd1 x2 x0 x1 (by omega))
  have HD2 := Lib.hid hd2
  have HW := Lib.hid hW
  have HK := Lib.hid (And.intro hk1 (And.intro hk2 hzs))
  have HLEN := Lib.hid hlen
  clear hlen hr hb0 x0 x1 x2 hd1 hd2 hW hre hk1 hk2 hzs
  go_enter Try.func31, Try.ntmps31
  go_wp2_with fail
  rw [← HW.out]
  refine HN1.out.mono ?_
  rintro e w2 ⟨rfl, w1, hb1, rfl⟩
  have y0 := boxed_set (boxed_set ((hb1.block _ X0.out.lt).trans X0.out) ⟨w.heap.size + 1, 0, none⟩ (.int .i64 ((0 + k1 : Nat) : Int)) (by simp)) ⟨w.heap.size + 1 + 1, 0, none⟩ (.int .i64 0) (by show w.heap.size + 1 + 1 ≠ _; omega)
  have y1 := boxed_set (Boxed.set (.int .i64 ((0 + k1 : Nat) : Int)) (show Boxed w1 (w.heap.size + 1) _ _ from (hb1.block _ X1.out.lt).trans X1.out)) ⟨w.heap.size + 1 + 1, 0, none⟩ (.int .i64 0) (by show w.heap.size + 1 + 1 ≠ _; omega)
  have y2 := Boxed.set (.int .i64 0) (boxed_set (show Boxed w1 (w.heap.size + 1 + 1) _ _ from (hb1.block _ X2.out.lt).trans X2.out) ⟨w.heap.size + 1, 0, none⟩ (.int .i64 ((0 + k1 : Nat) : Int)) (by simp))
  have hb2 : Below w.heap.size w ((w1.setCell ⟨w.heap.size + 1, 0, none⟩ (.int .i64 ((0 + k1 : Nat) : Int))).setCell ⟨w.heap.size + 1 + 1, 0, none⟩ (.int .i64 0)) :=
    ((HB0.out.trans (hb1.mono HB0.out.size)).setCell (p := ⟨w.heap.size + 1, 0, none⟩) (by simp) _).setCell (p := ⟨w.heap.size + 1 + 1, 0, none⟩) (by show w.heap.size ≤ w.heap.size + 1 + 1; omega) _
  have hr2 : Reads ((w1.setCell ⟨w.heap.size + 1, 0, none⟩ (.int .i64 ((0 + k1 : Nat) : Int))).setCell ⟨w.heap.size + 1 + 1, 0, none⟩ (.int .i64 0)) a zs := HR0.out.below hb2
  obtain ⟨W2, hW2⟩ : ∃ W2, W2 = (w1.setCell ⟨w.heap.size + 1, 0, none⟩ (.int .i64 ((0 + k1 : Nat) : Int))).setCell ⟨w.heap.size + 1 + 1, 0, none⟩ (.int .i64 0) := ⟨_, rfl⟩
  rw [← hW2] at y0 y1 y2 hb2 hr2 ⊢
  have HN2 := Lib.hid (parse1_any (w.heap.size + 1 + 1) w.heap.size (w.heap.size + 1) a c (0 + k1) t k2 zs W2 hr2 (by omega) (by have := HLEN.out; omega) HD2.out y2 y0 y1 (by omega))
  have Y0 := Lib.hid y0
  have Y1 := Lib.hid y1
  have Y2 := Lib.hid y2
  have HB2 := Lib.hid hb2
  clear y0 y1 y2 hb2 hr2 hW2 hb1 HN1
  go_wp2_with fail
  refine HN2.out.mono ?_
  rintro e w4 ⟨rfl, w3, hb3, rfl⟩
  have z0 := boxed_set (boxed_set ((hb3.block _ Y0.out.lt).trans Y0.out) ⟨w.heap.size + 1, 0, none⟩ (.int .i64 ((0 + k1 + k2 : Nat) : Int)) (by simp)) ⟨w.heap.size + 1 + 1, 0, none⟩ (.int .i64 0) (by show w.heap.size + 1 + 1 ≠ _; omega)
  have z1 := boxed_set (Boxed.set (.int .i64 ((0 + k1 + k2 : Nat) : Int)) (show Boxed w3 (w.heap.size + 1) _ _ from (hb3.block _ Y1.out.lt).trans Y1.out)) ⟨w.heap.size + 1 + 1, 0, none⟩ (.int .i64 0) (by show w.heap.size + 1 + 1 ≠ _; omega)
  have z2 := Boxed.set (.int .i64 0) (boxed_set (show Boxed w3 (w.heap.size + 1 + 1) _ _ from (hb3.block _ Y2.out.lt).trans Y2.out) ⟨w.heap.size + 1, 0, none⟩ (.int .i64 ((0 + k1 + k2 : Nat) : Int)) (by simp))
  have hb4 : Below w.heap.size w ((w3.setCell ⟨w.heap.size + 1, 0, none⟩ (.int .i64 ((0 + k1 + k2 : Nat) : Int))).setCell ⟨w.heap.size + 1 + 1, 0, none⟩ (.int .i64 0)) :=
    ((HB2.out.trans (hb3.mono HB2.out.size)).setCell (p := ⟨w.heap.size + 1, 0, none⟩) (by simp) _).setCell (p := ⟨w.heap.size + 1 + 1, 0, none⟩) (by show w.heap.size ≤ w.heap.size + 1 + 1; omega) _
  have hlen := HLEN.out
  rw [show 0 + k1 + k2 = zs.length by omega] at z1 z0 z2 hb4 ⊢
  obtain ⟨W4, hW4⟩ : ∃ W4, W4 = (w3.setCell ⟨w.heap.size + 1, 0, none⟩ (.int .i64 ((zs.length : Nat) : Int))).setCell ⟨w.heap.size + 1 + 1, 0, none⟩ (.int .i64 0) := ⟨_, rfl⟩
  rw [← hW4] at z0 z1 z2 hb4 ⊢
  clear hlen
  have c0 := z0.cell
  have c1 := z1.cell
  have c2 := z2.cell
  have HB4 := Lib.hid hb4
  clear z0 z1 z2 hb4 hW4 hb3 HN2
  go_wp2_with fail
  go_region
  all_goals go_wp2
  (try simp only [Exit.inBlock, Exit.then]); refine bodyPost_ret (results_tmp3 rfl _ _ _) rfl ?_
  exact ⟨rfl, HB4.out.drew⟩

end Go.Proofs.Ytjpbniajhkindaa

namespace Go.Proofs.Ytjpbniajhkindaa
open Go.RowKit Go.Maps Go.Sort Dsk Tok

def tokN : Name := [116, 111, 107, 101, 110]

set_option maxRecDepth 100000 in
set_option maxHeartbeats 2000000 in
theorem learn_any {w : World} {k g b n : Nat} {f : Nat → Nat} (h : BookAt w k g b f n) (rs : List (Nat × Nat)) (hfit : Fit rs) (hrl : rs.length ≤ 1000) (hn : n + rs.length < 1000000) (hkb : k ≠ b) (a : Option Addr) (c : Nat) (hr : Reads w a (img rs)) (hc : (img rs).length ≤ c) (hcm : c ≤ 9223372036854775807) :
    Calls Try.prog 15 #[.pointer (some ⟨k, 0, none⟩), .slice a (img rs).length c] w fun e w' => e = .returned (.int .i64 ((img rs).length : Int)) ∧ BookAt w' k g b (tops rs f) (n + rs.length) ∧ Only b w w' := by
  have hbl := img_le rs
  have hlen : (img rs).length ≤ 40000 := by omega
  obtain ⟨L, hL⟩ : ∃ L, L = (img rs).length := ⟨_, rfl⟩
  have HFIT := Lib.hid hfit
  have HB0 := Lib.hid h
  have HR0 := Lib.hid hr
  have HL := Lib.hid hL
  have HIM := Lib.hid h.tops.isMap
  rw [← hL] at hc hlen ⊢
  clear hfit h hr hL hbl
  go_enter Try.func15, Try.ntmps15
  go_wp2
  go_loopw [5] (fun v wr => ∃ (i q : Nat), v = .int .i64 (q : Int) ∧ q = (img (rs.take i)).length ∧ i ≤ rs.length ∧ BookAt wr k g b (tops (rs.take i) f) (n + i) ∧ Only b w wr) (fun v _ => L + 1 - (intOf v).toNat)
  case atStart => exact ⟨0, 0, rfl, rfl, Nat.zero_le _, HB0.out, Only.refl _ _⟩
  case round =>
    obtain ⟨i, q, rfl, hq, hi, hbk, ho⟩ := hrel
    have hsplit : img rs = img (rs.take i) ++ img (rs.drop i) := img_split rs i
    have hdrop : (img rs).drop q = img (rs.drop i) := by rw [hsplit, hq, List.drop_left]
    have hqL : q ≤ L := by
      have := congrArg List.length hsplit
      rw [List.length_append] at this
      have := HL.out
      omega
    have hrw := (HR0.out.only ho HIM.out).drop q
    rw [hdrop] at hrw
    have hll : L - q = (img (rs.drop i)).length := by
      have := congrArg List.length hdrop
      rw [List.length_drop] at this
      rw [HL.out]; omega
    have HF := Lib.hid (first_any (Option.map (fun x => x.add q) a) (L - q) (c - q) (img (rs.drop i)) wr hll hrw (by omega) (by omega) (by omega))
    by_cases hlt : i < rs.length
    · have he : rs.drop i = rs[i] :: rs.drop (i + 1) := List.drop_eq_getElem_cons hlt
      have hfr : Frame.firstOf (img (rs.drop i)) = some (rb rs[i], (Frame.frameOf (rb rs[i])).length) := by
        have : img (rs.drop i) = Frame.frameOf (rb rs[i]) ++ img (rs.drop (i + 1)) := by rw [he, img_cons]
        rw [this]
        exact Frame.first_frame _ _ (by have := rb_len rs[i]; omega)
      rw [hfr] at HF
      obtain ⟨j, t, hjt⟩ : ∃ j t, rs[i] = (j, t) := ⟨_, _, rfl⟩
      have htk : rs.take (i + 1) = rs.take i ++ [(j, t)] := by rw [← hjt]; exact List.take_succ_eq_append_getElem hlt
      have hft := HFIT.out rs[i] (List.getElem_mem hlt)
      rw [hjt] at HF hft
      have hfl := frame_le (j, t)
      have hfp : 1 ≤ (Frame.frameOf (rb (j, t))).length := by rw [Frame.frame_len]; omega
      obtain ⟨m, hm⟩ : ∃ m, m = (Frame.frameOf (rb (j, t))).length := ⟨_, rfl⟩
      rw [← hm] at HF hfl hfp
      have hq2 : q + m = (img (rs.take (i + 1))).length := by rw [htk, img_snoc, List.length_append, ← hq, hm]
      have hq2L : q + m ≤ L := by
        have h2 : img rs = img (rs.take (i + 1)) ++ img (rs.drop (i + 1)) := img_split rs (i + 1)
        have := congrArg List.length h2
        rw [List.length_append] at this
        have := HL.out
        omega
      have HBK := Lib.hid hbk
      have HO := Lib.hid ho
      have HQ2 := Lib.hid hq2
      have HTK := Lib.hid htk
      clear hsplit hdrop hrw hll hbk ho hfr he hjt hm hq2 htk hq
      go_wp2_with fail
      refine HF.out.mono ?_
      rintro e w1 ⟨g1, c1, rfl, hg1, hh1, hc1, hb1⟩
      have HP := Lib.hid (parse_any hft.1 hft.2 (some ⟨g1, 0, none⟩) c1 w1 hh1.reads)
      have hbk1 := HBK.out.below hb1
      have HO1 := Lib.hid (HO.out.trans (Only.of_below b hb1))
      have HBK1 := Lib.hid hbk1
      obtain ⟨rl, hrl1⟩ : ∃ rl, rl = (rb (j, t)).length := ⟨_, rfl⟩
      rw [← hrl1] at HP hc1 ⊢
      clear hb1 hh1 hbk1 hrl1
      go_wp2_with fail
      refine HP.out.mono ?_
      rintro e w2 ⟨rfl, hb2⟩
      have HNT := Lib.hid (note_any (HBK1.out.below hb2) (by omega) hkb hft.1 hft.2)
      have HO2 := Lib.hid (HO1.out.trans (Only.of_below b hb2))
      clear hb2
      go_wp2_with fail
      refine HNT.out.mono ?_
      rintro e w3 ⟨rfl, hbk3, hg3⟩
      have HBK3 := Lib.hid hbk3
      have HO3 := Lib.hid (HO2.out.trans (Only.of_grown hg3))
      clear hbk3 hg3
      go_wp2
      go_roundw
      case rel => exact ⟨i + 1, q + m, by go_num, HQ2.out, by omega, by rw [HTK.out, tops_snoc]; exact HBK3.out, HO3.out⟩
      case measure => simp [intOf]; omega
    · obtain rfl : i = rs.length := by omega
      rw [List.drop_length] at HF
      rw [List.take_length] at hbk hq
      have hqe : q = L := by rw [hq]; exact HL.out.symm
      have HBK := Lib.hid hbk
      have HO := Lib.hid ho
      clear hsplit hdrop hrw hll hbk ho hq
      subst hqe
      clear HF
      by_cases hcq : c = q
      · have HF := Lib.hid (first_any a 0 0 [] wr rfl (Reads.nil _ _) (by omega) (by omega) (by omega))
        subst hcq
        go_wp2_with fail
        refine HF.out.mono ?_
        rintro e w1 ⟨rfl, hb1⟩
        have hbk1 := HBK.out.below hb1
        have HO1 := Lib.hid (HO.out.trans (Only.of_below b hb1))
        have HBK1 := Lib.hid hbk1
        clear hb1 hbk1
        go_wp2_with fail
        go_ret
        exact ⟨rfl, HBK1.out, HO1.out⟩
      · have HF := Lib.hid (first_any (Option.map (fun x => x.add q) a) 0 (c - q) [] wr rfl (Reads.nil _ _) (by omega) (by omega) (by omega))
        go_wp2_with fail
        refine HF.out.mono ?_
        rintro e w1 ⟨rfl, hb1⟩
        have hbk1 := HBK.out.below hb1
        have HO1 := Lib.hid (HO.out.trans (Only.of_below b hb1))
        have HBK1 := Lib.hid hbk1
        clear hb1 hbk1
        go_wp2_with fail
        go_ret
        exact ⟨rfl, HBK1.out, HO1.out⟩

/-- the disk's one file -/
structure FileIs (M : Files) (zs : List Int) : Prop where
  one : ∀ l, l ≠ tokN → M l = none
  tok : M tokN = some (sureF zs) ∨ (M tokN = none ∧ zs = [])
theorem FileIs.tame {M : Files} {zs : List Int} (h : FileIs M zs) : Tame M := by
  intro l f hf
  by_cases hl : l = tokN
  · subst hl
    rcases h.tok with h1 | ⟨h1, _⟩
    · rw [h1] at hf; cases hf; exact ⟨by decide, by simp [sureF]⟩
    · rw [h1] at hf; cases hf
  · rw [h.one l hl] at hf; cases hf
theorem FileIs.sure {M : Files} {zs ys : List Int} (h : FileIs M zs) : FileIs (upd M tokN (some (sureF ys))) ys :=
  ⟨fun l hl => by rw [upd_other _ _ hl]; exact h.one l hl, .inl (upd_same _ _ _)⟩
theorem FileIs.none : FileIs (fun _ => none) [] := ⟨fun _ _ => rfl, .inr ⟨rfl, rfl⟩⟩
theorem FileIs.now {M : Files} {zs : List Int} (h : FileIs M zs) : (M.at tokN).now.bs = zs ∧ (M.at tokN).later = [] := by
  rcases h.tok with h1 | ⟨h1, rfl⟩ <;> simp [Files.at, h1, sureF, Fil.now, Fil.zero, Ver.zero]
theorem FileIs.crashed {M : Files} {zs : List Int} (h : FileIs M zs) {ks : List Name} (s : Nat → Nat) (hk : NamesOf M (fun f => f.loose) ks) : Dsk.crashed M ks s = M := by
  have hks : ks = [] := by
    cases ks with
    | nil => rfl
    | cons l r =>
      obtain ⟨f, h1, h2⟩ := (hk.2 l).1 (by simp)
      by_cases hl : l = tokN
      · subst hl
        rcases h.tok with h3 | ⟨h3, _⟩
        · rw [h3] at h1; cases h1; cases h2
        · rw [h3] at h1; cases h1
      · rw [h.one l hl] at h1; cases h1
  subst hks
  funext l
  simp [Dsk.crashed]

/-- what a call leaves: but for the disk's blocks and the map's all is as it was -/
structure Eff (o o' : Tags) (b : Nat) (w w' : World) : Prop where
  os : w'.os = w.os
  tape : w'.tape = w.tape
  output : w'.output = w.output
  size : w.heap.size ≤ w'.heap.size
  block : ∀ i, i < w.heap.size → o i = none → i ≠ b → w'.heap[i]? = w.heap[i]?
  free : ∀ i, i < w.heap.size → o i = none → o' i = none
theorem Eff.trans {o o1 o2 : Tags} {b : Nat} {w w1 w2 : World} (h : Eff o o1 b w w1) (k : Eff o1 o2 b w1 w2) : Eff o o2 b w w2 :=
  ⟨k.os.trans h.os, k.tape.trans h.tape, k.output.trans h.output, Nat.le_trans h.size k.size, fun i hi ho hb => (k.block i (Nat.lt_of_lt_of_le hi h.size) (h.free i hi ho) hb).trans (h.block i hi ho hb), fun i hi ho => k.free i (Nat.lt_of_lt_of_le hi h.size) (h.free i hi ho)⟩
theorem Eff.of_step {o o' : Tags} {w w' : World} (b : Nat) (h : Step o w o' w') : Eff o o' b w w' :=
  ⟨h.os, h.tape, h.output, h.size, fun i hi ho _ => h.block i hi ho, fun i hi ho => h.free i hi ho (by simp [Value.ownBlock])⟩
theorem Eff.of_only {o : Tags} {b : Nat} {w w' : World} (h : Only b w w') : Eff o o b w w' := ⟨h.os, h.tape, h.output, h.size, fun i hi _ hb => h.block i hi hb, fun _ _ ho => ho⟩
theorem Eff.of_below {o : Tags} {w w' : World} (b : Nat) (h : Below w.heap.size w w') : Eff o o b w w' := Eff.of_only (Only.of_below b h)
theorem Eff.refl (o : Tags) (b : Nat) (w : World) : Eff o o b w w := Eff.of_only (Only.refl b w)
theorem Eff.below {o o' : Tags} {b B : Nat} {w w' : World} (h : Eff o o' b w w') (hB : B ≤ w.heap.size) (hb : B ≤ b) (ho : ∀ i, i < B → o i = none) : Below B w w' :=
  ⟨h.os, h.tape, h.output, h.size, fun i hi => h.block i (by omega) (ho i hi) (by omega)⟩

theorem DiskAt.only {w w' : World} {B g N b : Nat} {o : Tags} {M : Files} (h : DiskAt w B o g M N) (ho : Only b w w') (hb : o b = none) : DiskAt w' B o g M N := by
  obtain ⟨b', D, h⟩ := h
  exact ⟨b', D, h.same ho.size fun k hk => ho.block k (h.own k hk).2 (fun e => by subst e; exact hk hb)⟩

/-- a disk and a worker's book of it -/
structure TokAt (w : World) (B g N : Nat) (o : Tags) (M : Files) (rs : List (Nat × Nat)) (k b : Nat) (f : Nat → Nat) (n : Nat) : Prop where
  disk : DiskAt w B o g M N
  hB : B ≤ w.heap.size
  few : N ≤ 1
  has : (M tokN).isSome = false → N = 0
  file : FileIs M (img rs)
  fit : Fit rs
  book : BookAt w k g b f n
  ok : o k = none
  ob : o b = none
  kb : k ≠ b

theorem TokAt.liv {w : World} {B g N k b n : Nat} {o : Tags} {M : Files} {rs : List (Nat × Nat)} {f : Nat → Nat} (h : TokAt w B g N o M rs k b f n) : Liv w B o g M N := ⟨h.disk, h.hB, h.file.tame, by have := h.few; omega⟩
theorem TokAt.below {w w' : World} {B g N k b n : Nat} {o : Tags} {M : Files} {rs : List (Nat × Nat)} {f : Nat → Nat} (h : TokAt w B g N o M rs k b f n) (hb : Below w.heap.size w w') : TokAt w' B g N o M rs k b f n :=
  { h with disk := h.disk.below hb, hB := Nat.le_trans h.hB hb.size, book := h.book.below hb }

theorem TokAt.cnt {w : World} {B g N k b n : Nat} {o : Tags} {M : Files} {rs : List (Nat × Nat)} {f : Nat → Nat} (h : TokAt w B g N o M rs k b f n) : cntN M tokN N ≤ 1 := by
  unfold cntN
  split
  · exact h.few
  · rename_i hs
    have := h.has (by simpa using hs)
    omega
/-- the same, of whatever files -/
def Tk (w : World) (B g : Nat) (o : Tags) (rs : List (Nat × Nat)) (k b : Nat) (f : Nat → Nat) (n : Nat) : Prop := ∃ M N, TokAt w B g N o M rs k b f n
theorem Tk.below {w w' : World} {B g k b n : Nat} {o : Tags} {rs : List (Nat × Nat)} {f : Nat → Nat} (h : Tk w B g o rs k b f n) (hb : Below w.heap.size w w') : Tk w' B g o rs k b f n := by
  obtain ⟨M, N, h⟩ := h
  exact ⟨M, N, h.below hb⟩

end Go.Proofs.Ytjpbniajhkindaa
