/- job.Parse, by its contract, where a job stands that may be. job.Same, by its contract: of a job, and itself with its Deps elsewhere. What is taken of a job's bytes is the job: plain mathematics. A row that a call made is read like any slice of bytes. -/
import Derived.Test.YtoghalmjbbkjhaaGreatDoorTakeJ
import Derived.Test.YtoghalmjbbkjhaaGreatDoorMaq
import Derived.Test.YtoghalmjbbkjhaaGreatDoorPutJ
import Derived.Test.YtoghalmjbbkjhaaGreatDoorMah
namespace Go.Proofs.YtoghalmjbbkjhaaGreatDoor.Job
open Go.RowKit

set_option maxRecDepth 100000 in
set_option maxHeartbeats 4000000 in
theorem parseJ_yes (a : Option Addr) (len cap p q : Nat) (zs : List Int) (w : World) (hr : Pk.Reads w a zs) (hz : len = zs.length) (hl : len ≤ 1000000000000) (hp : p ≤ len) (hcap : len ≤ cap) (hcm : cap ≤ 9223372036854775807)
    (hq : (takenM zs (some p)).2 = some q) (hm : (takenM zs (some p)).1.err = 0) (hw : TabsOn w) (hn : NamesOn w) :
    Calls Tryz.prog 12 #[.slice a len cap, .int .i64 (p : Int)] w fun e w' => ∃ (da : Option Addr) (dc : Nat), e = .returned (.tuple #[((takenM zs (some p)).1.at da dc).val, .int .i64 (q : Int), .int .i64 0]) ∧
      RowU w' w.heap.size (takenM zs (some p)).1.deps (.slice da (takenM zs (some p)).1.deps.length dc) ∧ Below w.heap.size w w' := by
  obtain ⟨w0, hw0⟩ : ∃ W, W = w.alloc (.cells #[.int .u64 0, .string (ByteArray.mk #[]), .string (ByteArray.mk #[]), .int .i64 0, .int .i64 0, .int .i64 0, .int .i64 0, .int .i64 0, .slice none 0 0, .bool false, .int .u64 0, .int .i64 0] 25) := ⟨_, rfl⟩
  have hb0 : Below w.heap.size w w0 := by rw [hw0]; exact (Below.refl _ _).alloc (Nat.le_refl _) _
  have hs0 : w0.heap.size = w.heap.size + 1 := by rw [hw0]; simp
  have hj0 : w0.heap[w.heap.size]? = some (jobj zeroJ) := by rw [hw0]; exact heap_alloc_new w _
  have HT := Lib.hid (taken_any a len cap p zs w0 (hr.below hb0) hz hl hp hcap hcm)
  have HMAY := Lib.hid (fun da dc W (hW : Below w.heap.size w W) => mayJ_any ((takenM zs (some p)).1.at da dc) W (hw.next hW) (hn.next hW))
  have HE : Hid (∀ da dc, ((takenM zs (some p)).1.at da dc).err = 0) := Lib.hid (fun da dc => hm)
  obtain ⟨R, hR⟩ : ∃ R, R = takenM zs (some p) := ⟨_, rfl⟩
  rw [← hR] at HT HMAY HE hq ⊢
  have hd1 : decide ((p : Int) < 0) = false := by simp
  have hd2 : decide ((len : Int) < (p : Int)) = false := by simp; omega
  have hd3 : ¬ (len : Int) < (p : Int) := by omega
  have HW0 := Lib.hid hw0
  have HB0 := Lib.hid hb0
  have HJ0 := Lib.hid hj0
  have HS0 := Lib.hid hs0
  have HQ := Lib.hid hq
  clear hR hr hz hl hcap hcm hm hw hn hw0 hb0 hj0 hs0 hq hp
  go_enter Tryz.func12, Tryz.ntmps12
  go_wp2_with fail
  rw [← HW0.out]
  refine HT.out.mono ?_
  rintro e w1 ⟨da, dc, n, rfl, hn, hrow, hb1⟩
  obtain rfl := hn q HQ.out
  rw [HQ.out, show (some q).isSome = true from rfl]
  obtain ⟨jx, hjx⟩ : ∃ j, j = R.1.at da dc := ⟨_, rfl⟩
  have HMAYX := Lib.hid (HMAY.out da dc)
  have hex := HE.out da dc
  rw [← hjx] at HMAYX hex ⊢
  rw [hex] at HMAYX
  have hj1 : w1.heap[w.heap.size]? = some (jobj zeroJ) := (hb1.block _ (by have := HS0.out; omega)).trans HJ0.out
  have hj2 : (w1.setRow w.heap.size jx.cells).heap[w.heap.size]? = some (jobj jx) := setRow_heap _ _ _ _ _ _ hj1
  have hb2 : Below w.heap.size w (w1.setRow w.heap.size jx.cells) := (HB0.out.trans (hb1.mono HB0.out.size)).trans ⟨rfl, rfl, rfl, by rw [setRow_size]; exact Nat.le_refl _, fun k hk => setRow_other _ _ _ _ (Nat.ne_of_lt hk)⟩
  have hr2 : RowU (w1.setRow w.heap.size jx.cells) w0.heap.size R.1.deps (.slice da R.1.deps.length dc) := own_kept hrow (fun k e => setRow_other _ _ _ _ (by have := (World.ownsRow.lt hrow k e).1; have := HS0.out; omega))
  have HJ1 := Lib.hid hj1
  have HJ2 := Lib.hid hj2
  have HB2 := Lib.hid hb2
  have HR2 := Lib.hid hr2
  have HJX := Lib.hid hjx
  clear hj1 hj2 hb2 hr2 hjx hn hrow hb1 hex HT HMAY HE
  obtain ⟨w2, hw2⟩ : ∃ W, W = w1.setRow w.heap.size jx.cells := ⟨_, rfl⟩
  rw [← hw2] at HJ2 HB2 HR2
  have HW2 := Lib.hid hw2
  clear hw2
  unfold J.val
  go_wp2_with (refine wpList_store_row rfl 25 _ _ rfl w.heap.size jx.cells rfl rfl 25 zeroJ.cells HJ1.out (by kernel_rfl) rfl (by kernel_rfl) ?_; rw [← HW2.out]; obtain ⟨⟨c0, c1, c2, c3, c4, c5⟩, c6, c7, c8, c9, c10, c11⟩ := jobj_cells HJ2.out)
  unfold J.val J.cells jcells at HMAYX
  refine (HMAYX.out _ HB2.out).mono ?_
  rintro e w3 ⟨rfl, hb3⟩
  have hj3 : w3.heap[w.heap.size]? = some (jobj jx) := (hb3.block _ (Array.getElem?_eq_some_iff.1 HJ2.out).1).trans HJ2.out
  have hj4 : (w3.setRow w.heap.size jx.cells).heap[w.heap.size]? = some (jobj jx) := setRow_heap _ _ _ _ _ _ hj3
  have hb4 : Below w.heap.size w (w3.setRow w.heap.size jx.cells) := (HB2.out.trans (hb3.mono HB2.out.size)).trans ⟨rfl, rfl, rfl, by rw [setRow_size]; exact Nat.le_refl _, fun k hk => setRow_other _ _ _ _ (Nat.ne_of_lt hk)⟩
  have hr4 : RowU (w3.setRow w.heap.size jx.cells) w0.heap.size R.1.deps (.slice da R.1.deps.length dc) := own_kept (own_below HR2.out hb3) (fun k e => setRow_other _ _ _ _ (by have := (World.ownsRow.lt HR2.out k e).1; have := HS0.out; omega))
  have HJ4 := Lib.hid hj4
  have HB4 := Lib.hid hb4
  have HR4 := Lib.hid (own_less hr4 (B' := w.heap.size) (by have := HS0.out; omega))
  have HJ3 := Lib.hid hj3
  clear hj4 hb4 hr4 hb3 c0 c1 c2 c3 c4 c5 c6 c7 c8 c9 c10 c11
  obtain ⟨⟨c0, c1, c2, c3, c4, c5⟩, c6, c7, c8, c9, c10, c11⟩ := jobj_cells hj3
  clear hj3
  go_wp2_with (refine wpList_store_row rfl 25 _ _ rfl w.heap.size #[.int .u64 jx.id, .string jx.name, .string jx.expr, .int .i64 jx.pol, .int .i64 jx.gra, .int .i64 jx.lim, .int .i64 jx.ret, .int .i64 jx.tim, .slice jx.da jx.deps.length jx.dc, .bool jx.pau, .int .u64 jx.ver, .int .i64 jx.seen] rfl rfl 25 jx.cells HJ3.out (by kernel_rfl) rfl (by kernel_rfl) ?_)
  trace_state
  change bodyPost _ _ _ _ _ (w3.setRow w.heap.size jx.cells)
  clear c0 c1 c2 c3 c4 c5 c6 c7 c8 c9 c10 c11
  generalize w3.setRow w.heap.size jx.cells = w4 at *
  obtain ⟨⟨c0, c1, c2, c3, c4, c5⟩, c6, c7, c8, c9, c10, c11⟩ := jobj_cells HJ4.out
  refine bodyPost_ret (v := .tuple #[jx.val, .int .i64 (q : Int), .int .i64 0]) (by simp [results, Tryz.results12, go_sem, c0, c1, c2, c3, c4, c5, c6, c7, c8, c9, c10, c11, J.val, J.cells, jcells]) rfl ?_
  exact ⟨da, dc, by rw [HJX.out], HR4.out, HB4.out⟩
end Go.Proofs.YtoghalmjbbkjhaaGreatDoor.Job

namespace Go.Proofs.YtoghalmjbbkjhaaGreatDoor.Job
open Go.RowKit

set_option maxRecDepth 100000 in
set_option maxHeartbeats 2000000 in
theorem same_yes (j : J) (a : Option Addr) (c : Nat) (w : World) (h1 : Vals w a (j.deps.map uv)) (h2 : Vals w j.da (j.deps.map uv)) (hl : j.deps.length ≤ 1000000) :
    Calls Tryz.prog 13 #[(j.at a c).val, j.val] w fun e w' => e = .returned (.bool true) ∧ Below w.heap.size w w' := by
  have HEQ := Lib.hid (fun W (hW : Below w.heap.size w W) => equal_any (c := c) (d := j.dc) (h1.below hW) (h2.below hW) hl)
  have hb : Below w.heap.size w ((w.alloc (.cells #[.int .u64 j.id, .string j.name, .string j.expr, .int .i64 j.pol, .int .i64 j.gra, .int .i64 j.lim, .int .i64 j.ret, .int .i64 j.tim, .slice a j.deps.length c, .bool j.pau, .int .u64 j.ver, .int .i64 j.seen] 25)).alloc (.cells #[.int .u64 j.id, .string j.name, .string j.expr, .int .i64 j.pol, .int .i64 j.gra, .int .i64 j.lim, .int .i64 j.ret, .int .i64 j.tim, .slice j.da j.deps.length j.dc, .bool j.pau, .int .u64 j.ver, .int .i64 j.seen] 25)) :=
    ((Below.refl _ _).alloc (Nat.le_refl _) _).alloc (by simp) _
  have HB := Lib.hid hb
  clear h1 h2 hb
  unfold J.val J.cells jcells J.at
  dsimp only
  go_enter Tryz.func13, Tryz.ntmps13
  go_wp2_with fail
  refine (HEQ.out _ HB.out).mono ?_
  rintro e w1 ⟨rfl, hd⟩
  have hb1 := hd.bel
  have HB1 := Lib.hid (HB.out.trans (hb1.mono HB.out.size))
  have hs := HB1.out.size
  have hr0 := (hb1.block w.heap.size (by simp; omega)).trans ((Below.heap_alloc _ _ _ (by simp)).trans (heap_alloc_new w (.cells #[.int .u64 j.id, .string j.name, .string j.expr, .int .i64 j.pol, .int .i64 j.gra, .int .i64 j.lim, .int .i64 j.ret, .int .i64 j.tim, .slice a j.deps.length c, .bool j.pau, .int .u64 j.ver, .int .i64 j.seen] 25)))
  have hr1 : w1.heap[w.heap.size + 1]? = some (jobj j) := (hb1.block (w.heap.size + 1) (by simp)).trans (by
    have h9 := box_new (w.alloc (.cells #[.int .u64 j.id, .string j.name, .string j.expr, .int .i64 j.pol, .int .i64 j.gra, .int .i64 j.lim, .int .i64 j.ret, .int .i64 j.tim, .slice a j.deps.length c, .bool j.pau, .int .u64 j.ver, .int .i64 j.seen] 25)) j
    rw [show (w.alloc (.cells #[.int .u64 j.id, .string j.name, .string j.expr, .int .i64 j.pol, .int .i64 j.gra, .int .i64 j.lim, .int .i64 j.ret, .int .i64 j.tim, .slice a j.deps.length c, .bool j.pau, .int .u64 j.ver, .int .i64 j.seen] 25)).heap.size = w.heap.size + 1 by simp] at h9
    exact h9)
  have hr0' : w1.heap[w.heap.size]? = some (jobj (j.at a c)) := hr0
  obtain ⟨⟨c0, c1, c2, c3, c4, c5⟩, c6, c7, c8, c9, c10, c11⟩ := jobj_cells hr0'
  obtain ⟨⟨d0, d1, d2, d3, d4, d5⟩, d6, d7, d8, d9, d10, d11⟩ := jobj_cells hr1
  unfold J.at at c0 c1 c2 c3 c4 c5 c6 c7 c8 c9 c10 c11
  dsimp only at c0 c1 c2 c3 c4 c5 c6 c7 c8 c9 c10 c11
  have hdt : decide (j.deps = j.deps) = true := by simp
  clear hb1 hd hr0 hr0' hr1
  go_wp2_with fail
  go_ret
  exact ⟨by first | rfl | simp, HB1.out⟩
end Go.Proofs.YtoghalmjbbkjhaaGreatDoor.Job

namespace Go.Proofs.YtoghalmjbbkjhaaGreatDoor.Job
open Go.RowKit

theorem str_bl (s : ByteArray) : strOfNums (Pk.bl s) = s := by
  have h : (strOfNums (Pk.bl s)).data.toList = s.data.toList := by
    unfold Pk.bl
    simp only [strOfNums, List.map_map]
    refine (List.map_congr_left fun x _ => ?_).trans (List.map_id _)
    simp
  cases s with | mk d =>
  cases h2 : strOfNums (Pk.bl ⟨d⟩) with | mk d2 =>
  rw [h2] at h
  congr 1
  cases d; cases d2
  simpa using h

/-- from the place p on zs is l -/
def At (zs : List Int) (p : Nat) (l : List Int) : Prop := zs.drop p = l ∧ p ≤ zs.length
theorem At.next {zs : List Int} {p : Nat} {a l : List Int} (h : At zs p (a ++ l)) : At zs (p + a.length) l := by
  have hl := congrArg List.length h.1
  rw [List.length_drop, List.length_append] at hl
  refine ⟨?_, by have := h.2; omega⟩
  rw [← List.drop_drop, h.1, List.drop_left]
theorem At.len {zs : List Int} {p : Nat} {l : List Int} (h : At zs p l) : zs.length = p + l.length := by
  have hl := congrArg List.length h.1
  rw [List.length_drop] at hl
  have := h.2
  omega
theorem tkN_put {zs rest : List Int} {p : Nat} {n : Nat} (most : Nat) (h : At zs p (Num.put n ++ rest)) (hn : n < 18446744073709551616) (hm : n ≤ most) : tkN zs most (some p) = (n, some (p + (Num.put n).length)) := by
  simp only [tkN]
  rw [h.1, Num.dec_put n hn]
  simp only [tkN1, if_pos hm]
theorem tkI_put {zs rest : List Int} {p : Nat} {n : Int} (h : At zs p (Num.put (Num.zig n) ++ rest)) (h0 : -9223372036854775808 ≤ n) (h1 : n ≤ 9223372036854775807) : tkI zs (some p) = (n, some (p + (Num.put (Num.zig n)).length)) := by
  simp only [tkI]
  rw [h.1, Num.dec_put _ (Num.zig_lt h0 h1)]
  simp only [tkI1, Num.unzig_zig]
theorem tkT_put {zs rest : List Int} {p : Nat} {s : ByteArray} (h : At zs p (txt s ++ rest)) (hs : s.size ≤ 4096) : tkT zs (some p) = (s, some (p + (txt s).length)) := by
  have hl := h.len
  simp only [tkT]
  have e : txt s ++ rest = Num.put s.size ++ (Pk.bl s ++ rest) := by unfold txt; rw [List.append_assoc]
  have h2 : At zs p (Num.put s.size ++ (Pk.bl s ++ rest)) := by rw [← e]; exact h
  have hb := Pk.bl_len s
  rw [h2.1, Num.dec_put _ (by omega)]
  have hd := h2.next.1
  have hlt : (txt s).length = (Num.put s.size).length + s.size := by unfold txt; rw [List.length_append, hb]
  rw [List.length_append] at hl
  simp only [tkT1]
  rw [if_pos ⟨hs, by omega⟩, hd]
  have : (Pk.bl s ++ rest).take s.size = Pk.bl s := by rw [← hb, List.take_left]
  rw [this, str_bl, hlt, Nat.add_assoc]
theorem tkD_put {zs rest : List Int} {p : Nat} (ds : List Int) (h : At zs p (putAll ds ++ rest)) (hu : ∀ x ∈ ds, U64 x) : ∀ k, k ≤ ds.length → tkD zs k (some p) = (ds.take k, some (p + (putAll (ds.take k)).length))
  | 0, _ => by simp [tkD, putAll]
  | k + 1, hk => by
    have hlt : k < ds.length := by omega
    have ih := tkD_put ds h hu k (by omega)
    have hx := hu _ (List.getElem_mem hlt)
    have he : putAll ds ++ rest = putAll (ds.take k) ++ (Num.put (ds[k]).toNat ++ (putAll (ds.drop (k + 1)) ++ rest)) := by
      have e1 : ds = ds.take k ++ (ds[k] :: ds.drop (k + 1)) := by rw [List.getElem_cons_drop, List.take_append_drop]
      have e2 := congrArg putAll e1
      rw [putAll_append] at e2
      rw [e2]
      simp only [putAll, List.append_assoc]
    have h2 : At zs (p + (putAll (ds.take k)).length) (Num.put (ds[k]).toNat ++ (putAll (ds.drop (k + 1)) ++ rest)) := At.next (by rw [← he]; exact h)
    have h3 := tkN_put 18446744073709551615 h2 (by have := hx.1; have := hx.2; omega) (by have := hx.1; have := hx.2; omega)
    unfold tkD
    rw [ih]
    simp only
    rw [h3, List.take_succ_eq_append_getElem hlt]
    simp only [putAll_append, putAll, List.append_nil, List.length_append]
    rw [show (((ds[k]).toNat : Nat) : Int) = ds[k] by have := hx.1; omega, Nat.add_assoc]
theorem tkN_one {zs rest : List Int} {p : Nat} {x : Int} (most : Nat) (h : At zs p (Num.put x.toNat ++ rest)) (h0 : 0 ≤ x) (hm : x ≤ (most : Int)) (hb : most < 18446744073709551616) : tkN zs most (some p) = (x.toNat, some (p + (Num.put x.toNat).length)) ∧ ((x.toNat : Nat) : Int) = x :=
  ⟨tkN_put most h (by omega) (by omega), by omega⟩

theorem taken_bytes {zs rest : List Int} {p : Nat} (j : J) (hm : j.May) (hid : U64 j.id) (hver : U64 j.ver) (hfit : ∀ x ∈ j.deps, U64 x) (hex : j.expr.size ≤ 400) (h : At zs p (j.bytes ++ rest)) :
    takenM zs (some p) = (j.at none 0, some (p + j.bytes.length)) := by
  have hpol := hm.pol; have hgra := hm.gra; have hlim := hm.lim; have hret := hm.ret; have htim := hm.tim; have hseen := hm.seen; have hd8 := hm.deps; have hnm := hm.name
  unfold U64 at hid hver
  have hb : j.bytes ++ rest = Num.put j.id.toNat ++ (txt j.name ++ (txt j.expr ++ (Num.put j.pol.toNat ++ (Num.put j.gra.toNat ++ (Num.put j.lim.toNat ++ (Num.put j.ret.toNat ++ (Num.put j.tim.toNat ++ (Num.put j.deps.length ++ (putAll j.deps ++ (Num.put (if j.pau then (1 : Int) else 0).toNat ++ (Num.put j.ver.toNat ++ (Num.put (Num.zig j.seen) ++ rest)))))))))))) := by
    simp only [J.bytes, putAll, List.append_nil, List.append_assoc, Int.toNat_natCast]
  have hlen : j.bytes.length = (Num.put j.id.toNat).length + (txt j.name).length + (txt j.expr).length + (Num.put j.pol.toNat).length + (Num.put j.gra.toNat).length + (Num.put j.lim.toNat).length + (Num.put j.ret.toNat).length + (Num.put j.tim.toNat).length + (Num.put j.deps.length).length + (putAll j.deps).length + (Num.put (if j.pau then (1 : Int) else 0).toNat).length + (Num.put j.ver.toNat).length + (Num.put (Num.zig j.seen)).length := by
    simp only [J.bytes, putAll, List.append_nil, List.length_append, Int.toNat_natCast]
    omega
  rw [hb] at h
  have a1 := h.next
  have a2 := a1.next
  have a3 := a2.next
  have a4 := a3.next
  have a5 := a4.next
  have a6 := a5.next
  have a7 := a6.next
  have a8 := a7.next
  have a9 := a8.next
  have a10 := a9.next
  have a11 := a10.next
  have a12 := a11.next
  obtain ⟨r0, e0⟩ := tkN_one (x := j.id) 18446744073709551615 h (by omega) (by omega) (by omega)
  have r1 := tkT_put a1 (by omega)
  have r2 := tkT_put a2 (by omega)
  obtain ⟨r3, e3⟩ := tkN_one (x := j.pol) 3 a3 (by omega) (by omega) (by omega)
  obtain ⟨r4, e4⟩ := tkN_one (x := j.gra) 604800 a4 (by omega) (by omega) (by omega)
  obtain ⟨r5, e5⟩ := tkN_one (x := j.lim) 8 a5 (by omega) (by omega) (by omega)
  obtain ⟨r6, e6⟩ := tkN_one (x := j.ret) 5 a6 (by omega) (by omega) (by omega)
  obtain ⟨r7, e7⟩ := tkN_one (x := j.tim) 86400 a7 (by omega) (by omega) (by omega)
  have r8 := tkN_put (n := j.deps.length) 8 a8 (by omega) hd8
  have r9 := tkD_put j.deps a9 hfit j.deps.length (Nat.le_refl _)
  rw [List.take_length] at r9
  have r10 := (tkN_one (x := if j.pau then (1 : Int) else 0) 1 a10 (by split <;> omega) (by split <;> omega) (by omega)).1
  have e10 : ((((if j.pau then (1 : Int) else 0).toNat : Nat) : Int) == 1) = j.pau := by cases j.pau <;> rfl
  obtain ⟨r11, e11⟩ := tkN_one (x := j.ver) 18446744073709551615 a11 (by omega) (by omega) (by omega)
  have r12 := tkI_put a12 (by omega) (by omega)
  unfold takenM
  simp only [r0, r1, r2, r3, r4, r5, r6, r7, r8, r9, r10, r11, r12, e0, e3, e4, e5, e6, e7, e10, e11]
  rw [hlen]
  refine Prod.ext rfl ?_
  show some _ = some _
  congr 1
  omega
end Go.Proofs.YtoghalmjbbkjhaaGreatDoor.Job

namespace Go.Proofs.YtoghalmjbbkjhaaGreatDoor.Pk
open Go.RowKit

theorem Row.reads {w : World} {B : Nat} {zs : List Int} {v : Value} (h : Row w B zs v) (hr : ∀ x ∈ zs, 0 ≤ x ∧ x ≤ 255) (hl : zs.length ≤ 9223372036854775807) :
    ∃ a cap, v = .slice a zs.length cap ∧ Reads w a zs ∧ zs.length ≤ cap ∧ cap ≤ 9223372036854775807 := by
  rcases h.2 with ⟨rfl, hn⟩ | ⟨g, cap, cur, rfl, hB, hg, hc, hm, _⟩
  · have : zs = [] := by
      have h1 := h.1
      rw [hn] at h1
      exact List.eq_nil_of_length_eq_zero (by simpa using h1)
    subst this
    exact ⟨none, 0, rfl, Reads.nil w none, Nat.le_refl _, by omega⟩
  · unfold maxLen at hm
    refine ⟨_, cap, rfl, reads_row zs hg (fun i hi => ?_) hr hl, hc, hm⟩
    have h' := h
    unfold Row at h'
    have := h'.cells (g := g) rfl i (.int .u8 (zs.getD i 0)) (by simp [List.getD, hi])
    rw [show ((⟨g, 0, none⟩ : Addr).add i) = ⟨g, i, none⟩ by unfold Addr.add; split <;> simp_all, cell_of_row w g i cur _ _ hg] at this
    exact this

end Go.Proofs.YtoghalmjbbkjhaaGreatDoor.Pk
