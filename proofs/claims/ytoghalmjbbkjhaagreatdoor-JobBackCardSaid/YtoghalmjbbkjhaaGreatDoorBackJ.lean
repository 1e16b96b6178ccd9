/- JobBack: the law's walk. -/
import Derived.Test.YtoghalmjbbkjhaaGreatDoorKnownJ
import Derived.Test.YtoghalmjbbkjhaaGreatDoorMas
import Derived.Test.YtoghalmjbbkjhaaGreatDoorMam
namespace Go.Proofs.YtoghalmjbbkjhaaGreatDoor.Job
open Go.RowKit

theorem spot_none {w : World} {x : Addr} {v : Value} (h : w.cell? x = some v) : x = ⟨x.block, x.off, none⟩ := by
  obtain ⟨b, o, s⟩ := x
  cases s with
  | none => rfl
  | some n =>
    unfold World.cell? at h
    split at h
    · simp at h
    · cases h
theorem add_none (b q i : Nat) : (⟨b, q, none⟩ : Addr).add i = ⟨b, q + i, none⟩ := by
  unfold Addr.add
  split
  · subst i; rfl
  · rfl
theorem reads_vals {w : World} {a : Option Addr} {zs : List Int} (h : Pk.Reads w a zs) : Vals w a (zs.map (Value.int .u8)) := by
  rcases Nat.eq_zero_or_pos zs.length with h0 | h0
  · obtain rfl := List.eq_nil_of_length_eq_zero h0
    exact Vals.nil _ _
  · obtain ⟨x, rfl, hb, hc⟩ := h.cell 0 h0
    have hs : x = ⟨x.block, x.off, none⟩ := spot_none (by simpa [Addr.add] using hc)
    refine ⟨x.block, x.off, fun _ => congrArg some hs, fun i hi => ?_⟩
    have hi' : i < zs.length := by simpa using hi
    have h1 := h.at hi'
    rw [hs, add_none] at h1
    refine ⟨hb, ?_⟩
    rw [h1]
    simp [List.getD, hi']
theorem vals_reads {w : World} {a : Option Addr} {zs : List Int} (h : Vals w a (zs.map (Value.int .u8))) (hr : ∀ x ∈ zs, 0 ≤ x ∧ x ≤ 255) (hl : zs.length ≤ 9223372036854775807) : Pk.Reads w a zs := by
  refine ⟨fun i hi => ?_, hr, hl⟩
  obtain ⟨g, q, h1, h2⟩ := h
  have hi' : i < (zs.map (Value.int .u8)).length := by simpa using hi
  have e := h1 (fun e => by rw [e] at hi'; simp at hi')
  refine ⟨_, e, (h2 i hi').1, ?_⟩
  rw [add_none, (h2 i hi').2]
  simp [List.getD, hi]
theorem Vals.drop {w : World} {a : Option Addr} {vs : List Value} (h : Vals w a vs) (k : Nat) : Vals w (Option.map (fun x => x.add k) a) (vs.drop k) := by
  obtain ⟨g, q, h1, h2⟩ := h
  refine ⟨g, q + k, fun hne => ?_, fun i hi => ?_⟩
  · have : vs ≠ [] := fun e => hne (by rw [e]; simp)
    rw [h1 this]
    show some ((⟨g, q, none⟩ : Addr).add k) = _
    rw [add_none]
  · rw [List.length_drop] at hi
    obtain ⟨h3, h4⟩ := h2 (k + i) (by omega)
    refine ⟨h3, ?_⟩
    rw [Nat.add_assoc, h4, List.getElem_drop]
theorem put_range (n : Nat) (h : n < 18446744073709551616) : ∀ x ∈ Num.put n, 0 ≤ x ∧ x ≤ 255 := Num.enc_range 9 n (Nat.lt_of_lt_of_le h (by decide))
theorem putAll_range : ∀ l : List Int, (∀ x ∈ l, U64 x) → ∀ x ∈ putAll l, 0 ≤ x ∧ x ≤ 255
  | [], _, x, hx => by simp [putAll] at hx
  | n :: r, h, x, hx => by
    simp only [putAll, List.mem_append] at hx
    rcases hx with hx | hx
    · exact put_range _ (by have := h n (by simp); unfold U64 at this; omega) x hx
    · exact putAll_range r (fun y hy => h y (by simp [hy])) x hx
theorem bl_range (s : ByteArray) : ∀ x ∈ Pk.bl s, 0 ≤ x ∧ x ≤ 255 := fun x hx => by
  obtain ⟨b, _, rfl⟩ := List.mem_map.1 hx
  have := b.toNat_lt
  omega
theorem txt_range (s : ByteArray) (h : s.size < 18446744073709551616) : ∀ x ∈ txt s, 0 ≤ x ∧ x ≤ 255 := fun x hx => by
  rcases List.mem_append.1 hx with hx | hx
  · exact put_range _ h x hx
  · exact bl_range s x hx
theorem bytes_range {j : J} (hm : j.May) (hid : U64 j.id) (hver : U64 j.ver) (hfit : ∀ x ∈ j.deps, U64 x) (hex : j.expr.size ≤ 400) : ∀ x ∈ j.bytes, 0 ≤ x ∧ x ≤ 255 := fun x hx => by
  have hpol := hm.pol; have hgra := hm.gra; have hlim := hm.lim; have hret := hm.ret; have htim := hm.tim; have hseen := hm.seen; have hd8 := hm.deps; have hnm := hm.name
  simp only [J.bytes, List.mem_append] at hx
  rcases hx with ((((((hx | hx) | hx) | hx) | hx) | hx) | hx) | hx
  · exact putAll_range _ (fun y hy => by simp at hy; subst hy; exact hid) x hx
  · exact txt_range _ (by omega) x hx
  · exact txt_range _ (by omega) x hx
  · exact putAll_range _ (fun y hy => by simp at hy; unfold U64; rcases hy with rfl | rfl | rfl | rfl | rfl <;> omega) x hx
  · exact putAll_range _ (fun y hy => by simp at hy; subst hy; unfold U64; omega) x hx
  · exact putAll_range _ hfit x hx
  · exact putAll_range _ (fun y hy => by simp at hy; rcases hy with rfl | rfl; (unfold U64; split <;> omega); exact hver) x hx
  · exact put_range _ (Num.zig_lt (by omega) (by omega)) x hx
theorem bytes_len {j : J} (hm : j.May) (hex : j.expr.size ≤ 400) : j.bytes.length ≤ 3000 := by
  have h0 := putAll_len [j.id]
  have h1 := txt_len j.name
  have h2 := txt_len j.expr
  have h3 := putAll_len [j.pol, j.gra, j.lim, j.ret, j.tim]
  have h4 := putAll_len [(j.deps.length : Int)]
  have h5 := putAll_len j.deps
  have h6 := putAll_len [if j.pau then (1 : Int) else 0, j.ver]
  have h7 := (Num.put_len (Num.zig j.seen)).2
  have h8 := hm.deps
  have h9 := hm.name
  simp only [List.length_cons, List.length_nil] at h0 h3 h4 h6
  simp only [J.bytes, List.length_append]
  omega
theorem expr_len {j : J} (hm : j.May) : j.expr.size ≤ 400 := by
  have h1 := hm.expr
  have h2 : j.expr.data.toList.length = j.expr.size := (Lib.size_eq j.expr).symm
  by_cases h : 400 < j.expr.data.toList.length
  · rw [(Cron.p_long h).1] at h1; cases h1
  · omega

set_option maxRecDepth 100000 in
set_option maxHeartbeats 4000000 in
theorem back_law (j : J) (a1 a2 : Option Addr) (l1 c1 l2 c2 : Nat) (z1 z2 : List Int) (f m t most : Int) (w : World) (hw : World7 w) (hnm : NamesOn w) (hj : JF w j)
    (r1 : Pk.Reads w a1 z1) (e1 : l1 = z1.length) (n1 : a1 = none → l1 = 0 ∧ c1 = 0) (r2 : Pk.Reads w a2 z2) (e2 : l2 = z2.length) (n2 : a2 = none → l2 = 0 ∧ c2 = 0)
    (wf : -9223372036854775808 ≤ f ∧ f ≤ 9223372036854775807) (wt : -9223372036854775808 ≤ t ∧ t ≤ 9223372036854775807) :
    Calls Tryz.prog 4 #[j.val, .slice a1 l1 c1, .slice a2 l2 c2, .int .i64 f, .int .i64 m, .int .i64 t, .int .i64 most] w fun e w' => e = .returned (.bool true) ∧ Below w.heap.size w w' := by
  have HK := Lib.hid (fun W (hW : Below w.heap.size w W) => known14_any W (hw.next hW) (hnm.next hW))
  have HG := Lib.hid (great_any j)
  have HMAY := Lib.hid (fun W (hW : Below w.heap.size w W) => mayJ_any j W (hw.tabs.next hW) (hnm.next hW))
  have HPUT := Lib.hid (fun (hm : j.May) W (hW : Below w.heap.size w W) => putJ_yes j hm W (hj.below hW) (hw.tabs.next hW) (hnm.next hW))
  have HPAR := Lib.hid (fun a len cap p q zs W (hr : Pk.Reads W a zs) hz hl hp hcap hcm hq hm (hW : Below w.heap.size w W) => parseJ_yes a len cap p q zs W hr hz hl hp hcap hcm hq hm (hw.tabs.next hW) (hnm.next hW))
  have HFIR := Lib.hid (fun (hm : j.May) (f t : Int) (n : Nat) hf ht hn W (hW : Below w.heap.size w W) => fires_any j hm f t n hf ht hn W (hw.next hW) (hnm.next hW) (fun k hk => Cron.pB_lt _ k hk) (Cron.p_may hm.expr))
  have HPX := Lib.hid (fun W (hW : Below w.heap.size w W) => parseX_any j.expr W (hw.tabs.next hW) (hnm.next hW))
  have HW7 := Lib.hid (fun W (hW : Below w.heap.size w W) => hw.next hW)
  have HJF := Lib.hid hj
  have HR1 := Lib.hid r1
  have HE1 := Lib.hid e1
  have HN1 := Lib.hid n1
  have HR2 := Lib.hid r2
  have HE2 := Lib.hid e2
  have HN2 := Lib.hid n2
  have HWF := Lib.hid wf
  have HWT := Lib.hid wt
  have HBX := Lib.hid (box_new w j)
  have HVJ := Lib.hid (show j.val = .agg #[.int .u64 j.id, .string j.name, .string j.expr, .int .i64 j.pol, .int .i64 j.gra, .int .i64 j.lim, .int .i64 j.ret, .int .i64 j.tim, .slice j.da j.deps.length j.dc, .bool j.pau, .int .u64 j.ver, .int .i64 j.seen] from rfl)
  have hb0 : Below w.heap.size w (w.alloc (.cells #[.int .u64 j.id, .string j.name, .string j.expr, .int .i64 j.pol, .int .i64 j.gra, .int .i64 j.lim, .int .i64 j.ret, .int .i64 j.tim, .slice j.da j.deps.length j.dc, .bool j.pau, .int .u64 j.ver, .int .i64 j.seen] 25)) := (Below.refl _ _).alloc (Nat.le_refl _) _
  have HB0 := Lib.hid hb0
  rw [HVJ.out] at HG HMAY HPUT HFIR ⊢
  clear hw hnm hj r1 e1 n1 r2 e2 n2 wf wt hb0
  obtain ⟨gr, hgr⟩ : ∃ g, g = j.great := ⟨_, rfl⟩
  rw [← hgr] at HG
  clear hgr
  obtain ⟨er, her⟩ : ∃ e, e = j.err := ⟨_, rfl⟩
  rw [← her] at HMAY
  have HER := Lib.hid her
  clear her
  go_enter Tryz.func4, Tryz.ntmps4
  go_wp2_with fail
  refine (HK.out _ HB0.out).mono ?_
  rintro e w1 ⟨rfl, hb1⟩
  have hr1 := (hb1.block w.heap.size (by simp)).trans HBX.out
  have HB1 := Lib.hid (HB0.out.trans (hb1.mono HB0.out.size))
  have HJ1 := Lib.hid hr1
  clear hb1 HK HBX
  obtain ⟨⟨c0, c1, c2, c3, c4, c5⟩, c6, c7, c8, c9, c10, c11⟩ := jobj_cells hr1
  clear hr1
  go_wp2_with fail
  refine (HG.out _).mono ?_
  rintro e w2 ⟨rfl, hb2⟩
  have HB2 := Lib.hid (HB1.out.trans (hb2.mono HB1.out.size))
  have HJ2 := Lib.hid ((hb2.block w.heap.size (Array.getElem?_eq_some_iff.1 HJ1.out).1).trans HJ1.out)
  clear hb2 HG HB1 HJ1
  clear c0 c1 c2 c3 c4 c5 c6 c7 c8 c9 c10 c11
  cases gr with
  | true =>
    go_wp2_with fail
    go_ret
    exact ⟨rfl, HB2.out⟩
  | false =>
  by_cases hl1 : 50 < l1
  · have d1 : decide ((50 : Int) < (l1 : Int)) = true := by simp; omega
    go_wp2_with fail
    go_ret
    exact ⟨rfl, HB2.out⟩
  have d1 : decide ((50 : Int) < (l1 : Int)) = false := by simp; omega
  by_cases hl2 : 50 < l2
  · have d2 : decide ((50 : Int) < (l2 : Int)) = true := by simp; omega
    go_wp2_with fail
    go_ret
    exact ⟨rfl, HB2.out⟩
  have d2 : decide ((50 : Int) < (l2 : Int)) = false := by simp; omega
  by_cases hm0 : most < 0
  · have d3 : decide (most < 0) = true := by simp; omega
    go_wp2_with fail
    go_ret
    exact ⟨rfl, HB2.out⟩
  have d3 : decide (most < 0) = false := by simp; omega
  by_cases hm1 : 20 < most
  · have d4 : decide (20 < most) = true := by simp; omega
    go_wp2_with fail
    go_ret
    exact ⟨rfl, HB2.out⟩
  have d4 : decide (20 < most) = false := by simp; omega
  obtain ⟨⟨c0, c1, c2, c3, c4, c5⟩, c6, c7, c8, c9, c10, c11⟩ := jobj_cells HJ2.out
  go_wp2_with fail
  refine (HMAY.out _ HB2.out).mono ?_
  rintro e w3 ⟨rfl, hb3⟩
  have HB3 := Lib.hid (HB2.out.trans (hb3.mono HB2.out.size))
  have HJ3 := Lib.hid ((hb3.block w.heap.size (Array.getElem?_eq_some_iff.1 HJ2.out).1).trans HJ2.out)
  clear hb3 HMAY HB2 HJ2 d1 d2 d3 d4
  clear c0 c1 c2 c3 c4 c5 c6 c7 c8 c9 c10 c11
  by_cases he : er = 0
  rotate_left
  · have d5 : decide (er = 0) = false := by simp; omega
    go_wp2_with fail
    go_ret
    exact ⟨rfl, HB3.out⟩
  subst he
  have hm : j.May := J.may_iff.1 HER.out.symm
  obtain ⟨n, rfl⟩ : ∃ n : Nat, most = (n : Int) := ⟨most.toNat, by omega⟩
  have hn20 : n ≤ 20 := by omega
  have HPUT := Lib.hid (HPUT.out hm)
  have HFIR := Lib.hid (HFIR.out hm)
  have HM := Lib.hid hm
  obtain ⟨bn, hbn⟩ : ∃ b, b = j.bytes.length := ⟨_, rfl⟩
  have hbn3 : bn ≤ 3000 := by rw [hbn]; exact bytes_len hm (expr_len hm)
  have HBN := Lib.hid hbn
  clear hbn hm hm0 hm1 HER
  obtain ⟨⟨c0, c1, c2, c3, c4, c5⟩, c6, c7, c8, c9, c10, c11⟩ := jobj_cells HJ3.out
  go_wp2_with fail
  refine (HPUT.out _ HB3.out).mono ?_
  rintro e w4 ⟨v, rfl, hrow, hb4⟩
  have HB4 := Lib.hid (HB3.out.trans (hb4.mono HB3.out.size))
  have HJ4 := Lib.hid ((hb4.block w.heap.size (Array.getElem?_eq_some_iff.1 HJ3.out).1).trans HJ3.out)
  obtain ⟨va, vc, rfl, hvn, hvc, hvm, hvv, -⟩ := own_shape hrow
  rw [← HBN.out] at hvc hvn ⊢
  have HROW := Lib.hid hrow
  clear hrow hb4 HPUT HB3 HJ3
  clear c0 c1 c2 c3 c4 c5 c6 c7 c8 c9 c10 c11
  -- ahead, the job's bytes, and behind: one row
  obtain ⟨w5, hw5⟩ : ∃ W, W = w4.alloc (.cells #[] 5) := ⟨_, rfl⟩
  obtain ⟨g5, hg5⟩ : ∃ g, g = w4.heap.size := ⟨_, rfl⟩
  have hb5 : Below w4.heap.size w4 w5 := by rw [hw5]; exact (Below.refl _ _).alloc (Nat.le_refl _) _
  have ho5 : w5.ownsRow w4.heap.size 5 1 (.slice (some ⟨g5, 0, none⟩) 0 0) 0 [] := by rw [hw5, hg5]; exact World.ownsRow_lit w4 #[] 0 (Nat.le_refl _) (Nat.zero_le _) rfl
  obtain ⟨v6, u6, hrun6, ho6, hgr6, _⟩ := run_app (bytes := 1) (m := l1) Tryz.underlying32 infoU8 rfl (by omega) ho5 hb5.size ((reads_vals HR1.out).below (HB4.out.trans (hb5.mono HB4.out.size))) (by simp; exact HE1.out.symm) HN1.out (one_b _) (by omega)
  have hb6 : Below w4.heap.size w4 u6 := hb5.grown hgr6 hb5.size (fun k e => (World.ownsRow.lt ho5 k e).1)
  obtain ⟨v7, u7, hrun7, ho7, hgr7, _⟩ := run_app (bytes := 1) (m := bn) Tryz.underlying32 infoU8 rfl (by omega) ho6 hb6.size (hvv.below hb6) (by simp; exact HBN.out.symm) hvn (one_b _) (by omega)
  have hb7 : Below w4.heap.size w4 u7 := hb6.grown hgr7 hb6.size (fun k e => (World.ownsRow.lt ho6 k e).1)
  obtain ⟨v8, u8, hrun8, ho8, hgr8, _⟩ := run_app (bytes := 1) (m := l2) Tryz.underlying32 infoU8 rfl (by omega) ho7 hb7.size ((reads_vals HR2.out).below (HB4.out.trans (hb7.mono HB4.out.size))) (by simp; exact HE2.out.symm) HN2.out (one_b _) (by omega)
  have hb8 : Below w4.heap.size w4 u8 := hb7.grown hgr8 hb7.size (fun k e => (World.ownsRow.lt ho7 k e).1)
  obtain ⟨Z, hZ⟩ : ∃ Z, Z = z1 ++ (j.bytes ++ z2) := ⟨_, rfl⟩
  have hZm : [] ++ z1.map (Value.int .u8) ++ j.bytes.map (Value.int .u8) ++ z2.map (Value.int .u8) = Z.map (Value.int .u8) := by rw [hZ]; simp
  rw [hZm] at ho8
  obtain ⟨a8, c8, rfl, hn8, hc8, hm8, hv8, hl8⟩ := own_shape ho8
  obtain ⟨L8, hL8⟩ : ∃ L, L = 0 + l1 + bn + l2 := ⟨_, rfl⟩
  rw [← hL8] at hrun8 hc8 hl8
  have hZl : L8 = Z.length := by rw [← hl8]; simp
  have hat : At Z l1 (j.bytes ++ z2) := by
    refine ⟨?_, by rw [hZ, List.length_append, HE1.out]; omega⟩
    rw [hZ, HE1.out, List.drop_left]
  have htk := taken_bytes j HM.out HJF.out.id HJF.out.ver HJF.out.fit (expr_len HM.out) hat
  rw [← HBN.out] at htk
  have hrZ : Pk.Reads u8 a8 Z := vals_reads hv8 (fun x hx => by
    rw [hZ] at hx
    rcases List.mem_append.1 hx with hx | hx
    · exact HR1.out.hr x hx
    · rcases List.mem_append.1 hx with hx | hx
      · exact bytes_range HM.out HJF.out.id HJF.out.ver HJF.out.fit (expr_len HM.out) x hx
      · exact HR2.out.hr x hx) (by omega)
  have HB8 := Lib.hid (HB4.out.trans (hb8.mono HB4.out.size))
  have HJ8 := Lib.hid ((hb8.block w.heap.size (Array.getElem?_eq_some_iff.1 HJ4.out).1).trans HJ4.out)
  have hmerr : (j.at none 0).err = 0 := by
    have h : j.err = 0 := J.may_iff.2 HM.out
    exact h
  obtain ⟨q, hq⟩ : ∃ q, q = l1 + bn := ⟨_, rfl⟩
  rw [← hq] at htk
  have HPAR := Lib.hid (HPAR.out a8 L8 c8 l1 q Z u8 hrZ hZl (by omega) (by omega) hc8 (by unfold maxLen at hm8; omega) (by rw [htk]) (by rw [htk]; exact hmerr) HB8.out)
  rw [htk] at HPAR
  dsimp only at HPAR
  have HQ := Lib.hid hq
  have hcat : (l1 : Int) + (bn : Int) = (q : Int) := by omega
  have HRUN6 := Lib.hid hrun6
  have HRUN7 := Lib.hid hrun7
  have HRUN8 := Lib.hid hrun8
  subst hw5 hg5
  clear hb5 ho5 ho6 hgr6 hb6 ho7 hgr7 hb7 ho8 hgr8 hb8 hZ hZm hn8 hc8 hm8 hv8 hl8 hL8 hZl hat htk hrZ hmerr hq hvn hvc hvm hvv HB4 HJ4 HROW hcat
  go_wp2_with (at_builtin; first | (refine Lib.wpList_append_run u6 rfl _ _ _ _ rfl _ _ rfl rfl _ _ HRUN7.out ?_) | (refine Lib.wpList_append_run u7 rfl _ _ _ _ rfl _ _ rfl rfl _ _ HRUN8.out ?_) | (refine Lib.wpList_append_run (w4.alloc (.cells #[] 5)) rfl _ _ _ _ rfl _ _ rfl rfl _ _ HRUN6.out ?_))
  refine HPAR.out.mono ?_
  rintro e w9 ⟨da, dc, rfl, hrow9, hb9⟩
  have hval9 : (((j.at none 0).at da dc).val : Value) = .agg #[.int .u64 j.id, .string j.name, .string j.expr, .int .i64 j.pol, .int .i64 j.gra, .int .i64 j.lim, .int .i64 j.ret, .int .i64 j.tim, .slice da j.deps.length dc, .bool j.pau, .int .u64 j.ver, .int .i64 j.seen] := rfl
  rw [hval9]
  have HB9 := Lib.hid (HB8.out.trans (hb9.mono HB8.out.size))
  have hj9 := (hb9.block w.heap.size (Array.getElem?_eq_some_iff.1 HJ8.out).1).trans HJ8.out
  have hrow9' : RowU w9 u8.heap.size j.deps (.slice da j.deps.length dc) := hrow9
  obtain ⟨x9, y9, he9, -, -, -, hv9, -⟩ := own_shape hrow9'
  cases he9
  have hbx : Below w9.heap.size w9 (w9.alloc (.cells #[.int .u64 j.id, .string j.name, .string j.expr, .int .i64 j.pol, .int .i64 j.gra, .int .i64 j.lim, .int .i64 j.ret, .int .i64 j.tim, .slice da j.deps.length dc, .bool j.pau, .int .u64 j.ver, .int .i64 j.seen] 25)) := (Below.refl _ _).alloc (Nat.le_refl _) _
  have hj10 : (w9.alloc (.cells #[.int .u64 j.id, .string j.name, .string j.expr, .int .i64 j.pol, .int .i64 j.gra, .int .i64 j.lim, .int .i64 j.ret, .int .i64 j.tim, .slice da j.deps.length dc, .bool j.pau, .int .u64 j.ver, .int .i64 j.seen] 25)).heap[w.heap.size]? = some (jobj j) := (hbx.block w.heap.size (Array.getElem?_eq_some_iff.1 hj9).1).trans hj9
  have HB10 := Lib.hid (HB9.out.trans (hbx.mono HB9.out.size))
  have HJ10 := Lib.hid hj10
  have hsame := same_yes j da dc (w9.alloc (.cells #[.int .u64 j.id, .string j.name, .string j.expr, .int .i64 j.pol, .int .i64 j.gra, .int .i64 j.lim, .int .i64 j.ret, .int .i64 j.tim, .slice da j.deps.length dc, .bool j.pau, .int .u64 j.ver, .int .i64 j.seen] 25)) (hv9.below hbx) ((HJF.out.below HB10.out).vals) (by have := HM.out.deps; omega)
  rw [show (j.at da dc).val = .agg #[.int .u64 j.id, .string j.name, .string j.expr, .int .i64 j.pol, .int .i64 j.gra, .int .i64 j.lim, .int .i64 j.ret, .int .i64 j.tim, .slice da j.deps.length dc, .bool j.pau, .int .u64 j.ver, .int .i64 j.seen] from rfl, HVJ.out] at hsame
  have HSAME := Lib.hid hsame
  obtain ⟨⟨c0, c1, c2, c3, c4, c5⟩, c6, c7, c8, c9, c10, c11⟩ := jobj_cells hj10
  have hwr : IntKind.i64.wrap ((l1 : Int) + (bn : Int)) = (q : Int) := by rw [IntKind.wrap_i64]; have := HQ.out; omega
  have HWR := Lib.hid hwr
  clear hval9 hrow9 hb9 hj9 hrow9' hv9 hbx hj10 hsame HB8 HJ8 HPAR HRUN6 HRUN7 HRUN8 hrun6 hrun7 hrun8
  go_wp2_with fail
  refine HSAME.out.mono ?_
  rintro e w11 ⟨rfl, hb11⟩
  have HB11 := Lib.hid (HB10.out.trans (hb11.mono HB10.out.size))
  have HJ11 := Lib.hid ((hb11.block w.heap.size (Array.getElem?_eq_some_iff.1 HJ10.out).1).trans HJ10.out)
  clear hb11 HB10 HJ10 HSAME
  clear c0 c1 c2 c3 c4 c5 c6 c7 c8 c9 c10 c11
  by_cases hf1 : f < -1
  · have d6 : decide (f < -1) = true := by simp; omega
    go_wp2_with fail
    go_ret
    exact ⟨rfl, HB11.out⟩
  have d6 : decide (f < -1) = false := by simp; omega
  by_cases hf2 : m < f
  · have d7 : decide (m < f) = true := by simp; omega
    go_wp2_with fail
    go_ret
    exact ⟨rfl, HB11.out⟩
  have d7 : decide (m < f) = false := by simp; omega
  by_cases hf3 : t < m
  · have d8 : decide (t < m) = true := by simp; omega
    go_wp2_with fail
    go_ret
    exact ⟨rfl, HB11.out⟩
  have d8 : decide (t < m) = false := by simp; omega
  by_cases hf4 : m < 0
  · have d9 : decide (m < 0) = true := by simp; omega
    go_wp2_with fail
    go_ret
    exact ⟨rfl, HB11.out⟩
  have d9 : decide (m < 0) = false := by simp; omega
  by_cases hf5 : 13569465600 ≤ t
  · have d10 : decide (13569465600 ≤ t) = true := by simp; omega
    go_wp2_with fail
    go_ret
    exact ⟨rfl, HB11.out⟩
  have d10 : decide (13569465600 ≤ t) = false := by simp; omega
  obtain ⟨TA, hTA⟩ : ∃ x, x = told14 (Cron.pB j.expr.data.toList) (Cron.pS j.expr.data.toList) f t n := ⟨_, rfl⟩
  obtain ⟨TB, hTB⟩ : ∃ x, x = told14 (Cron.pB j.expr.data.toList) (Cron.pS j.expr.data.toList) f m n := ⟨_, rfl⟩
  obtain ⟨TC, hTC⟩ : ∃ x, x = told14 (Cron.pB j.expr.data.toList) (Cron.pS j.expr.data.toList) m t n := ⟨_, rfl⟩
  have HFA := Lib.hid (fun W hW => HFIR.out f t n (by omega) (by omega) (by omega) W hW)
  have HFB := Lib.hid (fun W hW => HFIR.out f m n (by omega) (by omega) (by omega) W hW)
  have HFC := Lib.hid (fun W hW => HFIR.out m t n (by omega) (by omega) (by omega) W hW)
  rw [← hTA] at HFA
  rw [← hTB] at HFB
  rw [← hTC] at HFC
  have HTA := Lib.hid hTA
  have HTB := Lib.hid hTB
  have HTC := Lib.hid hTC
  clear hTA hTB hTC HFIR
  go_wp2_with fail
  refine wp_region_held_drew (S := fun W => W.heap[w.heap.size]? = some (jobj j)) (by kernel_rfl) HJ11.out (fun hHeld => ?_)
  obtain ⟨u0, hu0⟩ : ∃ u, u = w11.drew := ⟨_, rfl⟩
  have hj0 : u0.heap[w.heap.size]? = some (jobj j) := by rw [hu0]; exact HJ11.out
  have hb0 : Below w.heap.size w u0 := by rw [hu0]; exact HB11.out.drew
  rw [← hu0]
  have HJu0 := Lib.hid hj0
  have HBu0 := Lib.hid hb0
  clear hb0 hu0 hHeld HB11 HJ11
  refine wpAnyH_take (i := 0) (oi := ?_) (v := ?_) ?_ (by kernel_rfl) (by kernel_rfl) (by kernel_rfl) ?_ (Or.inl ⟨?_, ?_⟩) (by assumption) ?_
  rotate_left 2
  focus (simp only [List.getElem?_toArray, List.getElem?_cons_zero]; rfl)
  focus exact fun _ _ _ h => h
  focus rfl
  focus (intro W hS; (try dsimp only at hS); obtain ⟨⟨k0, k1, k2, k3, k4, k5⟩, k6, k7, k8, k9, k10, k11⟩ := jobj_cells hS; go_simp; (try with_reducible rfl))
  try simp only [Act.put]
  try simp only [List.setIfInBounds_toArray]
  try simp only [List.set_cons_succ]
  try simp only [List.set_cons_zero]
  refine wpAnyH_take (i := 1) (oi := ?_) (v := ?_) ?_ (by kernel_rfl) (by kernel_rfl) (by kernel_rfl) ?_ (Or.inl ⟨?_, ?_⟩) (by assumption) ?_
  rotate_left 2
  focus (simp only [List.getElem?_toArray, List.getElem?_cons_succ, List.getElem?_cons_zero]; rfl)
  focus exact fun _ _ _ h => h
  focus rfl
  focus (intro W hS; (try dsimp only at hS); obtain ⟨⟨k0, k1, k2, k3, k4, k5⟩, k6, k7, k8, k9, k10, k11⟩ := jobj_cells hS; go_simp; (try with_reducible rfl))
  try simp only [Act.put]
  try simp only [List.setIfInBounds_toArray]
  try simp only [List.set_cons_succ]
  try simp only [List.set_cons_zero]
  refine wpAnyH_take (i := 2) (oi := ?_) (v := ?_) ?_ (by kernel_rfl) (by kernel_rfl) (by kernel_rfl) ?_ (Or.inl ⟨?_, ?_⟩) (by assumption) ?_
  rotate_left 2
  focus (simp only [List.getElem?_toArray, List.getElem?_cons_succ, List.getElem?_cons_zero]; rfl)
  focus exact fun _ _ _ h => h
  focus rfl
  focus (intro W hS; (try dsimp only at hS); obtain ⟨⟨k0, k1, k2, k3, k4, k5⟩, k6, k7, k8, k9, k10, k11⟩ := jobj_cells hS; go_simp; (try with_reducible rfl))
  try simp only [Act.put]
  try simp only [List.setIfInBounds_toArray]
  try simp only [List.set_cons_succ]
  try simp only [List.set_cons_zero]
  refine wpAnyH_take (i := 3) (oi := ?_) (v := ?_) ?_ (by kernel_rfl) (by kernel_rfl) (by kernel_rfl) ?_ (Or.inl ⟨?_, ?_⟩) (by assumption) ?_
  rotate_left 2
  focus (simp only [List.getElem?_toArray, List.getElem?_cons_succ, List.getElem?_cons_zero]; rfl)
  focus exact fun _ _ _ h => h
  focus rfl
  focus (intro W hS; (try dsimp only at hS); obtain ⟨⟨k0, k1, k2, k3, k4, k5⟩, k6, k7, k8, k9, k10, k11⟩ := jobj_cells hS; go_simp; (try with_reducible rfl))
  try simp only [Act.put]
  try simp only [List.setIfInBounds_toArray]
  try simp only [List.set_cons_succ]
  try simp only [List.set_cons_zero]
  refine wpAnyH_take (i := 5) (oi := ?_) (v := ?_) ?_ (by kernel_rfl) (by kernel_rfl) (by kernel_rfl) ?_ (Or.inl ⟨?_, ?_⟩) (by assumption) ?_
  rotate_left 2
  focus (simp only [List.getElem?_toArray, List.getElem?_cons_succ, List.getElem?_cons_zero]; rfl)
  focus exact fun _ _ _ h => h
  focus rfl
  focus (intro W hS; (try dsimp only at hS); obtain ⟨⟨k0, k1, k2, k3, k4, k5⟩, k6, k7, k8, k9, k10, k11⟩ := jobj_cells hS; go_simp; (try with_reducible rfl))
  try simp only [Act.put]
  try simp only [List.setIfInBounds_toArray]
  try simp only [List.set_cons_succ]
  try simp only [List.set_cons_zero]
  refine wpAnyH_take (i := 6) (oi := ?_) (v := ?_) ?_ (by kernel_rfl) (by kernel_rfl) (by kernel_rfl) ?_ (Or.inl ⟨?_, ?_⟩) (by assumption) ?_
  rotate_left 2
  focus (simp only [List.getElem?_toArray, List.getElem?_cons_succ, List.getElem?_cons_zero]; rfl)
  focus exact fun _ _ _ h => h
  focus rfl
  focus (intro W hS; (try dsimp only at hS); obtain ⟨⟨k0, k1, k2, k3, k4, k5⟩, k6, k7, k8, k9, k10, k11⟩ := jobj_cells hS; go_simp; (try with_reducible rfl))
  try simp only [Act.put]
  try simp only [List.setIfInBounds_toArray]
  try simp only [List.set_cons_succ]
  try simp only [List.set_cons_zero]
  refine wpAnyH_take (i := 7) (oi := ?_) (v := ?_) ?_ (by kernel_rfl) (by kernel_rfl) (by kernel_rfl) ?_ (Or.inl ⟨?_, ?_⟩) (by assumption) ?_
  rotate_left 2
  focus (simp only [List.getElem?_toArray, List.getElem?_cons_succ, List.getElem?_cons_zero]; rfl)
  focus exact fun _ _ _ h => h
  focus rfl
  focus (intro W hS; (try dsimp only at hS); obtain ⟨⟨k0, k1, k2, k3, k4, k5⟩, k6, k7, k8, k9, k10, k11⟩ := jobj_cells hS; go_simp; (try with_reducible rfl))
  try simp only [Act.put]
  try simp only [List.setIfInBounds_toArray]
  try simp only [List.set_cons_succ]
  try simp only [List.set_cons_zero]
  refine wpAnyH_take (i := 8) (oi := ?_) (v := ?_) ?_ (by kernel_rfl) (by kernel_rfl) (by kernel_rfl) ?_ (Or.inl ⟨?_, ?_⟩) (by assumption) ?_
  rotate_left 2
  focus (simp only [List.getElem?_toArray, List.getElem?_cons_succ, List.getElem?_cons_zero]; rfl)
  focus exact fun _ _ _ h => h
  focus rfl
  focus (intro W hS; (try dsimp only at hS); obtain ⟨⟨k0, k1, k2, k3, k4, k5⟩, k6, k7, k8, k9, k10, k11⟩ := jobj_cells hS; go_simp; (try with_reducible rfl))
  try simp only [Act.put]
  try simp only [List.setIfInBounds_toArray]
  try simp only [List.set_cons_succ]
  try simp only [List.set_cons_zero]
  refine wpAnyH_take (i := 10) (oi := ?_) (v := ?_) ?_ (by kernel_rfl) (by kernel_rfl) (by kernel_rfl) ?_ (Or.inl ⟨?_, ?_⟩) (by assumption) ?_
  rotate_left 2
  focus (simp only [List.getElem?_toArray, List.getElem?_cons_succ, List.getElem?_cons_zero]; rfl)
  focus exact fun _ _ _ h => h
  focus rfl
  focus (intro W hS; (try dsimp only at hS); obtain ⟨⟨k0, k1, k2, k3, k4, k5⟩, k6, k7, k8, k9, k10, k11⟩ := jobj_cells hS; go_simp; (try with_reducible rfl))
  try simp only [Act.put]
  try simp only [List.setIfInBounds_toArray]
  try simp only [List.set_cons_succ]
  try simp only [List.set_cons_zero]
  refine wpAnyH_take (i := 11) (oi := ?_) (v := ?_) ?_ (by kernel_rfl) (by kernel_rfl) (by kernel_rfl) ?_ (Or.inl ⟨?_, ?_⟩) (by assumption) ?_
  rotate_left 2
  focus (simp only [List.getElem?_toArray, List.getElem?_cons_succ, List.getElem?_cons_zero]; rfl)
  focus exact fun _ _ _ h => h
  focus rfl
  focus (intro W hS; (try dsimp only at hS); obtain ⟨⟨k0, k1, k2, k3, k4, k5⟩, k6, k7, k8, k9, k10, k11⟩ := jobj_cells hS; go_simp; (try with_reducible rfl))
  try simp only [Act.put]
  try simp only [List.setIfInBounds_toArray]
  try simp only [List.set_cons_succ]
  try simp only [List.set_cons_zero]
  refine wpAnyH_take (i := 12) (oi := ?_) (v := ?_) ?_ (by kernel_rfl) (by kernel_rfl) (by kernel_rfl) ?_ (Or.inl ⟨?_, ?_⟩) (by assumption) ?_
  rotate_left 2
  focus (simp only [List.getElem?_toArray, List.getElem?_cons_succ, List.getElem?_cons_zero]; rfl)
  focus exact fun _ _ _ h => h
  focus rfl
  focus (intro W hS; (try dsimp only at hS); obtain ⟨⟨k0, k1, k2, k3, k4, k5⟩, k6, k7, k8, k9, k10, k11⟩ := jobj_cells hS; go_simp; (try with_reducible rfl))
  try simp only [Act.put]
  try simp only [List.setIfInBounds_toArray]
  try simp only [List.set_cons_succ]
  try simp only [List.set_cons_zero]
  refine wpAnyH_take (i := 13) (oi := ?_) (v := ?_) ?_ (by kernel_rfl) (by kernel_rfl) (by kernel_rfl) ?_ (Or.inl ⟨?_, ?_⟩) (by assumption) ?_
  rotate_left 2
  focus (simp only [List.getElem?_toArray, List.getElem?_cons_succ, List.getElem?_cons_zero]; rfl)
  focus exact fun _ _ _ h => h
  focus rfl
  focus (intro W hS; (try dsimp only at hS); obtain ⟨⟨k0, k1, k2, k3, k4, k5⟩, k6, k7, k8, k9, k10, k11⟩ := jobj_cells hS; go_simp; (try with_reducible rfl))
  try simp only [Act.put]
  try simp only [List.setIfInBounds_toArray]
  try simp only [List.set_cons_succ]
  try simp only [List.set_cons_zero]
  refine wpAnyH_ready (rs := [4]) (by kernel_rfl) (by simp) ?_
  refine AllReadyH.cons (o := ?_) ?_ (fun K hK => ?_) AllReadyH.nil
  rotate_left
  focus (simp only [List.getElem?_toArray, List.getElem?_cons_succ, List.getElem?_cons_zero]; rfl)
  rw [if_pos (by rfl)]
  go_simp
  with_reducible refine (HFA.out u0 HBu0.out).mono ?_
  rintro e yA ⟨v, rfl, hrow, hb⟩
  obtain ⟨aA, qA, rfl, nA, -, -, vA, -⟩ := own_shape hrow
  obtain ⟨kA, hkA⟩ : ∃ k, k = TA.length := ⟨_, rfl⟩
  rw [← hkA] at nA ⊢
  have HKA := Lib.hid hkA
  have HNA := Lib.hid nA
  have HVA := Lib.hid vA
  have HByA := Lib.hid (HBu0.out.trans (hb.mono HBu0.out.size))
  have hjA := (hb.block w.heap.size (Array.getElem?_eq_some_iff.1 HJu0.out).1).trans HJu0.out
  have HJyA := Lib.hid hjA
  clear hkA nA vA hrow hb HFA
  go_wp2_with fail
  refine hK.out _ _ hjA (fun hHeld => ?_)
  clear hK K
  try simp only [Act.put]
  try simp only [List.setIfInBounds_toArray]
  try simp only [List.set_cons_succ]
  try simp only [List.set_cons_zero]
  clear hjA
  refine wpAnyH_ready (rs := [9]) (by kernel_rfl) (by simp) ?_
  refine AllReadyH.cons (o := ?_) ?_ (fun K hK => ?_) AllReadyH.nil
  rotate_left
  focus (simp only [List.getElem?_toArray, List.getElem?_cons_succ, List.getElem?_cons_zero]; rfl)
  rw [if_pos (by rfl)]
  go_simp
  with_reducible refine (HFB.out yA HByA.out).mono ?_
  rintro e yB ⟨v, rfl, hrow, hb⟩
  obtain ⟨aB, qB, rfl, nB, -, -, vB, -⟩ := own_shape hrow
  obtain ⟨kB, hkB⟩ : ∃ k, k = TB.length := ⟨_, rfl⟩
  rw [← hkB] at nB ⊢
  have HKB := Lib.hid hkB
  have HNB := Lib.hid nB
  have HVB := Lib.hid vB
  have HByB := Lib.hid (HByA.out.trans (hb.mono HByA.out.size))
  have hjB := (hb.block w.heap.size (Array.getElem?_eq_some_iff.1 HJyA.out).1).trans HJyA.out
  have HJyB := Lib.hid hjB
  have HVA := Lib.hid (HVA.out.below hb)
  clear hkB nB vB hrow hb HFB
  go_wp2_with fail
  refine hK.out _ _ hjB (fun hHeld => ?_)
  clear hK K
  try simp only [Act.put]
  try simp only [List.setIfInBounds_toArray]
  try simp only [List.set_cons_succ]
  try simp only [List.set_cons_zero]
  clear hjB
  refine wpAnyH_ready (rs := [14]) (by kernel_rfl) (by simp) ?_
  refine AllReadyH.cons (o := ?_) ?_ (fun K hK => ?_) AllReadyH.nil
  rotate_left
  focus (simp only [List.getElem?_toArray, List.getElem?_cons_succ, List.getElem?_cons_zero]; rfl)
  rw [if_pos (by rfl)]
  go_simp
  with_reducible refine (HFC.out yB HByB.out).mono ?_
  rintro e yC ⟨v, rfl, hrow, hb⟩
  obtain ⟨aC, qC, rfl, nC, -, -, vC, -⟩ := own_shape hrow
  obtain ⟨kC, hkC⟩ : ∃ k, k = TC.length := ⟨_, rfl⟩
  rw [← hkC] at nC ⊢
  have HKC := Lib.hid hkC
  have HNC := Lib.hid nC
  have HVC := Lib.hid vC
  have HByC := Lib.hid (HByB.out.trans (hb.mono HByB.out.size))
  have hjC := (hb.block w.heap.size (Array.getElem?_eq_some_iff.1 HJyB.out).1).trans HJyB.out
  have HJyC := Lib.hid hjC
  have HVA := Lib.hid (HVA.out.below hb)
  have HVB := Lib.hid (HVB.out.below hb)
  clear hkC nC vC hrow hb HFC
  go_wp2_with fail
  refine hK.out _ _ hjC (fun hHeld => ?_)
  clear hK K
  try simp only [Act.put]
  try simp only [List.setIfInBounds_toArray]
  try simp only [List.set_cons_succ]
  try simp only [List.set_cons_zero]
  clear hjC
  refine wpAnyH_take (i := 15) (oi := ?_) (v := ?_) ?_ (by kernel_rfl) (by kernel_rfl) (by kernel_rfl) ?_ (Or.inl ⟨?_, ?_⟩) (by assumption) ?_
  rotate_left 2
  focus (simp only [List.getElem?_toArray, List.getElem?_cons_succ, List.getElem?_cons_zero]; rfl)
  focus exact fun _ _ _ h => h
  focus rfl
  focus (intro W hS; (try dsimp only at hS); obtain ⟨⟨k0, k1, k2, k3, k4, k5⟩, k6, k7, k8, k9, k10, k11⟩ := jobj_cells hS; go_simp; (try with_reducible rfl))
  try simp only [Act.put]
  try simp only [List.setIfInBounds_toArray]
  try simp only [List.set_cons_succ]
  try simp only [List.set_cons_zero]
  refine wpAnyH_take (i := 16) (oi := ?_) (v := ?_) ?_ (by kernel_rfl) (by kernel_rfl) (by kernel_rfl) ?_ (Or.inl ⟨?_, ?_⟩) (by assumption) ?_
  rotate_left 2
  focus (simp only [List.getElem?_toArray, List.getElem?_cons_succ, List.getElem?_cons_zero]; rfl)
  focus exact fun _ _ _ h => h
  focus rfl
  focus (intro W hS; (try dsimp only at hS); obtain ⟨⟨k0, k1, k2, k3, k4, k5⟩, k6, k7, k8, k9, k10, k11⟩ := jobj_cells hS; go_simp; (try with_reducible rfl))
  try simp only [Act.put]
  try simp only [List.setIfInBounds_toArray]
  try simp only [List.set_cons_succ]
  try simp only [List.set_cons_zero]
  refine wpAnyH_take (i := 17) (oi := ?_) (v := ?_) ?_ (by kernel_rfl) (by kernel_rfl) (by kernel_rfl) ?_ (Or.inl ⟨?_, ?_⟩) (by assumption) ?_
  rotate_left 2
  focus (simp only [List.getElem?_toArray, List.getElem?_cons_succ, List.getElem?_cons_zero]; rfl)
  focus exact fun _ _ _ h => h
  focus rfl
  focus (intro W hS; (try dsimp only at hS); obtain ⟨⟨k0, k1, k2, k3, k4, k5⟩, k6, k7, k8, k9, k10, k11⟩ := jobj_cells hS; go_simp; (try with_reducible rfl))
  try simp only [Act.put]
  try simp only [List.setIfInBounds_toArray]
  try simp only [List.set_cons_succ]
  try simp only [List.set_cons_zero]
  refine wpAnyH_done (by kernel_rfl) ?_ _
  obtain ⟨D, hD⟩ : ∃ D, D = TB ++ TC := ⟨_, rfl⟩
  have hbE : Below yC.heap.size yC (yC.alloc (.cells #[] 2)) := (Below.refl _ _).alloc (Nat.le_refl _) _
  have hoE : (yC.alloc (.cells #[] 2)).ownsRow yC.heap.size 2 1 (.slice (some ⟨yC.heap.size, 0, none⟩) 0 0) 0 [] := World.ownsRow_lit yC #[] 0 (Nat.le_refl _) (Nat.zero_le _) rfl
  have hlA : kA ≤ 20 := by rw [HKA.out, HTA.out]; exact Nat.le_trans (told_len n) hn20
  have hlB : kB ≤ 20 := by rw [HKB.out, HTB.out]; exact Nat.le_trans (told_len n) hn20
  have hlC : kC ≤ 20 := by rw [HKC.out, HTC.out]; exact Nat.le_trans (told_len n) hn20
  obtain ⟨v21, u21, hrun21, ho21, hgr21, _⟩ := run_app (bytes := 8) (m := kB) Tryz.underlying29 infoI64 rfl (by omega) hoE hbE.size (HVB.out.below hbE) (by simp; exact HKB.out.symm) HNB.out (one_i _) (by omega)
  have hb21 : Below yC.heap.size yC u21 := hbE.grown hgr21 hbE.size (fun k e => (World.ownsRow.lt hoE k e).1)
  obtain ⟨v22, u22, hrun22, ho22, hgr22, _⟩ := run_app (bytes := 8) (m := kC) Tryz.underlying29 infoI64 rfl (by omega) ho21 hb21.size (HVC.out.below hb21) (by simp; exact HKC.out.symm) HNC.out (one_i _) (by omega)
  have hb22 : Below yC.heap.size yC u22 := hb21.grown hgr22 hb21.size (fun k e => (World.ownsRow.lt ho21 k e).1)
  have hDm : [] ++ TB.map iv ++ TC.map iv = D.map iv := by rw [hD]; simp
  rw [hDm] at ho22
  obtain ⟨a22, c22, rfl, -, hc22, hm22, hv22, -⟩ := own_shape ho22
  obtain ⟨kD, hkD⟩ : ∃ k, k = 0 + kB + kC := ⟨_, rfl⟩
  rw [← hkD] at hrun22 hc22
  have hDl : D.length = kD := by rw [hD, List.length_append, ← HKB.out, ← HKC.out]; omega
  have hkD40 : kD ≤ 40 := by omega
  have HV22 := Lib.hid hv22
  have HVA := Lib.hid (HVA.out.below hb22)
  have HB22 := Lib.hid (HByC.out.trans (hb22.mono HByC.out.size))
  have HJ22 := Lib.hid ((hb22.block w.heap.size (Array.getElem?_eq_some_iff.1 HJyC.out).1).trans HJyC.out)
  have HD := Lib.hid hD
  have HDL := Lib.hid hDl
  have HRUN21 := Lib.hid hrun21
  have HRUN22 := Lib.hid hrun22
  obtain ⟨lo, hlo⟩ : ∃ lo, lo = kD - n := ⟨_, rfl⟩
  have hwk : IntKind.i64.wrap ((kD : Int) - (n : Int)) = (kD : Int) - (n : Int) := by rw [IntKind.wrap_i64]; omega
  have HLO := Lib.hid hlo
  clear hbE hoE ho21 hgr21 hb21 ho22 hgr22 hb22 hDm hm22 hv22 hkD hD hDl HVB HVC HByC HJyC hrun21 hrun22
  have hlo1 : lo ≤ kD := by have := HLO.out; omega
  have hmx : max (0 : Int) ((kD : Int) - (n : Int)) = (lo : Int) := by have := HLO.out; omega
  have HTT := Lib.hid (show TA = D.drop lo from by
    rw [HTA.out, HD.out, HTB.out, HTC.out, ← told_two (b := Cron.pB j.expr.data.toList) (s := Cron.pS j.expr.data.toList) n (f := f) (m := m) (t := t) (by omega) (by omega), ← HTB.out, ← HTC.out, ← HD.out, HDL.out, ← HLO.out])
  have hkA : kA = kD - lo := by rw [HKA.out, HTT.out, List.length_drop, HDL.out]
  have HKAD := Lib.hid hkA
  clear hkA
  by_cases hcl : c22 = lo
  · -- no firing at all
    have hkd : kD = lo := by omega
    have hk0 : kA = 0 := by have := HKAD.out; omega
    have hta : TA = [] := List.eq_nil_of_length_eq_zero (by rw [← HKA.out]; exact hk0)
    have hmom := moments_any (w := u22) (a := aA) (b := a22) (xs := []) (ys := []) (c := qA) (d := 0) (Vals.nil _ _) (Vals.nil _ _) (by decide)
    have HMOM : Hid (Calls Tryz.prog 7 #[.slice aA 0 qA, .slice a22 (kD - (kD - n)) 0] u22 fun e w' => e = .returned (.bool true) ∧ Drew u22 w') := Lib.hid (by
      rw [show kD - (kD - n) = 0 by have := HLO.out; omega]
      exact hmom)
    have HKD := Lib.hid hkd
    subst hk0
    subst hcl
    clear hmom hkd hta
    go_wp2_with (at_builtin; first | (refine Lib.wpList_append_run u21 rfl _ _ _ _ rfl _ _ rfl rfl _ _ HRUN22.out ?_) | (refine Lib.wpList_append_run (yC.alloc (.cells #[] 2)) rfl _ _ _ _ rfl _ _ rfl rfl _ _ HRUN21.out ?_))
    refine HMOM.out.mono ?_
    rintro e w23 ⟨rfl, hd⟩
    have HB23 := Lib.hid (HB22.out.trans (hd.bel.mono HB22.out.size))
    have hj23 := (hd.bel.block w.heap.size (Array.getElem?_eq_some_iff.1 HJ22.out).1).trans HJ22.out
    obtain ⟨⟨c0, c1', c2', c3, c4, c5⟩, c6, c7, c8, c9, c10, c11⟩ := jobj_cells hj23
    clear hd hj23 HMOM HRUN21 HRUN22
    go_wp2_with fail
    refine (HPX.out _ HB23.out).mono ?_
    rintro e w24 ⟨rfl, hb24⟩
    have HB24 := Lib.hid (HB23.out.trans (hb24.mono HB23.out.size))
    clear hb24 c0 c1' c2' c3 c4 c5 c6 c7 c8 c9 c10 c11 HPX
    unfold pres7 xval xcells
    generalize Cron.pB j.expr.data.toList = bb at *
    generalize Cron.pS j.expr.data.toList = ss at *
    go_wp2_with fail
    have hbel25 := HB24.out.alloc HB24.out.size (.cells #[.int .u64 ((bb 0 : Nat) : Int), .bool (ss 0), .int .u64 ((bb 1 : Nat) : Int), .bool (ss 1), .int .u64 ((bb 2 : Nat) : Int), .bool (ss 2), .int .u64 ((bb 3 : Nat) : Int), .bool (ss 3), .int .u64 ((bb 4 : Nat) : Int), .bool (ss 4)] 43)
    generalize w24.alloc (.cells #[.int .u64 ((bb 0 : Nat) : Int), .bool (ss 0), .int .u64 ((bb 1 : Nat) : Int), .bool (ss 1), .int .u64 ((bb 2 : Nat) : Int), .bool (ss 2), .int .u64 ((bb 3 : Nat) : Int), .bool (ss 3), .int .u64 ((bb 4 : Nat) : Int), .bool (ss 4)] 43) = w25 at *
    have HB25 := Lib.hid hbel25
    clear hbel25
    go_loopw [26] (fun s wr => s = .int .i64 0 ∧ wr = w25) (fun _ _ => 0)
    case atStart => exact ⟨rfl, rfl⟩
    case round =>
      obtain ⟨rfl, rfl⟩ := hrel
      go_wp2_with fail
      go_ret
      exact ⟨rfl, HB25.out⟩
  have hlo9 := HLO.out
  subst hlo9
  clear HLO
  have hvd : Vals u22 (Option.map (fun x => x.add (kD - n)) a22) (TA.map iv) := by
    rw [HTT.out, List.map_drop]
    exact HV22.out.drop (kD - n)
  have hmom := moments_any (c := qA) (d := c22 - (kD - n)) HVA.out hvd (by rw [← HKA.out]; omega)
  rw [← HKA.out, decide_eq_true (rfl : TA = TA)] at hmom
  have HMOM : Hid (Calls Tryz.prog 7 #[.slice aA kA qA, .slice (Option.map (fun x => x.add (kD - n)) a22) (kD - (kD - n)) (c22 - (kD - n))] u22 fun e w' => e = .returned (.bool true) ∧ Drew u22 w') := Lib.hid (by
    rw [← HKAD.out]
    exact hmom)
  clear hmom hvd
  go_wp2_with (at_builtin; first | (refine Lib.wpList_append_run u21 rfl _ _ _ _ rfl _ _ rfl rfl _ _ HRUN22.out ?_) | (refine Lib.wpList_append_run (yC.alloc (.cells #[] 2)) rfl _ _ _ _ rfl _ _ rfl rfl _ _ HRUN21.out ?_))
  refine HMOM.out.mono ?_
  rintro e w23 ⟨rfl, hd⟩
  have HB23 := Lib.hid (HB22.out.trans (hd.bel.mono HB22.out.size))
  have hj23 := (hd.bel.block w.heap.size (Array.getElem?_eq_some_iff.1 HJ22.out).1).trans HJ22.out
  have HVA := Lib.hid (HVA.out.below hd.bel)
  obtain ⟨⟨c0, c1', c2', c3, c4, c5⟩, c6, c7, c8, c9, c10, c11⟩ := jobj_cells hj23
  clear hd hj23 HMOM HRUN21 HRUN22
  go_wp2_with fail
  refine (HPX.out _ HB23.out).mono ?_
  rintro e w24 ⟨rfl, hb24⟩
  have HB24 := Lib.hid (HB23.out.trans (hb24.mono HB23.out.size))
  have HVA := Lib.hid (HVA.out.below hb24)
  have hpb : ∀ k, k < 5 → Cron.pB j.expr.data.toList k < 2 ^ 64 := fun k hk => Cron.pB_lt _ k hk
  have hpm : Cron.may (Cron.pB j.expr.data.toList) = true := Cron.p_may HM.out.expr
  have HEACH : Hid (∀ i (h : i < TA.length), ∃ y mo d h' mi k, Stm.may y mo d h' mi 0 k ∧ Stm.num y mo d h' mi 0 = TA[i] ∧ Cron.fits (Cron.pB j.expr.data.toList) (Cron.pS j.expr.data.toList) y mo d h' mi 0 k = true ∧ f < TA[i] ∧ TA[i] ≤ t) := Lib.hid (fun i h => by
    have hmem : TA[i] ∈ told14 (Cron.pB j.expr.data.toList) (Cron.pS j.expr.data.toList) f t n := by rw [← HTA.out]; exact List.getElem_mem h
    obtain ⟨g1, g2, g3⟩ := told_mem hmem
    obtain ⟨y, mo, d, h', mi, k, e1, e2, e3⟩ := fired hpm g1
    exact ⟨y, mo, d, h', mi, k, e1, e2, e3, g2, g3⟩)
  have HRISE : Hid (∀ i (h : i + 1 < TA.length), TA[i] < TA[i + 1]) := Lib.hid (fun i h => by
    have hp : TA.Pairwise (fun x y => x < y) := by rw [HTA.out]; exact told_rise
    exact List.pairwise_iff_getElem.1 hp i (i + 1) (by omega) h (by omega))
  have HFIT := Lib.hid (fun (y mo d h' mi x k : Int) hv W (hW : Below w.heap.size w W) => fits_any (Cron.pB j.expr.data.toList) (Cron.pS j.expr.data.toList) hpb y mo d h' mi x k hv W (HW7.out W hW))
  have HSPL := Lib.hid (fun (y mo d h' mi x k : Int) W (hW : Below w.heap.size w W) hmay => Civ.split_in y mo d h' mi x k W ((HW7.out W hW).mon.on (Below.refl _ _)) hmay)
  clear hb24 c0 c1' c2' c3 c4 c5 c6 c7 c8 c9 c10 c11 HPX hpb hpm
  unfold pres7 xval xcells
  unfold xval xcells at HFIT
  generalize Cron.pB j.expr.data.toList = bb at *
  generalize Cron.pS j.expr.data.toList = ss at *
  go_wp2_with fail
  have hx25 := heap_alloc_new w24 (.cells #[.int .u64 ((bb 0 : Nat) : Int), .bool (ss 0), .int .u64 ((bb 1 : Nat) : Int), .bool (ss 1), .int .u64 ((bb 2 : Nat) : Int), .bool (ss 2), .int .u64 ((bb 3 : Nat) : Int), .bool (ss 3), .int .u64 ((bb 4 : Nat) : Int), .bool (ss 4)] 43)
  have hb25 : Below w24.heap.size w24 (w24.alloc (.cells #[.int .u64 ((bb 0 : Nat) : Int), .bool (ss 0), .int .u64 ((bb 1 : Nat) : Int), .bool (ss 1), .int .u64 ((bb 2 : Nat) : Int), .bool (ss 2), .int .u64 ((bb 3 : Nat) : Int), .bool (ss 3), .int .u64 ((bb 4 : Nat) : Int), .bool (ss 4)] 43)) := (Below.refl _ _).alloc (Nat.le_refl _) _
  have HVA := Lib.hid (HVA.out.below hb25)
  have HB25 := Lib.hid (HB24.out.trans (hb25.mono HB24.out.size))
  obtain ⟨X, hX⟩ : ∃ X, X = w24.heap.size := ⟨_, rfl⟩
  rw [← hX] at hx25 ⊢
  have hx25' : (w24.alloc (.cells #[.int .u64 ((bb 0 : Nat) : Int), .bool (ss 0), .int .u64 ((bb 1 : Nat) : Int), .bool (ss 1), .int .u64 ((bb 2 : Nat) : Int), .bool (ss 2), .int .u64 ((bb 3 : Nat) : Int), .bool (ss 3), .int .u64 ((bb 4 : Nat) : Int), .bool (ss 4)] 43)).heap[X]? = some (xobj bb ss) := hx25
  generalize w24.alloc (.cells #[.int .u64 ((bb 0 : Nat) : Int), .bool (ss 0), .int .u64 ((bb 1 : Nat) : Int), .bool (ss 1), .int .u64 ((bb 2 : Nat) : Int), .bool (ss 2), .int .u64 ((bb 3 : Nat) : Int), .bool (ss 3), .int .u64 ((bb 4 : Nat) : Int), .bool (ss 4)] 43) = w25 at *
  have HX25 := Lib.hid hx25'
  clear hx25 hx25' hb25 hX
  go_loopw [26] (fun s wr => ∃ i : Nat, s = .int .i64 (i : Int) ∧ i ≤ kA ∧ Hid (Below w.heap.size w wr) ∧ Hid (wr.heap[X]? = some (xobj bb ss)) ∧ Hid (Vals wr aA (TA.map iv))) (fun s _ => kA - (intOf s).toNat)
  case atStart => exact ⟨0, rfl, Nat.zero_le _, HB25, HX25, HVA⟩
  case round =>
    obtain ⟨i, rfl, hi, HB, HX, HVL⟩ := hrel
    by_cases hlt : i < kA
    · have hd : decide ((i : Int) < (kA : Int)) = true := by simp; omega
      have hiT : i < TA.length := by rw [← HKA.out]; exact hlt
      obtain ⟨y, mo, d, h', mi, k, e1, e2, e3, e4, e5⟩ := HEACH.out i hiT
      obtain ⟨u, hu⟩ : ∃ u, u = TA[i] := ⟨_, rfl⟩
      rw [← hu] at e2 e4 e5
      have HSP := Lib.hid (fun W hW => HSPL.out y mo d h' mi 0 k W hW e1)
      rw [e2] at HSP
      have HFI := Lib.hid (fun W hW => HFIT.out y mo d h' mi 0 k (may_ints e1) W hW)
      rw [e3] at HFI
      obtain ⟨g, gq, hga, hgc⟩ := HVL.out
      have eA := hga (by intro e; have := congrArg List.length e; simp at this; rw [this] at hiT; simp at hiT)
      have hci := hgc i (by simpa using hiT)
      rw [List.getElem_map, ← hu] at hci
      unfold iv at hci
      cases eA
      have HGC := Lib.hid hgc
      have HU := Lib.hid hu
      have hc1 := hci.2
      have du1 : decide (u ≤ f) = false := by simp; omega
      have du2 : decide (t < u) = false := by simp; omega
      clear hga hgc e1 e2 e3 hu
      go_wp2_with fail
      refine (HSP.out _ HB.out).mono ?_
      rintro e x1 ⟨rfl, hbx⟩
      go_wp2_with fail
      have hwl : wr.heap.size ≤ x1.heap.size := hbx.size
      obtain ⟨x2, hx2⟩ : ∃ W, W = x1.alloc (.cells #[.int .i64 y, .int .i64 mo, .int .i64 d, .int .i64 h', .int .i64 mi, .int .i64 0, .int .i64 k] 49) := ⟨_, rfl⟩
      obtain ⟨Y, hY⟩ : ∃ n, n = x1.heap.size := ⟨_, rfl⟩
      have hb2 : Below x1.heap.size x1 x2 := by rw [hx2]; exact (Below.refl _ _).alloc (Nat.le_refl _) _
      have hy2 : x2.heap[Y]? = some (Civ.clk y mo d h' mi 0 k) := by rw [hx2, hY]; exact heap_alloc_new x1 _
      have hbw := hbx.trans (hb2.mono hbx.size)
      have HB2 := Lib.hid (HB.out.trans (hbw.mono HB.out.size))
      have hx2' := (hbw.block X (Array.getElem?_eq_some_iff.1 HX.out).1).trans HX.out
      have HVL2 := Lib.hid (HVL.out.below hbw)
      rw [← hx2]
      try rw [← hY]
      have HY2 := Lib.hid hy2
      have HX2 := Lib.hid hx2'
      have hc2 := stays hbw hc1
      clear hwl hx2 hY hb2 hy2 hbx hx2' hci hc1
      by_cases hi0 : i = 0
      · subst hi0
        have hc3 : x2.cell? ⟨g, gq, none⟩ = some (.int .i64 u) := hc2
        have hd0 : decide ((0 : Int) < 0) = false := by decide
        clear hbw hc2
        refine wp_region_held_drew (S := fun W => W.heap[X]? = some (xobj bb ss) ∧ W.heap[Y]? = some (Civ.clk y mo d h' mi 0 k) ∧ W.cell? ⟨g, gq, none⟩ = some (.int .i64 u)) (by kernel_rfl) ⟨HX2.out, HY2.out, hc3⟩ (fun hHeld => ?_)
        obtain ⟨z0, hz0⟩ : ∃ u, u = x2.drew := ⟨_, rfl⟩
        have hs0 : z0.heap[X]? = some (xobj bb ss) ∧ z0.heap[Y]? = some (Civ.clk y mo d h' mi 0 k) ∧ z0.cell? ⟨g, gq, none⟩ = some (.int .i64 u) := by rw [hz0]; exact hHeld
        have HBz0 := Lib.hid (show Below w.heap.size w z0 by rw [hz0]; exact HB2.out.drew)
        have HVz0 := Lib.hid (show Vals z0 (some ⟨g, gq, none⟩) (TA.map iv) by rw [hz0]; exact HVL2.out.below (Below.refl _ _).drew)
        rw [← hz0]
        have HSz0 := Lib.hid hs0
        clear hz0 hHeld HB2 HVL2
        refine wpAnyH_take (i := 0) (oi := ?_) (v := ?_) ?_ (by kernel_rfl) (by kernel_rfl) (by kernel_rfl) ?_ (Or.inl ⟨?_, ?_⟩) (by assumption) ?_
        rotate_left 2
        focus (simp only [List.getElem?_toArray, List.getElem?_cons_zero]; rfl)
        focus exact fun _ _ _ h => h
        focus rfl
        focus (intro W hS; (try dsimp only at hS); obtain ⟨sx, sy, sc⟩ := hS; obtain ⟨q0, q1, q2, q3, q4, q5, q6, q7, q8, q9⟩ := xobj_cells sx; obtain ⟨t0, t1, t2, t3, t4, t5, t6⟩ := Civ.clk_cells sy; go_simp; (try with_reducible rfl))
        try simp only [Act.put]
        try simp only [List.setIfInBounds_toArray]
        try simp only [List.set_cons_succ]
        try simp only [List.set_cons_zero]
        refine wpAnyH_take (i := 1) (oi := ?_) (v := ?_) ?_ (by kernel_rfl) (by kernel_rfl) (by kernel_rfl) ?_ (Or.inl ⟨?_, ?_⟩) (by assumption) ?_
        rotate_left 2
        focus (simp only [List.getElem?_toArray, List.getElem?_cons_succ, List.getElem?_cons_zero]; rfl)
        focus exact fun _ _ _ h => h
        focus rfl
        focus (intro W hS; (try dsimp only at hS); obtain ⟨sx, sy, sc⟩ := hS; obtain ⟨q0, q1, q2, q3, q4, q5, q6, q7, q8, q9⟩ := xobj_cells sx; obtain ⟨t0, t1, t2, t3, t4, t5, t6⟩ := Civ.clk_cells sy; go_simp; (try with_reducible rfl))
        try simp only [Act.put]
        try simp only [List.setIfInBounds_toArray]
        try simp only [List.set_cons_succ]
        try simp only [List.set_cons_zero]
        refine wpAnyH_take (i := 2) (oi := ?_) (v := ?_) ?_ (by kernel_rfl) (by kernel_rfl) (by kernel_rfl) ?_ (Or.inl ⟨?_, ?_⟩) (by assumption) ?_
        rotate_left 2
        focus (simp only [List.getElem?_toArray, List.getElem?_cons_succ, List.getElem?_cons_zero]; rfl)
        focus exact fun _ _ _ h => h
        focus rfl
        focus (intro W hS; (try dsimp only at hS); obtain ⟨sx, sy, sc⟩ := hS; obtain ⟨q0, q1, q2, q3, q4, q5, q6, q7, q8, q9⟩ := xobj_cells sx; obtain ⟨t0, t1, t2, t3, t4, t5, t6⟩ := Civ.clk_cells sy; go_simp; (try with_reducible rfl))
        try simp only [Act.put]
        try simp only [List.setIfInBounds_toArray]
        try simp only [List.set_cons_succ]
        try simp only [List.set_cons_zero]
        refine wpAnyH_take (i := 3) (oi := ?_) (v := ?_) ?_ (by kernel_rfl) (by kernel_rfl) (by kernel_rfl) ?_ (Or.inl ⟨?_, ?_⟩) (by assumption) ?_
        rotate_left 2
        focus (simp only [List.getElem?_toArray, List.getElem?_cons_succ, List.getElem?_cons_zero]; rfl)
        focus exact fun _ _ _ h => h
        focus rfl
        focus (intro W hS; (try dsimp only at hS); obtain ⟨sx, sy, sc⟩ := hS; obtain ⟨q0, q1, q2, q3, q4, q5, q6, q7, q8, q9⟩ := xobj_cells sx; obtain ⟨t0, t1, t2, t3, t4, t5, t6⟩ := Civ.clk_cells sy; go_simp; (try with_reducible rfl))
        try simp only [Act.put]
        try simp only [List.setIfInBounds_toArray]
        try simp only [List.set_cons_succ]
        try simp only [List.set_cons_zero]
        refine wpAnyH_take (i := 4) (oi := ?_) (v := ?_) ?_ (by kernel_rfl) (by kernel_rfl) (by kernel_rfl) ?_ (Or.inl ⟨?_, ?_⟩) (by assumption) ?_
        rotate_left 2
        focus (simp only [List.getElem?_toArray, List.getElem?_cons_succ, List.getElem?_cons_zero]; rfl)
        focus exact fun _ _ _ h => h
        focus rfl
        focus (intro W hS; (try dsimp only at hS); obtain ⟨sx, sy, sc⟩ := hS; obtain ⟨q0, q1, q2, q3, q4, q5, q6, q7, q8, q9⟩ := xobj_cells sx; obtain ⟨t0, t1, t2, t3, t4, t5, t6⟩ := Civ.clk_cells sy; go_simp; (try with_reducible rfl))
        try simp only [Act.put]
        try simp only [List.setIfInBounds_toArray]
        try simp only [List.set_cons_succ]
        try simp only [List.set_cons_zero]
        refine wpAnyH_ready (rs := [5]) (by kernel_rfl) (by simp) ?_
        refine AllReadyH.cons (o := ?_) ?_ (fun K hK => ?_) AllReadyH.nil
        rotate_left
        focus (simp only [List.getElem?_toArray, List.getElem?_cons_succ, List.getElem?_cons_zero]; rfl)
        rw [if_pos (by rfl)]
        go_simp
        with_reducible refine (HFI.out z0 HBz0.out).mono ?_
        rintro e z1 ⟨rfl, hbf⟩
        have hs1 : z1.heap[X]? = some (xobj bb ss) ∧ z1.heap[Y]? = some (Civ.clk y mo d h' mi 0 k) ∧ z1.cell? ⟨g, gq, none⟩ = some (.int .i64 u) := ⟨(hbf.block X (Array.getElem?_eq_some_iff.1 HSz0.out.1).1).trans HSz0.out.1, (hbf.block Y (Array.getElem?_eq_some_iff.1 HSz0.out.2.1).1).trans HSz0.out.2.1, stays hbf HSz0.out.2.2⟩
        have HBz1 := Lib.hid (HBz0.out.trans (hbf.mono HBz0.out.size))
        have HVz1 := Lib.hid (HVz0.out.below hbf)
        clear hbf
        go_wp2_with fail
        refine hK.out _ _ hs1 (fun hHeld => ?_)
        clear hK K
        try simp only [Act.put]
        try simp only [List.setIfInBounds_toArray]
        try simp only [List.set_cons_succ]
        try simp only [List.set_cons_zero]
        refine wpAnyH_take (i := 6) (oi := ?_) (v := ?_) ?_ (by kernel_rfl) (by kernel_rfl) (by kernel_rfl) ?_ (Or.inl ⟨?_, ?_⟩) (by assumption) ?_
        rotate_left 2
        focus (simp only [List.getElem?_toArray, List.getElem?_cons_succ, List.getElem?_cons_zero]; rfl)
        focus exact fun _ _ _ h => h
        focus rfl
        focus (intro W hS; (try dsimp only at hS); obtain ⟨sx, sy, sc⟩ := hS; obtain ⟨q0, q1, q2, q3, q4, q5, q6, q7, q8, q9⟩ := xobj_cells sx; obtain ⟨t0, t1, t2, t3, t4, t5, t6⟩ := Civ.clk_cells sy; go_simp; (try with_reducible rfl))
        try simp only [Act.put]
        try simp only [List.setIfInBounds_toArray]
        try simp only [List.set_cons_succ]
        try simp only [List.set_cons_zero]
        refine wpAnyH_take (i := 7) (oi := ?_) (v := ?_) ?_ (by kernel_rfl) (by kernel_rfl) (by kernel_rfl) ?_ (Or.inl ⟨?_, ?_⟩) (by assumption) ?_
        rotate_left 2
        focus (simp only [List.getElem?_toArray, List.getElem?_cons_succ, List.getElem?_cons_zero]; rfl)
        focus exact fun _ _ _ h => h
        focus rfl
        focus (intro W hS; (try dsimp only at hS); obtain ⟨sx, sy, sc⟩ := hS; obtain ⟨q0, q1, q2, q3, q4, q5, q6, q7, q8, q9⟩ := xobj_cells sx; obtain ⟨t0, t1, t2, t3, t4, t5, t6⟩ := Civ.clk_cells sy; go_simp; (try with_reducible rfl))
        try simp only [Act.put]
        try simp only [List.setIfInBounds_toArray]
        try simp only [List.set_cons_succ]
        try simp only [List.set_cons_zero]
        refine wpAnyH_take (i := 8) (oi := ?_) (v := ?_) ?_ (by kernel_rfl) (by kernel_rfl) (by kernel_rfl) ?_ (Or.inl ⟨?_, ?_⟩) (by assumption) ?_
        rotate_left 2
        focus (simp only [List.getElem?_toArray, List.getElem?_cons_succ, List.getElem?_cons_zero]; rfl)
        focus exact fun _ _ _ h => h
        focus rfl
        focus (intro W hS; (try dsimp only at hS); obtain ⟨sx, sy, sc⟩ := hS; obtain ⟨q0, q1, q2, q3, q4, q5, q6, q7, q8, q9⟩ := xobj_cells sx; obtain ⟨t0, t1, t2, t3, t4, t5, t6⟩ := Civ.clk_cells sy; go_simp; (try with_reducible rfl))
        try simp only [Act.put]
        try simp only [List.setIfInBounds_toArray]
        try simp only [List.set_cons_succ]
        try simp only [List.set_cons_zero]
        refine wpAnyH_take (i := 9) (oi := ?_) (v := ?_) ?_ (by kernel_rfl) (by kernel_rfl) (by kernel_rfl) ?_ (Or.inl ⟨?_, ?_⟩) (by assumption) ?_
        rotate_left 2
        focus (simp only [List.getElem?_toArray, List.getElem?_cons_succ, List.getElem?_cons_zero]; rfl)
        focus exact fun _ _ _ h => h
        focus rfl
        focus (intro W hS; (try dsimp only at hS); obtain ⟨sx, sy, sc⟩ := hS; obtain ⟨q0, q1, q2, q3, q4, q5, q6, q7, q8, q9⟩ := xobj_cells sx; obtain ⟨t0, t1, t2, t3, t4, t5, t6⟩ := Civ.clk_cells sy; go_simp; (try with_reducible rfl))
        try simp only [Act.put]
        try simp only [List.setIfInBounds_toArray]
        try simp only [List.set_cons_succ]
        try simp only [List.set_cons_zero]
        refine wpAnyH_take (i := 10) (oi := ?_) (v := ?_) ?_ (by kernel_rfl) (by kernel_rfl) (by kernel_rfl) ?_ (Or.inl ⟨?_, ?_⟩) (by assumption) ?_
        rotate_left 2
        focus (simp only [List.getElem?_toArray, List.getElem?_cons_succ, List.getElem?_cons_zero]; rfl)
        focus exact fun _ _ _ h => h
        focus rfl
        focus (intro W hS; (try dsimp only at hS); obtain ⟨sx, sy, sc⟩ := hS; obtain ⟨q0, q1, q2, q3, q4, q5, q6, q7, q8, q9⟩ := xobj_cells sx; obtain ⟨t0, t1, t2, t3, t4, t5, t6⟩ := Civ.clk_cells sy; go_simp; (try with_reducible rfl))
        try simp only [Act.put]
        try simp only [List.setIfInBounds_toArray]
        try simp only [List.set_cons_succ]
        try simp only [List.set_cons_zero]
        refine wpAnyH_take (i := 11) (oi := ?_) (v := ?_) ?_ (by kernel_rfl) (by kernel_rfl) (by kernel_rfl) ?_ (Or.inl ⟨?_, ?_⟩) (by assumption) ?_
        rotate_left 2
        focus (simp only [List.getElem?_toArray, List.getElem?_cons_succ, List.getElem?_cons_zero]; rfl)
        focus exact fun _ _ _ h => h
        focus rfl
        focus (intro W hS; (try dsimp only at hS); obtain ⟨sx, sy, sc⟩ := hS; obtain ⟨q0, q1, q2, q3, q4, q5, q6, q7, q8, q9⟩ := xobj_cells sx; obtain ⟨t0, t1, t2, t3, t4, t5, t6⟩ := Civ.clk_cells sy; go_simp; (try with_reducible rfl))
        try simp only [Act.put]
        try simp only [List.setIfInBounds_toArray]
        try simp only [List.set_cons_succ]
        try simp only [List.set_cons_zero]
        refine wpAnyH_take (i := 12) (oi := ?_) (v := ?_) ?_ (by kernel_rfl) (by kernel_rfl) (by kernel_rfl) ?_ (Or.inl ⟨?_, ?_⟩) (by assumption) ?_
        rotate_left 2
        focus (simp only [List.getElem?_toArray, List.getElem?_cons_succ, List.getElem?_cons_zero]; rfl)
        focus exact fun _ _ _ h => h
        focus rfl
        focus (intro W hS; (try dsimp only at hS); obtain ⟨sx, sy, sc⟩ := hS; obtain ⟨q0, q1, q2, q3, q4, q5, q6, q7, q8, q9⟩ := xobj_cells sx; obtain ⟨t0, t1, t2, t3, t4, t5, t6⟩ := Civ.clk_cells sy; go_simp; (try with_reducible rfl))
        try simp only [Act.put]
        try simp only [List.setIfInBounds_toArray]
        try simp only [List.set_cons_succ]
        try simp only [List.set_cons_zero]
        refine wpAnyH_take (i := 13) (oi := ?_) (v := ?_) ?_ (by kernel_rfl) (by kernel_rfl) (by kernel_rfl) ?_ (Or.inl ⟨?_, ?_⟩) (by assumption) ?_
        rotate_left 2
        focus (simp only [List.getElem?_toArray, List.getElem?_cons_succ, List.getElem?_cons_zero]; rfl)
        focus exact fun _ _ _ h => h
        focus rfl
        focus (intro W hS; (try dsimp only at hS); obtain ⟨sx, sy, sc⟩ := hS; obtain ⟨q0, q1, q2, q3, q4, q5, q6, q7, q8, q9⟩ := xobj_cells sx; obtain ⟨t0, t1, t2, t3, t4, t5, t6⟩ := Civ.clk_cells sy; go_simp; (try with_reducible rfl))
        try simp only [Act.put]
        try simp only [List.setIfInBounds_toArray]
        try simp only [List.set_cons_succ]
        try simp only [List.set_cons_zero]
        refine wpAnyH_take (i := 14) (oi := ?_) (v := ?_) ?_ (by kernel_rfl) (by kernel_rfl) (by kernel_rfl) ?_ (Or.inl ⟨?_, ?_⟩) (by assumption) ?_
        rotate_left 2
        focus (simp only [List.getElem?_toArray, List.getElem?_cons_succ, List.getElem?_cons_zero]; rfl)
        focus exact fun _ _ _ h => h
        focus rfl
        focus (intro W hS; (try dsimp only at hS); obtain ⟨sx, sy, sc⟩ := hS; obtain ⟨q0, q1, q2, q3, q4, q5, q6, q7, q8, q9⟩ := xobj_cells sx; obtain ⟨t0, t1, t2, t3, t4, t5, t6⟩ := Civ.clk_cells sy; go_simp; (try with_reducible rfl))
        try simp only [Act.put]
        try simp only [List.setIfInBounds_toArray]
        try simp only [List.set_cons_succ]
        try simp only [List.set_cons_zero]
        refine wpAnyH_take (i := 15) (oi := ?_) (v := ?_) ?_ (by kernel_rfl) (by kernel_rfl) (by kernel_rfl) ?_ (Or.inl ⟨?_, ?_⟩) (by assumption) ?_
        rotate_left 2
        focus (simp only [List.getElem?_toArray, List.getElem?_cons_succ, List.getElem?_cons_zero]; rfl)
        focus exact fun _ _ _ h => h
        focus rfl
        focus (intro W hS; (try dsimp only at hS); obtain ⟨sx, sy, sc⟩ := hS; obtain ⟨q0, q1, q2, q3, q4, q5, q6, q7, q8, q9⟩ := xobj_cells sx; obtain ⟨t0, t1, t2, t3, t4, t5, t6⟩ := Civ.clk_cells sy; go_simp; (try with_reducible rfl))
        try simp only [Act.put]
        try simp only [List.setIfInBounds_toArray]
        try simp only [List.set_cons_succ]
        try simp only [List.set_cons_zero]
        refine wpAnyH_take (i := 16) (oi := ?_) (v := ?_) ?_ (by kernel_rfl) (by kernel_rfl) (by kernel_rfl) ?_ (Or.inl ⟨?_, ?_⟩) (by assumption) ?_
        rotate_left 2
        focus (simp only [List.getElem?_toArray, List.getElem?_cons_succ, List.getElem?_cons_zero]; rfl)
        focus exact fun _ _ _ h => h
        focus rfl
        focus (intro W hS; (try dsimp only at hS); obtain ⟨sx, sy, sc⟩ := hS; obtain ⟨q0, q1, q2, q3, q4, q5, q6, q7, q8, q9⟩ := xobj_cells sx; obtain ⟨t0, t1, t2, t3, t4, t5, t6⟩ := Civ.clk_cells sy; go_simp; (try with_reducible rfl))
        try simp only [Act.put]
        try simp only [List.setIfInBounds_toArray]
        try simp only [List.set_cons_succ]
        try simp only [List.set_cons_zero]
        refine wpAnyH_take (i := 17) (oi := ?_) (v := ?_) ?_ (by kernel_rfl) (by kernel_rfl) (by kernel_rfl) ?_ (Or.inl ⟨?_, ?_⟩) (by assumption) ?_
        rotate_left 2
        focus (simp only [List.getElem?_toArray, List.getElem?_cons_succ, List.getElem?_cons_zero]; rfl)
        focus exact fun _ _ _ h => h
        focus rfl
        focus (intro W hS; (try dsimp only at hS); obtain ⟨sx, sy, sc⟩ := hS; obtain ⟨q0, q1, q2, q3, q4, q5, q6, q7, q8, q9⟩ := xobj_cells sx; obtain ⟨t0, t1, t2, t3, t4, t5, t6⟩ := Civ.clk_cells sy; go_simp; (try with_reducible rfl))
        try simp only [Act.put]
        try simp only [List.setIfInBounds_toArray]
        try simp only [List.set_cons_succ]
        try simp only [List.set_cons_zero]
        refine wpAnyH_take (i := 18) (oi := ?_) (v := ?_) ?_ (by kernel_rfl) (by kernel_rfl) (by kernel_rfl) ?_ (Or.inl ⟨?_, ?_⟩) (by assumption) ?_
        rotate_left 2
        focus (simp only [List.getElem?_toArray, List.getElem?_cons_succ, List.getElem?_cons_zero]; rfl)
        focus exact fun _ _ _ h => h
        focus rfl
        focus (intro W hS; (try dsimp only at hS); obtain ⟨sx, sy, sc⟩ := hS; obtain ⟨q0, q1, q2, q3, q4, q5, q6, q7, q8, q9⟩ := xobj_cells sx; obtain ⟨t0, t1, t2, t3, t4, t5, t6⟩ := Civ.clk_cells sy; go_simp; (try with_reducible rfl))
        try simp only [Act.put]
        try simp only [List.setIfInBounds_toArray]
        try simp only [List.set_cons_succ]
        try simp only [List.set_cons_zero]
        refine wpAnyH_take (i := 19) (oi := ?_) (v := ?_) ?_ (by kernel_rfl) (by kernel_rfl) (by kernel_rfl) ?_ (Or.inl ⟨?_, ?_⟩) (by assumption) ?_
        rotate_left 2
        focus (simp only [List.getElem?_toArray, List.getElem?_cons_succ, List.getElem?_cons_zero]; rfl)
        focus exact fun _ _ _ h => h
        focus rfl
        focus (intro W hS; (try dsimp only at hS); obtain ⟨sx, sy, sc⟩ := hS; obtain ⟨q0, q1, q2, q3, q4, q5, q6, q7, q8, q9⟩ := xobj_cells sx; obtain ⟨t0, t1, t2, t3, t4, t5, t6⟩ := Civ.clk_cells sy; go_simp; (try with_reducible rfl))
        try simp only [Act.put]
        try simp only [List.setIfInBounds_toArray]
        try simp only [List.set_cons_succ]
        try simp only [List.set_cons_zero]
        refine wpAnyH_take (i := 20) (oi := ?_) (v := ?_) ?_ (by kernel_rfl) (by kernel_rfl) (by kernel_rfl) ?_ (Or.inl ⟨?_, ?_⟩) (by assumption) ?_
        rotate_left 2
        focus (simp only [List.getElem?_toArray, List.getElem?_cons_succ, List.getElem?_cons_zero]; rfl)
        focus exact fun _ _ _ h => h
        focus rfl
        focus (intro W hS; (try dsimp only at hS); obtain ⟨sx, sy, sc⟩ := hS; obtain ⟨q0, q1, q2, q3, q4, q5, q6, q7, q8, q9⟩ := xobj_cells sx; obtain ⟨t0, t1, t2, t3, t4, t5, t6⟩ := Civ.clk_cells sy; go_simp; (try with_reducible rfl))
        try simp only [Act.put]
        try simp only [List.setIfInBounds_toArray]
        try simp only [List.set_cons_succ]
        try simp only [List.set_cons_zero]
        refine wpAnyH_take (i := 21) (oi := ?_) (v := ?_) ?_ (by kernel_rfl) (by kernel_rfl) (by kernel_rfl) ?_ (Or.inl ⟨?_, ?_⟩) (by assumption) ?_
        rotate_left 2
        focus (simp only [List.getElem?_toArray, List.getElem?_cons_succ, List.getElem?_cons_zero]; rfl)
        focus exact fun _ _ _ h => h
        focus rfl
        focus (intro W hS; (try dsimp only at hS); obtain ⟨sx, sy, sc⟩ := hS; obtain ⟨q0, q1, q2, q3, q4, q5, q6, q7, q8, q9⟩ := xobj_cells sx; obtain ⟨t0, t1, t2, t3, t4, t5, t6⟩ := Civ.clk_cells sy; go_simp; (try with_reducible rfl))
        try simp only [Act.put]
        try simp only [List.setIfInBounds_toArray]
        try simp only [List.set_cons_succ]
        try simp only [List.set_cons_zero]
        refine wpAnyH_take (i := 22) (oi := ?_) (v := ?_) ?_ (by kernel_rfl) (by kernel_rfl) (by kernel_rfl) ?_ (Or.inl ⟨?_, ?_⟩) (by assumption) ?_
        rotate_left 2
        focus (simp only [List.getElem?_toArray, List.getElem?_cons_succ, List.getElem?_cons_zero]; rfl)
        focus exact fun _ _ _ h => h
        focus rfl
        focus (intro W hS; (try dsimp only at hS); obtain ⟨sx, sy, sc⟩ := hS; obtain ⟨q0, q1, q2, q3, q4, q5, q6, q7, q8, q9⟩ := xobj_cells sx; obtain ⟨t0, t1, t2, t3, t4, t5, t6⟩ := Civ.clk_cells sy; go_simp; (try with_reducible rfl))
        try simp only [Act.put]
        try simp only [List.setIfInBounds_toArray]
        try simp only [List.set_cons_succ]
        try simp only [List.set_cons_zero]
        refine wpAnyH_take (i := 23) (oi := ?_) (v := ?_) ?_ (by kernel_rfl) (by kernel_rfl) (by kernel_rfl) ?_ (Or.inl ⟨?_, ?_⟩) (by assumption) ?_
        rotate_left 2
        focus (simp only [List.getElem?_toArray, List.getElem?_cons_succ, List.getElem?_cons_zero]; rfl)
        focus exact fun _ _ _ h => h
        focus rfl
        focus (intro W hS; (try dsimp only at hS); obtain ⟨sx, sy, sc⟩ := hS; obtain ⟨q0, q1, q2, q3, q4, q5, q6, q7, q8, q9⟩ := xobj_cells sx; obtain ⟨t0, t1, t2, t3, t4, t5, t6⟩ := Civ.clk_cells sy; go_simp; (try with_reducible rfl))
        try simp only [Act.put]
        try simp only [List.setIfInBounds_toArray]
        try simp only [List.set_cons_succ]
        try simp only [List.set_cons_zero]
        refine wpAnyH_take (i := 24) (oi := ?_) (v := ?_) ?_ (by kernel_rfl) (by kernel_rfl) (by kernel_rfl) ?_ (Or.inl ⟨?_, ?_⟩) (by assumption) ?_
        rotate_left 2
        focus (simp only [List.getElem?_toArray, List.getElem?_cons_succ, List.getElem?_cons_zero]; rfl)
        focus exact fun _ _ _ h => h
        focus rfl
        focus (intro W hS; (try dsimp only at hS); obtain ⟨sx, sy, sc⟩ := hS; obtain ⟨q0, q1, q2, q3, q4, q5, q6, q7, q8, q9⟩ := xobj_cells sx; obtain ⟨t0, t1, t2, t3, t4, t5, t6⟩ := Civ.clk_cells sy; go_simp; (try with_reducible rfl))
        try simp only [Act.put]
        try simp only [List.setIfInBounds_toArray]
        try simp only [List.set_cons_succ]
        try simp only [List.set_cons_zero]
        refine wpAnyH_take (i := 25) (oi := ?_) (v := ?_) ?_ (by kernel_rfl) (by kernel_rfl) (by kernel_rfl) ?_ (Or.inl ⟨?_, ?_⟩) (by assumption) ?_
        rotate_left 2
        focus (simp only [List.getElem?_toArray, List.getElem?_cons_succ, List.getElem?_cons_zero]; rfl)
        focus exact fun _ _ _ h => h
        focus rfl
        focus (intro W hS; (try dsimp only at hS); obtain ⟨sx, sy, sc⟩ := hS; obtain ⟨q0, q1, q2, q3, q4, q5, q6, q7, q8, q9⟩ := xobj_cells sx; obtain ⟨t0, t1, t2, t3, t4, t5, t6⟩ := Civ.clk_cells sy; go_simp; (try with_reducible rfl))
        try simp only [Act.put]
        try simp only [List.setIfInBounds_toArray]
        try simp only [List.set_cons_succ]
        try simp only [List.set_cons_zero]
        refine wpAnyH_take (i := 26) (oi := ?_) (v := ?_) ?_ (by kernel_rfl) (by kernel_rfl) (by kernel_rfl) ?_ (Or.inl ⟨?_, ?_⟩) (by assumption) ?_
        rotate_left 2
        focus (simp only [List.getElem?_toArray, List.getElem?_cons_succ, List.getElem?_cons_zero]; rfl)
        focus exact fun _ _ _ h => h
        focus rfl
        focus (intro W hS; (try dsimp only at hS); obtain ⟨sx, sy, sc⟩ := hS; obtain ⟨q0, q1, q2, q3, q4, q5, q6, q7, q8, q9⟩ := xobj_cells sx; obtain ⟨t0, t1, t2, t3, t4, t5, t6⟩ := Civ.clk_cells sy; go_simp; (try with_reducible rfl))
        try simp only [Act.put]
        try simp only [List.setIfInBounds_toArray]
        try simp only [List.set_cons_succ]
        try simp only [List.set_cons_zero]
        refine wpAnyH_take (i := 27) (oi := ?_) (v := ?_) ?_ (by kernel_rfl) (by kernel_rfl) (by kernel_rfl) ?_ (Or.inl ⟨?_, ?_⟩) (by assumption) ?_
        rotate_left 2
        focus (simp only [List.getElem?_toArray, List.getElem?_cons_succ, List.getElem?_cons_zero]; rfl)
        focus exact fun _ _ _ h => h
        focus rfl
        focus (intro W hS; (try dsimp only at hS); obtain ⟨sx, sy, sc⟩ := hS; obtain ⟨q0, q1, q2, q3, q4, q5, q6, q7, q8, q9⟩ := xobj_cells sx; obtain ⟨t0, t1, t2, t3, t4, t5, t6⟩ := Civ.clk_cells sy; go_simp; (try with_reducible rfl))
        try simp only [Act.put]
        try simp only [List.setIfInBounds_toArray]
        try simp only [List.set_cons_succ]
        try simp only [List.set_cons_zero]
        refine wpAnyH_take (i := 28) (oi := ?_) (v := ?_) ?_ (by kernel_rfl) (by kernel_rfl) (by kernel_rfl) ?_ (Or.inr ⟨?_, ?_⟩) (by assumption) ?_
        rotate_left 2
        focus (simp only [List.getElem?_toArray, List.getElem?_cons_succ, List.getElem?_cons_zero]; rfl)
        focus exact fun _ _ _ h => h
        focus rfl
        focus rfl
        try simp only [Act.put]
        try simp only [List.setIfInBounds_toArray]
        try simp only [List.set_cons_succ]
        try simp only [List.set_cons_zero]
        refine wpAnyH_take (i := 29) (oi := ?_) (v := ?_) ?_ (by kernel_rfl) (by kernel_rfl) (by kernel_rfl) ?_ (Or.inr ⟨?_, ?_⟩) (by assumption) ?_
        rotate_left 2
        focus (simp only [List.getElem?_toArray, List.getElem?_cons_succ, List.getElem?_cons_zero]; rfl)
        focus exact fun _ _ _ h => h
        focus rfl
        focus rfl
        try simp only [Act.put]
        try simp only [List.setIfInBounds_toArray]
        try simp only [List.set_cons_succ]
        try simp only [List.set_cons_zero]
        refine wpAnyH_take (i := 30) (oi := ?_) (v := ?_) ?_ (by kernel_rfl) (by kernel_rfl) (by kernel_rfl) ?_ (Or.inr ⟨?_, ?_⟩) (by assumption) ?_
        rotate_left 2
        focus (simp only [List.getElem?_toArray, List.getElem?_cons_succ, List.getElem?_cons_zero]; rfl)
        focus exact fun _ _ _ h => h
        focus rfl
        focus rfl
        try simp only [Act.put]
        try simp only [List.setIfInBounds_toArray]
        try simp only [List.set_cons_succ]
        try simp only [List.set_cons_zero]
        refine wpAnyH_take (i := 31) (oi := ?_) (v := ?_) ?_ (by kernel_rfl) (by kernel_rfl) (by kernel_rfl) ?_ (Or.inr ⟨?_, ?_⟩) (by assumption) ?_
        rotate_left 2
        focus (simp only [List.getElem?_toArray, List.getElem?_cons_succ, List.getElem?_cons_zero]; rfl)
        focus exact fun _ _ _ h => h
        focus rfl
        focus rfl
        try simp only [Act.put]
        try simp only [List.setIfInBounds_toArray]
        try simp only [List.set_cons_succ]
        try simp only [List.set_cons_zero]
        refine wpAnyH_take (i := 32) (oi := ?_) (v := ?_) ?_ (by kernel_rfl) (by kernel_rfl) (by kernel_rfl) ?_ (Or.inr ⟨?_, ?_⟩) (by assumption) ?_
        rotate_left 2
        focus (simp only [List.getElem?_toArray, List.getElem?_cons_succ, List.getElem?_cons_zero]; rfl)
        focus exact fun _ _ _ h => h
        focus rfl
        focus rfl
        try simp only [Act.put]
        try simp only [List.setIfInBounds_toArray]
        try simp only [List.set_cons_succ]
        try simp only [List.set_cons_zero]
        refine wpAnyH_take (i := 33) (oi := ?_) (v := ?_) ?_ (by kernel_rfl) (by kernel_rfl) (by kernel_rfl) ?_ (Or.inr ⟨?_, ?_⟩) (by assumption) ?_
        rotate_left 2
        focus (simp only [List.getElem?_toArray, List.getElem?_cons_succ, List.getElem?_cons_zero]; rfl)
        focus exact fun _ _ _ h => h
        focus rfl
        focus rfl
        try simp only [Act.put]
        try simp only [List.setIfInBounds_toArray]
        try simp only [List.set_cons_succ]
        try simp only [List.set_cons_zero]
        refine wpAnyH_take (i := 34) (oi := ?_) (v := ?_) ?_ (by kernel_rfl) (by kernel_rfl) (by kernel_rfl) ?_ (Or.inr ⟨?_, ?_⟩) (by assumption) ?_
        rotate_left 2
        focus (simp only [List.getElem?_toArray, List.getElem?_cons_succ, List.getElem?_cons_zero]; rfl)
        focus exact fun _ _ _ h => h
        focus rfl
        focus rfl
        try simp only [Act.put]
        try simp only [List.setIfInBounds_toArray]
        try simp only [List.set_cons_succ]
        try simp only [List.set_cons_zero]
        refine wpAnyH_take (i := 35) (oi := ?_) (v := ?_) ?_ (by kernel_rfl) (by kernel_rfl) (by kernel_rfl) ?_ (Or.inr ⟨?_, ?_⟩) (by assumption) ?_
        rotate_left 2
        focus (simp only [List.getElem?_toArray, List.getElem?_cons_succ, List.getElem?_cons_zero]; rfl)
        focus exact fun _ _ _ h => h
        focus rfl
        focus rfl
        try simp only [Act.put]
        try simp only [List.setIfInBounds_toArray]
        try simp only [List.set_cons_succ]
        try simp only [List.set_cons_zero]
        refine wpAnyH_take (i := 36) (oi := ?_) (v := ?_) ?_ (by kernel_rfl) (by kernel_rfl) (by kernel_rfl) ?_ (Or.inr ⟨?_, ?_⟩) (by assumption) ?_
        rotate_left 2
        focus (simp only [List.getElem?_toArray, List.getElem?_cons_succ, List.getElem?_cons_zero]; rfl)
        focus exact fun _ _ _ h => h
        focus rfl
        focus rfl
        try simp only [Act.put]
        try simp only [List.setIfInBounds_toArray]
        try simp only [List.set_cons_succ]
        try simp only [List.set_cons_zero]
        refine wpAnyH_take (i := 37) (oi := ?_) (v := ?_) ?_ (by kernel_rfl) (by kernel_rfl) (by kernel_rfl) ?_ (Or.inr ⟨?_, ?_⟩) (by assumption) ?_
        rotate_left 2
        focus (simp only [List.getElem?_toArray, List.getElem?_cons_succ, List.getElem?_cons_zero]; rfl)
        focus exact fun _ _ _ h => h
        focus rfl
        focus rfl
        try simp only [Act.put]
        try simp only [List.setIfInBounds_toArray]
        try simp only [List.set_cons_succ]
        try simp only [List.set_cons_zero]
        refine wpAnyH_take (i := 38) (oi := ?_) (v := ?_) ?_ (by kernel_rfl) (by kernel_rfl) (by kernel_rfl) ?_ (Or.inl ⟨?_, ?_⟩) (by assumption) ?_
        rotate_left 2
        focus (simp only [List.getElem?_toArray, List.getElem?_cons_succ, List.getElem?_cons_zero]; rfl)
        focus exact fun _ _ _ h => h
        focus rfl
        focus (intro W hS; (try dsimp only at hS); obtain ⟨sx, sy, sc⟩ := hS; obtain ⟨q0, q1, q2, q3, q4, q5, q6, q7, q8, q9⟩ := xobj_cells sx; obtain ⟨t0, t1, t2, t3, t4, t5, t6⟩ := Civ.clk_cells sy; go_simp; (try with_reducible rfl))
        try simp only [Act.put]
        try simp only [List.setIfInBounds_toArray]
        try simp only [List.set_cons_succ]
        try simp only [List.set_cons_zero]
        refine wpAnyH_take (i := 39) (oi := ?_) (v := ?_) ?_ (by kernel_rfl) (by kernel_rfl) (by kernel_rfl) ?_ (Or.inl ⟨?_, ?_⟩) (by assumption) ?_
        rotate_left 2
        focus (simp only [List.getElem?_toArray, List.getElem?_cons_succ, List.getElem?_cons_zero]; rfl)
        focus exact fun _ _ _ h => h
        focus rfl
        focus (intro W hS; (try dsimp only at hS); obtain ⟨sx, sy, sc⟩ := hS; obtain ⟨q0, q1, q2, q3, q4, q5, q6, q7, q8, q9⟩ := xobj_cells sx; obtain ⟨t0, t1, t2, t3, t4, t5, t6⟩ := Civ.clk_cells sy; go_simp; (try with_reducible rfl))
        try simp only [Act.put]
        try simp only [List.setIfInBounds_toArray]
        try simp only [List.set_cons_succ]
        try simp only [List.set_cons_zero]
        refine wpAnyH_done (by kernel_rfl) ?_ _
        have HX9 := Lib.hid hs1.1
        clear hs0 hs1
        go_wp2
        go_roundw
        case rel => exact ⟨0 + 1, by go_num, by omega, HBz1, HX9, HVz1⟩
        case measure => simp [intOf]; omega
      obtain ⟨ip, hip⟩ : ∃ ip, i = ip + 1 := ⟨i - 1, by omega⟩
      have hipk : ip < kA := by omega
      have hgp := HGC.out ip (by simp; rw [← HKA.out]; exact hipk)
      obtain ⟨u', hu'⟩ : ∃ u', u' = TA[ip]'(by rw [← HKA.out]; exact hipk) := ⟨_, rfl⟩
      have hcp := hgp.2
      rw [List.getElem_map, ← hu'] at hcp
      unfold iv at hcp
      have hc4 := stays hbw hcp
      have hri := HRISE.out ip (by rw [← HKA.out, ← hip]; exact hlt)
      have huu : u' < u := by
        have h1 : TA[ip + 1]'(by rw [← HKA.out, ← hip]; exact hlt) = u := by rw [HU.out]; congr 1; exact hip.symm
        rw [hu', ← h1]
        exact hri
      have du3 : decide (u ≤ u') = false := by simp; omega
      have hdi : decide ((0 : Int) < (i : Int)) = true := by simp; omega
      have hdi2 : decide (0 < i) = true := by simp; omega
      have h0i : 0 < i := by omega
      have h0I : (0 : Int) < (i : Int) := by omega
      have hwi : IntKind.i64.wrap ((i : Int) - 1) = (ip : Int) := by rw [IntKind.wrap_i64]; omega
      have hdp : decide ((ip : Int) < (kA : Int)) = true := by simp; omega
      have hdp0 : decide ((ip : Int) < 0) = false := by simp
      have HIP := Lib.hid hip
      clear hgp hcp hri hu' hip hbw
      refine wp_region_held_drew (S := fun W => W.heap[X]? = some (xobj bb ss) ∧ W.heap[Y]? = some (Civ.clk y mo d h' mi 0 k) ∧ W.cell? ⟨g, gq + i, none⟩ = some (.int .i64 u) ∧ W.cell? ⟨g, gq + ip, none⟩ = some (.int .i64 u')) (by kernel_rfl) ⟨HX2.out, HY2.out, hc2, hc4⟩ (fun hHeld => ?_)
      obtain ⟨z0, hz0⟩ : ∃ u, u = x2.drew := ⟨_, rfl⟩
      have hs0 : z0.heap[X]? = some (xobj bb ss) ∧ z0.heap[Y]? = some (Civ.clk y mo d h' mi 0 k) ∧ z0.cell? ⟨g, gq + i, none⟩ = some (.int .i64 u) ∧ z0.cell? ⟨g, gq + ip, none⟩ = some (.int .i64 u') := by rw [hz0]; exact hHeld
      have HBz0 := Lib.hid (show Below w.heap.size w z0 by rw [hz0]; exact HB2.out.drew)
      have HVz0 := Lib.hid (show Vals z0 (some ⟨g, gq, none⟩) (TA.map iv) by rw [hz0]; exact HVL2.out.below (Below.refl _ _).drew)
      rw [← hz0]
      have HSz0 := Lib.hid hs0
      clear hz0 hHeld HB2 HVL2
      refine wpAnyH_take (i := 0) (oi := ?_) (v := ?_) ?_ (by kernel_rfl) (by kernel_rfl) (by kernel_rfl) ?_ (Or.inl ⟨?_, ?_⟩) (by assumption) ?_
      rotate_left 2
      focus (simp only [List.getElem?_toArray, List.getElem?_cons_zero]; rfl)
      focus exact fun _ _ _ h => h
      focus rfl
      focus (intro W hS; (try dsimp only at hS); obtain ⟨sx, sy, sc, sp⟩ := hS; obtain ⟨q0, q1, q2, q3, q4, q5, q6, q7, q8, q9⟩ := xobj_cells sx; obtain ⟨t0, t1, t2, t3, t4, t5, t6⟩ := Civ.clk_cells sy; go_simp; (try with_reducible rfl))
      try simp only [Act.put]
      try simp only [List.setIfInBounds_toArray]
      try simp only [List.set_cons_succ]
      try simp only [List.set_cons_zero]
      refine wpAnyH_take (i := 1) (oi := ?_) (v := ?_) ?_ (by kernel_rfl) (by kernel_rfl) (by kernel_rfl) ?_ (Or.inl ⟨?_, ?_⟩) (by assumption) ?_
      rotate_left 2
      focus (simp only [List.getElem?_toArray, List.getElem?_cons_succ, List.getElem?_cons_zero]; rfl)
      focus exact fun _ _ _ h => h
      focus rfl
      focus (intro W hS; (try dsimp only at hS); obtain ⟨sx, sy, sc, sp⟩ := hS; obtain ⟨q0, q1, q2, q3, q4, q5, q6, q7, q8, q9⟩ := xobj_cells sx; obtain ⟨t0, t1, t2, t3, t4, t5, t6⟩ := Civ.clk_cells sy; go_simp; (try with_reducible rfl))
      try simp only [Act.put]
      try simp only [List.setIfInBounds_toArray]
      try simp only [List.set_cons_succ]
      try simp only [List.set_cons_zero]
      refine wpAnyH_take (i := 2) (oi := ?_) (v := ?_) ?_ (by kernel_rfl) (by kernel_rfl) (by kernel_rfl) ?_ (Or.inl ⟨?_, ?_⟩) (by assumption) ?_
      rotate_left 2
      focus (simp only [List.getElem?_toArray, List.getElem?_cons_succ, List.getElem?_cons_zero]; rfl)
      focus exact fun _ _ _ h => h
      focus rfl
      focus (intro W hS; (try dsimp only at hS); obtain ⟨sx, sy, sc, sp⟩ := hS; obtain ⟨q0, q1, q2, q3, q4, q5, q6, q7, q8, q9⟩ := xobj_cells sx; obtain ⟨t0, t1, t2, t3, t4, t5, t6⟩ := Civ.clk_cells sy; go_simp; (try with_reducible rfl))
      try simp only [Act.put]
      try simp only [List.setIfInBounds_toArray]
      try simp only [List.set_cons_succ]
      try simp only [List.set_cons_zero]
      refine wpAnyH_take (i := 3) (oi := ?_) (v := ?_) ?_ (by kernel_rfl) (by kernel_rfl) (by kernel_rfl) ?_ (Or.inl ⟨?_, ?_⟩) (by assumption) ?_
      rotate_left 2
      focus (simp only [List.getElem?_toArray, List.getElem?_cons_succ, List.getElem?_cons_zero]; rfl)
      focus exact fun _ _ _ h => h
      focus rfl
      focus (intro W hS; (try dsimp only at hS); obtain ⟨sx, sy, sc, sp⟩ := hS; obtain ⟨q0, q1, q2, q3, q4, q5, q6, q7, q8, q9⟩ := xobj_cells sx; obtain ⟨t0, t1, t2, t3, t4, t5, t6⟩ := Civ.clk_cells sy; go_simp; (try with_reducible rfl))
      try simp only [Act.put]
      try simp only [List.setIfInBounds_toArray]
      try simp only [List.set_cons_succ]
      try simp only [List.set_cons_zero]
      refine wpAnyH_take (i := 4) (oi := ?_) (v := ?_) ?_ (by kernel_rfl) (by kernel_rfl) (by kernel_rfl) ?_ (Or.inl ⟨?_, ?_⟩) (by assumption) ?_
      rotate_left 2
      focus (simp only [List.getElem?_toArray, List.getElem?_cons_succ, List.getElem?_cons_zero]; rfl)
      focus exact fun _ _ _ h => h
      focus rfl
      focus (intro W hS; (try dsimp only at hS); obtain ⟨sx, sy, sc, sp⟩ := hS; obtain ⟨q0, q1, q2, q3, q4, q5, q6, q7, q8, q9⟩ := xobj_cells sx; obtain ⟨t0, t1, t2, t3, t4, t5, t6⟩ := Civ.clk_cells sy; go_simp; (try with_reducible rfl))
      try simp only [Act.put]
      try simp only [List.setIfInBounds_toArray]
      try simp only [List.set_cons_succ]
      try simp only [List.set_cons_zero]
      refine wpAnyH_ready (rs := [5]) (by kernel_rfl) (by simp) ?_
      refine AllReadyH.cons (o := ?_) ?_ (fun K hK => ?_) AllReadyH.nil
      rotate_left
      focus (simp only [List.getElem?_toArray, List.getElem?_cons_succ, List.getElem?_cons_zero]; rfl)
      rw [if_pos (by rfl)]
      go_simp
      with_reducible refine (HFI.out z0 HBz0.out).mono ?_
      rintro e z1 ⟨rfl, hbf⟩
      have hs1 : z1.heap[X]? = some (xobj bb ss) ∧ z1.heap[Y]? = some (Civ.clk y mo d h' mi 0 k) ∧ z1.cell? ⟨g, gq + i, none⟩ = some (.int .i64 u) ∧ z1.cell? ⟨g, gq + ip, none⟩ = some (.int .i64 u') := ⟨(hbf.block X (Array.getElem?_eq_some_iff.1 HSz0.out.1).1).trans HSz0.out.1, (hbf.block Y (Array.getElem?_eq_some_iff.1 HSz0.out.2.1).1).trans HSz0.out.2.1, stays hbf HSz0.out.2.2.1, stays hbf HSz0.out.2.2.2⟩
      have HBz1 := Lib.hid (HBz0.out.trans (hbf.mono HBz0.out.size))
      have HVz1 := Lib.hid (HVz0.out.below hbf)
      clear hbf
      go_wp2_with fail
      refine hK.out _ _ hs1 (fun hHeld => ?_)
      clear hK K
      try simp only [Act.put]
      try simp only [List.setIfInBounds_toArray]
      try simp only [List.set_cons_succ]
      try simp only [List.set_cons_zero]
      refine wpAnyH_take (i := 6) (oi := ?_) (v := ?_) ?_ (by kernel_rfl) (by kernel_rfl) (by kernel_rfl) ?_ (Or.inl ⟨?_, ?_⟩) (by assumption) ?_
      rotate_left 2
      focus (simp only [List.getElem?_toArray, List.getElem?_cons_succ, List.getElem?_cons_zero]; rfl)
      focus exact fun _ _ _ h => h
      focus rfl
      focus (intro W hS; (try dsimp only at hS); obtain ⟨sx, sy, sc, sp⟩ := hS; obtain ⟨q0, q1, q2, q3, q4, q5, q6, q7, q8, q9⟩ := xobj_cells sx; obtain ⟨t0, t1, t2, t3, t4, t5, t6⟩ := Civ.clk_cells sy; go_simp; (try with_reducible rfl))
      try simp only [Act.put]
      try simp only [List.setIfInBounds_toArray]
      try simp only [List.set_cons_succ]
      try simp only [List.set_cons_zero]
      refine wpAnyH_take (i := 7) (oi := ?_) (v := ?_) ?_ (by kernel_rfl) (by kernel_rfl) (by kernel_rfl) ?_ (Or.inl ⟨?_, ?_⟩) (by assumption) ?_
      rotate_left 2
      focus (simp only [List.getElem?_toArray, List.getElem?_cons_succ, List.getElem?_cons_zero]; rfl)
      focus exact fun _ _ _ h => h
      focus rfl
      focus (intro W hS; (try dsimp only at hS); obtain ⟨sx, sy, sc, sp⟩ := hS; obtain ⟨q0, q1, q2, q3, q4, q5, q6, q7, q8, q9⟩ := xobj_cells sx; obtain ⟨t0, t1, t2, t3, t4, t5, t6⟩ := Civ.clk_cells sy; go_simp; (try with_reducible rfl))
      try simp only [Act.put]
      try simp only [List.setIfInBounds_toArray]
      try simp only [List.set_cons_succ]
      try simp only [List.set_cons_zero]
      refine wpAnyH_take (i := 8) (oi := ?_) (v := ?_) ?_ (by kernel_rfl) (by kernel_rfl) (by kernel_rfl) ?_ (Or.inl ⟨?_, ?_⟩) (by assumption) ?_
      rotate_left 2
      focus (simp only [List.getElem?_toArray, List.getElem?_cons_succ, List.getElem?_cons_zero]; rfl)
      focus exact fun _ _ _ h => h
      focus rfl
      focus (intro W hS; (try dsimp only at hS); obtain ⟨sx, sy, sc, sp⟩ := hS; obtain ⟨q0, q1, q2, q3, q4, q5, q6, q7, q8, q9⟩ := xobj_cells sx; obtain ⟨t0, t1, t2, t3, t4, t5, t6⟩ := Civ.clk_cells sy; go_simp; (try with_reducible rfl))
      try simp only [Act.put]
      try simp only [List.setIfInBounds_toArray]
      try simp only [List.set_cons_succ]
      try simp only [List.set_cons_zero]
      refine wpAnyH_take (i := 9) (oi := ?_) (v := ?_) ?_ (by kernel_rfl) (by kernel_rfl) (by kernel_rfl) ?_ (Or.inl ⟨?_, ?_⟩) (by assumption) ?_
      rotate_left 2
      focus (simp only [List.getElem?_toArray, List.getElem?_cons_succ, List.getElem?_cons_zero]; rfl)
      focus exact fun _ _ _ h => h
      focus rfl
      focus (intro W hS; (try dsimp only at hS); obtain ⟨sx, sy, sc, sp⟩ := hS; obtain ⟨q0, q1, q2, q3, q4, q5, q6, q7, q8, q9⟩ := xobj_cells sx; obtain ⟨t0, t1, t2, t3, t4, t5, t6⟩ := Civ.clk_cells sy; go_simp; (try with_reducible rfl))
      try simp only [Act.put]
      try simp only [List.setIfInBounds_toArray]
      try simp only [List.set_cons_succ]
      try simp only [List.set_cons_zero]
      refine wpAnyH_take (i := 10) (oi := ?_) (v := ?_) ?_ (by kernel_rfl) (by kernel_rfl) (by kernel_rfl) ?_ (Or.inl ⟨?_, ?_⟩) (by assumption) ?_
      rotate_left 2
      focus (simp only [List.getElem?_toArray, List.getElem?_cons_succ, List.getElem?_cons_zero]; rfl)
      focus exact fun _ _ _ h => h
      focus rfl
      focus (intro W hS; (try dsimp only at hS); obtain ⟨sx, sy, sc, sp⟩ := hS; obtain ⟨q0, q1, q2, q3, q4, q5, q6, q7, q8, q9⟩ := xobj_cells sx; obtain ⟨t0, t1, t2, t3, t4, t5, t6⟩ := Civ.clk_cells sy; go_simp; (try with_reducible rfl))
      try simp only [Act.put]
      try simp only [List.setIfInBounds_toArray]
      try simp only [List.set_cons_succ]
      try simp only [List.set_cons_zero]
      refine wpAnyH_take (i := 11) (oi := ?_) (v := ?_) ?_ (by kernel_rfl) (by kernel_rfl) (by kernel_rfl) ?_ (Or.inl ⟨?_, ?_⟩) (by assumption) ?_
      rotate_left 2
      focus (simp only [List.getElem?_toArray, List.getElem?_cons_succ, List.getElem?_cons_zero]; rfl)
      focus exact fun _ _ _ h => h
      focus rfl
      focus (intro W hS; (try dsimp only at hS); obtain ⟨sx, sy, sc, sp⟩ := hS; obtain ⟨q0, q1, q2, q3, q4, q5, q6, q7, q8, q9⟩ := xobj_cells sx; obtain ⟨t0, t1, t2, t3, t4, t5, t6⟩ := Civ.clk_cells sy; go_simp; (try with_reducible rfl))
      try simp only [Act.put]
      try simp only [List.setIfInBounds_toArray]
      try simp only [List.set_cons_succ]
      try simp only [List.set_cons_zero]
      refine wpAnyH_take (i := 12) (oi := ?_) (v := ?_) ?_ (by kernel_rfl) (by kernel_rfl) (by kernel_rfl) ?_ (Or.inl ⟨?_, ?_⟩) (by assumption) ?_
      rotate_left 2
      focus (simp only [List.getElem?_toArray, List.getElem?_cons_succ, List.getElem?_cons_zero]; rfl)
      focus exact fun _ _ _ h => h
      focus rfl
      focus (intro W hS; (try dsimp only at hS); obtain ⟨sx, sy, sc, sp⟩ := hS; obtain ⟨q0, q1, q2, q3, q4, q5, q6, q7, q8, q9⟩ := xobj_cells sx; obtain ⟨t0, t1, t2, t3, t4, t5, t6⟩ := Civ.clk_cells sy; go_simp; (try with_reducible rfl))
      try simp only [Act.put]
      try simp only [List.setIfInBounds_toArray]
      try simp only [List.set_cons_succ]
      try simp only [List.set_cons_zero]
      refine wpAnyH_take (i := 13) (oi := ?_) (v := ?_) ?_ (by kernel_rfl) (by kernel_rfl) (by kernel_rfl) ?_ (Or.inl ⟨?_, ?_⟩) (by assumption) ?_
      rotate_left 2
      focus (simp only [List.getElem?_toArray, List.getElem?_cons_succ, List.getElem?_cons_zero]; rfl)
      focus exact fun _ _ _ h => h
      focus rfl
      focus (intro W hS; (try dsimp only at hS); obtain ⟨sx, sy, sc, sp⟩ := hS; obtain ⟨q0, q1, q2, q3, q4, q5, q6, q7, q8, q9⟩ := xobj_cells sx; obtain ⟨t0, t1, t2, t3, t4, t5, t6⟩ := Civ.clk_cells sy; go_simp; (try with_reducible rfl))
      try simp only [Act.put]
      try simp only [List.setIfInBounds_toArray]
      try simp only [List.set_cons_succ]
      try simp only [List.set_cons_zero]
      refine wpAnyH_take (i := 14) (oi := ?_) (v := ?_) ?_ (by kernel_rfl) (by kernel_rfl) (by kernel_rfl) ?_ (Or.inl ⟨?_, ?_⟩) (by assumption) ?_
      rotate_left 2
      focus (simp only [List.getElem?_toArray, List.getElem?_cons_succ, List.getElem?_cons_zero]; rfl)
      focus exact fun _ _ _ h => h
      focus rfl
      focus (intro W hS; (try dsimp only at hS); obtain ⟨sx, sy, sc, sp⟩ := hS; obtain ⟨q0, q1, q2, q3, q4, q5, q6, q7, q8, q9⟩ := xobj_cells sx; obtain ⟨t0, t1, t2, t3, t4, t5, t6⟩ := Civ.clk_cells sy; go_simp; (try with_reducible rfl))
      try simp only [Act.put]
      try simp only [List.setIfInBounds_toArray]
      try simp only [List.set_cons_succ]
      try simp only [List.set_cons_zero]
      refine wpAnyH_take (i := 15) (oi := ?_) (v := ?_) ?_ (by kernel_rfl) (by kernel_rfl) (by kernel_rfl) ?_ (Or.inl ⟨?_, ?_⟩) (by assumption) ?_
      rotate_left 2
      focus (simp only [List.getElem?_toArray, List.getElem?_cons_succ, List.getElem?_cons_zero]; rfl)
      focus exact fun _ _ _ h => h
      focus rfl
      focus (intro W hS; (try dsimp only at hS); obtain ⟨sx, sy, sc, sp⟩ := hS; obtain ⟨q0, q1, q2, q3, q4, q5, q6, q7, q8, q9⟩ := xobj_cells sx; obtain ⟨t0, t1, t2, t3, t4, t5, t6⟩ := Civ.clk_cells sy; go_simp; (try with_reducible rfl))
      try simp only [Act.put]
      try simp only [List.setIfInBounds_toArray]
      try simp only [List.set_cons_succ]
      try simp only [List.set_cons_zero]
      refine wpAnyH_take (i := 16) (oi := ?_) (v := ?_) ?_ (by kernel_rfl) (by kernel_rfl) (by kernel_rfl) ?_ (Or.inl ⟨?_, ?_⟩) (by assumption) ?_
      rotate_left 2
      focus (simp only [List.getElem?_toArray, List.getElem?_cons_succ, List.getElem?_cons_zero]; rfl)
      focus exact fun _ _ _ h => h
      focus rfl
      focus (intro W hS; (try dsimp only at hS); obtain ⟨sx, sy, sc, sp⟩ := hS; obtain ⟨q0, q1, q2, q3, q4, q5, q6, q7, q8, q9⟩ := xobj_cells sx; obtain ⟨t0, t1, t2, t3, t4, t5, t6⟩ := Civ.clk_cells sy; go_simp; (try with_reducible rfl))
      try simp only [Act.put]
      try simp only [List.setIfInBounds_toArray]
      try simp only [List.set_cons_succ]
      try simp only [List.set_cons_zero]
      refine wpAnyH_take (i := 17) (oi := ?_) (v := ?_) ?_ (by kernel_rfl) (by kernel_rfl) (by kernel_rfl) ?_ (Or.inl ⟨?_, ?_⟩) (by assumption) ?_
      rotate_left 2
      focus (simp only [List.getElem?_toArray, List.getElem?_cons_succ, List.getElem?_cons_zero]; rfl)
      focus exact fun _ _ _ h => h
      focus rfl
      focus (intro W hS; (try dsimp only at hS); obtain ⟨sx, sy, sc, sp⟩ := hS; obtain ⟨q0, q1, q2, q3, q4, q5, q6, q7, q8, q9⟩ := xobj_cells sx; obtain ⟨t0, t1, t2, t3, t4, t5, t6⟩ := Civ.clk_cells sy; go_simp; (try with_reducible rfl))
      try simp only [Act.put]
      try simp only [List.setIfInBounds_toArray]
      try simp only [List.set_cons_succ]
      try simp only [List.set_cons_zero]
      refine wpAnyH_take (i := 18) (oi := ?_) (v := ?_) ?_ (by kernel_rfl) (by kernel_rfl) (by kernel_rfl) ?_ (Or.inl ⟨?_, ?_⟩) (by assumption) ?_
      rotate_left 2
      focus (simp only [List.getElem?_toArray, List.getElem?_cons_succ, List.getElem?_cons_zero]; rfl)
      focus exact fun _ _ _ h => h
      focus rfl
      focus (intro W hS; (try dsimp only at hS); obtain ⟨sx, sy, sc, sp⟩ := hS; obtain ⟨q0, q1, q2, q3, q4, q5, q6, q7, q8, q9⟩ := xobj_cells sx; obtain ⟨t0, t1, t2, t3, t4, t5, t6⟩ := Civ.clk_cells sy; go_simp; (try with_reducible rfl))
      try simp only [Act.put]
      try simp only [List.setIfInBounds_toArray]
      try simp only [List.set_cons_succ]
      try simp only [List.set_cons_zero]
      refine wpAnyH_take (i := 19) (oi := ?_) (v := ?_) ?_ (by kernel_rfl) (by kernel_rfl) (by kernel_rfl) ?_ (Or.inl ⟨?_, ?_⟩) (by assumption) ?_
      rotate_left 2
      focus (simp only [List.getElem?_toArray, List.getElem?_cons_succ, List.getElem?_cons_zero]; rfl)
      focus exact fun _ _ _ h => h
      focus rfl
      focus (intro W hS; (try dsimp only at hS); obtain ⟨sx, sy, sc, sp⟩ := hS; obtain ⟨q0, q1, q2, q3, q4, q5, q6, q7, q8, q9⟩ := xobj_cells sx; obtain ⟨t0, t1, t2, t3, t4, t5, t6⟩ := Civ.clk_cells sy; go_simp; (try with_reducible rfl))
      try simp only [Act.put]
      try simp only [List.setIfInBounds_toArray]
      try simp only [List.set_cons_succ]
      try simp only [List.set_cons_zero]
      refine wpAnyH_take (i := 20) (oi := ?_) (v := ?_) ?_ (by kernel_rfl) (by kernel_rfl) (by kernel_rfl) ?_ (Or.inl ⟨?_, ?_⟩) (by assumption) ?_
      rotate_left 2
      focus (simp only [List.getElem?_toArray, List.getElem?_cons_succ, List.getElem?_cons_zero]; rfl)
      focus exact fun _ _ _ h => h
      focus rfl
      focus (intro W hS; (try dsimp only at hS); obtain ⟨sx, sy, sc, sp⟩ := hS; obtain ⟨q0, q1, q2, q3, q4, q5, q6, q7, q8, q9⟩ := xobj_cells sx; obtain ⟨t0, t1, t2, t3, t4, t5, t6⟩ := Civ.clk_cells sy; go_simp; (try with_reducible rfl))
      try simp only [Act.put]
      try simp only [List.setIfInBounds_toArray]
      try simp only [List.set_cons_succ]
      try simp only [List.set_cons_zero]
      refine wpAnyH_take (i := 21) (oi := ?_) (v := ?_) ?_ (by kernel_rfl) (by kernel_rfl) (by kernel_rfl) ?_ (Or.inl ⟨?_, ?_⟩) (by assumption) ?_
      rotate_left 2
      focus (simp only [List.getElem?_toArray, List.getElem?_cons_succ, List.getElem?_cons_zero]; rfl)
      focus exact fun _ _ _ h => h
      focus rfl
      focus (intro W hS; (try dsimp only at hS); obtain ⟨sx, sy, sc, sp⟩ := hS; obtain ⟨q0, q1, q2, q3, q4, q5, q6, q7, q8, q9⟩ := xobj_cells sx; obtain ⟨t0, t1, t2, t3, t4, t5, t6⟩ := Civ.clk_cells sy; go_simp; (try with_reducible rfl))
      try simp only [Act.put]
      try simp only [List.setIfInBounds_toArray]
      try simp only [List.set_cons_succ]
      try simp only [List.set_cons_zero]
      refine wpAnyH_take (i := 22) (oi := ?_) (v := ?_) ?_ (by kernel_rfl) (by kernel_rfl) (by kernel_rfl) ?_ (Or.inl ⟨?_, ?_⟩) (by assumption) ?_
      rotate_left 2
      focus (simp only [List.getElem?_toArray, List.getElem?_cons_succ, List.getElem?_cons_zero]; rfl)
      focus exact fun _ _ _ h => h
      focus rfl
      focus (intro W hS; (try dsimp only at hS); obtain ⟨sx, sy, sc, sp⟩ := hS; obtain ⟨q0, q1, q2, q3, q4, q5, q6, q7, q8, q9⟩ := xobj_cells sx; obtain ⟨t0, t1, t2, t3, t4, t5, t6⟩ := Civ.clk_cells sy; go_simp; (try with_reducible rfl))
      try simp only [Act.put]
      try simp only [List.setIfInBounds_toArray]
      try simp only [List.set_cons_succ]
      try simp only [List.set_cons_zero]
      refine wpAnyH_take (i := 23) (oi := ?_) (v := ?_) ?_ (by kernel_rfl) (by kernel_rfl) (by kernel_rfl) ?_ (Or.inl ⟨?_, ?_⟩) (by assumption) ?_
      rotate_left 2
      focus (simp only [List.getElem?_toArray, List.getElem?_cons_succ, List.getElem?_cons_zero]; rfl)
      focus exact fun _ _ _ h => h
      focus rfl
      focus (intro W hS; (try dsimp only at hS); obtain ⟨sx, sy, sc, sp⟩ := hS; obtain ⟨q0, q1, q2, q3, q4, q5, q6, q7, q8, q9⟩ := xobj_cells sx; obtain ⟨t0, t1, t2, t3, t4, t5, t6⟩ := Civ.clk_cells sy; go_simp; (try with_reducible rfl))
      try simp only [Act.put]
      try simp only [List.setIfInBounds_toArray]
      try simp only [List.set_cons_succ]
      try simp only [List.set_cons_zero]
      refine wpAnyH_take (i := 24) (oi := ?_) (v := ?_) ?_ (by kernel_rfl) (by kernel_rfl) (by kernel_rfl) ?_ (Or.inl ⟨?_, ?_⟩) (by assumption) ?_
      rotate_left 2
      focus (simp only [List.getElem?_toArray, List.getElem?_cons_succ, List.getElem?_cons_zero]; rfl)
      focus exact fun _ _ _ h => h
      focus rfl
      focus (intro W hS; (try dsimp only at hS); obtain ⟨sx, sy, sc, sp⟩ := hS; obtain ⟨q0, q1, q2, q3, q4, q5, q6, q7, q8, q9⟩ := xobj_cells sx; obtain ⟨t0, t1, t2, t3, t4, t5, t6⟩ := Civ.clk_cells sy; go_simp; (try with_reducible rfl))
      try simp only [Act.put]
      try simp only [List.setIfInBounds_toArray]
      try simp only [List.set_cons_succ]
      try simp only [List.set_cons_zero]
      refine wpAnyH_take (i := 25) (oi := ?_) (v := ?_) ?_ (by kernel_rfl) (by kernel_rfl) (by kernel_rfl) ?_ (Or.inl ⟨?_, ?_⟩) (by assumption) ?_
      rotate_left 2
      focus (simp only [List.getElem?_toArray, List.getElem?_cons_succ, List.getElem?_cons_zero]; rfl)
      focus exact fun _ _ _ h => h
      focus rfl
      focus (intro W hS; (try dsimp only at hS); obtain ⟨sx, sy, sc, sp⟩ := hS; obtain ⟨q0, q1, q2, q3, q4, q5, q6, q7, q8, q9⟩ := xobj_cells sx; obtain ⟨t0, t1, t2, t3, t4, t5, t6⟩ := Civ.clk_cells sy; go_simp; (try with_reducible rfl))
      try simp only [Act.put]
      try simp only [List.setIfInBounds_toArray]
      try simp only [List.set_cons_succ]
      try simp only [List.set_cons_zero]
      refine wpAnyH_take (i := 26) (oi := ?_) (v := ?_) ?_ (by kernel_rfl) (by kernel_rfl) (by kernel_rfl) ?_ (Or.inl ⟨?_, ?_⟩) (by assumption) ?_
      rotate_left 2
      focus (simp only [List.getElem?_toArray, List.getElem?_cons_succ, List.getElem?_cons_zero]; rfl)
      focus exact fun _ _ _ h => h
      focus rfl
      focus (intro W hS; (try dsimp only at hS); obtain ⟨sx, sy, sc, sp⟩ := hS; obtain ⟨q0, q1, q2, q3, q4, q5, q6, q7, q8, q9⟩ := xobj_cells sx; obtain ⟨t0, t1, t2, t3, t4, t5, t6⟩ := Civ.clk_cells sy; go_simp; (try with_reducible rfl))
      try simp only [Act.put]
      try simp only [List.setIfInBounds_toArray]
      try simp only [List.set_cons_succ]
      try simp only [List.set_cons_zero]
      refine wpAnyH_take (i := 27) (oi := ?_) (v := ?_) ?_ (by kernel_rfl) (by kernel_rfl) (by kernel_rfl) ?_ (Or.inl ⟨?_, ?_⟩) (by assumption) ?_
      rotate_left 2
      focus (simp only [List.getElem?_toArray, List.getElem?_cons_succ, List.getElem?_cons_zero]; rfl)
      focus exact fun _ _ _ h => h
      focus rfl
      focus (intro W hS; (try dsimp only at hS); obtain ⟨sx, sy, sc, sp⟩ := hS; obtain ⟨q0, q1, q2, q3, q4, q5, q6, q7, q8, q9⟩ := xobj_cells sx; obtain ⟨t0, t1, t2, t3, t4, t5, t6⟩ := Civ.clk_cells sy; go_simp; (try with_reducible rfl))
      try simp only [Act.put]
      try simp only [List.setIfInBounds_toArray]
      try simp only [List.set_cons_succ]
      try simp only [List.set_cons_zero]
      refine wpAnyH_take (i := 28) (oi := ?_) (v := ?_) ?_ (by kernel_rfl) (by kernel_rfl) (by kernel_rfl) ?_ (Or.inl ⟨?_, ?_⟩) (by assumption) ?_
      rotate_left 2
      focus (simp only [List.getElem?_toArray, List.getElem?_cons_succ, List.getElem?_cons_zero]; rfl)
      focus exact fun _ _ _ h => h
      focus rfl
      focus (intro W hS; (try dsimp only at hS); obtain ⟨sx, sy, sc, sp⟩ := hS; obtain ⟨q0, q1, q2, q3, q4, q5, q6, q7, q8, q9⟩ := xobj_cells sx; obtain ⟨t0, t1, t2, t3, t4, t5, t6⟩ := Civ.clk_cells sy; go_simp; (try with_reducible rfl))
      try simp only [Act.put]
      try simp only [List.setIfInBounds_toArray]
      try simp only [List.set_cons_succ]
      try simp only [List.set_cons_zero]
      refine wpAnyH_take (i := 29) (oi := ?_) (v := ?_) ?_ (by kernel_rfl) (by kernel_rfl) (by kernel_rfl) ?_ (Or.inl ⟨?_, ?_⟩) (by assumption) ?_
      rotate_left 2
      focus (simp only [List.getElem?_toArray, List.getElem?_cons_succ, List.getElem?_cons_zero]; rfl)
      focus exact fun _ _ _ h => h
      focus rfl
      focus (intro W hS; (try dsimp only at hS); obtain ⟨sx, sy, sc, sp⟩ := hS; obtain ⟨q0, q1, q2, q3, q4, q5, q6, q7, q8, q9⟩ := xobj_cells sx; obtain ⟨t0, t1, t2, t3, t4, t5, t6⟩ := Civ.clk_cells sy; go_simp; (try with_reducible rfl))
      try simp only [Act.put]
      try simp only [List.setIfInBounds_toArray]
      try simp only [List.set_cons_succ]
      try simp only [List.set_cons_zero]
      refine wpAnyH_take (i := 30) (oi := ?_) (v := ?_) ?_ (by kernel_rfl) (by kernel_rfl) (by kernel_rfl) ?_ (Or.inl ⟨?_, ?_⟩) (by assumption) ?_
      rotate_left 2
      focus (simp only [List.getElem?_toArray, List.getElem?_cons_succ, List.getElem?_cons_zero]; rfl)
      focus exact fun _ _ _ h => h
      focus rfl
      focus (intro W hS; (try dsimp only at hS); obtain ⟨sx, sy, sc, sp⟩ := hS; obtain ⟨q0, q1, q2, q3, q4, q5, q6, q7, q8, q9⟩ := xobj_cells sx; obtain ⟨t0, t1, t2, t3, t4, t5, t6⟩ := Civ.clk_cells sy; go_simp; (try with_reducible rfl))
      try simp only [Act.put]
      try simp only [List.setIfInBounds_toArray]
      try simp only [List.set_cons_succ]
      try simp only [List.set_cons_zero]
      refine wpAnyH_take (i := 31) (oi := ?_) (v := ?_) ?_ (by kernel_rfl) (by kernel_rfl) (by kernel_rfl) ?_ (Or.inl ⟨?_, ?_⟩) (by assumption) ?_
      rotate_left 2
      focus (simp only [List.getElem?_toArray, List.getElem?_cons_succ, List.getElem?_cons_zero]; rfl)
      focus exact fun _ _ _ h => h
      focus rfl
      focus (intro W hS; (try dsimp only at hS); obtain ⟨sx, sy, sc, sp⟩ := hS; obtain ⟨q0, q1, q2, q3, q4, q5, q6, q7, q8, q9⟩ := xobj_cells sx; obtain ⟨t0, t1, t2, t3, t4, t5, t6⟩ := Civ.clk_cells sy; go_simp; (try with_reducible rfl))
      try simp only [Act.put]
      try simp only [List.setIfInBounds_toArray]
      try simp only [List.set_cons_succ]
      try simp only [List.set_cons_zero]
      refine wpAnyH_take (i := 32) (oi := ?_) (v := ?_) ?_ (by kernel_rfl) (by kernel_rfl) (by kernel_rfl) ?_ (Or.inl ⟨?_, ?_⟩) (by assumption) ?_
      rotate_left 2
      focus (simp only [List.getElem?_toArray, List.getElem?_cons_succ, List.getElem?_cons_zero]; rfl)
      focus exact fun _ _ _ h => h
      focus rfl
      focus (intro W hS; (try dsimp only at hS); obtain ⟨sx, sy, sc, sp⟩ := hS; obtain ⟨q0, q1, q2, q3, q4, q5, q6, q7, q8, q9⟩ := xobj_cells sx; obtain ⟨t0, t1, t2, t3, t4, t5, t6⟩ := Civ.clk_cells sy; go_simp; (try with_reducible rfl))
      try simp only [Act.put]
      try simp only [List.setIfInBounds_toArray]
      try simp only [List.set_cons_succ]
      try simp only [List.set_cons_zero]
      refine wpAnyH_take (i := 33) (oi := ?_) (v := ?_) ?_ (by kernel_rfl) (by kernel_rfl) (by kernel_rfl) ?_ (Or.inl ⟨?_, ?_⟩) (by assumption) ?_
      rotate_left 2
      focus (simp only [List.getElem?_toArray, List.getElem?_cons_succ, List.getElem?_cons_zero]; rfl)
      focus exact fun _ _ _ h => h
      focus rfl
      focus (intro W hS; (try dsimp only at hS); obtain ⟨sx, sy, sc, sp⟩ := hS; obtain ⟨q0, q1, q2, q3, q4, q5, q6, q7, q8, q9⟩ := xobj_cells sx; obtain ⟨t0, t1, t2, t3, t4, t5, t6⟩ := Civ.clk_cells sy; go_simp; (try with_reducible rfl))
      try simp only [Act.put]
      try simp only [List.setIfInBounds_toArray]
      try simp only [List.set_cons_succ]
      try simp only [List.set_cons_zero]
      refine wpAnyH_take (i := 34) (oi := ?_) (v := ?_) ?_ (by kernel_rfl) (by kernel_rfl) (by kernel_rfl) ?_ (Or.inl ⟨?_, ?_⟩) (by assumption) ?_
      rotate_left 2
      focus (simp only [List.getElem?_toArray, List.getElem?_cons_succ, List.getElem?_cons_zero]; rfl)
      focus exact fun _ _ _ h => h
      focus rfl
      focus (intro W hS; (try dsimp only at hS); obtain ⟨sx, sy, sc, sp⟩ := hS; obtain ⟨q0, q1, q2, q3, q4, q5, q6, q7, q8, q9⟩ := xobj_cells sx; obtain ⟨t0, t1, t2, t3, t4, t5, t6⟩ := Civ.clk_cells sy; go_simp; (try with_reducible rfl))
      try simp only [Act.put]
      try simp only [List.setIfInBounds_toArray]
      try simp only [List.set_cons_succ]
      try simp only [List.set_cons_zero]
      refine wpAnyH_take (i := 35) (oi := ?_) (v := ?_) ?_ (by kernel_rfl) (by kernel_rfl) (by kernel_rfl) ?_ (Or.inl ⟨?_, ?_⟩) (by assumption) ?_
      rotate_left 2
      focus (simp only [List.getElem?_toArray, List.getElem?_cons_succ, List.getElem?_cons_zero]; rfl)
      focus exact fun _ _ _ h => h
      focus rfl
      focus (intro W hS; (try dsimp only at hS); obtain ⟨sx, sy, sc, sp⟩ := hS; obtain ⟨q0, q1, q2, q3, q4, q5, q6, q7, q8, q9⟩ := xobj_cells sx; obtain ⟨t0, t1, t2, t3, t4, t5, t6⟩ := Civ.clk_cells sy; go_simp; (try with_reducible rfl))
      try simp only [Act.put]
      try simp only [List.setIfInBounds_toArray]
      try simp only [List.set_cons_succ]
      try simp only [List.set_cons_zero]
      refine wpAnyH_take (i := 36) (oi := ?_) (v := ?_) ?_ (by kernel_rfl) (by kernel_rfl) (by kernel_rfl) ?_ (Or.inl ⟨?_, ?_⟩) (by assumption) ?_
      rotate_left 2
      focus (simp only [List.getElem?_toArray, List.getElem?_cons_succ, List.getElem?_cons_zero]; rfl)
      focus exact fun _ _ _ h => h
      focus rfl
      focus (intro W hS; (try dsimp only at hS); obtain ⟨sx, sy, sc, sp⟩ := hS; obtain ⟨q0, q1, q2, q3, q4, q5, q6, q7, q8, q9⟩ := xobj_cells sx; obtain ⟨t0, t1, t2, t3, t4, t5, t6⟩ := Civ.clk_cells sy; go_simp; (try with_reducible rfl))
      try simp only [Act.put]
      try simp only [List.setIfInBounds_toArray]
      try simp only [List.set_cons_succ]
      try simp only [List.set_cons_zero]
      refine wpAnyH_take (i := 37) (oi := ?_) (v := ?_) ?_ (by kernel_rfl) (by kernel_rfl) (by kernel_rfl) ?_ (Or.inl ⟨?_, ?_⟩) (by assumption) ?_
      rotate_left 2
      focus (simp only [List.getElem?_toArray, List.getElem?_cons_succ, List.getElem?_cons_zero]; rfl)
      focus exact fun _ _ _ h => h
      focus rfl
      focus (intro W hS; (try dsimp only at hS); obtain ⟨sx, sy, sc, sp⟩ := hS; obtain ⟨q0, q1, q2, q3, q4, q5, q6, q7, q8, q9⟩ := xobj_cells sx; obtain ⟨t0, t1, t2, t3, t4, t5, t6⟩ := Civ.clk_cells sy; go_simp; (try with_reducible rfl))
      try simp only [Act.put]
      try simp only [List.setIfInBounds_toArray]
      try simp only [List.set_cons_succ]
      try simp only [List.set_cons_zero]
      refine wpAnyH_take (i := 38) (oi := ?_) (v := ?_) ?_ (by kernel_rfl) (by kernel_rfl) (by kernel_rfl) ?_ (Or.inl ⟨?_, ?_⟩) (by assumption) ?_
      rotate_left 2
      focus (simp only [List.getElem?_toArray, List.getElem?_cons_succ, List.getElem?_cons_zero]; rfl)
      focus exact fun _ _ _ h => h
      focus rfl
      focus (intro W hS; (try dsimp only at hS); obtain ⟨sx, sy, sc, sp⟩ := hS; obtain ⟨q0, q1, q2, q3, q4, q5, q6, q7, q8, q9⟩ := xobj_cells sx; obtain ⟨t0, t1, t2, t3, t4, t5, t6⟩ := Civ.clk_cells sy; go_simp; (try with_reducible rfl))
      try simp only [Act.put]
      try simp only [List.setIfInBounds_toArray]
      try simp only [List.set_cons_succ]
      try simp only [List.set_cons_zero]
      refine wpAnyH_take (i := 39) (oi := ?_) (v := ?_) ?_ (by kernel_rfl) (by kernel_rfl) (by kernel_rfl) ?_ (Or.inl ⟨?_, ?_⟩) (by assumption) ?_
      rotate_left 2
      focus (simp only [List.getElem?_toArray, List.getElem?_cons_succ, List.getElem?_cons_zero]; rfl)
      focus exact fun _ _ _ h => h
      focus rfl
      focus (intro W hS; (try dsimp only at hS); obtain ⟨sx, sy, sc, sp⟩ := hS; obtain ⟨q0, q1, q2, q3, q4, q5, q6, q7, q8, q9⟩ := xobj_cells sx; obtain ⟨t0, t1, t2, t3, t4, t5, t6⟩ := Civ.clk_cells sy; go_simp; (try with_reducible rfl))
      try simp only [Act.put]
      try simp only [List.setIfInBounds_toArray]
      try simp only [List.set_cons_succ]
      try simp only [List.set_cons_zero]
      refine wpAnyH_done (by kernel_rfl) ?_ _
      have HX9 := Lib.hid hs1.1
      clear hs0 hs1
      go_wp2
      go_roundw
      case rel => exact ⟨i + 1, by go_num, by omega, HBz1, HX9, HVz1⟩
      case measure => simp [intOf]; omega
    · have e : i = kA := by omega
      subst e
      have hd : decide ((i : Int) < (i : Int)) = false := by simp
      go_wp2_with fail
      go_ret
      exact ⟨rfl, HB.out⟩
end Go.Proofs.YtoghalmjbbkjhaaGreatDoor.Job
