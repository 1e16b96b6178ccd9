/- The chapter's examples of layer 9 come out. -/
import Derived.Test.YtchmipeehhbniaaDisk13
import Derived.Test.YtchmipeehhbniaaDskT
import Derived.Lib.SlBytesConst
namespace Go.Proofs.Ytchmipeehhbniaa
open Go.RowKit Go.Maps Dsk

theorem DiskAt.mono {w : World} {B : Nat} {o : Tags} {g N N' : Nat} {M : Files} (h : DiskAt w B o g M N) (hN : N ≤ N') : DiskAt w B o g M N' := by
  obtain ⟨b, D, h⟩ := h
  exact ⟨b, D, { h with le := Nat.le_trans h.le hN }⟩
theorem DiskAt.below {w w' : World} {B : Nat} {o : Tags} {g N : Nat} {M : Files} (h : DiskAt w B o g M N) (hb : Below w.heap.size w w') : DiskAt w' B o g M N := by
  obtain ⟨b, D, h⟩ := h
  exact ⟨b, D, h.below hb⟩
theorem DiskAt.owns {w : World} {B : Nat} {o : Tags} {g N : Nat} {M : Files} (h : DiskAt w B o g M N) : ∀ k, o k ≠ none → B ≤ k ∧ k < w.heap.size := by
  obtain ⟨b, D, h⟩ := h
  exact h.own

/-- the disk stands at g with these files; what lay behind B when the walk began lies there still -/
structure Stands (w0 : World) (w : World) (g : Nat) (M : Files) (N : Nat) : Prop where
  disk : ∃ o, DiskAt w w0.heap.size o g M N
  bel : Below w0.heap.size w0 w

theorem Good_T {fa fg fl : Option Fil} (ha : ∀ f, fa = some f → f.later.length ≤ 100) (hg : ∀ f, fg = some f → f.later.length ≤ 100) (hl : ∀ f, fl = some f → f.later.length ≤ 100) : Good (T fa fg fl) := fun n f h => by
  rcases T_all h with ⟨rfl, e⟩ | ⟨rfl, e⟩ | ⟨rfl, e⟩
  · exact ⟨by decide, by have := ha f e; omega⟩
  · exact ⟨by decide, by have := hg f e; omega⟩
  · exact ⟨by decide, by have := hl f e; omega⟩

/-- a literal of bytes is read -/
theorem lit_reads (w : World) (zs : List Int) (fr : Nat × Nat) (hr : ∀ x ∈ zs, 0 ≤ x ∧ x ≤ 255) (hl : zs.length ≤ 1000) : Reads (w.alloc (.cells (zs.map (Value.int .u8)).toArray 5 fr)) (some ⟨w.heap.size, 0, none⟩) zs :=
  reads_row zs (heap_alloc_new w _) (fun i hi => by simp [List.getD, hi]) hr (by omega)

theorem stay_none (w : World) (o : Tags) : Stay w o none [] := ⟨fun i h => absurd h (by simp), fun x hx => by cases hx⟩
theorem stay_lit (w : World) (o : Tags) (zs : List Int) (hr : ∀ x ∈ zs, -9223372036854775808 ≤ x ∧ x ≤ 9223372036854775807) (ho : ∀ k, o k ≠ none → k < w.heap.size) : Stay (w.alloc (.cells (zs.map (Value.int .i64)).toArray 3)) o (some ⟨w.heap.size, 0, none⟩) zs :=
  ⟨fun i h => ⟨w.heap.size, 0, rfl, by simp, by
    cases e : o w.heap.size with
    | none => rfl
    | some t => exact absurd (ho _ (by rw [e]; simp)) (Nat.lt_irrefl _), by
    rw [cell_of_row _ _ _ _ _ _ (heap_alloc_new w _)]
    simp [h]⟩, hr⟩

/-- a row that is nobody's of the disk -/
def RowF (w : World) (B : Nat) (o : Tags) (zs : List Int) (v : Value) : Prop := Row w B zs v ∧ ∀ k, v.ownBlock = some k → o k = none
theorem RowF.of {w w' : World} {o : Tags} {zs : List Int} {v : Value} (h : Row w' w.heap.size zs v) (ho : ∀ k, o k ≠ none → k < w.heap.size) : RowF w' w.heap.size o zs v :=
  ⟨h, fun k e => by
    have := (h.own k e).1
    cases e' : o k with
    | none => rfl
    | some t => have := ho k (by rw [e']; simp); omega⟩
theorem RowF.less {w : World} {B B' : Nat} {o : Tags} {zs : List Int} {v : Value} (h : RowF w B o zs v) (hB : B' ≤ B) : RowF w B' o zs v := ⟨h.1.less hB, h.2⟩
theorem RowF.below {w w' : World} {B : Nat} {o : Tags} {zs : List Int} {v : Value} (h : RowF w B o zs v) (hb : Below w.heap.size w w') : RowF w' B o zs v := ⟨h.1.below hb, h.2⟩
theorem RowF.step {w w' : World} {B : Nat} {o o' : Tags} {zs : List Int} {v : Value} (h : RowF w B o zs v) (hs : Step o w o' w') : RowF w' B o' zs v :=
  ⟨h.1.keep fun k e => hs.block k (h.1.own k e).2 (h.2 k e), fun k e => hs.free k (h.1.own k e).2 (h.2 k e) (by simp [Value.ownBlock])⟩

def kF1 : Fil := ⟨Ver.zero, [⟨true, [120, 121], 2⟩], true⟩
def kF2 : Fil := ⟨⟨true, [120, 121], 2⟩, [], false⟩
def kF3 : Fil := ⟨⟨true, [120, 121, 122, 119], 2⟩, [], true⟩
def kF4 : Fil := ⟨⟨true, [120, 121, 122], 3⟩, [], false⟩
def kF5 : Fil := ⟨⟨true, [120, 121, 122], 3⟩, [⟨true, [113], 1⟩], true⟩
def kF6 : Fil := ⟨⟨true, [120, 121, 122], 3⟩, [⟨true, [113, 114], 1⟩], true⟩

theorem good_none : Good (T none none none) := Good_T (fun f h => by cases h) (fun f h => by cases h) (fun f h => by cases h)
theorem good_one' {F : Fil} (h : F.later.length ≤ 100) : Good (T (some F) none none) := Good_T (fun f e => by cases e; exact h) (fun f h => by cases h) (fun f h => by cases h)

theorem k1 : upd (T none none none) nA (some (((T none none none).at nA).chg ⟨true, [120, 121], ([120, 121] : List Int).length⟩)) = T (some kF1) none none := by rw [upd_A, at_A]; rfl
theorem k2 : upd (T (some kF1) none none) nA (settled (((T (some kF1) none none).at nA).now)) = T (some kF2) none none := by rw [upd_A, at_A]; rfl
theorem k3 : upd (T (some kF2) none none) nA (some (((T (some kF2) none none).at nA).app [122, 119])) = T (some kF3) none none := by rw [upd_A, at_A]; rfl
theorem k4 : crashed (T (some kF3) none none) (three (asked (fun f => f.loose) (some kF3)) (asked (fun f => f.loose) none) (asked (fun f => f.loose) none)) (stayN [1]) = T (some kF4) none none := by rw [crashed_T]; rfl
theorem k5 : upd (T (some kF4) none none) nA (some (((T (some kF4) none none).at nA).chg ⟨true, [113], ([113] : List Int).length⟩)) = T (some kF5) none none := by rw [upd_A, at_A]; rfl
theorem k6 : upd (T (some kF5) none none) nA (some (((T (some kF5) none none).at nA).app [114])) = T (some kF6) none none := by rw [upd_A, at_A]; rfl
theorem k7 : crashed (T (some kF6) none none) (three (asked (fun f => f.loose) (some kF6)) (asked (fun f => f.loose) none) (asked (fun f => f.loose) none)) (stayN []) = T (some kF4) none none := by rw [crashed_T]; rfl
theorem k8 : crashed (T (some kF4) none none) (three (asked (fun f => f.loose) (some kF4)) (asked (fun f => f.loose) none) (asked (fun f => f.loose) none)) (stayN [9]) = T (some kF4) none none := by rw [crashed_T]; rfl
theorem kF4n : kF4.now = ⟨true, [120, 121, 122], 3⟩ := rfl
theorem xyz_str : strOfNums [120, 121, 122] = ⟨#[120, 121, 122]⟩ := by rfl

set_option maxRecDepth 100000 in
set_option maxHeartbeats 4000000 in
theorem known9_any (w : World) : Calls Try.prog 5 #[] w fun e w' => e = .returned (.bool true) ∧ Below w.heap.size w w' := by
  have HN := Lib.hid (new_any w)
  go_enter Try.func5, Try.ntmps5
  go_wp2_with fail
  refine HN.out.mono ?_
  rintro e w1 ⟨rfl, hb1, o1, hd1, ho1⟩
  rw [T_none] at hd1
  have HD1 := Lib.hid (hd1.mono (N' := 39) (by decide))
  have HB1 := Lib.hid hb1
  clear HN hb1 hd1 ho1
  have hcv := Lib.run_convert_bytes_const (P := Try.prog) w1 22 5 #[.int .u8 120, .int .u8 121] 2 2 Try.underlying22 Try.underlying5
  simp only [List.size_toArray, List.length_cons, List.length_nil, Nat.reduceAdd] at hcv
  have hlb : Below w1.heap.size w1 (w1.alloc (.cells #[.int .u8 120, .int .u8 121] 5 (2, 3))) := (Below.refl _ _).alloc (Nat.le_refl _) _
  have HLR := Lib.hid (lit_reads w1 [120, 121] (2, 3) (by simp) (by simp))
  have HLB := Lib.hid hlb
  clear hlb
  go_wp2_with fail
  refine (append_new (w.heap.size + 1) w.heap.size 39 o1 (T none none none) nA (some ⟨w1.heap.size, 0, none⟩) 2 [120, 121] _ (HD1.out.below HLB.out) HLR.out (fun h => by cases h) rfl (by decide) (by decide) (by decide) (by decide) (fun l f h => (good_none l f h).2) (Nat.le_trans HB1.out.size HLB.out.size)).mono ?_
  rintro e w2 ⟨rfl, o2, hd2, hst2⟩
  rw [k1] at hd2
  have HST := Lib.hid ((Step.of_below o1 HLB.out).trans hst2)
  have HD2 := Lib.hid (hd2.mono (N' := 40) (by first | decide | (refine Nat.le_trans (cntN_le _ _ _).2 ?_; decide)))
  have HB2 := Lib.hid (HB1.out.trans (HST.out.below HD1.out.owns HB1.out.size))
  clear hd2 hst2 HST HD1 HB1 hcv HLB HLR
  go_wp2_with fail
  refine (sync_any (w.heap.size + 1) w.heap.size 40 o2 (T (some kF1) none none) nA _ HD2.out rfl (by decide) (by decide) (by decide) (by decide)).mono ?_
  rintro e w3 ⟨rfl, o3, hd3, hst3⟩
  rw [k2] at hd3
  have HST := Lib.hid (hst3)
  have HD3 := Lib.hid (hd3.mono (N' := 40) (by first | decide | (refine Nat.le_trans (cntN_le _ _ _).2 ?_; decide)))
  have HB3 := Lib.hid (HB2.out.trans (HST.out.below HD2.out.owns HB2.out.size))
  clear hd3 hst3 HST HD2 HB2
  have hcv := Lib.run_convert_bytes_const (P := Try.prog) w3 22 5 #[.int .u8 122, .int .u8 119] 2 2 Try.underlying22 Try.underlying5
  simp only [List.size_toArray, List.length_cons, List.length_nil, Nat.reduceAdd] at hcv
  have hlb : Below w3.heap.size w3 (w3.alloc (.cells #[.int .u8 122, .int .u8 119] 5 (2, 3))) := (Below.refl _ _).alloc (Nat.le_refl _) _
  have HLR := Lib.hid (lit_reads w3 [122, 119] (2, 3) (by simp) (by simp))
  have HLB := Lib.hid hlb
  clear hlb
  go_wp2_with fail
  refine (append_there (w.heap.size + 1) w.heap.size 40 o3 (T (some kF2) none none) nA (some ⟨w3.heap.size, 0, none⟩) 2 [122, 119] _ (HD3.out.below HLB.out) HLR.out (fun h => by cases h) rfl (by decide) (by decide) (by decide) (by decide) (by decide) (Nat.le_trans HB3.out.size HLB.out.size)).mono ?_
  rintro e w4 ⟨rfl, o4, hd4, hst4⟩
  rw [k3] at hd4
  have HST := Lib.hid ((Step.of_below o3 HLB.out).trans hst4)
  have HD4 := Lib.hid (hd4.mono (N' := 40) (by first | decide | (refine Nat.le_trans (cntN_le _ _ _).2 ?_; decide)))
  have HB4 := Lib.hid (HB3.out.trans (HST.out.below HD3.out.owns HB3.out.size))
  clear hd4 hst4 HST HD3 HB3 hcv HLB HLR
  have hlb : Below w4.heap.size w4 (w4.alloc (.cells #[.int .i64 1] 3)) := (Below.refl _ _).alloc (Nat.le_refl _) _
  have HLB := Lib.hid hlb
  clear hlb
  go_wp2_with fail
  refine (crash_any (w.heap.size + 1) w.heap.size 40 o4 (T (some kF3) none none) (some ⟨w4.heap.size, 0, none⟩) 1 [1] _ (HD4.out.below HLB.out) (stay_lit w4 o4 [1] (by simp) (fun k e => (HD4.out.owns k e).2)) (good_one' (by decide)) (by decide)).mono ?_
  rintro e w5 ⟨rfl, ks, o5, hks, hd5, hst5⟩
  obtain rfl := names_T hks
  rw [k4] at hd5
  clear hks
  have HST := Lib.hid ((Step.of_below o4 HLB.out).trans hst5)
  have HD5 := Lib.hid hd5
  have HB5 := Lib.hid (HB4.out.trans (HST.out.below HD4.out.owns HB4.out.size))
  clear hd5 hst5 HST HD4 HB4 HLB
  have HRD := Lib.hid (read_of _ _ w5 w.heap.size o5 nA kF4 (Lib.hid (file_any (w.heap.size + 1) w.heap.size 40 o5 (T (some kF4) none none) nA w5 HD5.out (by decide))) (Lib.hid (fun k e => (HD5.out.owns k e).2)) (by decide))
  simp only [kF4n, List.length_cons, List.length_nil, Nat.reduceAdd] at HRD
  go_wp2_with fail
  refine HRD.out.mono ?_
  clear HRD
  rintro e w6 ⟨RBa, RBc, rfl, hrow, hb⟩
  have hrf := RowF.of hrow (fun k e => (HD5.out.owns k e).2)
  have RB6 := Lib.hid (hrf.less HB5.out.size)
  have HD6 := Lib.hid (HD5.out.below hb)
  have HB6 := Lib.hid (HB5.out.trans (hb.mono HB5.out.size))
  obtain ⟨o6, ho6⟩ : ∃ o6, o6 = o5 := ⟨_, rfl⟩
  rw [← ho6] at HD6 RB6 
  clear hrow hrf hb ho6 HD5 HB5
  have hcv := Lib.run_convert_bytes_const (P := Try.prog) w6 22 5 #[.int .u8 113] 1 1 Try.underlying22 Try.underlying5
  simp only [List.size_toArray, List.length_cons, List.length_nil, Nat.reduceAdd] at hcv
  have hlb : Below w6.heap.size w6 (w6.alloc (.cells #[.int .u8 113] 5 (1, 2))) := (Below.refl _ _).alloc (Nat.le_refl _) _
  have HLR := Lib.hid (lit_reads w6 [113] (1, 2) (by simp) (by simp))
  have HLB := Lib.hid hlb
  clear hlb
  go_wp2_with fail
  refine (replace_any (w.heap.size + 1) w.heap.size 40 o6 (T (some kF4) none none) nA (some ⟨w6.heap.size, 0, none⟩) 1 1 [113] _ (HD6.out.below HLB.out) rfl HLR.out (fun h => by cases h) (by decide) (.inl rfl) (by decide) (by decide) (by decide) (fun l f h => (good_one' (by decide) l f h).2) (Nat.le_trans HB6.out.size HLB.out.size)).mono ?_
  rintro e w7 ⟨rfl, o7, hd7, hst7⟩
  rw [k5] at hd7
  have HST := Lib.hid ((Step.of_below o6 HLB.out).trans hst7)
  have HD7 := Lib.hid (hd7.mono (N' := 40) (by first | decide | (refine Nat.le_trans (cntN_le _ _ _).2 ?_; decide)))
  have HB7 := Lib.hid (HB6.out.trans (HST.out.below HD6.out.owns HB6.out.size))
  have RB7 := Lib.hid (RB6.out.step HST.out)
  clear hd7 hst7 HST HD6 HB6 hcv HLB HLR RB6
  have hcv := Lib.run_convert_bytes_const (P := Try.prog) w7 22 5 #[.int .u8 114] 1 1 Try.underlying22 Try.underlying5
  simp only [List.size_toArray, List.length_cons, List.length_nil, Nat.reduceAdd] at hcv
  have hlb : Below w7.heap.size w7 (w7.alloc (.cells #[.int .u8 114] 5 (1, 2))) := (Below.refl _ _).alloc (Nat.le_refl _) _
  have HLR := Lib.hid (lit_reads w7 [114] (1, 2) (by simp) (by simp))
  have HLB := Lib.hid hlb
  clear hlb
  go_wp2_with fail
  refine (append_there (w.heap.size + 1) w.heap.size 40 o7 (T (some kF5) none none) nA (some ⟨w7.heap.size, 0, none⟩) 1 [114] _ (HD7.out.below HLB.out) HLR.out (fun h => by cases h) rfl (by decide) (by decide) (by decide) (by decide) (by decide) (Nat.le_trans HB7.out.size HLB.out.size)).mono ?_
  rintro e w8 ⟨rfl, o8, hd8, hst8⟩
  rw [k6] at hd8
  have HST := Lib.hid ((Step.of_below o7 HLB.out).trans hst8)
  have HD8 := Lib.hid (hd8.mono (N' := 40) (by first | decide | (refine Nat.le_trans (cntN_le _ _ _).2 ?_; decide)))
  have HB8 := Lib.hid (HB7.out.trans (HST.out.below HD7.out.owns HB7.out.size))
  have RB8 := Lib.hid (RB7.out.step HST.out)
  clear hd8 hst8 HST HD7 HB7 hcv HLB HLR RB7
  go_wp2_with fail
  refine (crash_any (w.heap.size + 1) w.heap.size 40 o8 (T (some kF6) none none) none 0 [] _ HD8.out (stay_none _ _) (good_one' (by decide)) (by decide)).mono ?_
  rintro e w9 ⟨rfl, ks, o9, hks, hd9, hst9⟩
  obtain rfl := names_T hks
  rw [k7] at hd9
  clear hks
  have HST := Lib.hid (hst9)
  have HD9 := Lib.hid hd9
  have HB9 := Lib.hid (HB8.out.trans (HST.out.below HD8.out.owns HB8.out.size))
  have RB9 := Lib.hid (RB8.out.step HST.out)
  clear hd9 hst9 HST HD8 HB8 RB8
  have HRD := Lib.hid (read_of _ _ w9 w.heap.size o9 nA kF4 (Lib.hid (file_any (w.heap.size + 1) w.heap.size 40 o9 (T (some kF4) none none) nA w9 HD9.out (by decide))) (Lib.hid (fun k e => (HD9.out.owns k e).2)) (by decide))
  simp only [kF4n, List.length_cons, List.length_nil, Nat.reduceAdd] at HRD
  go_wp2_with fail
  refine HRD.out.mono ?_
  clear HRD
  rintro e w10 ⟨RCa, RCc, rfl, hrow, hb⟩
  have hrf := RowF.of hrow (fun k e => (HD9.out.owns k e).2)
  have RC10 := Lib.hid (hrf.less HB9.out.size)
  have RB10 := Lib.hid (RB9.out.below hb)
  have HD10 := Lib.hid (HD9.out.below hb)
  have HB10 := Lib.hid (HB9.out.trans (hb.mono HB9.out.size))
  obtain ⟨o10, ho10⟩ : ∃ o10, o10 = o9 := ⟨_, rfl⟩
  rw [← ho10] at HD10 RC10 RB10
  clear hrow hrf hb ho10 HD9 HB9 RB9
  have hlb : Below w10.heap.size w10 (w10.alloc (.cells #[.int .i64 9] 3)) := (Below.refl _ _).alloc (Nat.le_refl _) _
  have HLB := Lib.hid hlb
  clear hlb
  go_wp2_with fail
  refine (crash_any (w.heap.size + 1) w.heap.size 40 o10 (T (some kF4) none none) (some ⟨w10.heap.size, 0, none⟩) 1 [9] _ (HD10.out.below HLB.out) (stay_lit w10 o10 [9] (by simp) (fun k e => (HD10.out.owns k e).2)) (good_one' (by decide)) (by decide)).mono ?_
  rintro e w11 ⟨rfl, ks, o11, hks, hd11, hst11⟩
  obtain rfl := names_T hks
  rw [k8] at hd11
  clear hks
  have HST := Lib.hid ((Step.of_below o10 HLB.out).trans hst11)
  have HD11 := Lib.hid hd11
  have HB11 := Lib.hid (HB10.out.trans (HST.out.below HD10.out.owns HB10.out.size))
  have RB11 := Lib.hid (RB10.out.step HST.out)
  have RC11 := Lib.hid (RC10.out.step HST.out)
  clear hd11 hst11 HST HD10 HB10 HLB RB10 RC10
  have HRD := Lib.hid (read_of _ _ w11 w.heap.size o11 nA kF4 (Lib.hid (file_any (w.heap.size + 1) w.heap.size 40 o11 (T (some kF4) none none) nA w11 HD11.out (by decide))) (Lib.hid (fun k e => (HD11.out.owns k e).2)) (by decide))
  simp only [kF4n, List.length_cons, List.length_nil, Nat.reduceAdd] at HRD
  go_wp2_with fail
  refine HRD.out.mono ?_
  clear HRD
  rintro e w12 ⟨RXa, RXc, rfl, hrow, hb⟩
  have hrf := RowF.of hrow (fun k e => (HD11.out.owns k e).2)
  have RX12 := Lib.hid (hrf.less HB11.out.size)
  have RB12 := Lib.hid (RB11.out.below hb)
  have RC12 := Lib.hid (RC11.out.below hb)
  have HD12 := Lib.hid (HD11.out.below hb)
  have HB12 := Lib.hid (HB11.out.trans (hb.mono HB11.out.size))
  obtain ⟨o12, ho12⟩ : ∃ o12, o12 = o11 := ⟨_, rfl⟩
  rw [← ho12] at HD12 RX12 RB12 RC12
  clear hrow hrf hb ho12 HD11 HB11 RB11 RC11
  have tb := RB12.out.1.text (Below.refl _ _)
  have tc := RC12.out.1.text (Below.refl _ _)
  have tx := RX12.out.1.text (Below.refl _ _)
  have HBB := Lib.hid HB12.out
  clear HD12 HB12 RB12 RC12 RX12
  rw [xyz_str] at tb tc tx
  go_wp2
  go_ret
  exact ⟨rfl, HBB.out⟩

end Go.Proofs.Ytchmipeehhbniaa
