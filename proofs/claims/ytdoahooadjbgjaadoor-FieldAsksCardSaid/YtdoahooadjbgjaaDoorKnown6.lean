/- The law's own examples: 'known' answers true. -/
import Derived.Test.YtdoahooadjbgjaaDoorText7
namespace Go.Proofs.YtdoahooadjbgjaaDoor
open Go.RowKit

theorem p1 (w : World) (hw : TabsOn w) : Calls Tryd.prog 8 #[.int .i64 0, .string ⟨#[42, 47, 50, 48]⟩] w fun e w' => e = .returned (.tuple #[.agg #[.int .u64 1099512676353, .bool true], .int .i64 0]) ∧ Below w.heap.size w w' :=
  (parse_any 0 (by decide) ⟨#[42, 47, 50, 48]⟩ w hw).mono fun e w' ⟨he, hb⟩ => ⟨by
    rw [he]
    show Ending.returned (parseOf 0 [42, 47, 50, 48]) = _
    unfold parseOf fval
    rw [ex1.1, ex1.2.1, ex1.2.2]
    rfl, hb⟩
theorem p2 (w : World) (hw : TabsOn w) : Calls Tryd.prog 8 #[.int .i64 4, .string ⟨#[77, 111, 110, 45, 102, 114, 105, 44, 55]⟩] w fun e w' => e = .returned (.tuple #[.agg #[.int .u64 63, .bool false], .int .i64 0]) ∧ Below w.heap.size w w' :=
  (parse_any 4 (by decide) ⟨#[77, 111, 110, 45, 102, 114, 105, 44, 55]⟩ w hw).mono fun e w' ⟨he, hb⟩ => ⟨by
    rw [he]
    show Ending.returned (parseOf 4 [77, 111, 110, 45, 102, 114, 105, 44, 55]) = _
    unfold parseOf fval
    rw [ex2.1, ex2.2.1, ex2.2.2]
    rfl, hb⟩
theorem parse_err {k : Nat} {l : List UInt8} {n : Nat} (h : Fld.err k l = n) (hn : n ≠ 0) : parseOf k l = .tuple #[.agg #[.int .u64 0, .bool false], .int .i64 (n : Int)] := by
  unfold parseOf Fld.allows Fld.free fval
  rw [h, if_neg hn, decide_eq_false hn]
  rfl
theorem p3 (w : World) (hw : TabsOn w) : Calls Tryd.prog 8 #[.int .i64 1, .string ⟨#[50, 52]⟩] w fun e w' => e = .returned (.tuple #[.agg #[.int .u64 0, .bool false], .int .i64 61]) ∧ Below w.heap.size w w' :=
  (parse_any 1 (by decide) ⟨#[50, 52]⟩ w hw).mono fun e w' ⟨he, hb⟩ => ⟨by rw [he]; exact congrArg Ending.returned (parse_err ex3.1 (by decide)), hb⟩
theorem p4 (w : World) (hw : TabsOn w) : Calls Tryd.prog 8 #[.int .i64 1, .string ⟨#[53, 45]⟩] w fun e w' => e = .returned (.tuple #[.agg #[.int .u64 0, .bool false], .int .i64 60]) ∧ Below w.heap.size w w' :=
  (parse_any 1 (by decide) ⟨#[53, 45]⟩ w hw).mono fun e w' ⟨he, hb⟩ => ⟨by rw [he]; exact congrArg Ending.returned (parse_err ex3.2.1 (by decide)), hb⟩
theorem p5 (w : World) (hw : TabsOn w) : Calls Tryd.prog 8 #[.int .i64 3, .string ⟨#[109, 111, 110]⟩] w fun e w' => e = .returned (.tuple #[.agg #[.int .u64 0, .bool false], .int .i64 60]) ∧ Below w.heap.size w w' :=
  (parse_any 3 (by decide) ⟨#[109, 111, 110]⟩ w hw).mono fun e w' ⟨he, hb⟩ => ⟨by rw [he]; exact congrArg Ending.returned (parse_err ex3.2.2 (by decide)), hb⟩
theorem t1 (w : World) (hw : TabsOn w) : Calls Tryd.prog 16 #[.int .i64 0, .agg #[.int .u64 1099512676353, .bool true]] w fun e w' => e = .returned (.string ⟨#[48, 44, 50, 48, 44, 52, 48]⟩) ∧ Below w.heap.size w w' :=
  (text_any 0 1099512676353 (by decide) true w hw).mono fun e w' ⟨he, hb⟩ => ⟨by rw [he, ex4.1]; rfl, hb⟩
theorem t2 (w : World) (hw : TabsOn w) : Calls Tryd.prog 16 #[.int .i64 4, .agg #[.int .u64 63, .bool false]] w fun e w' => e = .returned (.string ⟨#[48, 45, 53]⟩) ∧ Below w.heap.size w w' :=
  (text_any 4 63 (by decide) false w hw).mono fun e w' ⟨he, hb⟩ => ⟨by rw [he, ex4.2]; rfl, hb⟩

set_option maxRecDepth 100000 in
set_option maxHeartbeats 4000000 in
theorem known_law (w : World) (hw : TabsOn w) : Calls Tryd.prog 7 #[] w fun e w' => e = .returned (.bool true) ∧ Below w.heap.size w w' := by
  have HW := Lib.hid hw
  clear hw
  go_enter Tryd.func7, Tryd.ntmps7
  go_wp2_with fail
  with_reducible refine (p1 _ HW.out).mono ?_
  rintro e w1 ⟨rfl, hb1⟩
  have o1 : OwnF w w1.heap.size 1099512676353 true (w1.alloc (.cells #[.int .u64 1099512676353, .bool true] 25)) := OwnF.newAt hb1 1099512676353 true
  have O1 := Lib.hid o1
  clear o1 hb1
  go_wp2_with fail
  with_reducible refine (p2 _ (HW.out.next O1.out.bel)).mono ?_
  rintro e w2 ⟨rfl, hb2⟩
  have o1 := O1.out.below hb2
  have o2 : OwnF w w2.heap.size 63 false (w2.alloc (.cells #[.int .u64 63, .bool false] 25)) := OwnF.newAt o1.bel 63 false
  have O1' := Lib.hid (o1.alloc (.cells #[.int .u64 63, .bool false] 25))
  have O2 := Lib.hid o2
  clear o1 o2 hb2 O1
  go_wp2_with fail
  with_reducible refine (p3 _ (HW.out.next O2.out.bel)).mono ?_
  rintro e w3 ⟨rfl, hb3⟩
  have P1 := Lib.hid ((O1'.out.below hb3).alloc (.cells #[.int .u64 0, .bool false] 25))
  have P2 := Lib.hid ((O2.out.below hb3).alloc (.cells #[.int .u64 0, .bool false] 25))
  clear hb3 O1' O2
  go_wp2_with fail
  with_reducible refine (p4 _ (HW.out.next P2.out.bel)).mono ?_
  rintro e w4 ⟨rfl, hb4⟩
  have Q1 := Lib.hid ((P1.out.below hb4).alloc (.cells #[.int .u64 0, .bool false] 25))
  have Q2 := Lib.hid ((P2.out.below hb4).alloc (.cells #[.int .u64 0, .bool false] 25))
  clear hb4 P1 P2
  go_wp2_with fail
  with_reducible refine (p5 _ (HW.out.next Q2.out.bel)).mono ?_
  rintro e w5 ⟨rfl, hb5⟩
  have R1 := Lib.hid ((Q1.out.below hb5).alloc (.cells #[.int .u64 0, .bool false] 25))
  have R2 := Lib.hid ((Q2.out.below hb5).alloc (.cells #[.int .u64 0, .bool false] 25))
  clear hb5 Q1 Q2
  obtain ⟨c0, c1⟩ : _ ∧ _ := R1.out.cells
  obtain ⟨d0, d1⟩ : _ ∧ _ := R2.out.cells
  simp only [Int.cast_ofNat_Int] at c0 d0
  go_wp2_with fail
  with_reducible refine (t1 _ (HW.out.next R2.out.bel)).mono ?_
  rintro e w6 ⟨rfl, hb6⟩
  have S2 := Lib.hid (R2.out.below hb6)
  clear c0 c1 d0 d1 R1 R2 hb6
  obtain ⟨d0, d1⟩ : _ ∧ _ := S2.out.cells
  simp only [Int.cast_ofNat_Int] at d0
  go_wp2_with fail
  with_reducible refine (t2 _ (HW.out.next S2.out.bel)).mono ?_
  rintro e w7 ⟨rfl, hb7⟩
  have hbF := S2.out.bel.trans (hb7.mono S2.out.bel.size)
  clear d0 d1 S2 hb7
  go_wp2_with fail
  go_ret
  exact ⟨rfl, hbF⟩
end Go.Proofs.YtdoahooadjbgjaaDoor
