/- FieldBack's walk. -/
import Derived.Test.YtdoahooadjbgjaaDoorKnown6
import Derived.Test.YtdoahooadjbgjaaDoorBackM
namespace Go.Proofs.YtdoahooadjbgjaaDoor
open Go.RowKit

/-- what a call gives, whatever world it begins in -/
abbrev Gives (f : FuncId) (args : Array Value) (v : Value) : Prop := ∀ W, TabsOn W → Calls Tryd.prog f args W fun e w' => e = .returned v ∧ Below W.heap.size W w'
abbrev pres (b : Nat) (star : Bool) (e : Int) : Value := .tuple #[.agg #[.int .u64 (b : Int), .bool star], .int .i64 e]
theorem gives_parse {k : Nat} (hk : k ≤ 4) (s : ByteArray) : Gives 8 #[.int .i64 (k : Int), .string s] (pres (Fld.allows k s.data.toList) (Fld.free k s.data.toList) (Fld.err k s.data.toList : Int)) := fun W hW => parse_any k hk s W hW
theorem gives_out {k : Int} (hk : ¬ (0 ≤ k ∧ k ≤ 4)) (s : ByteArray) : Gives 8 #[.int .i64 k, .string s] (pres 0 false 2) := fun W _ => parse_out k hk s W
theorem gives_may (k : Int) (b : Nat) (hb : b < 2 ^ 64) (star : Bool) : Gives 12 #[.int .i64 k, .agg #[.int .u64 (b : Int), .bool star]] (.bool (Fld.may k b)) := fun W hW => may_any k b hb star W hW
theorem gives_text (k : Int) (b : Nat) (hb : b < 2 ^ 64) (star : Bool) : Gives 16 #[.int .i64 k, .agg #[.int .u64 (b : Int), .bool star]] (.string (ba (Fld.text k b star))) := fun W hW => text_any k b hb star W hW
theorem gives_known : Gives 7 #[] (.bool true) := fun W hW => known_law W hW

set_option maxRecDepth 100000 in
set_option maxHeartbeats 4000000 in
theorem backN_L1 (k : Int) (b : Nat) (star : Bool) (s t : ByteArray) (w : World) (hw : TabsOn w)
    (hm : Gives 12 #[.int .i64 k, .agg #[.int .u64 (b : Int), .bool star]] (.bool false))
    (hl : decide ((45 : Int) < (s.size : Int)) = true) :
    Calls Tryd.prog 5 #[.int .i64 k, .agg #[.int .u64 (b : Int), .bool star], .string s, .string t] w fun e w' => e = .returned (.bool true) ∧ Below w.heap.size w w' := by
  have o := OwnF.new w b star
  have HW := Lib.hid hw
  have O := Lib.hid o
  have KN := Lib.hid gives_known
  have HM := Lib.hid hm
  clear hw o hm
  go_enter Tryd.func5, Tryd.ntmps5
  go_wp2_with fail
  with_reducible refine (KN.out _ (HW.out.next O.out.bel)).mono ?_
  rintro e w1 ⟨rfl, hb1⟩
  have O1 := Lib.hid (O.out.below hb1)
  clear hb1 O
  obtain ⟨c0, c1⟩ : _ ∧ _ := O1.out.cells
  go_wp2_with fail
  with_reducible refine (HM.out _ (HW.out.next O1.out.bel)).mono ?_
  rintro e w2 ⟨rfl, hb2⟩
  have BL := Lib.hid (O1.out.below hb2).bel
  clear O1 hb2 c0 c1
  go_wp2_with fail
  go_ret
  exact ⟨rfl, BL.out⟩
set_option maxRecDepth 100000 in
set_option maxHeartbeats 4000000 in
theorem backN_L2 (k : Int) (b : Nat) (star : Bool) (s t : ByteArray) (w : World) (hw : TabsOn w)
    (hm : Gives 12 #[.int .i64 k, .agg #[.int .u64 (b : Int), .bool star]] (.bool false))
    (hl : decide ((45 : Int) < (s.size : Int)) = false) (hl2 : decide ((45 : Int) < (t.size : Int)) = true) :
    Calls Tryd.prog 5 #[.int .i64 k, .agg #[.int .u64 (b : Int), .bool star], .string s, .string t] w fun e w' => e = .returned (.bool true) ∧ Below w.heap.size w w' := by
  have o := OwnF.new w b star
  have HW := Lib.hid hw
  have O := Lib.hid o
  have KN := Lib.hid gives_known
  have HM := Lib.hid hm
  clear hw o hm
  go_enter Tryd.func5, Tryd.ntmps5
  go_wp2_with fail
  with_reducible refine (KN.out _ (HW.out.next O.out.bel)).mono ?_
  rintro e w1 ⟨rfl, hb1⟩
  have O1 := Lib.hid (O.out.below hb1)
  clear hb1 O
  obtain ⟨c0, c1⟩ : _ ∧ _ := O1.out.cells
  go_wp2_with fail
  with_reducible refine (HM.out _ (HW.out.next O1.out.bel)).mono ?_
  rintro e w2 ⟨rfl, hb2⟩
  have BL := Lib.hid (O1.out.below hb2).bel
  clear O1 hb2 c0 c1
  go_wp2_with fail
  go_ret
  exact ⟨rfl, BL.out⟩
set_option maxRecDepth 100000 in
set_option maxHeartbeats 4000000 in
theorem backN_E1 (k : Int) (b : Nat) (star : Bool) (s t : ByteArray) (w : World) (hw : TabsOn w) (A B : Nat) (sa sb : Bool) (C D : Nat) (sc sd : Bool) (ea eb ec ed : Int)
    (hm : Gives 12 #[.int .i64 k, .agg #[.int .u64 (b : Int), .bool star]] (.bool false))
    (hl : decide ((45 : Int) < (s.size : Int)) = false) (hl2 : decide ((45 : Int) < (t.size : Int)) = false) (hsz : s.size ≤ 45) (htz : t.size ≤ 45)
    (ha : Gives 8 #[.int .i64 k, .string s] (pres A sa ea))
    (hb : Gives 8 #[.int .i64 k, .string t] (pres B sb eb))
    (hc : Gives 8 #[.int .i64 k, .string (s ++ ⟨#[44]⟩ ++ t)] (pres C sc ec))
    (hd : Gives 8 #[.int .i64 k, .string (t ++ ⟨#[44]⟩ ++ s)] (pres D sd ed)) (na : ea ≠ 0) (nc : ec ≠ 0) (nd : ed ≠ 0) :
    Calls Tryd.prog 5 #[.int .i64 k, .agg #[.int .u64 (b : Int), .bool star], .string s, .string t] w fun e w' => e = .returned (.bool true) ∧ Below w.heap.size w w' := by
  have o := OwnF.new w b star
  have HW := Lib.hid hw
  have O := Lib.hid o
  have KN := Lib.hid gives_known
  have HM := Lib.hid hm
  have HA := Lib.hid ha
  have HB := Lib.hid hb
  have HC := Lib.hid hc
  have HD := Lib.hid hd
  clear hw o hm ha hb hc hd
  go_enter Tryd.func5, Tryd.ntmps5
  go_wp2_with fail
  with_reducible refine (KN.out _ (HW.out.next O.out.bel)).mono ?_
  rintro e w1 ⟨rfl, hb1⟩
  have O1 := Lib.hid (O.out.below hb1)
  clear hb1 O
  obtain ⟨c0, c1⟩ : _ ∧ _ := O1.out.cells
  go_wp2_with fail
  with_reducible refine (HM.out _ (HW.out.next O1.out.bel)).mono ?_
  rintro e w2 ⟨rfl, hb2⟩
  have BL := Lib.hid (O1.out.below hb2).bel
  clear O1 hb2 c0 c1
  go_wp2_with fail
  with_reducible refine (HA.out _ (HW.out.next BL.out)).mono ?_
  rintro e w5 ⟨rfl, hb5⟩
  have NB := Lib.hid ((BL.out).trans (hb5.mono (BL.out).size))
  have OWA := Lib.hid (OwnF.newAt NB.out A sa)
  clear NB hb5 BL
  go_wp2_with fail
  with_reducible refine (HB.out _ (HW.out.next OWA.out.bel)).mono ?_
  rintro e w6 ⟨rfl, hb6⟩
  have NB := Lib.hid ((OWA.out.bel).trans (hb6.mono (OWA.out.bel).size))
  have OWA_ := Lib.hid ((OWA.out.below hb6).alloc (.cells #[.int .u64 (B : Int), .bool sb] 25))
  clear OWA
  have OWA := Lib.hid OWA_.out
  clear OWA_
  have OWB := Lib.hid (OwnF.newAt NB.out B sb)
  clear NB hb6
  go_wp2_with fail
  with_reducible refine (HC.out _ (HW.out.next OWB.out.bel)).mono ?_
  rintro e w7 ⟨rfl, hb7⟩
  have NB := Lib.hid ((OWB.out.bel).trans (hb7.mono (OWB.out.bel).size))
  have OWA_ := Lib.hid ((OWA.out.below hb7).alloc (.cells #[.int .u64 (C : Int), .bool sc] 25))
  clear OWA
  have OWA := Lib.hid OWA_.out
  clear OWA_
  have OWB_ := Lib.hid ((OWB.out.below hb7).alloc (.cells #[.int .u64 (C : Int), .bool sc] 25))
  clear OWB
  have OWB := Lib.hid OWB_.out
  clear OWB_
  have OWC := Lib.hid (OwnF.newAt NB.out C sc)
  clear NB hb7
  go_wp2_with fail
  with_reducible refine (HD.out _ (HW.out.next OWC.out.bel)).mono ?_
  rintro e w8 ⟨rfl, hb8⟩
  have NB := Lib.hid ((OWC.out.bel).trans (hb8.mono (OWC.out.bel).size))
  have OWA_ := Lib.hid ((OWA.out.below hb8).alloc (.cells #[.int .u64 (D : Int), .bool sd] 25))
  clear OWA
  have OWA := Lib.hid OWA_.out
  clear OWA_
  have OWB_ := Lib.hid ((OWB.out.below hb8).alloc (.cells #[.int .u64 (D : Int), .bool sd] 25))
  clear OWB
  have OWB := Lib.hid OWB_.out
  clear OWB_
  have OWC_ := Lib.hid ((OWC.out.below hb8).alloc (.cells #[.int .u64 (D : Int), .bool sd] 25))
  clear OWC
  have OWC := Lib.hid OWC_.out
  clear OWC_
  have OWD := Lib.hid (OwnF.newAt NB.out D sd)
  clear NB hb8
  obtain ⟨owa0, owa1⟩ : _ ∧ _ := OWA.out.cells
  obtain ⟨owb0, owb1⟩ : _ ∧ _ := OWB.out.cells
  obtain ⟨owc0, owc1⟩ : _ ∧ _ := OWC.out.cells
  obtain ⟨owd0, owd1⟩ : _ ∧ _ := OWD.out.cells
  go_wp2_with fail
  go_ret
  exact ⟨congrArg (fun x => Ending.returned (.bool x)) (show (ec != 0 && ed != 0) = true by simp [nc, nd]), OWD.out.bel⟩
set_option maxRecDepth 100000 in
set_option maxHeartbeats 4000000 in
theorem backN_E2 (k : Int) (b : Nat) (star : Bool) (s t : ByteArray) (w : World) (hw : TabsOn w) (A B : Nat) (sa sb : Bool) (C D : Nat) (sc sd : Bool) (eb ec ed : Int)
    (hm : Gives 12 #[.int .i64 k, .agg #[.int .u64 (b : Int), .bool star]] (.bool false))
    (hl : decide ((45 : Int) < (s.size : Int)) = false) (hl2 : decide ((45 : Int) < (t.size : Int)) = false) (hsz : s.size ≤ 45) (htz : t.size ≤ 45)
    (ha : Gives 8 #[.int .i64 k, .string s] (pres A sa 0))
    (hb : Gives 8 #[.int .i64 k, .string t] (pres B sb eb))
    (hc : Gives 8 #[.int .i64 k, .string (s ++ ⟨#[44]⟩ ++ t)] (pres C sc ec))
    (hd : Gives 8 #[.int .i64 k, .string (t ++ ⟨#[44]⟩ ++ s)] (pres D sd ed)) (na : eb ≠ 0) (nc : ec ≠ 0) (nd : ed ≠ 0) :
    Calls Tryd.prog 5 #[.int .i64 k, .agg #[.int .u64 (b : Int), .bool star], .string s, .string t] w fun e w' => e = .returned (.bool true) ∧ Below w.heap.size w w' := by
  have o := OwnF.new w b star
  have HW := Lib.hid hw
  have O := Lib.hid o
  have KN := Lib.hid gives_known
  have HM := Lib.hid hm
  have HA := Lib.hid ha
  have HB := Lib.hid hb
  have HC := Lib.hid hc
  have HD := Lib.hid hd
  clear hw o hm ha hb hc hd
  go_enter Tryd.func5, Tryd.ntmps5
  go_wp2_with fail
  with_reducible refine (KN.out _ (HW.out.next O.out.bel)).mono ?_
  rintro e w1 ⟨rfl, hb1⟩
  have O1 := Lib.hid (O.out.below hb1)
  clear hb1 O
  obtain ⟨c0, c1⟩ : _ ∧ _ := O1.out.cells
  go_wp2_with fail
  with_reducible refine (HM.out _ (HW.out.next O1.out.bel)).mono ?_
  rintro e w2 ⟨rfl, hb2⟩
  have BL := Lib.hid (O1.out.below hb2).bel
  clear O1 hb2 c0 c1
  go_wp2_with fail
  with_reducible refine (HA.out _ (HW.out.next BL.out)).mono ?_
  rintro e w5 ⟨rfl, hb5⟩
  have NB := Lib.hid ((BL.out).trans (hb5.mono (BL.out).size))
  have OWA := Lib.hid (OwnF.newAt NB.out A sa)
  clear NB hb5 BL
  go_wp2_with fail
  with_reducible refine (HB.out _ (HW.out.next OWA.out.bel)).mono ?_
  rintro e w6 ⟨rfl, hb6⟩
  have NB := Lib.hid ((OWA.out.bel).trans (hb6.mono (OWA.out.bel).size))
  have OWA_ := Lib.hid ((OWA.out.below hb6).alloc (.cells #[.int .u64 (B : Int), .bool sb] 25))
  clear OWA
  have OWA := Lib.hid OWA_.out
  clear OWA_
  have OWB := Lib.hid (OwnF.newAt NB.out B sb)
  clear NB hb6
  go_wp2_with fail
  with_reducible refine (HC.out _ (HW.out.next OWB.out.bel)).mono ?_
  rintro e w7 ⟨rfl, hb7⟩
  have NB := Lib.hid ((OWB.out.bel).trans (hb7.mono (OWB.out.bel).size))
  have OWA_ := Lib.hid ((OWA.out.below hb7).alloc (.cells #[.int .u64 (C : Int), .bool sc] 25))
  clear OWA
  have OWA := Lib.hid OWA_.out
  clear OWA_
  have OWB_ := Lib.hid ((OWB.out.below hb7).alloc (.cells #[.int .u64 (C : Int), .bool sc] 25))
  clear OWB
  have OWB := Lib.hid OWB_.out
  clear OWB_
  have OWC := Lib.hid (OwnF.newAt NB.out C sc)
  clear NB hb7
  go_wp2_with fail
  with_reducible refine (HD.out _ (HW.out.next OWC.out.bel)).mono ?_
  rintro e w8 ⟨rfl, hb8⟩
  have NB := Lib.hid ((OWC.out.bel).trans (hb8.mono (OWC.out.bel).size))
  have OWA_ := Lib.hid ((OWA.out.below hb8).alloc (.cells #[.int .u64 (D : Int), .bool sd] 25))
  clear OWA
  have OWA := Lib.hid OWA_.out
  clear OWA_
  have OWB_ := Lib.hid ((OWB.out.below hb8).alloc (.cells #[.int .u64 (D : Int), .bool sd] 25))
  clear OWB
  have OWB := Lib.hid OWB_.out
  clear OWB_
  have OWC_ := Lib.hid ((OWC.out.below hb8).alloc (.cells #[.int .u64 (D : Int), .bool sd] 25))
  clear OWC
  have OWC := Lib.hid OWC_.out
  clear OWC_
  have OWD := Lib.hid (OwnF.newAt NB.out D sd)
  clear NB hb8
  obtain ⟨owa0, owa1⟩ : _ ∧ _ := OWA.out.cells
  obtain ⟨owb0, owb1⟩ : _ ∧ _ := OWB.out.cells
  obtain ⟨owc0, owc1⟩ : _ ∧ _ := OWC.out.cells
  obtain ⟨owd0, owd1⟩ : _ ∧ _ := OWD.out.cells
  go_wp2_with fail
  go_ret
  exact ⟨congrArg (fun x => Ending.returned (.bool x)) (show (ec != 0 && ed != 0) = true by simp [nc, nd]), OWD.out.bel⟩
set_option maxRecDepth 100000 in
set_option maxHeartbeats 4000000 in
theorem backN_OK (k : Int) (b : Nat) (star : Bool) (s t : ByteArray) (w : World) (hw : TabsOn w) (A B : Nat) (sa sb : Bool) (C : Nat)
    (hm : Gives 12 #[.int .i64 k, .agg #[.int .u64 (b : Int), .bool star]] (.bool false))
    (hl : decide ((45 : Int) < (s.size : Int)) = false) (hl2 : decide ((45 : Int) < (t.size : Int)) = false) (hsz : s.size ≤ 45) (htz : t.size ≤ 45)
    (ha : Gives 8 #[.int .i64 k, .string s] (pres A sa 0))
    (hb : Gives 8 #[.int .i64 k, .string t] (pres B sb 0))
    (hc : Gives 8 #[.int .i64 k, .string (s ++ ⟨#[44]⟩ ++ t)] (pres C sa 0))
    (hd : Gives 8 #[.int .i64 k, .string (t ++ ⟨#[44]⟩ ++ s)] (pres C sb 0)) (hor : bits .or .u64 (A : Int) (B : Int) = (C : Int)) (hmc : Gives 12 #[.int .i64 k, .agg #[.int .u64 (C : Int), .bool sa]] (.bool true)) :
    Calls Tryd.prog 5 #[.int .i64 k, .agg #[.int .u64 (b : Int), .bool star], .string s, .string t] w fun e w' => e = .returned (.bool true) ∧ Below w.heap.size w w' := by
  have o := OwnF.new w b star
  have HW := Lib.hid hw
  have O := Lib.hid o
  have KN := Lib.hid gives_known
  have HM := Lib.hid hm
  have HA := Lib.hid ha
  have HB := Lib.hid hb
  have HC := Lib.hid hc
  have HD := Lib.hid hd
  have HMC := Lib.hid hmc
  clear hw o hm ha hb hc hd hmc
  go_enter Tryd.func5, Tryd.ntmps5
  go_wp2_with fail
  with_reducible refine (KN.out _ (HW.out.next O.out.bel)).mono ?_
  rintro e w1 ⟨rfl, hb1⟩
  have O1 := Lib.hid (O.out.below hb1)
  clear hb1 O
  obtain ⟨c0, c1⟩ : _ ∧ _ := O1.out.cells
  go_wp2_with fail
  with_reducible refine (HM.out _ (HW.out.next O1.out.bel)).mono ?_
  rintro e w2 ⟨rfl, hb2⟩
  have BL := Lib.hid (O1.out.below hb2).bel
  clear O1 hb2 c0 c1
  go_wp2_with fail
  with_reducible refine (HA.out _ (HW.out.next BL.out)).mono ?_
  rintro e w5 ⟨rfl, hb5⟩
  have NB := Lib.hid ((BL.out).trans (hb5.mono (BL.out).size))
  have OWA := Lib.hid (OwnF.newAt NB.out A sa)
  clear NB hb5 BL
  go_wp2_with fail
  with_reducible refine (HB.out _ (HW.out.next OWA.out.bel)).mono ?_
  rintro e w6 ⟨rfl, hb6⟩
  have NB := Lib.hid ((OWA.out.bel).trans (hb6.mono (OWA.out.bel).size))
  have OWA_ := Lib.hid ((OWA.out.below hb6).alloc (.cells #[.int .u64 (B : Int), .bool sb] 25))
  clear OWA
  have OWA := Lib.hid OWA_.out
  clear OWA_
  have OWB := Lib.hid (OwnF.newAt NB.out B sb)
  clear NB hb6
  go_wp2_with fail
  with_reducible refine (HC.out _ (HW.out.next OWB.out.bel)).mono ?_
  rintro e w7 ⟨rfl, hb7⟩
  have NB := Lib.hid ((OWB.out.bel).trans (hb7.mono (OWB.out.bel).size))
  have OWA_ := Lib.hid ((OWA.out.below hb7).alloc (.cells #[.int .u64 (C : Int), .bool sa] 25))
  clear OWA
  have OWA := Lib.hid OWA_.out
  clear OWA_
  have OWB_ := Lib.hid ((OWB.out.below hb7).alloc (.cells #[.int .u64 (C : Int), .bool sa] 25))
  clear OWB
  have OWB := Lib.hid OWB_.out
  clear OWB_
  have OWC := Lib.hid (OwnF.newAt NB.out C sa)
  clear NB hb7
  go_wp2_with fail
  with_reducible refine (HD.out _ (HW.out.next OWC.out.bel)).mono ?_
  rintro e w8 ⟨rfl, hb8⟩
  have NB := Lib.hid ((OWC.out.bel).trans (hb8.mono (OWC.out.bel).size))
  have OWA_ := Lib.hid ((OWA.out.below hb8).alloc (.cells #[.int .u64 (C : Int), .bool sb] 25))
  clear OWA
  have OWA := Lib.hid OWA_.out
  clear OWA_
  have OWB_ := Lib.hid ((OWB.out.below hb8).alloc (.cells #[.int .u64 (C : Int), .bool sb] 25))
  clear OWB
  have OWB := Lib.hid OWB_.out
  clear OWB_
  have OWC_ := Lib.hid ((OWC.out.below hb8).alloc (.cells #[.int .u64 (C : Int), .bool sb] 25))
  clear OWC
  have OWC := Lib.hid OWC_.out
  clear OWC_
  have OWD := Lib.hid (OwnF.newAt NB.out C sb)
  clear NB hb8
  obtain ⟨owa0, owa1⟩ : _ ∧ _ := OWA.out.cells
  obtain ⟨owb0, owb1⟩ : _ ∧ _ := OWB.out.cells
  obtain ⟨owc0, owc1⟩ : _ ∧ _ := OWC.out.cells
  obtain ⟨owd0, owd1⟩ : _ ∧ _ := OWD.out.cells
  go_wp2_with fail
  with_reducible refine (HMC.out _ (HW.out.next OWD.out.bel)).mono ?_
  rintro e w9 ⟨rfl, hb9⟩
  have NB := Lib.hid ((OWD.out.bel).trans (hb9.mono (OWD.out.bel).size))
  clear hb9 owa0 owa1 owb0 owb1 owc0 owc1 owd0 owd1 OWA OWB OWC OWD
  go_wp2_with fail
  go_ret
  exact ⟨rfl, NB.out⟩
set_option maxRecDepth 100000 in
set_option maxHeartbeats 4000000 in
theorem backM_L1 (k : Int) (b : Nat) (star : Bool) (s t : ByteArray) (w : World) (hw : TabsOn w) (tx : ByteArray) (fr : Bool)
    (hm : Gives 12 #[.int .i64 k, .agg #[.int .u64 (b : Int), .bool star]] (.bool true))
    (hx : Gives 16 #[.int .i64 k, .agg #[.int .u64 (b : Int), .bool star]] (.string tx))
    (hp : Gives 8 #[.int .i64 k, .string tx] (pres b fr 0)) (hfr : (tx.toList == [42]) = fr) (hxl : decide ((150 : Int) < (tx.size : Int)) = false)
    (hl : decide ((45 : Int) < (s.size : Int)) = true) :
    Calls Tryd.prog 5 #[.int .i64 k, .agg #[.int .u64 (b : Int), .bool star], .string s, .string t] w fun e w' => e = .returned (.bool true) ∧ Below w.heap.size w w' := by
  have o := OwnF.new w b star
  have HW := Lib.hid hw
  have O := Lib.hid o
  have KN := Lib.hid gives_known
  have HM := Lib.hid hm
  have HX := Lib.hid hx
  have HP := Lib.hid hp
  clear hw o hm hx hp
  go_enter Tryd.func5, Tryd.ntmps5
  go_wp2_with fail
  with_reducible refine (KN.out _ (HW.out.next O.out.bel)).mono ?_
  rintro e w1 ⟨rfl, hb1⟩
  have O1 := Lib.hid (O.out.below hb1)
  clear hb1 O
  obtain ⟨c0, c1⟩ : _ ∧ _ := O1.out.cells
  go_wp2_with fail
  with_reducible refine (HM.out _ (HW.out.next O1.out.bel)).mono ?_
  rintro e w2 ⟨rfl, hb2⟩
  have O2 := Lib.hid (O1.out.below hb2)
  clear hb2 O1 c0 c1
  obtain ⟨c0, c1⟩ : _ ∧ _ := O2.out.cells
  go_wp2_with fail
  with_reducible refine (HX.out _ (HW.out.next O2.out.bel)).mono ?_
  rintro e w3 ⟨rfl, hb3⟩
  have O3 := Lib.hid (O2.out.below hb3)
  clear hb3 O2 c0 c1
  go_wp2_with fail
  with_reducible refine (HP.out _ (HW.out.next O3.out.bel)).mono ?_
  rintro e w4 ⟨rfl, hb4⟩
  have O4 := Lib.hid ((O3.out.below hb4).alloc (.cells #[.int .u64 (b : Int), .bool fr] 25))
  have G4 := Lib.hid (OwnF.newAt (O3.out.below hb4).bel b fr)
  clear hb4 O3
  obtain ⟨c0, c1⟩ : _ ∧ _ := O4.out.cells
  obtain ⟨d0, d1⟩ : _ ∧ _ := G4.out.cells
  have BL := Lib.hid O4.out.bel
  clear O4 G4
  go_wp2_with fail
  go_ret
  exact ⟨rfl, BL.out⟩
set_option maxRecDepth 100000 in
set_option maxHeartbeats 4000000 in
theorem backM_L2 (k : Int) (b : Nat) (star : Bool) (s t : ByteArray) (w : World) (hw : TabsOn w) (tx : ByteArray) (fr : Bool)
    (hm : Gives 12 #[.int .i64 k, .agg #[.int .u64 (b : Int), .bool star]] (.bool true))
    (hx : Gives 16 #[.int .i64 k, .agg #[.int .u64 (b : Int), .bool star]] (.string tx))
    (hp : Gives 8 #[.int .i64 k, .string tx] (pres b fr 0)) (hfr : (tx.toList == [42]) = fr) (hxl : decide ((150 : Int) < (tx.size : Int)) = false)
    (hl : decide ((45 : Int) < (s.size : Int)) = false) (hl2 : decide ((45 : Int) < (t.size : Int)) = true) :
    Calls Tryd.prog 5 #[.int .i64 k, .agg #[.int .u64 (b : Int), .bool star], .string s, .string t] w fun e w' => e = .returned (.bool true) ∧ Below w.heap.size w w' := by
  have o := OwnF.new w b star
  have HW := Lib.hid hw
  have O := Lib.hid o
  have KN := Lib.hid gives_known
  have HM := Lib.hid hm
  have HX := Lib.hid hx
  have HP := Lib.hid hp
  clear hw o hm hx hp
  go_enter Tryd.func5, Tryd.ntmps5
  go_wp2_with fail
  with_reducible refine (KN.out _ (HW.out.next O.out.bel)).mono ?_
  rintro e w1 ⟨rfl, hb1⟩
  have O1 := Lib.hid (O.out.below hb1)
  clear hb1 O
  obtain ⟨c0, c1⟩ : _ ∧ _ := O1.out.cells
  go_wp2_with fail
  with_reducible refine (HM.out _ (HW.out.next O1.out.bel)).mono ?_
  rintro e w2 ⟨rfl, hb2⟩
  have O2 := Lib.hid (O1.out.below hb2)
  clear hb2 O1 c0 c1
  obtain ⟨c0, c1⟩ : _ ∧ _ := O2.out.cells
  go_wp2_with fail
  with_reducible refine (HX.out _ (HW.out.next O2.out.bel)).mono ?_
  rintro e w3 ⟨rfl, hb3⟩
  have O3 := Lib.hid (O2.out.below hb3)
  clear hb3 O2 c0 c1
  go_wp2_with fail
  with_reducible refine (HP.out _ (HW.out.next O3.out.bel)).mono ?_
  rintro e w4 ⟨rfl, hb4⟩
  have O4 := Lib.hid ((O3.out.below hb4).alloc (.cells #[.int .u64 (b : Int), .bool fr] 25))
  have G4 := Lib.hid (OwnF.newAt (O3.out.below hb4).bel b fr)
  clear hb4 O3
  obtain ⟨c0, c1⟩ : _ ∧ _ := O4.out.cells
  obtain ⟨d0, d1⟩ : _ ∧ _ := G4.out.cells
  have BL := Lib.hid O4.out.bel
  clear O4 G4
  go_wp2_with fail
  go_ret
  exact ⟨rfl, BL.out⟩
set_option maxRecDepth 100000 in
set_option maxHeartbeats 4000000 in
theorem backM_E1 (k : Int) (b : Nat) (star : Bool) (s t : ByteArray) (w : World) (hw : TabsOn w) (tx : ByteArray) (fr : Bool) (A B : Nat) (sa sb : Bool) (C D : Nat) (sc sd : Bool) (ea eb ec ed : Int)
    (hm : Gives 12 #[.int .i64 k, .agg #[.int .u64 (b : Int), .bool star]] (.bool true))
    (hx : Gives 16 #[.int .i64 k, .agg #[.int .u64 (b : Int), .bool star]] (.string tx))
    (hp : Gives 8 #[.int .i64 k, .string tx] (pres b fr 0)) (hfr : (tx.toList == [42]) = fr) (hxl : decide ((150 : Int) < (tx.size : Int)) = false)
    (hl : decide ((45 : Int) < (s.size : Int)) = false) (hl2 : decide ((45 : Int) < (t.size : Int)) = false) (hsz : s.size ≤ 45) (htz : t.size ≤ 45)
    (ha : Gives 8 #[.int .i64 k, .string s] (pres A sa ea))
    (hb : Gives 8 #[.int .i64 k, .string t] (pres B sb eb))
    (hc : Gives 8 #[.int .i64 k, .string (s ++ ⟨#[44]⟩ ++ t)] (pres C sc ec))
    (hd : Gives 8 #[.int .i64 k, .string (t ++ ⟨#[44]⟩ ++ s)] (pres D sd ed)) (na : ea ≠ 0) (nc : ec ≠ 0) (nd : ed ≠ 0) :
    Calls Tryd.prog 5 #[.int .i64 k, .agg #[.int .u64 (b : Int), .bool star], .string s, .string t] w fun e w' => e = .returned (.bool true) ∧ Below w.heap.size w w' := by
  have o := OwnF.new w b star
  have HW := Lib.hid hw
  have O := Lib.hid o
  have KN := Lib.hid gives_known
  have HM := Lib.hid hm
  have HX := Lib.hid hx
  have HP := Lib.hid hp
  have HA := Lib.hid ha
  have HB := Lib.hid hb
  have HC := Lib.hid hc
  have HD := Lib.hid hd
  clear hw o hm hx hp ha hb hc hd
  go_enter Tryd.func5, Tryd.ntmps5
  go_wp2_with fail
  with_reducible refine (KN.out _ (HW.out.next O.out.bel)).mono ?_
  rintro e w1 ⟨rfl, hb1⟩
  have O1 := Lib.hid (O.out.below hb1)
  clear hb1 O
  obtain ⟨c0, c1⟩ : _ ∧ _ := O1.out.cells
  go_wp2_with fail
  with_reducible refine (HM.out _ (HW.out.next O1.out.bel)).mono ?_
  rintro e w2 ⟨rfl, hb2⟩
  have O2 := Lib.hid (O1.out.below hb2)
  clear hb2 O1 c0 c1
  obtain ⟨c0, c1⟩ : _ ∧ _ := O2.out.cells
  go_wp2_with fail
  with_reducible refine (HX.out _ (HW.out.next O2.out.bel)).mono ?_
  rintro e w3 ⟨rfl, hb3⟩
  have O3 := Lib.hid (O2.out.below hb3)
  clear hb3 O2 c0 c1
  go_wp2_with fail
  with_reducible refine (HP.out _ (HW.out.next O3.out.bel)).mono ?_
  rintro e w4 ⟨rfl, hb4⟩
  have O4 := Lib.hid ((O3.out.below hb4).alloc (.cells #[.int .u64 (b : Int), .bool fr] 25))
  have G4 := Lib.hid (OwnF.newAt (O3.out.below hb4).bel b fr)
  clear hb4 O3
  obtain ⟨c0, c1⟩ : _ ∧ _ := O4.out.cells
  obtain ⟨d0, d1⟩ : _ ∧ _ := G4.out.cells
  have BL := Lib.hid O4.out.bel
  clear O4 G4
  go_wp2_with fail
  with_reducible refine (HA.out _ (HW.out.next BL.out)).mono ?_
  rintro e w5 ⟨rfl, hb5⟩
  clear c0 c1 d0 d1
  have NB := Lib.hid ((BL.out).trans (hb5.mono (BL.out).size))
  have OWA := Lib.hid (OwnF.newAt NB.out A sa)
  clear NB hb5 BL
  go_wp2_with fail
  with_reducible refine (HB.out _ (HW.out.next OWA.out.bel)).mono ?_
  rintro e w6 ⟨rfl, hb6⟩
  have NB := Lib.hid ((OWA.out.bel).trans (hb6.mono (OWA.out.bel).size))
  have OWA_ := Lib.hid ((OWA.out.below hb6).alloc (.cells #[.int .u64 (B : Int), .bool sb] 25))
  clear OWA
  have OWA := Lib.hid OWA_.out
  clear OWA_
  have OWB := Lib.hid (OwnF.newAt NB.out B sb)
  clear NB hb6
  go_wp2_with fail
  with_reducible refine (HC.out _ (HW.out.next OWB.out.bel)).mono ?_
  rintro e w7 ⟨rfl, hb7⟩
  have NB := Lib.hid ((OWB.out.bel).trans (hb7.mono (OWB.out.bel).size))
  have OWA_ := Lib.hid ((OWA.out.below hb7).alloc (.cells #[.int .u64 (C : Int), .bool sc] 25))
  clear OWA
  have OWA := Lib.hid OWA_.out
  clear OWA_
  have OWB_ := Lib.hid ((OWB.out.below hb7).alloc (.cells #[.int .u64 (C : Int), .bool sc] 25))
  clear OWB
  have OWB := Lib.hid OWB_.out
  clear OWB_
  have OWC := Lib.hid (OwnF.newAt NB.out C sc)
  clear NB hb7
  go_wp2_with fail
  with_reducible refine (HD.out _ (HW.out.next OWC.out.bel)).mono ?_
  rintro e w8 ⟨rfl, hb8⟩
  have NB := Lib.hid ((OWC.out.bel).trans (hb8.mono (OWC.out.bel).size))
  have OWA_ := Lib.hid ((OWA.out.below hb8).alloc (.cells #[.int .u64 (D : Int), .bool sd] 25))
  clear OWA
  have OWA := Lib.hid OWA_.out
  clear OWA_
  have OWB_ := Lib.hid ((OWB.out.below hb8).alloc (.cells #[.int .u64 (D : Int), .bool sd] 25))
  clear OWB
  have OWB := Lib.hid OWB_.out
  clear OWB_
  have OWC_ := Lib.hid ((OWC.out.below hb8).alloc (.cells #[.int .u64 (D : Int), .bool sd] 25))
  clear OWC
  have OWC := Lib.hid OWC_.out
  clear OWC_
  have OWD := Lib.hid (OwnF.newAt NB.out D sd)
  clear NB hb8
  obtain ⟨owa0, owa1⟩ : _ ∧ _ := OWA.out.cells
  obtain ⟨owb0, owb1⟩ : _ ∧ _ := OWB.out.cells
  obtain ⟨owc0, owc1⟩ : _ ∧ _ := OWC.out.cells
  obtain ⟨owd0, owd1⟩ : _ ∧ _ := OWD.out.cells
  go_wp2_with fail
  go_ret
  exact ⟨congrArg (fun x => Ending.returned (.bool x)) (show (ec != 0 && ed != 0) = true by simp [nc, nd]), OWD.out.bel⟩
set_option maxRecDepth 100000 in
set_option maxHeartbeats 4000000 in
theorem backM_E2 (k : Int) (b : Nat) (star : Bool) (s t : ByteArray) (w : World) (hw : TabsOn w) (tx : ByteArray) (fr : Bool) (A B : Nat) (sa sb : Bool) (C D : Nat) (sc sd : Bool) (eb ec ed : Int)
    (hm : Gives 12 #[.int .i64 k, .agg #[.int .u64 (b : Int), .bool star]] (.bool true))
    (hx : Gives 16 #[.int .i64 k, .agg #[.int .u64 (b : Int), .bool star]] (.string tx))
    (hp : Gives 8 #[.int .i64 k, .string tx] (pres b fr 0)) (hfr : (tx.toList == [42]) = fr) (hxl : decide ((150 : Int) < (tx.size : Int)) = false)
    (hl : decide ((45 : Int) < (s.size : Int)) = false) (hl2 : decide ((45 : Int) < (t.size : Int)) = false) (hsz : s.size ≤ 45) (htz : t.size ≤ 45)
    (ha : Gives 8 #[.int .i64 k, .string s] (pres A sa 0))
    (hb : Gives 8 #[.int .i64 k, .string t] (pres B sb eb))
    (hc : Gives 8 #[.int .i64 k, .string (s ++ ⟨#[44]⟩ ++ t)] (pres C sc ec))
    (hd : Gives 8 #[.int .i64 k, .string (t ++ ⟨#[44]⟩ ++ s)] (pres D sd ed)) (na : eb ≠ 0) (nc : ec ≠ 0) (nd : ed ≠ 0) :
    Calls Tryd.prog 5 #[.int .i64 k, .agg #[.int .u64 (b : Int), .bool star], .string s, .string t] w fun e w' => e = .returned (.bool true) ∧ Below w.heap.size w w' := by
  have o := OwnF.new w b star
  have HW := Lib.hid hw
  have O := Lib.hid o
  have KN := Lib.hid gives_known
  have HM := Lib.hid hm
  have HX := Lib.hid hx
  have HP := Lib.hid hp
  have HA := Lib.hid ha
  have HB := Lib.hid hb
  have HC := Lib.hid hc
  have HD := Lib.hid hd
  clear hw o hm hx hp ha hb hc hd
  go_enter Tryd.func5, Tryd.ntmps5
  go_wp2_with fail
  with_reducible refine (KN.out _ (HW.out.next O.out.bel)).mono ?_
  rintro e w1 ⟨rfl, hb1⟩
  have O1 := Lib.hid (O.out.below hb1)
  clear hb1 O
  obtain ⟨c0, c1⟩ : _ ∧ _ := O1.out.cells
  go_wp2_with fail
  with_reducible refine (HM.out _ (HW.out.next O1.out.bel)).mono ?_
  rintro e w2 ⟨rfl, hb2⟩
  have O2 := Lib.hid (O1.out.below hb2)
  clear hb2 O1 c0 c1
  obtain ⟨c0, c1⟩ : _ ∧ _ := O2.out.cells
  go_wp2_with fail
  with_reducible refine (HX.out _ (HW.out.next O2.out.bel)).mono ?_
  rintro e w3 ⟨rfl, hb3⟩
  have O3 := Lib.hid (O2.out.below hb3)
  clear hb3 O2 c0 c1
  go_wp2_with fail
  with_reducible refine (HP.out _ (HW.out.next O3.out.bel)).mono ?_
  rintro e w4 ⟨rfl, hb4⟩
  have O4 := Lib.hid ((O3.out.below hb4).alloc (.cells #[.int .u64 (b : Int), .bool fr] 25))
  have G4 := Lib.hid (OwnF.newAt (O3.out.below hb4).bel b fr)
  clear hb4 O3
  obtain ⟨c0, c1⟩ : _ ∧ _ := O4.out.cells
  obtain ⟨d0, d1⟩ : _ ∧ _ := G4.out.cells
  have BL := Lib.hid O4.out.bel
  clear O4 G4
  go_wp2_with fail
  with_reducible refine (HA.out _ (HW.out.next BL.out)).mono ?_
  rintro e w5 ⟨rfl, hb5⟩
  clear c0 c1 d0 d1
  have NB := Lib.hid ((BL.out).trans (hb5.mono (BL.out).size))
  have OWA := Lib.hid (OwnF.newAt NB.out A sa)
  clear NB hb5 BL
  go_wp2_with fail
  with_reducible refine (HB.out _ (HW.out.next OWA.out.bel)).mono ?_
  rintro e w6 ⟨rfl, hb6⟩
  have NB := Lib.hid ((OWA.out.bel).trans (hb6.mono (OWA.out.bel).size))
  have OWA_ := Lib.hid ((OWA.out.below hb6).alloc (.cells #[.int .u64 (B : Int), .bool sb] 25))
  clear OWA
  have OWA := Lib.hid OWA_.out
  clear OWA_
  have OWB := Lib.hid (OwnF.newAt NB.out B sb)
  clear NB hb6
  go_wp2_with fail
  with_reducible refine (HC.out _ (HW.out.next OWB.out.bel)).mono ?_
  rintro e w7 ⟨rfl, hb7⟩
  have NB := Lib.hid ((OWB.out.bel).trans (hb7.mono (OWB.out.bel).size))
  have OWA_ := Lib.hid ((OWA.out.below hb7).alloc (.cells #[.int .u64 (C : Int), .bool sc] 25))
  clear OWA
  have OWA := Lib.hid OWA_.out
  clear OWA_
  have OWB_ := Lib.hid ((OWB.out.below hb7).alloc (.cells #[.int .u64 (C : Int), .bool sc] 25))
  clear OWB
  have OWB := Lib.hid OWB_.out
  clear OWB_
  have OWC := Lib.hid (OwnF.newAt NB.out C sc)
  clear NB hb7
  go_wp2_with fail
  with_reducible refine (HD.out _ (HW.out.next OWC.out.bel)).mono ?_
  rintro e w8 ⟨rfl, hb8⟩
  have NB := Lib.hid ((OWC.out.bel).trans (hb8.mono (OWC.out.bel).size))
  have OWA_ := Lib.hid ((OWA.out.below hb8).alloc (.cells #[.int .u64 (D : Int), .bool sd] 25))
  clear OWA
  have OWA := Lib.hid OWA_.out
  clear OWA_
  have OWB_ := Lib.hid ((OWB.out.below hb8).alloc (.cells #[.int .u64 (D : Int), .bool sd] 25))
  clear OWB
  have OWB := Lib.hid OWB_.out
  clear OWB_
  have OWC_ := Lib.hid ((OWC.out.below hb8).alloc (.cells #[.int .u64 (D : Int), .bool sd] 25))
  clear OWC
  have OWC := Lib.hid OWC_.out
  clear OWC_
  have OWD := Lib.hid (OwnF.newAt NB.out D sd)
  clear NB hb8
  obtain ⟨owa0, owa1⟩ : _ ∧ _ := OWA.out.cells
  obtain ⟨owb0, owb1⟩ : _ ∧ _ := OWB.out.cells
  obtain ⟨owc0, owc1⟩ : _ ∧ _ := OWC.out.cells
  obtain ⟨owd0, owd1⟩ : _ ∧ _ := OWD.out.cells
  go_wp2_with fail
  go_ret
  exact ⟨congrArg (fun x => Ending.returned (.bool x)) (show (ec != 0 && ed != 0) = true by simp [nc, nd]), OWD.out.bel⟩
set_option maxRecDepth 100000 in
set_option maxHeartbeats 4000000 in
theorem backM_OK (k : Int) (b : Nat) (star : Bool) (s t : ByteArray) (w : World) (hw : TabsOn w) (tx : ByteArray) (fr : Bool) (A B : Nat) (sa sb : Bool) (C : Nat)
    (hm : Gives 12 #[.int .i64 k, .agg #[.int .u64 (b : Int), .bool star]] (.bool true))
    (hx : Gives 16 #[.int .i64 k, .agg #[.int .u64 (b : Int), .bool star]] (.string tx))
    (hp : Gives 8 #[.int .i64 k, .string tx] (pres b fr 0)) (hfr : (tx.toList == [42]) = fr) (hxl : decide ((150 : Int) < (tx.size : Int)) = false)
    (hl : decide ((45 : Int) < (s.size : Int)) = false) (hl2 : decide ((45 : Int) < (t.size : Int)) = false) (hsz : s.size ≤ 45) (htz : t.size ≤ 45)
    (ha : Gives 8 #[.int .i64 k, .string s] (pres A sa 0))
    (hb : Gives 8 #[.int .i64 k, .string t] (pres B sb 0))
    (hc : Gives 8 #[.int .i64 k, .string (s ++ ⟨#[44]⟩ ++ t)] (pres C sa 0))
    (hd : Gives 8 #[.int .i64 k, .string (t ++ ⟨#[44]⟩ ++ s)] (pres C sb 0)) (hor : bits .or .u64 (A : Int) (B : Int) = (C : Int)) (hmc : Gives 12 #[.int .i64 k, .agg #[.int .u64 (C : Int), .bool sa]] (.bool true)) :
    Calls Tryd.prog 5 #[.int .i64 k, .agg #[.int .u64 (b : Int), .bool star], .string s, .string t] w fun e w' => e = .returned (.bool true) ∧ Below w.heap.size w w' := by
  have o := OwnF.new w b star
  have HW := Lib.hid hw
  have O := Lib.hid o
  have KN := Lib.hid gives_known
  have HM := Lib.hid hm
  have HX := Lib.hid hx
  have HP := Lib.hid hp
  have HA := Lib.hid ha
  have HB := Lib.hid hb
  have HC := Lib.hid hc
  have HD := Lib.hid hd
  have HMC := Lib.hid hmc
  clear hw o hm hx hp ha hb hc hd hmc
  go_enter Tryd.func5, Tryd.ntmps5
  go_wp2_with fail
  with_reducible refine (KN.out _ (HW.out.next O.out.bel)).mono ?_
  rintro e w1 ⟨rfl, hb1⟩
  have O1 := Lib.hid (O.out.below hb1)
  clear hb1 O
  obtain ⟨c0, c1⟩ : _ ∧ _ := O1.out.cells
  go_wp2_with fail
  with_reducible refine (HM.out _ (HW.out.next O1.out.bel)).mono ?_
  rintro e w2 ⟨rfl, hb2⟩
  have O2 := Lib.hid (O1.out.below hb2)
  clear hb2 O1 c0 c1
  obtain ⟨c0, c1⟩ : _ ∧ _ := O2.out.cells
  go_wp2_with fail
  with_reducible refine (HX.out _ (HW.out.next O2.out.bel)).mono ?_
  rintro e w3 ⟨rfl, hb3⟩
  have O3 := Lib.hid (O2.out.below hb3)
  clear hb3 O2 c0 c1
  go_wp2_with fail
  with_reducible refine (HP.out _ (HW.out.next O3.out.bel)).mono ?_
  rintro e w4 ⟨rfl, hb4⟩
  have O4 := Lib.hid ((O3.out.below hb4).alloc (.cells #[.int .u64 (b : Int), .bool fr] 25))
  have G4 := Lib.hid (OwnF.newAt (O3.out.below hb4).bel b fr)
  clear hb4 O3
  obtain ⟨c0, c1⟩ : _ ∧ _ := O4.out.cells
  obtain ⟨d0, d1⟩ : _ ∧ _ := G4.out.cells
  have BL := Lib.hid O4.out.bel
  clear O4 G4
  go_wp2_with fail
  with_reducible refine (HA.out _ (HW.out.next BL.out)).mono ?_
  rintro e w5 ⟨rfl, hb5⟩
  clear c0 c1 d0 d1
  have NB := Lib.hid ((BL.out).trans (hb5.mono (BL.out).size))
  have OWA := Lib.hid (OwnF.newAt NB.out A sa)
  clear NB hb5 BL
  go_wp2_with fail
  with_reducible refine (HB.out _ (HW.out.next OWA.out.bel)).mono ?_
  rintro e w6 ⟨rfl, hb6⟩
  have NB := Lib.hid ((OWA.out.bel).trans (hb6.mono (OWA.out.bel).size))
  have OWA_ := Lib.hid ((OWA.out.below hb6).alloc (.cells #[.int .u64 (B : Int), .bool sb] 25))
  clear OWA
  have OWA := Lib.hid OWA_.out
  clear OWA_
  have OWB := Lib.hid (OwnF.newAt NB.out B sb)
  clear NB hb6
  go_wp2_with fail
  with_reducible refine (HC.out _ (HW.out.next OWB.out.bel)).mono ?_
  rintro e w7 ⟨rfl, hb7⟩
  have NB := Lib.hid ((OWB.out.bel).trans (hb7.mono (OWB.out.bel).size))
  have OWA_ := Lib.hid ((OWA.out.below hb7).alloc (.cells #[.int .u64 (C : Int), .bool sa] 25))
  clear OWA
  have OWA := Lib.hid OWA_.out
  clear OWA_
  have OWB_ := Lib.hid ((OWB.out.below hb7).alloc (.cells #[.int .u64 (C : Int), .bool sa] 25))
  clear OWB
  have OWB := Lib.hid OWB_.out
  clear OWB_
  have OWC := Lib.hid (OwnF.newAt NB.out C sa)
  clear NB hb7
  go_wp2_with fail
  with_reducible refine (HD.out _ (HW.out.next OWC.out.bel)).mono ?_
  rintro e w8 ⟨rfl, hb8⟩
  have NB := Lib.hid ((OWC.out.bel).trans (hb8.mono (OWC.out.bel).size))
  have OWA_ := Lib.hid ((OWA.out.below hb8).alloc (.cells #[.int .u64 (C : Int), .bool sb] 25))
  clear OWA
  have OWA := Lib.hid OWA_.out
  clear OWA_
  have OWB_ := Lib.hid ((OWB.out.below hb8).alloc (.cells #[.int .u64 (C : Int), .bool sb] 25))
  clear OWB
  have OWB := Lib.hid OWB_.out
  clear OWB_
  have OWC_ := Lib.hid ((OWC.out.below hb8).alloc (.cells #[.int .u64 (C : Int), .bool sb] 25))
  clear OWC
  have OWC := Lib.hid OWC_.out
  clear OWC_
  have OWD := Lib.hid (OwnF.newAt NB.out C sb)
  clear NB hb8
  obtain ⟨owa0, owa1⟩ : _ ∧ _ := OWA.out.cells
  obtain ⟨owb0, owb1⟩ : _ ∧ _ := OWB.out.cells
  obtain ⟨owc0, owc1⟩ : _ ∧ _ := OWC.out.cells
  obtain ⟨owd0, owd1⟩ : _ ∧ _ := OWD.out.cells
  go_wp2_with fail
  with_reducible refine (HMC.out _ (HW.out.next OWD.out.bel)).mono ?_
  rintro e w9 ⟨rfl, hb9⟩
  have NB := Lib.hid ((OWD.out.bel).trans (hb9.mono (OWD.out.bel).size))
  clear hb9 owa0 owa1 owb0 owb1 owc0 owc1 owd0 owd1 OWA OWB OWC OWD
  go_wp2_with fail
  go_ret
  exact ⟨rfl, NB.out⟩
end Go.Proofs.YtdoahooadjbgjaaDoor
