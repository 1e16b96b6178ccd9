/- field.read, by its contract. -/
import Derived.Test.YtpbnjibomdilhaaGreatDoorMad
namespace Go.Proofs.YtpbnjibomdilhaaGreatDoor
open Go.RowKit

/-- what lies in memory while an item is read: the kind, the result, whether all was good, the item -/
structure RD (w : World) (k : Nat) (g : Bool) (f l s : Nat) (W : World) : Prop where
  bel : Below w.heap.size w W
  kind : W.heap[w.heap.size]? = some (.cells #[.int .i64 (k : Int)] 3 (0, 0))
  res : W.heap[w.heap.size + 1]? = some (iobj 0 0 0)
  good : W.heap[w.heap.size + 2]? = some (.cells #[.bool g] 4 (0, 0))
  itm : W.heap[w.heap.size + 3]? = some (iobj f l s)
theorem RD.below {w : World} {k : Nat} {g : Bool} {f l s : Nat} {W W' : World} (r : RD w k g f l s W) (hb : Below W.heap.size W W') : RD w k g f l s W' :=
  ⟨r.bel.trans (hb.mono r.bel.size), (hb.block _ (lt_of_block r.kind)).trans r.kind, (hb.block _ (lt_of_block r.res)).trans r.res, (hb.block _ (lt_of_block r.good)).trans r.good, (hb.block _ (lt_of_block r.itm)).trans r.itm⟩
theorem RD.setGood {w : World} {k : Nat} {g : Bool} {f l s : Nat} {W : World} (r : RD w k g f l s W) (g' : Bool) : RD w k g' f l s (W.setCell ⟨w.heap.size + 2, 0, none⟩ (.bool g')) :=
  ⟨r.bel.setCell (p := ⟨w.heap.size + 2, 0, none⟩) (by show _ ≤ w.heap.size + 2; omega) _, (set_else (by omega)).trans r.kind, (set_else (by omega)).trans r.res, row_set r.good 0 _, (set_else (by omega)).trans r.itm⟩
theorem RD.setFirst {w : World} {k : Nat} {g : Bool} {f l s : Nat} {W : World} (r : RD w k g f l s W) (f' : Nat) : RD w k g f' l s (W.setCell ⟨w.heap.size + 3, 0, none⟩ (.int .i64 (f' : Int))) :=
  ⟨r.bel.setCell (p := ⟨w.heap.size + 3, 0, none⟩) (by show _ ≤ w.heap.size + 3; omega) _, (set_else (by omega)).trans r.kind, (set_else (by omega)).trans r.res, (set_else (by omega)).trans r.good, row_set r.itm 0 _⟩
theorem RD.setLast {w : World} {k : Nat} {g : Bool} {f l s : Nat} {W : World} (r : RD w k g f l s W) (l' : Nat) : RD w k g f l' s (W.setCell ⟨w.heap.size + 3, 1, none⟩ (.int .i64 (l' : Int))) :=
  ⟨r.bel.setCell (p := ⟨w.heap.size + 3, 1, none⟩) (by show _ ≤ w.heap.size + 3; omega) _, (set_else (by omega)).trans r.kind, (set_else (by omega)).trans r.res, (set_else (by omega)).trans r.good, row_set r.itm 1 _⟩
theorem RD.setStep {w : World} {k : Nat} {g : Bool} {f l s : Nat} {W : World} (r : RD w k g f l s W) (s' : Nat) : RD w k g f l s' (W.setCell ⟨w.heap.size + 3, 2, none⟩ (.int .i64 (s' : Int))) :=
  ⟨r.bel.setCell (p := ⟨w.heap.size + 3, 2, none⟩) (by show _ ≤ w.heap.size + 3; omega) _, (set_else (by omega)).trans r.kind, (set_else (by omega)).trans r.res, (set_else (by omega)).trans r.good, row_set r.itm 2 _⟩
theorem RD.cells {w : World} {k : Nat} {g : Bool} {f l s : Nat} {W : World} (r : RD w k g f l s W) :
    W.cell? ⟨w.heap.size, 0, none⟩ = some (.int .i64 (k : Int)) ∧ W.cell? ⟨w.heap.size + 2, 0, none⟩ = some (.bool g) ∧ W.frozen? ⟨w.heap.size + 2, 0, none⟩ = false ∧
    W.cell? ⟨w.heap.size + 3, 0, none⟩ = some (.int .i64 (f : Int)) ∧ W.cell? ⟨w.heap.size + 3, 1, none⟩ = some (.int .i64 (l : Int)) ∧ W.cell? ⟨w.heap.size + 3, 2, none⟩ = some (.int .i64 (s : Int)) ∧
    W.frozen? ⟨w.heap.size + 3, 0, none⟩ = false ∧ W.frozen? ⟨w.heap.size + 3, 1, none⟩ = false ∧ W.frozen? ⟨w.heap.size + 3, 2, none⟩ = false :=
  ⟨cell_of_row _ _ 0 _ _ _ r.kind, cell_of_row _ _ 0 _ _ _ r.good, row_free r.good 0, cell_of_row _ _ 0 _ _ _ r.itm, cell_of_row _ _ 1 _ _ _ r.itm, cell_of_row _ _ 2 _ _ _ r.itm, row_free r.itm 0, row_free r.itm 1, row_free r.itm 2⟩
theorem RD.rcells {w : World} {k : Nat} {g : Bool} {f l s : Nat} {W : World} (r : RD w k g f l s W) :
    W.cell? ⟨w.heap.size + 1, 0, none⟩ = some (.int .i64 0) ∧ W.cell? ⟨w.heap.size + 1, 1, none⟩ = some (.int .i64 0) ∧ W.cell? ⟨w.heap.size + 1, 2, none⟩ = some (.int .i64 0) ∧
    W.frozen? ⟨w.heap.size + 1, 0, none⟩ = false ∧ W.frozen? ⟨w.heap.size + 1, 1, none⟩ = false ∧ W.frozen? ⟨w.heap.size + 1, 2, none⟩ = false :=
  ⟨cell_of_row _ _ 0 _ _ _ r.res, cell_of_row _ _ 1 _ _ _ r.res, cell_of_row _ _ 2 _ _ _ r.res, row_free r.res 0, row_free r.res 1, row_free r.res 2⟩
theorem RD.done {w : World} {k : Nat} {g : Bool} {f l s : Nat} {W : World} (r : RD w k g f l s W) (x y z : Int) :
    Below w.heap.size w (((W.setCell ⟨w.heap.size + 1, 0, none⟩ (.int .i64 x)).setCell ⟨w.heap.size + 1, 1, none⟩ (.int .i64 y)).setCell ⟨w.heap.size + 1, 2, none⟩ (.int .i64 z)) ∧
    (((W.setCell ⟨w.heap.size + 1, 0, none⟩ (.int .i64 x)).setCell ⟨w.heap.size + 1, 1, none⟩ (.int .i64 y)).setCell ⟨w.heap.size + 1, 2, none⟩ (.int .i64 z)).heap[w.heap.size + 1]? = some (.cells #[.int .i64 x, .int .i64 y, .int .i64 z] 152 (0, 0)) :=
  ⟨((r.bel.setCell (p := ⟨w.heap.size + 1, 0, none⟩) (by show _ ≤ w.heap.size + 1; omega) _).setCell (p := ⟨w.heap.size + 1, 1, none⟩) (by show _ ≤ w.heap.size + 1; omega) _).setCell (p := ⟨w.heap.size + 1, 2, none⟩) (by show _ ≤ w.heap.size + 1; omega) _,
    row_set (row_set (row_set r.res 0 _) 1 _) 2 _⟩
theorem RD.take {w : World} {k : Nat} (hk : k ≤ 4) {g : Bool} {f l s : Nat} {W : World} (hw : TabsOn w) (r : RD w k g f l s W) (x : ByteArray) (hl : x.size ≤ 1000000) :
    Calls Tryz.prog 121 #[.string x, .pointer (some ⟨w.heap.size, 0, none⟩), .pointer (some ⟨w.heap.size + 2, 0, none⟩)] W fun e W' => e = .returned (.int .i64 (((Fld.number k x.data.toList).getD 0 : Nat) : Int)) ∧ RD w k (g && (Fld.number k x.data.toList).isSome) f l s W' :=
  (take_any k hk x hl _ _ g W (hw.next r.bel) r.kind r.good).mono fun e W' ⟨he, w1, hb, hw'⟩ => ⟨he, by rw [hw']; exact (r.below hb).setGood _⟩
/-- what read tells -/
theorem cut_any (s : ByteArray) (c : UInt8) (w : World) (hs : s.size ≤ 1000000) (hw : Tabs w) :
    Calls Tryz.prog 120 #[.string s, .string ⟨#[c]⟩] w fun e w' => e = .returned (.tuple #[.string (ba (Lib.cut s.data.toList [c]).1), .string (ba (Lib.cut s.data.toList [c]).2.1), .bool (Lib.cut s.data.toList [c]).2.2]) ∧ ∃ n, w' = w.drewN n :=
  let ⟨m, hm⟩ := hw.mx
  Tryz.strings_Cut s ⟨#[c]⟩ m w (by omega) hm
theorem cut_len (l sep : List UInt8) : (Lib.cut l sep).1.length ≤ l.length ∧ (Lib.cut l sep).2.1.length ≤ l.length := by
  unfold Lib.cut
  split
  · simp only [List.length_take, List.length_drop]; omega
  · simp

theorem RD.start (w : World) (k n : Nat) : RD w k true 0 0 1 (((((w.alloc (.cells #[.int .i64 (k : Int)] 3)).alloc (.cells #[.int .i64 0, .int .i64 0, .int .i64 0] 152)).drewN n).alloc (.cells #[.bool true] 4)).alloc (.cells #[.int .i64 0, .int .i64 0, .int .i64 1] 152)) := by
  have b1 : Below w.heap.size w (w.alloc (.cells #[.int .i64 (k : Int)] 3)) := (Below.refl _ _).alloc (Nat.le_refl _) _
  have h0 := heap_alloc_new w (.cells #[.int .i64 (k : Int)] 3)
  have s1 : (w.alloc (.cells #[.int .i64 (k : Int)] 3)).heap.size = w.heap.size + 1 := by simp
  generalize w.alloc (.cells #[.int .i64 (k : Int)] 3) = w1 at *
  have b2 : Below w1.heap.size w1 (w1.alloc (.cells #[.int .i64 0, .int .i64 0, .int .i64 0] 152)) := (Below.refl _ _).alloc (Nat.le_refl _) _
  have h1 := heap_alloc_new w1 (.cells #[.int .i64 0, .int .i64 0, .int .i64 0] 152)
  have s2 : (w1.alloc (.cells #[.int .i64 0, .int .i64 0, .int .i64 0] 152)).heap.size = w1.heap.size + 1 := by simp
  generalize w1.alloc (.cells #[.int .i64 0, .int .i64 0, .int .i64 0] 152) = w2 at *
  have b3 : Below w2.heap.size w2 (w2.drewN n) := many_drew (Below.refl _ _) n
  have s3 : (w2.drewN n).heap.size = w2.heap.size := rfl
  generalize w2.drewN n = w3 at *
  have b4 : Below w3.heap.size w3 (w3.alloc (.cells #[.bool true] 4)) := (Below.refl _ _).alloc (Nat.le_refl _) _
  have h3 := heap_alloc_new w3 (.cells #[.bool true] 4)
  have s4 : (w3.alloc (.cells #[.bool true] 4)).heap.size = w3.heap.size + 1 := by simp
  generalize w3.alloc (.cells #[.bool true] 4) = w4 at *
  have b5 : Below w4.heap.size w4 (w4.alloc (.cells #[.int .i64 0, .int .i64 0, .int .i64 1] 152)) := (Below.refl _ _).alloc (Nat.le_refl _) _
  have h4 := heap_alloc_new w4 (.cells #[.int .i64 0, .int .i64 0, .int .i64 1] 152)
  generalize w4.alloc (.cells #[.int .i64 0, .int .i64 0, .int .i64 1] 152) = w5 at *
  have e1 : w1.heap.size = w.heap.size + 1 := s1
  have e3 : w3.heap.size = w.heap.size + 2 := by omega
  have e4 : w4.heap.size = w.heap.size + 3 := by omega
  rw [e1] at h1
  rw [e3] at h3
  rw [e4] at h4
  exact ⟨(((b1.trans (b2.mono (by omega))).trans (b3.mono (by omega))).trans (b4.mono (by omega))).trans (b5.mono (by omega)),
    (b5.block _ (by omega)).trans ((b4.block _ (by omega)).trans ((b3.block _ (by omega)).trans ((b2.block _ (by omega)).trans h0))),
    (b5.block _ (by omega)).trans ((b4.block _ (by omega)).trans ((b3.block _ (by omega)).trans h1)),
    (b5.block _ (by omega)).trans h3, h4⟩
theorem ba_toList (l : List UInt8) : (ba l).toList = l := by rw [Lib.toList_data]; rfl
theorem size_ba {l : List UInt8} {n : Nat} (h : l.length ≤ n) : (ba l).size ≤ n := by rw [ba_size]; exact h

set_option maxRecDepth 100000 in
set_option maxHeartbeats 4000000 in
theorem read_any (k : Nat) (hk : k ≤ 4) (s : ByteArray) (hl : s.size ≤ 1000000) (w : World) (hw : TabsOn w) :
    Calls Tryz.prog 111 #[.int .i64 (k : Int), .string s] w fun e w' => e = .returned (.tuple #[itemV (Fld.item k s.data.toList).first (Fld.item k s.data.toList).last (Fld.item k s.data.toList).step, .bool (Fld.good k s.data.toList)]) ∧ Below w.heap.size w w' := by
  have hb2 : Below w.heap.size w ((w.alloc (.cells #[.int .i64 (k : Int)] 3)).alloc (.cells #[.int .i64 0, .int .i64 0, .int .i64 0] 152)) := ((Below.refl _ _).alloc (Nat.le_refl _) _).alloc (by simp) _
  have C1 := cut_any s 47 _ hl (hw.on hb2)
  have hl1 := (cut_len s.data.toList [47])
  have hl2 := (cut_len (Lib.cut s.data.toList [47]).1 [45])
  rw [← Lib.size_eq] at hl1
  have C2 := fun n => cut_any (ba (Lib.cut s.data.toList [47]).1) 45 _ (by rw [ba_size]; omega) (hw.on (many_drew hb2 n))
  simp only [ba_list] at C2
  have HE : Hid (Fld.ends k s.data.toList = if Fld.span s.data.toList = [42] then (true, Fld.lo k, Fld.hi k) else if Fld.ranged s.data.toList = true then ((Fld.number k (Fld.left s.data.toList)).isSome && (Fld.number k (Fld.right s.data.toList)).isSome, (Fld.number k (Fld.left s.data.toList)).getD 0, (Fld.number k (Fld.right s.data.toList)).getD 0)
    else ((Fld.number k (Fld.span s.data.toList)).isSome && !Fld.stepped s.data.toList, (Fld.number k (Fld.span s.data.toList)).getD 0, (Fld.number k (Fld.span s.data.toList)).getD 0)) := Lib.hid rfl
  have HG : Hid (Fld.good k s.data.toList = if Fld.stepped s.data.toList = true then (Fld.ends k s.data.toList).1 && (Fld.number k (Fld.stepText s.data.toList)).isSome else (Fld.ends k s.data.toList).1) := Lib.hid rfl
  have HI : Hid (Fld.item k s.data.toList = ⟨(Fld.ends k s.data.toList).2.1, (Fld.ends k s.data.toList).2.2, if Fld.stepped s.data.toList = true then (Fld.number k (Fld.stepText s.data.toList)).getD 0 else 1⟩) := Lib.hid rfl
  have e1 : (Lib.cut s.data.toList [47]).1 = Fld.span s.data.toList := rfl
  have e2 : (Lib.cut s.data.toList [47]).2.1 = Fld.stepText s.data.toList := rfl
  have e3 : (Lib.cut s.data.toList [47]).2.2 = Fld.stepped s.data.toList := rfl
  rw [e1, e2, e3] at C1
  rw [e1] at hl1 hl2 C2
  rw [e2] at hl1
  have e4 : (Lib.cut (Fld.span s.data.toList) [45]).1 = Fld.left s.data.toList := rfl
  have e5 : (Lib.cut (Fld.span s.data.toList) [45]).2.1 = Fld.right s.data.toList := rfl
  have e6 : (Lib.cut (Fld.span s.data.toList) [45]).2.2 = Fld.ranged s.data.toList := rfl
  rw [e4, e5, e6] at C2
  rw [e4, e5] at hl2
  clear e1 e2 e3 e4 e5 e6
  generalize Fld.item k s.data.toList = IT at *
  generalize Fld.good k s.data.toList = GO at *
  generalize Fld.ends k s.data.toList = EN at *
  generalize Fld.left s.data.toList = le at *
  generalize Fld.right s.data.toList = ri at *
  generalize Fld.ranged s.data.toList = rg at *
  generalize Fld.span s.data.toList = sp at *
  generalize Fld.stepText s.data.toList = st at *
  generalize Fld.stepped s.data.toList = sd at *
  have H1 := Lib.hid C1
  have H2 := Lib.hid C2
  clear C1 C2
  have HL : Hid (le.length ≤ 1000000 ∧ ri.length ≤ 1000000 ∧ sp.length ≤ 1000000 ∧ st.length ≤ 1000000) := Lib.hid ⟨by omega, by omega, by omega, by omega⟩
  clear hl1 hl2
  have HS : Hid ((ba sp).toList = sp) := Lib.hid (ba_toList sp)
  have HTK := Lib.hid (fun (g : Bool) (f l s : Nat) (W : World) (r : RD w k g f l s W) (x : List UInt8) (hx : x.length ≤ 1000000) => r.take hk hw (ba x) (size_ba hx))
  have HW := Lib.hid hw
  clear hw
  by_cases hst : sp = [42]
  · subst hst
    have HE2 := Lib.hid (show EN = _ from by rw [HE.out, if_pos rfl])
    have g0 : ((ba [42]).toList == [42]) = true := by rw [HS.out]; rfl
    clear HE
    go_enter Tryz.func111, Tryz.ntmps111
    go_wp2_with fail
    with_reducible refine H1.out.mono ?_
    rintro e w1 ⟨rfl, n1, rfl⟩
    clear H1
    go_wp2_with fail
    with_reducible refine (H2.out n1).mono ?_
    rintro e w1 ⟨rfl, n2, rfl⟩
    clear H2
    have r := RD.start w k (n1 + n2)
    obtain ⟨a0, a1, a2, a3, a4, a5, a6, a7, a8⟩ := r.cells
    obtain ⟨d0, d1⟩ := (HW.out.on r.bel).low k hk
    have hk5 : (k : Int) < 5 := by omega
    go_wp2_with fail
    generalize (((((w.alloc (.cells #[.int .i64 (k : Int)] 3)).alloc (.cells #[.int .i64 0, .int .i64 0, .int .i64 0] 152)).drewN (n1 + n2)).alloc (.cells #[.bool true] 4)).alloc (.cells #[.int .i64 0, .int .i64 0, .int .i64 1] 152)) = W at *
    go_region
    have r2 := ((r.setFirst (Fld.lo k)).setLast (Fld.hi k)).below (Below.refl _ _).drew
    change RD w k true (Fld.lo k) (Fld.hi k) 1 (((W.setCell ⟨w.heap.size + 1 + 1 + 1, 0, none⟩ (.int .i64 (Fld.lo k : Int))).setCell ⟨w.heap.size + 1 + 1 + 1, 1, none⟩ (.int .i64 (Fld.hi k : Int))).drew) at r2
    generalize ((W.setCell ⟨w.heap.size + 1 + 1 + 1, 0, none⟩ (.int .i64 (Fld.lo k : Int))).setCell ⟨w.heap.size + 1 + 1 + 1, 1, none⟩ (.int .i64 (Fld.hi k : Int))).drew = W2 at r2 ⊢
    clear r a0 a1 a2 a3 a4 a5 a6 a7 a8 d0 d1
    obtain ⟨a0, a1, a2, a3, a4, a5, a6, a7, a8⟩ := r2.cells
    cases sd
    · go_wp2_with fail
      obtain ⟨b0, b1, b2, b3, b4, b5⟩ := r2.rcells
      go_region
      obtain ⟨hbF, hrF⟩ := r2.done (Fld.lo k : Int) (Fld.hi k : Int) 1
      generalize (((W2.setCell ⟨w.heap.size + 1, 0, none⟩ (.int .i64 (Fld.lo k : Int))).setCell ⟨w.heap.size + 1, 1, none⟩ (.int .i64 (Fld.hi k : Int))).setCell ⟨w.heap.size + 1, 2, none⟩ (.int .i64 1)) = WF at *
      have d0 : WF.drew.cell? ⟨w.heap.size + 1, 0, none⟩ = some (.int .i64 (Fld.lo k : Int)) := cell_of_row WF _ 0 _ _ _ hrF
      have d1 : WF.drew.cell? ⟨w.heap.size + 1, 1, none⟩ = some (.int .i64 (Fld.hi k : Int)) := cell_of_row WF _ 1 _ _ _ hrF
      have d2 : WF.drew.cell? ⟨w.heap.size + 1, 2, none⟩ = some (.int .i64 1) := cell_of_row WF _ 2 _ _ _ hrF
      go_wp2_with fail
      refine bodyPost_ret (v := .tuple #[.agg #[.int .i64 (Fld.lo k : Int), .int .i64 (Fld.hi k : Int), .int .i64 1], .bool true]) (by simp [results, Tryz.results111, go_sem, d0, d1, d2]) rfl ⟨?_, hbF.drew⟩
      rw [HI.out, HG.out, HE2.out]
      rfl
    · go_wp2_with fail
      with_reducible refine (HTK.out _ _ _ _ _ r2 st HL.out.2.2.2).mono ?_
      rintro e W3 ⟨rfl, r3⟩
      simp only [ba_list] at r3 ⊢
      clear r2 a0 a1 a2 a3 a4 a5 a6 a7 a8
      obtain ⟨a0, a1, a2, a3, a4, a5, a6, a7, a8⟩ := r3.cells
      go_wp2_with fail
      have r4 := r3.setStep ((Fld.number k st).getD 0)
      change RD w k _ _ _ _ (W3.setCell ⟨w.heap.size + 1 + 1 + 1, 2, none⟩ (.int .i64 (((Fld.number k st).getD 0 : Nat) : Int))) at r4
      generalize W3.setCell ⟨w.heap.size + 1 + 1 + 1, 2, none⟩ (.int .i64 (((Fld.number k st).getD 0 : Nat) : Int)) = W4 at r4 ⊢
      clear r3 a0 a1 a2 a3 a4 a5 a6 a7 a8
      obtain ⟨a0, a1, a2, a3, a4, a5, a6, a7, a8⟩ := r4.cells
      obtain ⟨b0, b1, b2, b3, b4, b5⟩ := r4.rcells
      go_region
      obtain ⟨hbF, hrF⟩ := r4.done (Fld.lo k : Int) (Fld.hi k : Int) (((Fld.number k st).getD 0 : Nat) : Int)
      generalize (((W4.setCell ⟨w.heap.size + 1, 0, none⟩ (.int .i64 (Fld.lo k : Int))).setCell ⟨w.heap.size + 1, 1, none⟩ (.int .i64 (Fld.hi k : Int))).setCell ⟨w.heap.size + 1, 2, none⟩ (.int .i64 (((Fld.number k st).getD 0 : Nat) : Int))) = WF at *
      have d0 : WF.drew.cell? ⟨w.heap.size + 1, 0, none⟩ = some (.int .i64 (Fld.lo k : Int)) := cell_of_row WF _ 0 _ _ _ hrF
      have d1 : WF.drew.cell? ⟨w.heap.size + 1, 1, none⟩ = some (.int .i64 (Fld.hi k : Int)) := cell_of_row WF _ 1 _ _ _ hrF
      have d2 : WF.drew.cell? ⟨w.heap.size + 1, 2, none⟩ = some (.int .i64 (((Fld.number k st).getD 0 : Nat) : Int)) := cell_of_row WF _ 2 _ _ _ hrF
      go_wp2_with fail
      refine bodyPost_ret (v := .tuple #[.agg #[.int .i64 (Fld.lo k : Int), .int .i64 (Fld.hi k : Int), .int .i64 (((Fld.number k st).getD 0 : Nat) : Int)], .bool (true && (Fld.number k st).isSome)]) (by simp [results, Tryz.results111, go_sem, d0, d1, d2]) rfl ⟨?_, hbF.drew⟩
      rw [HI.out, HG.out, HE2.out]
      rfl
  · have hst' : ((ba sp).toList == [42]) = false := by rw [HS.out, beq_eq_false_iff_ne]; exact hst
    cases rg
    · cases hn : Fld.number k sp with
      | none =>
        cases sd
        · have HE2 := Lib.hid (show EN = _ from by rw [HE.out, if_neg hst, if_neg (by decide), hn])
          clear HE hst
          go_enter Tryz.func111, Tryz.ntmps111
          go_wp2_with fail
          with_reducible refine H1.out.mono ?_
          rintro e w1 ⟨rfl, n1, rfl⟩
          clear H1
          go_wp2_with fail
          with_reducible refine (H2.out n1).mono ?_
          rintro e w1 ⟨rfl, n2, rfl⟩
          clear H2
          have r := RD.start w k (n1 + n2)
          obtain ⟨a0, a1, a2, a3, a4, a5, a6, a7, a8⟩ := r.cells
          have HQ := Lib.hid (HTK.out _ _ _ _ _ r sp HL.out.2.2.1)
          go_wp2_with fail
          generalize (((((w.alloc (.cells #[.int .i64 (k : Int)] 3)).alloc (.cells #[.int .i64 0, .int .i64 0, .int .i64 0] 152)).drewN (n1 + n2)).alloc (.cells #[.bool true] 4)).alloc (.cells #[.int .i64 0, .int .i64 0, .int .i64 1] 152)) = W at *
          with_reducible refine HQ.out.mono ?_
          rintro e W1 ⟨rfl, r1⟩
          simp only [ba_list, hn, Option.isSome_none, Bool.and_false, Option.getD_none] at r1 ⊢
          have HN := Lib.hid hn
          clear hn HQ r a0 a1 a2 a3 a4 a5 a6 a7 a8
          obtain ⟨a0, a1, a2, a3, a4, a5, a6, a7, a8⟩ := r1.cells
          go_wp2_with fail
          have r2 := ((r1.setFirst 0).setLast 0).setGood false
          change RD w k _ _ _ _ (((W1.setCell ⟨w.heap.size + 1 + 1 + 1, 0, none⟩ (.int .i64 0)).setCell ⟨w.heap.size + 1 + 1 + 1, 1, none⟩ (.int .i64 0)).setCell ⟨w.heap.size + 1 + 1, 0, none⟩ (.bool false)) at r2
          generalize (((W1.setCell ⟨w.heap.size + 1 + 1 + 1, 0, none⟩ (.int .i64 0)).setCell ⟨w.heap.size + 1 + 1 + 1, 1, none⟩ (.int .i64 0)).setCell ⟨w.heap.size + 1 + 1, 0, none⟩ (.bool false)) = W2 at r2 ⊢
          clear r1 a0 a1 a2 a3 a4 a5 a6 a7 a8
          obtain ⟨a0, a1, a2, a3, a4, a5, a6, a7, a8⟩ := r2.cells
          obtain ⟨b0, b1, b2, b3, b4, b5⟩ := r2.rcells
          go_region
          obtain ⟨hbF, hrF⟩ := r2.done 0 0 1
          generalize (((W2.setCell ⟨w.heap.size + 1, 0, none⟩ (.int .i64 0)).setCell ⟨w.heap.size + 1, 1, none⟩ (.int .i64 0)).setCell ⟨w.heap.size + 1, 2, none⟩ (.int .i64 1)) = WF at *
          have d0 : WF.drew.cell? ⟨w.heap.size + 1, 0, none⟩ = some (.int .i64 0) := cell_of_row WF _ 0 _ _ _ hrF
          have d1 : WF.drew.cell? ⟨w.heap.size + 1, 1, none⟩ = some (.int .i64 0) := cell_of_row WF _ 1 _ _ _ hrF
          have d2 : WF.drew.cell? ⟨w.heap.size + 1, 2, none⟩ = some (.int .i64 1) := cell_of_row WF _ 2 _ _ _ hrF
          go_wp2_with fail
          refine bodyPost_ret (v := .tuple #[.agg #[.int .i64 0, .int .i64 0, .int .i64 1], .bool false]) (by simp [results, Tryz.results111, go_sem, d0, d1, d2]) rfl ⟨?_, hbF.drew⟩
          rw [HI.out, HG.out, HE2.out]
          rfl
        · have HE2 := Lib.hid (show EN = _ from by rw [HE.out, if_neg hst, if_neg (by decide), hn])
          clear HE hst
          go_enter Tryz.func111, Tryz.ntmps111
          go_wp2_with fail
          with_reducible refine H1.out.mono ?_
          rintro e w1 ⟨rfl, n1, rfl⟩
          clear H1
          go_wp2_with fail
          with_reducible refine (H2.out n1).mono ?_
          rintro e w1 ⟨rfl, n2, rfl⟩
          clear H2
          have r := RD.start w k (n1 + n2)
          obtain ⟨a0, a1, a2, a3, a4, a5, a6, a7, a8⟩ := r.cells
          have HQ := Lib.hid (HTK.out _ _ _ _ _ r sp HL.out.2.2.1)
          go_wp2_with fail
          generalize (((((w.alloc (.cells #[.int .i64 (k : Int)] 3)).alloc (.cells #[.int .i64 0, .int .i64 0, .int .i64 0] 152)).drewN (n1 + n2)).alloc (.cells #[.bool true] 4)).alloc (.cells #[.int .i64 0, .int .i64 0, .int .i64 1] 152)) = W at *
          with_reducible refine HQ.out.mono ?_
          rintro e W1 ⟨rfl, r1⟩
          simp only [ba_list, hn, Option.isSome_none, Bool.and_false, Option.getD_none] at r1 ⊢
          have HN := Lib.hid hn
          clear hn HQ r a0 a1 a2 a3 a4 a5 a6 a7 a8
          obtain ⟨a0, a1, a2, a3, a4, a5, a6, a7, a8⟩ := r1.cells
          go_wp2_with fail
          have r2 := ((r1.setFirst 0).setLast 0).setGood false
          change RD w k _ _ _ _ (((W1.setCell ⟨w.heap.size + 1 + 1 + 1, 0, none⟩ (.int .i64 0)).setCell ⟨w.heap.size + 1 + 1 + 1, 1, none⟩ (.int .i64 0)).setCell ⟨w.heap.size + 1 + 1, 0, none⟩ (.bool false)) at r2
          generalize (((W1.setCell ⟨w.heap.size + 1 + 1 + 1, 0, none⟩ (.int .i64 0)).setCell ⟨w.heap.size + 1 + 1 + 1, 1, none⟩ (.int .i64 0)).setCell ⟨w.heap.size + 1 + 1, 0, none⟩ (.bool false)) = W2 at r2 ⊢
          clear r1 a0 a1 a2 a3 a4 a5 a6 a7 a8
          obtain ⟨a0, a1, a2, a3, a4, a5, a6, a7, a8⟩ := r2.cells
          with_reducible refine (HTK.out _ _ _ _ _ r2 st HL.out.2.2.2).mono ?_
          rintro e W3 ⟨rfl, r3⟩
          simp only [ba_list] at r3 ⊢
          clear r2 a0 a1 a2 a3 a4 a5 a6 a7 a8
          obtain ⟨a0, a1, a2, a3, a4, a5, a6, a7, a8⟩ := r3.cells
          go_wp2_with fail
          have r4 := r3.setStep ((Fld.number k st).getD 0)
          change RD w k _ _ _ _ (W3.setCell ⟨w.heap.size + 1 + 1 + 1, 2, none⟩ (.int .i64 (((Fld.number k st).getD 0 : Nat) : Int))) at r4
          generalize W3.setCell ⟨w.heap.size + 1 + 1 + 1, 2, none⟩ (.int .i64 (((Fld.number k st).getD 0 : Nat) : Int)) = W4 at r4 ⊢
          clear r3 a0 a1 a2 a3 a4 a5 a6 a7 a8
          obtain ⟨a0, a1, a2, a3, a4, a5, a6, a7, a8⟩ := r4.cells
          obtain ⟨b0, b1, b2, b3, b4, b5⟩ := r4.rcells
          go_region
          obtain ⟨hbF, hrF⟩ := r4.done 0 0 (((Fld.number k st).getD 0 : Nat) : Int)
          generalize (((W4.setCell ⟨w.heap.size + 1, 0, none⟩ (.int .i64 0)).setCell ⟨w.heap.size + 1, 1, none⟩ (.int .i64 0)).setCell ⟨w.heap.size + 1, 2, none⟩ (.int .i64 (((Fld.number k st).getD 0 : Nat) : Int))) = WF at *
          have d0 : WF.drew.cell? ⟨w.heap.size + 1, 0, none⟩ = some (.int .i64 0) := cell_of_row WF _ 0 _ _ _ hrF
          have d1 : WF.drew.cell? ⟨w.heap.size + 1, 1, none⟩ = some (.int .i64 0) := cell_of_row WF _ 1 _ _ _ hrF
          have d2 : WF.drew.cell? ⟨w.heap.size + 1, 2, none⟩ = some (.int .i64 (((Fld.number k st).getD 0 : Nat) : Int)) := cell_of_row WF _ 2 _ _ _ hrF
          go_wp2_with fail
          refine bodyPost_ret (v := .tuple #[.agg #[.int .i64 0, .int .i64 0, .int .i64 (((Fld.number k st).getD 0 : Nat) : Int)], .bool false]) (by simp [results, Tryz.results111, go_sem, d0, d1, d2]) rfl ⟨?_, hbF.drew⟩
          rw [HI.out, HG.out, HE2.out]
          rfl
      | some n =>
        cases sd
        · have HE2 := Lib.hid (show EN = _ from by rw [HE.out, if_neg hst, if_neg (by decide), hn])
          clear HE hst
          go_enter Tryz.func111, Tryz.ntmps111
          go_wp2_with fail
          with_reducible refine H1.out.mono ?_
          rintro e w1 ⟨rfl, n1, rfl⟩
          clear H1
          go_wp2_with fail
          with_reducible refine (H2.out n1).mono ?_
          rintro e w1 ⟨rfl, n2, rfl⟩
          clear H2
          have r := RD.start w k (n1 + n2)
          obtain ⟨a0, a1, a2, a3, a4, a5, a6, a7, a8⟩ := r.cells
          have HQ := Lib.hid (HTK.out _ _ _ _ _ r sp HL.out.2.2.1)
          go_wp2_with fail
          generalize (((((w.alloc (.cells #[.int .i64 (k : Int)] 3)).alloc (.cells #[.int .i64 0, .int .i64 0, .int .i64 0] 152)).drewN (n1 + n2)).alloc (.cells #[.bool true] 4)).alloc (.cells #[.int .i64 0, .int .i64 0, .int .i64 1] 152)) = W at *
          with_reducible refine HQ.out.mono ?_
          rintro e W1 ⟨rfl, r1⟩
          simp only [ba_list, hn, Option.isSome_some, Bool.and_true, Option.getD_some] at r1 ⊢
          have HN := Lib.hid hn
          clear hn HQ r a0 a1 a2 a3 a4 a5 a6 a7 a8
          obtain ⟨a0, a1, a2, a3, a4, a5, a6, a7, a8⟩ := r1.cells
          go_wp2_with fail
          have r2 := ((r1.setFirst n).setLast n).setGood true
          change RD w k _ _ _ _ (((W1.setCell ⟨w.heap.size + 1 + 1 + 1, 0, none⟩ (.int .i64 (n : Int))).setCell ⟨w.heap.size + 1 + 1 + 1, 1, none⟩ (.int .i64 (n : Int))).setCell ⟨w.heap.size + 1 + 1, 0, none⟩ (.bool true)) at r2
          generalize (((W1.setCell ⟨w.heap.size + 1 + 1 + 1, 0, none⟩ (.int .i64 (n : Int))).setCell ⟨w.heap.size + 1 + 1 + 1, 1, none⟩ (.int .i64 (n : Int))).setCell ⟨w.heap.size + 1 + 1, 0, none⟩ (.bool true)) = W2 at r2 ⊢
          clear r1 a0 a1 a2 a3 a4 a5 a6 a7 a8
          obtain ⟨a0, a1, a2, a3, a4, a5, a6, a7, a8⟩ := r2.cells
          obtain ⟨b0, b1, b2, b3, b4, b5⟩ := r2.rcells
          go_region
          obtain ⟨hbF, hrF⟩ := r2.done (n : Int) (n : Int) 1
          generalize (((W2.setCell ⟨w.heap.size + 1, 0, none⟩ (.int .i64 (n : Int))).setCell ⟨w.heap.size + 1, 1, none⟩ (.int .i64 (n : Int))).setCell ⟨w.heap.size + 1, 2, none⟩ (.int .i64 1)) = WF at *
          have d0 : WF.drew.cell? ⟨w.heap.size + 1, 0, none⟩ = some (.int .i64 (n : Int)) := cell_of_row WF _ 0 _ _ _ hrF
          have d1 : WF.drew.cell? ⟨w.heap.size + 1, 1, none⟩ = some (.int .i64 (n : Int)) := cell_of_row WF _ 1 _ _ _ hrF
          have d2 : WF.drew.cell? ⟨w.heap.size + 1, 2, none⟩ = some (.int .i64 1) := cell_of_row WF _ 2 _ _ _ hrF
          go_wp2_with fail
          refine bodyPost_ret (v := .tuple #[.agg #[.int .i64 (n : Int), .int .i64 (n : Int), .int .i64 1], .bool true]) (by simp [results, Tryz.results111, go_sem, d0, d1, d2]) rfl ⟨?_, hbF.drew⟩
          rw [HI.out, HG.out, HE2.out]
          rfl
        · have HE2 := Lib.hid (show EN = _ from by rw [HE.out, if_neg hst, if_neg (by decide), hn])
          clear HE hst
          go_enter Tryz.func111, Tryz.ntmps111
          go_wp2_with fail
          with_reducible refine H1.out.mono ?_
          rintro e w1 ⟨rfl, n1, rfl⟩
          clear H1
          go_wp2_with fail
          with_reducible refine (H2.out n1).mono ?_
          rintro e w1 ⟨rfl, n2, rfl⟩
          clear H2
          have r := RD.start w k (n1 + n2)
          obtain ⟨a0, a1, a2, a3, a4, a5, a6, a7, a8⟩ := r.cells
          have HQ := Lib.hid (HTK.out _ _ _ _ _ r sp HL.out.2.2.1)
          go_wp2_with fail
          generalize (((((w.alloc (.cells #[.int .i64 (k : Int)] 3)).alloc (.cells #[.int .i64 0, .int .i64 0, .int .i64 0] 152)).drewN (n1 + n2)).alloc (.cells #[.bool true] 4)).alloc (.cells #[.int .i64 0, .int .i64 0, .int .i64 1] 152)) = W at *
          with_reducible refine HQ.out.mono ?_
          rintro e W1 ⟨rfl, r1⟩
          simp only [ba_list, hn, Option.isSome_some, Bool.and_true, Option.getD_some] at r1 ⊢
          have HN := Lib.hid hn
          clear hn HQ r a0 a1 a2 a3 a4 a5 a6 a7 a8
          obtain ⟨a0, a1, a2, a3, a4, a5, a6, a7, a8⟩ := r1.cells
          go_wp2_with fail
          have r2 := ((r1.setFirst n).setLast n).setGood false
          change RD w k _ _ _ _ (((W1.setCell ⟨w.heap.size + 1 + 1 + 1, 0, none⟩ (.int .i64 (n : Int))).setCell ⟨w.heap.size + 1 + 1 + 1, 1, none⟩ (.int .i64 (n : Int))).setCell ⟨w.heap.size + 1 + 1, 0, none⟩ (.bool false)) at r2
          generalize (((W1.setCell ⟨w.heap.size + 1 + 1 + 1, 0, none⟩ (.int .i64 (n : Int))).setCell ⟨w.heap.size + 1 + 1 + 1, 1, none⟩ (.int .i64 (n : Int))).setCell ⟨w.heap.size + 1 + 1, 0, none⟩ (.bool false)) = W2 at r2 ⊢
          clear r1 a0 a1 a2 a3 a4 a5 a6 a7 a8
          obtain ⟨a0, a1, a2, a3, a4, a5, a6, a7, a8⟩ := r2.cells
          with_reducible refine (HTK.out _ _ _ _ _ r2 st HL.out.2.2.2).mono ?_
          rintro e W3 ⟨rfl, r3⟩
          simp only [ba_list] at r3 ⊢
          clear r2 a0 a1 a2 a3 a4 a5 a6 a7 a8
          obtain ⟨a0, a1, a2, a3, a4, a5, a6, a7, a8⟩ := r3.cells
          go_wp2_with fail
          have r4 := r3.setStep ((Fld.number k st).getD 0)
          change RD w k _ _ _ _ (W3.setCell ⟨w.heap.size + 1 + 1 + 1, 2, none⟩ (.int .i64 (((Fld.number k st).getD 0 : Nat) : Int))) at r4
          generalize W3.setCell ⟨w.heap.size + 1 + 1 + 1, 2, none⟩ (.int .i64 (((Fld.number k st).getD 0 : Nat) : Int)) = W4 at r4 ⊢
          clear r3 a0 a1 a2 a3 a4 a5 a6 a7 a8
          obtain ⟨a0, a1, a2, a3, a4, a5, a6, a7, a8⟩ := r4.cells
          obtain ⟨b0, b1, b2, b3, b4, b5⟩ := r4.rcells
          go_region
          obtain ⟨hbF, hrF⟩ := r4.done (n : Int) (n : Int) (((Fld.number k st).getD 0 : Nat) : Int)
          generalize (((W4.setCell ⟨w.heap.size + 1, 0, none⟩ (.int .i64 (n : Int))).setCell ⟨w.heap.size + 1, 1, none⟩ (.int .i64 (n : Int))).setCell ⟨w.heap.size + 1, 2, none⟩ (.int .i64 (((Fld.number k st).getD 0 : Nat) : Int))) = WF at *
          have d0 : WF.drew.cell? ⟨w.heap.size + 1, 0, none⟩ = some (.int .i64 (n : Int)) := cell_of_row WF _ 0 _ _ _ hrF
          have d1 : WF.drew.cell? ⟨w.heap.size + 1, 1, none⟩ = some (.int .i64 (n : Int)) := cell_of_row WF _ 1 _ _ _ hrF
          have d2 : WF.drew.cell? ⟨w.heap.size + 1, 2, none⟩ = some (.int .i64 (((Fld.number k st).getD 0 : Nat) : Int)) := cell_of_row WF _ 2 _ _ _ hrF
          go_wp2_with fail
          refine bodyPost_ret (v := .tuple #[.agg #[.int .i64 (n : Int), .int .i64 (n : Int), .int .i64 (((Fld.number k st).getD 0 : Nat) : Int)], .bool false]) (by simp [results, Tryz.results111, go_sem, d0, d1, d2]) rfl ⟨?_, hbF.drew⟩
          rw [HI.out, HG.out, HE2.out]
          rfl
    · cases sd
      · have HE2 := Lib.hid (show EN = _ from by rw [HE.out, if_neg hst, if_pos rfl])
        clear HE hst
        go_enter Tryz.func111, Tryz.ntmps111
        go_wp2_with fail
        with_reducible refine H1.out.mono ?_
        rintro e w1 ⟨rfl, n1, rfl⟩
        clear H1
        go_wp2_with fail
        with_reducible refine (H2.out n1).mono ?_
        rintro e w1 ⟨rfl, n2, rfl⟩
        clear H2
        have r := RD.start w k (n1 + n2)
        obtain ⟨a0, a1, a2, a3, a4, a5, a6, a7, a8⟩ := r.cells
        have HQ := Lib.hid (HTK.out _ _ _ _ _ r le HL.out.1)
        go_wp2_with fail
        generalize (((((w.alloc (.cells #[.int .i64 (k : Int)] 3)).alloc (.cells #[.int .i64 0, .int .i64 0, .int .i64 0] 152)).drewN (n1 + n2)).alloc (.cells #[.bool true] 4)).alloc (.cells #[.int .i64 0, .int .i64 0, .int .i64 1] 152)) = W at *
        with_reducible refine HQ.out.mono ?_
        rintro e W1 ⟨rfl, r1⟩
        simp only [ba_list, Bool.true_and] at r1 ⊢
        clear HQ r a0 a1 a2 a3 a4 a5 a6 a7 a8
        obtain ⟨a0, a1, a2, a3, a4, a5, a6, a7, a8⟩ := r1.cells
        go_wp2_with fail
        with_reducible refine (HTK.out _ _ _ _ _ r1 ri HL.out.2.1).mono ?_
        rintro e W2 ⟨rfl, r2⟩
        simp only [ba_list] at r2 ⊢
        clear r1 a0 a1 a2 a3 a4 a5 a6 a7 a8
        obtain ⟨a0, a1, a2, a3, a4, a5, a6, a7, a8⟩ := r2.cells
        go_wp2_with fail
        have r9 := (r2.setFirst ((Fld.number k le).getD 0)).setLast ((Fld.number k ri).getD 0)
        change RD w k _ _ _ _ ((W2.setCell ⟨w.heap.size + 1 + 1 + 1, 0, none⟩ (.int .i64 (((Fld.number k le).getD 0 : Nat) : Int))).setCell ⟨w.heap.size + 1 + 1 + 1, 1, none⟩ (.int .i64 (((Fld.number k ri).getD 0 : Nat) : Int))) at r9
        generalize ((W2.setCell ⟨w.heap.size + 1 + 1 + 1, 0, none⟩ (.int .i64 (((Fld.number k le).getD 0 : Nat) : Int))).setCell ⟨w.heap.size + 1 + 1 + 1, 1, none⟩ (.int .i64 (((Fld.number k ri).getD 0 : Nat) : Int))) = WX at r9 ⊢
        clear r2 a0 a1 a2 a3 a4 a5 a6 a7 a8
        obtain ⟨a0, a1, a2, a3, a4, a5, a6, a7, a8⟩ := r9.cells
        obtain ⟨b0, b1, b2, b3, b4, b5⟩ := r9.rcells
        go_region
        obtain ⟨hbF, hrF⟩ := r9.done (((Fld.number k le).getD 0 : Nat) : Int) (((Fld.number k ri).getD 0 : Nat) : Int) 1
        generalize (((WX.setCell ⟨w.heap.size + 1, 0, none⟩ (.int .i64 (((Fld.number k le).getD 0 : Nat) : Int))).setCell ⟨w.heap.size + 1, 1, none⟩ (.int .i64 (((Fld.number k ri).getD 0 : Nat) : Int))).setCell ⟨w.heap.size + 1, 2, none⟩ (.int .i64 1)) = WF at *
        have d0 : WF.drew.cell? ⟨w.heap.size + 1, 0, none⟩ = some (.int .i64 (((Fld.number k le).getD 0 : Nat) : Int)) := cell_of_row WF _ 0 _ _ _ hrF
        have d1 : WF.drew.cell? ⟨w.heap.size + 1, 1, none⟩ = some (.int .i64 (((Fld.number k ri).getD 0 : Nat) : Int)) := cell_of_row WF _ 1 _ _ _ hrF
        have d2 : WF.drew.cell? ⟨w.heap.size + 1, 2, none⟩ = some (.int .i64 1) := cell_of_row WF _ 2 _ _ _ hrF
        go_wp2_with fail
        refine bodyPost_ret (v := .tuple #[.agg #[.int .i64 (((Fld.number k le).getD 0 : Nat) : Int), .int .i64 (((Fld.number k ri).getD 0 : Nat) : Int), .int .i64 1], .bool ((Fld.number k le).isSome && (Fld.number k ri).isSome)]) (by simp [results, Tryz.results111, go_sem, d0, d1, d2]) rfl ⟨?_, hbF.drew⟩
        rw [HI.out, HG.out, HE2.out]
        rfl
      · have HE2 := Lib.hid (show EN = _ from by rw [HE.out, if_neg hst, if_pos rfl])
        clear HE hst
        go_enter Tryz.func111, Tryz.ntmps111
        go_wp2_with fail
        with_reducible refine H1.out.mono ?_
        rintro e w1 ⟨rfl, n1, rfl⟩
        clear H1
        go_wp2_with fail
        with_reducible refine (H2.out n1).mono ?_
        rintro e w1 ⟨rfl, n2, rfl⟩
        clear H2
        have r := RD.start w k (n1 + n2)
        obtain ⟨a0, a1, a2, a3, a4, a5, a6, a7, a8⟩ := r.cells
        have HQ := Lib.hid (HTK.out _ _ _ _ _ r le HL.out.1)
        go_wp2_with fail
        generalize (((((w.alloc (.cells #[.int .i64 (k : Int)] 3)).alloc (.cells #[.int .i64 0, .int .i64 0, .int .i64 0] 152)).drewN (n1 + n2)).alloc (.cells #[.bool true] 4)).alloc (.cells #[.int .i64 0, .int .i64 0, .int .i64 1] 152)) = W at *
        with_reducible refine HQ.out.mono ?_
        rintro e W1 ⟨rfl, r1⟩
        simp only [ba_list, Bool.true_and] at r1 ⊢
        clear HQ r a0 a1 a2 a3 a4 a5 a6 a7 a8
        obtain ⟨a0, a1, a2, a3, a4, a5, a6, a7, a8⟩ := r1.cells
        go_wp2_with fail
        with_reducible refine (HTK.out _ _ _ _ _ r1 ri HL.out.2.1).mono ?_
        rintro e W2 ⟨rfl, r2⟩
        simp only [ba_list] at r2 ⊢
        clear r1 a0 a1 a2 a3 a4 a5 a6 a7 a8
        obtain ⟨a0, a1, a2, a3, a4, a5, a6, a7, a8⟩ := r2.cells
        go_wp2_with fail
        have r9 := (r2.setFirst ((Fld.number k le).getD 0)).setLast ((Fld.number k ri).getD 0)
        change RD w k _ _ _ _ ((W2.setCell ⟨w.heap.size + 1 + 1 + 1, 0, none⟩ (.int .i64 (((Fld.number k le).getD 0 : Nat) : Int))).setCell ⟨w.heap.size + 1 + 1 + 1, 1, none⟩ (.int .i64 (((Fld.number k ri).getD 0 : Nat) : Int))) at r9
        generalize ((W2.setCell ⟨w.heap.size + 1 + 1 + 1, 0, none⟩ (.int .i64 (((Fld.number k le).getD 0 : Nat) : Int))).setCell ⟨w.heap.size + 1 + 1 + 1, 1, none⟩ (.int .i64 (((Fld.number k ri).getD 0 : Nat) : Int))) = WX at r9 ⊢
        clear r2 a0 a1 a2 a3 a4 a5 a6 a7 a8
        obtain ⟨a0, a1, a2, a3, a4, a5, a6, a7, a8⟩ := r9.cells
        with_reducible refine (HTK.out _ _ _ _ _ r9 st HL.out.2.2.2).mono ?_
        rintro e W3 ⟨rfl, r3⟩
        simp only [ba_list] at r3 ⊢
        clear r9 a0 a1 a2 a3 a4 a5 a6 a7 a8
        obtain ⟨a0, a1, a2, a3, a4, a5, a6, a7, a8⟩ := r3.cells
        go_wp2_with fail
        have r4 := r3.setStep ((Fld.number k st).getD 0)
        change RD w k _ _ _ _ (W3.setCell ⟨w.heap.size + 1 + 1 + 1, 2, none⟩ (.int .i64 (((Fld.number k st).getD 0 : Nat) : Int))) at r4
        generalize W3.setCell ⟨w.heap.size + 1 + 1 + 1, 2, none⟩ (.int .i64 (((Fld.number k st).getD 0 : Nat) : Int)) = W4 at r4 ⊢
        clear r3 a0 a1 a2 a3 a4 a5 a6 a7 a8
        obtain ⟨a0, a1, a2, a3, a4, a5, a6, a7, a8⟩ := r4.cells
        obtain ⟨b0, b1, b2, b3, b4, b5⟩ := r4.rcells
        go_region
        obtain ⟨hbF, hrF⟩ := r4.done (((Fld.number k le).getD 0 : Nat) : Int) (((Fld.number k ri).getD 0 : Nat) : Int) (((Fld.number k st).getD 0 : Nat) : Int)
        generalize (((W4.setCell ⟨w.heap.size + 1, 0, none⟩ (.int .i64 (((Fld.number k le).getD 0 : Nat) : Int))).setCell ⟨w.heap.size + 1, 1, none⟩ (.int .i64 (((Fld.number k ri).getD 0 : Nat) : Int))).setCell ⟨w.heap.size + 1, 2, none⟩ (.int .i64 (((Fld.number k st).getD 0 : Nat) : Int))) = WF at *
        have d0 : WF.drew.cell? ⟨w.heap.size + 1, 0, none⟩ = some (.int .i64 (((Fld.number k le).getD 0 : Nat) : Int)) := cell_of_row WF _ 0 _ _ _ hrF
        have d1 : WF.drew.cell? ⟨w.heap.size + 1, 1, none⟩ = some (.int .i64 (((Fld.number k ri).getD 0 : Nat) : Int)) := cell_of_row WF _ 1 _ _ _ hrF
        have d2 : WF.drew.cell? ⟨w.heap.size + 1, 2, none⟩ = some (.int .i64 (((Fld.number k st).getD 0 : Nat) : Int)) := cell_of_row WF _ 2 _ _ _ hrF
        go_wp2_with fail
        refine bodyPost_ret (v := .tuple #[.agg #[.int .i64 (((Fld.number k le).getD 0 : Nat) : Int), .int .i64 (((Fld.number k ri).getD 0 : Nat) : Int), .int .i64 (((Fld.number k st).getD 0 : Nat) : Int)], .bool (((Fld.number k le).isSome && (Fld.number k ri).isSome) && (Fld.number k st).isSome)]) (by simp [results, Tryz.results111, go_sem, d0, d1, d2]) rfl ⟨?_, hbF.drew⟩
        rw [HI.out, HG.out, HE2.out]
        rfl
end Go.Proofs.YtpbnjibomdilhaaGreatDoor
