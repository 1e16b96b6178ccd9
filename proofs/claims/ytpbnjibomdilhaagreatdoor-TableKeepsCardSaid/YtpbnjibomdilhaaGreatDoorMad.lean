/- field.number, by its contract. field.within, field.read and its closure, by their contracts. -/
import Derived.Test.YtpbnjibomdilhaaGreatDoorFold
import Derived.Lib.AtoiErrMem
namespace Go.Proofs.YtpbnjibomdilhaaGreatDoor
open Go.RowKit

theorem name_is : ∀ (k : Fin 5) (i : Fin 12), (Fld.names k.val).getD i.val [] = [] ∨ (((Fld.names k.val).getD i.val []).length = 3 ∧ (∀ j : Fin 3, 97 ≤ (((Fld.names k.val).getD i.val []).getD j.val 0).toNat ∧ (((Fld.names k.val).getD i.val []).getD j.val 0).toNat ≤ 122 ∧ (((Fld.names k.val).getD i.val []).getD j.val 0).toNat ≠ 107 ∧ (1 ≤ j.val → (((Fld.names k.val).getD i.val []).getD j.val 0).toNat ≠ 115))) := by decide
theorem name_ascii : ∀ (k : Fin 5) (i : Fin 12), ∀ b ∈ (Fld.names k.val).getD i.val [], b.toNat < 128 := by decide
theorem ba_get (l : List UInt8) (j : Nat) (h : j < (ba l).size) : (ba l)[j]'h = l.getD j 0 := by
  have h' : j < l.length := by rw [ba_size] at h; exact h
  rw [List.getD, List.getElem?_eq_getElem h']
  rfl
theorem get_list (s : ByteArray) (j : Nat) (h : j < s.size) : s[j]'h = s.data.toList.getD j 0 := by
  have := Lib.data_getElem? s j h
  rw [List.getD, this]; rfl
theorem all_get {l : List UInt8} (hl : l.length = 3) : (l.all fun b => decide (b.toNat < 128)) = (decide ((l.getD 0 0).toNat < 128) && (decide ((l.getD 1 0).toNat < 128) && decide ((l.getD 2 0).toNat < 128))) := by
  match l, hl with
  | [a, b, c], _ => simp
set_option maxRecDepth 100000 in
theorem fold_none (s : ByteArray) (hs : s.size = 3) (w : World) : Calls Tryz.prog 129 #[.string (ba []), .string s] w fun e w' => e = .returned (.bool false) ∧ w = w' := by
  have h0 : (ba []).size = 0 := rfl
  generalize ba [] = N at h0 ⊢
  go_enter Tryz.func129, Tryz.ntmps129
  go_wp2_with fail
  go_step3
  go_wp2_with fail
  refine wp_loop_rounds 1 ?_
  rw [rounds_succ]
  go_wp2_with fail
  simp only [Exit.noGoto]
  go_ret
  exact ⟨rfl, rfl⟩
theorem fold_any (k i : Nat) (hk : k ≤ 4) (hi : i < 12) (s : ByteArray) (hs : s.size = 3) (w : World) (hw : TabsOn w) : Calls Tryz.prog 129 #[.string (ba ((Fld.names k).getD i [])), .string s] w fun e w' => e = .returned (.bool (Fld.fold ((Fld.names k).getD i []) s.data.toList)) ∧ Below w.heap.size w w' := by
  have hnm := name_is ⟨k, by omega⟩ ⟨i, hi⟩
  have hna := name_ascii ⟨k, by omega⟩ ⟨i, hi⟩
  simp only at hnm hna
  generalize (Fld.names k).getD i [] = n at *
  have hl : s.data.toList.length = 3 := by rw [← Lib.size_eq]; exact hs
  unfold Fld.fold
  cases hall : s.data.toList.all fun b => decide (b.toNat < 128)
  · rw [Bool.false_and]
    rcases hnm with rfl | ⟨h3, hn⟩
    · exact (fold_none s hs w).mono fun e w' ⟨he, hw'⟩ => ⟨he, hw' ▸ Below.refl _ _⟩
    · rw [all_get hl] at hall
      have hN : (ba n).size = 3 := by rw [ba_size]; exact h3
      have key : ∀ J, J < 3 → (∀ j, j < J → (s.data.toList.getD j 0).toNat < 128) → 128 ≤ (s.data.toList.getD J 0).toNat → Calls Tryz.prog 129 #[.string (ba n), .string s] w fun e w' => e = .returned (.bool false) ∧ Below w.heap.size w w' := fun J hJ h1 h2 =>
        fold_bad (ba n) s J w hw ⟨hN, hs, hJ, fun j h hj => by rw [get_list]; exact h1 j hj, fun h => by rw [get_list]; exact h2,
          fun j h => by rw [ba_get]; have := hn ⟨j, by omega⟩; exact ⟨this.1, this.2.1, this.2.2.1⟩, fun j h h1 => by rw [ba_get]; exact (hn ⟨j, by omega⟩).2.2.2 h1⟩
      by_cases a0 : (s.data.toList.getD 0 0).toNat < 128
      · by_cases a1 : (s.data.toList.getD 1 0).toNat < 128
        · have a2 : ¬ (s.data.toList.getD 2 0).toNat < 128 := fun a2 => by
            rw [decide_eq_true a0, decide_eq_true a1, decide_eq_true a2] at hall; simp at hall
          exact key 2 (by omega) (fun j hj => by
            have : j = 0 ∨ j = 1 := by omega
            rcases this with rfl | rfl
            · exact a0
            · exact a1) (by omega)
        · exact key 1 (by omega) (fun j hj => by
            obtain rfl : j = 0 := by omega
            exact a0) (by omega)
      · exact key 0 (by omega) (fun j hj => absurd hj (by omega)) (by omega)
  · rw [Bool.true_and]
    rw [List.all_eq_true] at hall
    refine (Tryz.strings_EqualFold (ba n) s w ?_ ?_ ?_).mono fun e w' ⟨he, hw'⟩ => ⟨by rw [he, ba_list], hw' ▸ Below.refl _ _⟩
    · rw [ba_size]
      rcases hnm with rfl | ⟨h3, _⟩
      · decide
      · omega
    · intro j b hj
      exact hna b (List.mem_of_getElem? hj)
    · intro j b hj
      have := hall b (List.mem_of_getElem? hj)
      simpa using this

/-- what number tells -/
def numOf (o : Option Nat) : Value := .tuple #[.int .i64 ((o.getD 0 : Nat) : Int), .bool o.isSome]

theorem numOf_some (n : Nat) : numOf (some n) = .tuple #[.int .i64 (n : Int), .bool true] := rfl
theorem numOf_none : numOf none = .tuple #[.int .i64 0, .bool false] := rfl
/-- what ParseUint tells -/
def PU (l : List UInt8) (w : World) (e : Ending) (w' : World) : Prop :=
  ((∃ n, Lib.parseUintB 64 l = .ok n ∧ e = .returned (.tuple #[.int .u64 (n : Nat), .nilIface])) ∨
   ((∀ n, Lib.parseUintB 64 l ≠ .ok n) ∧ ∃ (u : Int) (t : TypeId) (p : Option Addr), e = .returned (.tuple #[.int .u64 u, .iface t (.pointer p)]))) ∧ Below w.heap.size w w'
theorem index_twelve (A : Array Value) (i : Nat) (hi : i < 12) (s : ByteArray) (hA : A[i]? = some (.string s)) (w : World) : (Instr.index 171 (.agg A) (.int .i64 (i : Int))).run Tryz.prog w = .ok (.string s) w := by
  simp [Instr.index, run_underlying Tryz.underlying171, asIntOf, hi, hA, go_sem]
theorem two_digits (l : List UInt8) (n : Nat) (h : Lib.parseUintB 64 l = .ok n) (h2 : l.length ≤ 2) : n < 256 := by
  unfold Lib.parseUintB at h
  match l, h2 with
  | [], _ => simp at h
  | [a], _ =>
    simp only [reduceIte, Lib.parseUintM, List.cons_ne_nil] at h
    repeat' split at h
    all_goals first | (cases h; omega) | cases h
  | [a, b], _ =>
    simp only [reduceIte, Lib.parseUintM, List.cons_ne_nil] at h
    repeat' split at h
    all_goals first | (cases h; omega) | cases h
theorem pu_any (s : ByteArray) (hs : s.size ≤ 1000000) (w : World) (hw : Tabs w) : Calls Tryz.prog 130 #[.string s, .int .i64 10, .int .i64 64] w (PU s.data.toList w) := by
  generalize h : Lib.parseUintB 64 s.data.toList = r
  cases r
  · rename_i n
    refine (Tryz.strconv_ParseUint_10_at64_ok s (by omega) n h w).mono fun e w' ⟨he, hw'⟩ => ⟨.inl ⟨n, h, he⟩, ?_⟩
    rcases hw' with rfl | rfl
    · exact Below.refl _ _
    · exact Lib.bytesWorld_below _ _ _
  · obtain ⟨te, pe, hc⟩ := hw.syn
    refine (Tryz.strconv_ParseUint_10_at64_bad s (by omega) (fun n hn => by rw [h] at hn; cases hn) (fun hn => by rw [h] at hn; cases hn) _ w hc (.inr ⟨te, pe, rfl⟩)).mono fun e w' ⟨N, he, _, _, hb⟩ => ⟨.inr ⟨fun n hn => ?_, _, _, _, he⟩, hb⟩
    rw [h] at hn; cases hn
  · obtain ⟨te, pe, hc⟩ := hw.rng
    refine (Tryz.strconv_ParseUint_10_at64_range s (by omega) h _ w hc (.inr ⟨te, pe, rfl⟩)).mono fun e w' ⟨N, he, _, _, hb⟩ => ⟨.inr ⟨fun n hn => ?_, _, _, _, he⟩, hb⟩
    rw [h] at hn; cases hn

set_option maxRecDepth 100000 in
set_option maxHeartbeats 2000000 in
theorem number_loop (k : Nat) (hk : k ≤ 4) (s : ByteArray) (hs : s.size = 3) (nm : Nat → ByteArray) (fd : Nat → Bool) (R : Option Nat) (w : World) (hw : TabsOn w)
    (hcell : ∀ i, i < 12 → w.cell? ⟨2, k * 12 + i, none⟩ = some (.string (nm i)))
    (hF : ∀ i, i < 12 → ∀ W, TabsOn W → Calls Tryz.prog 129 #[.string (nm i), .string s] W fun e w' => e = .returned (.bool (fd i)) ∧ Below W.heap.size W w')
    (hR : ∀ i, i < 12 → fd i = true → (∀ j, j < i → fd j = false) → R = some (Fld.lo k + i))
    (hE : (∀ j, j < 12 → fd j = false) → R = none) :
    Calls Tryz.prog 122 #[.int .i64 (k : Int), .string s] w fun e w' => e = .returned (numOf R) ∧ Below w.heap.size w w' := by
  have HF := Lib.hid hF
  have HR := Lib.hid hR
  have HE := Lib.hid hE
  have HW := Lib.hid hw
  have hlo : Fld.lo k ≤ 1 := (Fld.hi_le hk).2.2.2
  have c0 : w.cell? ⟨2, k * 12, none⟩ = some (.string (nm 0)) := hcell 0 (by omega)
  have c1 := hcell 1 (by omega)
  have c2 := hcell 2 (by omega)
  have c3 := hcell 3 (by omega)
  have c4 := hcell 4 (by omega)
  have c5 := hcell 5 (by omega)
  have c6 := hcell 6 (by omega)
  have c7 := hcell 7 (by omega)
  have c8 := hcell 8 (by omega)
  have c9 := hcell 9 (by omega)
  have c10 := hcell 10 (by omega)
  have c11 := hcell 11 (by omega)
  have hk5 : (k : Int) < 5 := by omega
  clear hF hR hE hw hcell
  go_enter Tryz.func122, Tryz.ntmps122
  go_wp2_with fail
  clear c0 c1 c2 c3 c4 c5 c6 c7 c8 c9 c10 c11
  have hA : ∀ i : Nat, i < 12 → (#[Value.string (nm 0), Value.string (nm 1), Value.string (nm 2), Value.string (nm 3), Value.string (nm 4), Value.string (nm 5), Value.string (nm 6), Value.string (nm 7), Value.string (nm 8), Value.string (nm 9), Value.string (nm 10), Value.string (nm 11)] : Array Value)[i]? = some (.string (nm i)) := by
    intro i hi
    have : i = 0 ∨ i = 1 ∨ i = 2 ∨ i = 3 ∨ i = 4 ∨ i = 5 ∨ i = 6 ∨ i = 7 ∨ i = 8 ∨ i = 9 ∨ i = 10 ∨ i = 11 := by omega
    rcases this with rfl | rfl | rfl | rfl | rfl | rfl | rfl | rfl | rfl | rfl | rfl | rfl <;> rfl
  have hAs : (#[Value.string (nm 0), Value.string (nm 1), Value.string (nm 2), Value.string (nm 3), Value.string (nm 4), Value.string (nm 5), Value.string (nm 6), Value.string (nm 7), Value.string (nm 8), Value.string (nm 9), Value.string (nm 10), Value.string (nm 11)] : Array Value).size = 12 := rfl
  generalize (#[Value.string (nm 0), Value.string (nm 1), Value.string (nm 2), Value.string (nm 3), Value.string (nm 4), Value.string (nm 5), Value.string (nm 6), Value.string (nm 7), Value.string (nm 8), Value.string (nm 9), Value.string (nm 10), Value.string (nm 11)] : Array Value) = A at *
  have HA := Lib.hid hA
  clear hA
  go_loopg [16] 12 (fun g t wx => Below w.heap.size w wx ∧ ∃ i : Nat, i + g = 12 ∧ t = .int .i64 i ∧ ∀ j, j < i → fd j = false)
  case atStart => exact ⟨Below.refl _ _, 0, by omega, rfl, fun j hj => absurd hj (by omega)⟩
  case round =>
    obtain ⟨hb, i, hig, rfl, hno⟩ := hrel
    have HN := Lib.hid hno
    clear hno
    cases gk with
    | zero =>
      obtain rfl : i = 12 := by omega
      have hR := HE.out HN.out
      subst hR
      have HP := Lib.hid (pu_any s (by omega) wr (HW.out.on hb))
      go_wp2_with fail
      with_reducible refine HP.out.mono ?_
      rintro e w1 ⟨he, hb1⟩
      have hb2 := hb.trans (hb1.mono hb.size)
      clear hb hb1 HP
      rcases he with ⟨n, hn, rfl⟩ | ⟨hn, u, t, p, rfl⟩
      · have Hn := Lib.hid hn
        clear hn
        go_wp2_with fail
        go_ret2
        exact ⟨rfl, hb2⟩
      · have Hn := Lib.hid hn
        clear hn
        go_wp2_with fail
        go_ret2
        exact ⟨rfl, hb2⟩
    | succ g =>
      have hi : i < 12 := by omega
      have hi12 : (i : Int) < 12 := by omega
      have hix : ∀ W, (Instr.index 171 (.agg A) (.int .i64 (i : Int))).run Tryz.prog W = .ok (.string (nm i)) W := fun W => index_twelve A i hi (nm i) (HA.out i hi) W
      have hlow := ((HW.out.on hb).low k hk).1
      have HW2 := Lib.hid (HW.out.next hb)
      go_wp2_with fail
      with_reducible refine (HF.out i hi _ HW2.out).mono ?_
      rintro e w1 ⟨rfl, hb1⟩
      have hb2 := hb.trans (hb1.mono hb.size)
      have hl2 := stays hb1 hlow
      clear hix hlow hb hb1
      cases hfd : fd i
      · have HD := Lib.hid hfd
        clear hfd
        go_wp2_with fail
        go_roundg g
        case measure => omega
        case rel => exact ⟨hb2, i + 1, by omega, by first | rfl | simp, fun j hj => by
          by_cases e : j = i
          · rw [e]; exact HD.out
          · exact HN.out j (by omega)⟩
      · have hR := HR.out i hi hfd HN.out
        have HD := Lib.hid hfd
        clear hfd
        subst hR
        go_wp2_with fail
        go_ret2
        exact ⟨by rw [numOf_some, Int.natCast_add]; rfl, hb2⟩

theorem number_name (k : Nat) (hk : k ≤ 4) (s : ByteArray) (hs : s.size = 3) (w : World) (hw : TabsOn w) : Calls Tryz.prog 122 #[.int .i64 (k : Int), .string s] w fun e w' => e = .returned (numOf (Fld.number k s.data.toList)) ∧ Below w.heap.size w w' := by
  have hl : s.data.toList.length = 3 := by rw [← Lib.size_eq]; exact hs
  have hpl : Fld.plainNum s.data.toList = none := by
    unfold Fld.plainNum
    split
    · rw [if_neg (by omega)]
    · rfl
  refine number_loop k hk s hs (fun i => ba ((Fld.names k).getD i [])) (fun i => Fld.fold ((Fld.names k).getD i []) s.data.toList) _ w hw (fun i hi => hw.here.nam k i hk hi) (fun i hi W hW => fold_any k i hk hi s hs W hW) ?_ ?_
  · intro i hi h1 h2
    unfold Fld.number
    rw [Fld.nameAt_some hl hi h1 h2]
  · intro h
    unfold Fld.number
    rw [Fld.nameAt_none h]
    exact hpl

set_option maxRecDepth 100000 in
set_option maxHeartbeats 2000000 in
theorem number_plain (k : Nat) (s : ByteArray) (hs : s.size ≠ 3) (hl : s.size ≤ 1000000) (w : World) (hw : TabsOn w) : Calls Tryz.prog 122 #[.int .i64 (k : Int), .string s] w fun e w' => e = .returned (numOf (Fld.number k s.data.toList)) ∧ Below w.heap.size w w' := by
  have hN : Fld.number k s.data.toList = Fld.plainNum s.data.toList := by
    unfold Fld.number
    rw [Fld.nameAt_not (by rw [← Lib.size_eq]; exact hs)]
  have HN : Hid (Fld.number k s.data.toList = match Lib.parseUintB 64 s.data.toList with | .ok u => if s.size ≤ 2 then some u else none | _ => none) := by
    rw [hN]
    unfold Fld.plainNum
    rw [← Lib.size_eq]
    exact Lib.hid rfl
  generalize Fld.number k s.data.toList = R at *
  have HP := Lib.hid (pu_any s hl w hw.here)
  have g3 : ((s.size : Int) == 3) = false := by rw [beq_eq_false_iff_ne]; omega
  clear hN hw
  go_enter Tryz.func122, Tryz.ntmps122
  go_wp2_with fail
  with_reducible refine HP.out.mono ?_
  rintro e w1 ⟨he, hb2⟩
  clear HP
  rcases he with ⟨n, hn, rfl⟩ | ⟨hn, u, t, p, rfl⟩
  · by_cases h2 : s.size ≤ 2
    · have hnl : n < 256 := two_digits s.data.toList n hn (by rw [← Lib.size_eq]; exact h2)
      have hR := HN.out
      rw [hn] at hR
      simp only [if_pos h2] at hR
      subst hR
      have Hn := Lib.hid hn
      have g4 : decide ((2 : Int) < (s.size : Int)) = false := by simp; omega
      clear hn HN
      go_wp2_with fail
      go_ret2
      exact ⟨rfl, hb2⟩
    · have hR := HN.out
      rw [hn] at hR
      simp only [if_neg h2] at hR
      subst hR
      have Hn := Lib.hid hn
      have g4 : decide ((2 : Int) < (s.size : Int)) = true := by simp; omega
      clear hn HN
      go_wp2_with fail
      go_ret2
      exact ⟨rfl, hb2⟩
  · have hR : R = none := by
      rw [HN.out]
      split
      · rename_i u hu
        exact absurd hu (hn u)
      · rfl
    have Hn := Lib.hid hn
    subst hR
    clear hn HN
    go_wp2_with fail
    go_ret2
    exact ⟨rfl, hb2⟩

theorem number_any (k : Nat) (hk : k ≤ 4) (s : ByteArray) (hl : s.size ≤ 1000000) (w : World) (hw : TabsOn w) : Calls Tryz.prog 122 #[.int .i64 (k : Int), .string s] w fun e w' => e = .returned (numOf (Fld.number k s.data.toList)) ∧ Below w.heap.size w w' := by
  by_cases hs : s.size = 3
  · exact number_name k hk s hs w hw
  · exact number_plain k s hs hl w hw
end Go.Proofs.YtpbnjibomdilhaaGreatDoor

namespace Go.Proofs.YtpbnjibomdilhaaGreatDoor
open Go.RowKit

def itemV (f l s : Nat) : Value := .agg #[.int .i64 (f : Int), .int .i64 (l : Int), .int .i64 (s : Int)]
def iobj (f l s : Nat) : Obj := .cells #[.int .i64 (f : Int), .int .i64 (l : Int), .int .i64 (s : Int)] 152 (0, 0)

theorem within_eq (k f l s : Nat) : Fld.within k ⟨f, l, s⟩ = (decide (Fld.lo k ≤ f) && (decide (f ≤ l) && (decide (l ≤ Fld.top k) && (decide ((1 : Int) ≤ (s : Int)) && decide ((s : Int) ≤ 59))))) := by
  rw [Bool.eq_iff_iff, Fld.within_iff]
  simp only [Bool.and_eq_true, decide_eq_true_eq]
  omega
theorem top_four {k : Nat} (h : k = 4) : Fld.top k = 7 := if_pos h
theorem top_else {k : Nat} (h : k ≠ 4) : Fld.top k = Fld.hi k := if_neg h

set_option maxRecDepth 100000 in
set_option maxHeartbeats 1000000 in
theorem within_any (k f l s : Nat) (hk : k ≤ 4) (w : World) (hw : TabsOn w) : Calls Tryz.prog 112 #[.int .i64 (k : Int), itemV f l s] w fun e w' => e = .returned (.bool (Fld.within k ⟨f, l, s⟩)) ∧ Below w.heap.size w w' := by
  have hbel : Below w.heap.size w (w.alloc (.cells #[.int .i64 (f : Int), .int .i64 (l : Int), .int .i64 (s : Int)] 152)) := (Below.refl _ _).alloc (Nat.le_refl _) _
  have hrow := heap_alloc_new w (.cells #[.int .i64 (f : Int), .int .i64 (l : Int), .int .i64 (s : Int)] 152)
  have c0 := cell_of_row _ w.heap.size 0 _ _ _ hrow
  have c1 := cell_of_row _ w.heap.size 1 _ _ _ hrow
  have c2 := cell_of_row _ w.heap.size 2 _ _ _ hrow
  have hlow := (hw.on hbel).low k hk
  obtain ⟨d0, d1⟩ := hlow
  have hk5 : (k : Int) < 5 := by omega
  have HE := Lib.hid (within_eq k f l s)
  generalize Fld.within k ⟨f, l, s⟩ = R at HE ⊢
  clear hrow hw
  unfold itemV
  have HT4 : k = 4 → Fld.top k = 7 := top_four
  have HT5 : k ≠ 4 → Fld.top k = Fld.hi k := top_else
  obtain ⟨T, hT⟩ : ∃ T, T = Fld.top k := ⟨_, rfl⟩
  rw [← hT] at HE HT4 HT5
  clear hT
  generalize Fld.lo k = L at *
  generalize Fld.hi k = H at *
  by_cases h4 : k = 4
  · obtain rfl : T = 7 := HT4 h4
    have g4 : ((k : Int) == 4) = true := by simp; omega
    clear HT4 HT5 h4
    rcases h0 : decide (L ≤ f) with _ | _
    · have HE2 := Lib.hid (show R = _ from by rw [HE.out, h0])
      clear HE
      go_enter Tryz.func112, Tryz.ntmps112
      go_wp2_with fail
      go_quiet (fail)
      go_wp2_with fail
      go_ret
      exact ⟨by rw [HE2.out]; rfl, many_drew hbel nq⟩
    · rcases h1 : decide (f ≤ l) with _ | _
      · have HE2 := Lib.hid (show R = _ from by rw [HE.out, h0, h1])
        clear HE
        go_enter Tryz.func112, Tryz.ntmps112
        go_wp2_with fail
        go_quiet (fail)
        go_wp2_with fail
        go_ret
        exact ⟨by rw [HE2.out]; rfl, many_drew hbel nq⟩
      · have e7 : decide ((l : Int) ≤ 7) = decide (l ≤ 7) := by simp; omega
        rcases h2 : decide (l ≤ 7) with _ | _
        · have HE2 := Lib.hid (show R = _ from by rw [HE.out, h0, h1, h2])
          clear HE
          go_enter Tryz.func112, Tryz.ntmps112
          go_wp2_with fail
          go_quiet (fail)
          go_wp2_with fail
          go_ret
          exact ⟨by rw [HE2.out]; rfl, many_drew hbel nq⟩
        · rcases h3 : decide ((1 : Int) ≤ (s : Int)) with _ | _
          · have HE2 := Lib.hid (show R = _ from by rw [HE.out, h0, h1, h2, h3])
            clear HE
            go_enter Tryz.func112, Tryz.ntmps112
            go_wp2_with fail
            go_quiet (fail)
            go_wp2_with fail
            go_ret
            exact ⟨by rw [HE2.out]; rfl, many_drew hbel nq⟩
          · rcases h4 : decide ((s : Int) ≤ 59) with _ | _
            · have HE2 := Lib.hid (show R = _ from by rw [HE.out, h0, h1, h2, h3, h4])
              clear HE
              go_enter Tryz.func112, Tryz.ntmps112
              go_wp2_with fail
              go_quiet (fail)
              go_wp2_with fail
              go_ret
              exact ⟨by rw [HE2.out]; rfl, many_drew hbel nq⟩
            · have HE2 := Lib.hid (show R = _ from by rw [HE.out, h0, h1, h2, h3, h4])
              clear HE
              go_enter Tryz.func112, Tryz.ntmps112
              go_wp2_with fail
              go_quiet (fail)
              go_wp2_with fail
              go_ret
              exact ⟨by rw [HE2.out]; rfl, many_drew hbel nq⟩
  · obtain rfl : T = H := HT5 h4
    have g4 : ((k : Int) == 4) = false := by simp; omega
    clear HT4 HT5 h4
    rcases h0 : decide (L ≤ f) with _ | _
    · have HE2 := Lib.hid (show R = _ from by rw [HE.out, h0])
      clear HE
      go_enter Tryz.func112, Tryz.ntmps112
      go_wp2_with fail
      go_quiet (fail)
      go_wp2_with fail
      go_ret
      exact ⟨by rw [HE2.out]; rfl, many_drew hbel nq⟩
    · rcases h1 : decide (f ≤ l) with _ | _
      · have HE2 := Lib.hid (show R = _ from by rw [HE.out, h0, h1])
        clear HE
        go_enter Tryz.func112, Tryz.ntmps112
        go_wp2_with fail
        go_quiet (fail)
        go_wp2_with fail
        go_ret
        exact ⟨by rw [HE2.out]; rfl, many_drew hbel nq⟩
      · rcases h2 : decide (l ≤ T) with _ | _
        · have HE2 := Lib.hid (show R = _ from by rw [HE.out, h0, h1, h2])
          clear HE
          go_enter Tryz.func112, Tryz.ntmps112
          go_wp2_with fail
          go_quiet (fail)
          go_wp2_with fail
          go_ret
          exact ⟨by rw [HE2.out]; rfl, many_drew hbel nq⟩
        · rcases h3 : decide ((1 : Int) ≤ (s : Int)) with _ | _
          · have HE2 := Lib.hid (show R = _ from by rw [HE.out, h0, h1, h2, h3])
            clear HE
            go_enter Tryz.func112, Tryz.ntmps112
            go_wp2_with fail
            go_quiet (fail)
            go_wp2_with fail
            go_ret
            exact ⟨by rw [HE2.out]; rfl, many_drew hbel nq⟩
          · rcases h4 : decide ((s : Int) ≤ 59) with _ | _
            · have HE2 := Lib.hid (show R = _ from by rw [HE.out, h0, h1, h2, h3, h4])
              clear HE
              go_enter Tryz.func112, Tryz.ntmps112
              go_wp2_with fail
              go_quiet (fail)
              go_wp2_with fail
              go_ret
              exact ⟨by rw [HE2.out]; rfl, many_drew hbel nq⟩
            · have HE2 := Lib.hid (show R = _ from by rw [HE.out, h0, h1, h2, h3, h4])
              clear HE
              go_enter Tryz.func112, Tryz.ntmps112
              go_wp2_with fail
              go_quiet (fail)
              go_wp2_with fail
              go_ret
              exact ⟨by rw [HE2.out]; rfl, many_drew hbel nq⟩

/-- what the closure does: the number is told, and whether all was good so far is kept -/
theorem take_any (k : Nat) (hk : k ≤ 4) (s : ByteArray) (hl : s.size ≤ 1000000) (K G : Nat) (g : Bool) (w : World) (hw : TabsOn w) (hK : w.heap[K]? = some (.cells #[.int .i64 (k : Int)] 3 (0, 0))) (hG : w.heap[G]? = some (.cells #[.bool g] 4 (0, 0))) :
    Calls Tryz.prog 121 #[.string s, .pointer (some ⟨K, 0, none⟩), .pointer (some ⟨G, 0, none⟩)] w fun e w' => e = .returned (.int .i64 (((Fld.number k s.data.toList).getD 0 : Nat) : Int)) ∧ ∃ w1, Below w.heap.size w w1 ∧ w' = w1.setCell ⟨G, 0, none⟩ (.bool (g && (Fld.number k s.data.toList).isSome)) := by
  have HN := Lib.hid (number_any k hk s hl w hw)
  have cK := cell_of_row _ K 0 _ _ _ hK
  have HG := Lib.hid hG
  generalize Fld.number k s.data.toList = R at *
  clear hG hw
  go_enter Tryz.func121, Tryz.ntmps121
  go_wp2_with fail
  with_reducible refine HN.out.mono ?_
  rintro e w1 ⟨rfl, hb⟩
  have hG1 := (hb.block G (lt_of_block HG.out)).trans HG.out
  have cG := cell_of_row _ G 0 _ _ _ hG1
  have fG := row_free hG1 0
  unfold numOf
  clear hG1 cK hK
  cases g
  · go_wp2_with fail
    go_ret
    exact ⟨rfl, w1, hb, rfl⟩
  · go_wp2_with fail
    go_ret
    exact ⟨rfl, w1, hb, rfl⟩
end Go.Proofs.YtpbnjibomdilhaaGreatDoor
