/- What lies in the world when a call begins; a segment's name and its number, by the contracts of number and name. -/
import Derived.Test.YtmfemedcjgeheaaGreatDoorErrs
import Derived.Test.YtmfemedcjgeheaaGreatDoorShelf
import Derived.Test.YtmfemedcjgeheaaGreatDoorWalN
import Derived.Lib.LaidTab
import Derived.Lib.Hide
import Derived.BigQuiet
import Derived.Deep.QuietTactic
import Derived.Lib.AppendIntMem
import Derived.RegionTactic
import Derived.BigRegion
namespace Go.Proofs.YtmfemedcjgeheaaGreatDoor
open Go.RowKit Dsk Wl

theorem lt_of_cell {w : World} {a : Addr} {v : Value} (hc : w.cell? a = some v) : a.block < w.heap.size := by
  rcases Nat.lt_or_ge a.block w.heap.size with h' | h'
  · exact h'
  · simp [World.cell?, Array.getElem?_eq_none h'] at hc

theorem gPow : Tryz.prog.globalNamed "internal/strconv.uint64pow10" = some 2 := by kernel_rfl
/-- what the calls read of the package-level variables, all below the block B -/
structure Tabs (B : Nat) (w : World) : Prop where
  lo : 3 ≤ B
  syn : ∃ a, w.cell? ⟨0, 0, none⟩ = some (.iface 227 (.pointer (some a)))
  pow : Lib.TabIs Tryz.prog w "internal/strconv.uint64pow10" .u64 Lib.pow10Tab
theorem Tabs.below {B : Nat} {w w' : World} (h : Tabs B w) (hb : Below B w w') : Tabs B w' where
  lo := h.lo
  syn := by
    obtain ⟨a, ha⟩ := h.syn
    exact ⟨a, (hb.cell (show (⟨0, 0, none⟩ : Addr).block < B from Nat.lt_of_lt_of_le (by decide) h.lo)).trans ha⟩
  pow := by
    have hp := h.pow
    unfold Lib.TabIs World.var? at *
    rw [gPow] at *
    simp only [Option.bind_some] at *
    rw [hb.block 2 (Nat.lt_of_lt_of_le (by decide) h.lo)]
    exact hp

theorem str_append (a b : List UInt8) : (⟨a.toArray⟩ : ByteArray) ++ ⟨b.toArray⟩ = ⟨(a ++ b).toArray⟩ := by
  have h : ((⟨a.toArray⟩ : ByteArray) ++ ⟨b.toArray⟩).data = a.toArray ++ b.toArray := ByteArray.data_append
  generalize (⟨a.toArray⟩ : ByteArray) ++ ⟨b.toArray⟩ = x at h
  cases x
  simp only [] at h
  subst h
  simp
theorem str_size (l : List UInt8) : (⟨l.toArray⟩ : ByteArray).size = l.length := by show l.toArray.size = _; simp

theorem dot_prefix (n : Name) : Lib.hasPrefix n dot = decide (n.take 4 = dot) := by
  unfold Lib.hasPrefix
  rw [Bool.eq_iff_iff, decide_eq_true_eq, List.isPrefixOf_iff_prefix, List.prefix_iff_eq_take]
  exact ⟨fun h => h.symm, fun h => h.symm⟩

set_option maxRecDepth 100000 in
set_option maxHeartbeats 1000000 in
theorem number_yes (n : Name) (k : Nat) (w : World) (h : numOf n = some k) :
    Calls Tryz.prog 84 #[.string ⟨n.toArray⟩] w fun e w' => e = .returned (.tuple #[.int .i64 (k : Int), .nilIface]) ∧ Below w.heap.size w w' := by
  obtain ⟨rfl, hk1, hk2⟩ := name_num h
  have hcut := Tryz.strings_CutPrefix ⟨(nameOf k).toArray⟩ ⟨#[108, 111, 103, 46]⟩ w
  have hpar := fun W => Tryz.strconv_ParseUint_10_at32_ok ⟨(digs 8 k).toArray⟩ (by rw [str_size, digs_len]; decide) k (by
    show Lib.parseUintB 32 (digs 8 k) = _
    have hne : digs 8 k ≠ [] := fun e => by have := digs_len 8 k; rw [e] at this; cases this
    rw [Lib.parseUintB, if_neg hne]
    have h1 := parse_digits (digs 8 k) 0 (digs_all 8 k) (by rw [digs_len]; decide)
    rw [show (2 ^ 32 - 1 : Nat) = 4294967295 from rfl, h1]
    show Lib.NumEnd.ok (Wl.valOf (digs 8 k)) = _
    rw [val_digs 8 k (by omega)]) W
  have e1 : Lib.hasPrefix (nameOf k) dot = true := by rw [dot_prefix]; rfl
  have e2 : Lib.trimPrefix (nameOf k) dot = digs 8 k := by unfold Lib.trimPrefix; rw [e1]; rfl
  change Calls _ _ _ _ (fun e w' => e = .returned (.tuple #[.string ⟨(Lib.trimPrefix (nameOf k) dot).toArray⟩, .bool (Lib.hasPrefix (nameOf k) dot)]) ∧ w' = w) at hcut
  rw [e1, e2] at hcut
  have hsz : (⟨(digs 8 k).toArray⟩ : ByteArray).size = 8 := by rw [str_size, digs_len]
  have hk0 : decide ((k : Int) = 0) = false := by simp; omega
  generalize (⟨(digs 8 k).toArray⟩ : ByteArray) = S at *
  generalize nameOf k = n at *
  have HC := Lib.hid hcut
  have HP := Lib.hid hpar
  clear hcut hpar e1 e2 h
  go_enter Tryz.func84, Tryz.ntmps84
  go_wp2_with fail
  refine HC.out.mono ?_
  rintro e w1 ⟨rfl, rfl⟩
  go_wp2_with fail
  refine (HP.out _).mono ?_
  rintro e w2 ⟨rfl, hw⟩
  go_wp2
  go_ret2
  refine ⟨rfl, ?_⟩
  rcases hw with rfl | rfl
  · exact Below.refl _ _
  · exact Lib.bytesWorld_below _ _ _

theorem many_drew (w : World) (n : Nat) : Below w.heap.size w (w.drewN n) := ⟨rfl, rfl, rfl, Nat.le_refl _, fun _ _ => rfl⟩
theorem all_false {l : List UInt8} (h : ¬ l.all isDig = true) : l.all isDig = false := by simpa using h

set_option maxRecDepth 100000 in
set_option maxHeartbeats 1000000 in
/-- no segment's name, told by its beginning or its length -/
theorem number_other (n : Name) (a : Addr) (b : Bool) (S : ByteArray) (w : World) (hc : w.cell? ⟨0, 0, none⟩ = some (.iface 227 (.pointer (some a))))
    (hcut : Hid (Calls Tryz.prog 99 #[.string ⟨n.toArray⟩, .string ⟨#[108, 111, 103, 46]⟩] w fun e w' => e = .returned (.tuple #[.string S, .bool b]) ∧ w' = w)) (h : b = false ∨ ((S.size : Int) == 8) = false) :
    Calls Tryz.prog 84 #[.string ⟨n.toArray⟩] w fun e w' => e = .returned (.tuple #[.int .i64 0, .iface 227 (.pointer (some a))]) ∧ Below w.heap.size w w' := by
  cases b
  · clear h
    go_enter Tryz.func84, Tryz.ntmps84
    go_wp2_with fail
    refine hcut.out.mono ?_
    rintro e w1 ⟨rfl, rfl⟩
    go_wp2
    go_quiet (fail)
    go_wp2
    go_ret2
    exact ⟨rfl, many_drew _ _⟩
  · have h8 : ((S.size : Int) == 8) = false := by simpa using h
    clear h
    go_enter Tryz.func84, Tryz.ntmps84
    go_wp2_with fail
    refine hcut.out.mono ?_
    rintro e w1 ⟨rfl, rfl⟩
    go_wp2
    go_quiet (fail)
    go_wp2
    go_ret2
    exact ⟨rfl, many_drew _ _⟩

set_option maxRecDepth 100000 in
set_option maxHeartbeats 1000000 in
/-- no segment's name, told by its digits: 0, whatever ParseUint tells beside it -/
theorem number_zero (n : Name) (a : Addr) (S : ByteArray) (w : World) (hc : w.cell? ⟨0, 0, none⟩ = some (.iface 227 (.pointer (some a))))
    (hcut : Hid (Calls Tryz.prog 99 #[.string ⟨n.toArray⟩, .string ⟨#[108, 111, 103, 46]⟩] w fun e w' => e = .returned (.tuple #[.string S, .bool true]) ∧ w' = w)) (h8 : S.size = 8)
    (hpar : Hid (Calls Tryz.prog 100 #[.string S, .int .i64 10, .int .i64 32] w fun e w' => (∃ x, e = .returned (.tuple #[.int .u64 0, x])) ∧ Below w.heap.size w w')) :
    Calls Tryz.prog 84 #[.string ⟨n.toArray⟩] w fun e w' => e = .returned (.tuple #[.int .i64 0, .iface 227 (.pointer (some a))]) ∧ Below w.heap.size w w' := by
  go_enter Tryz.func84, Tryz.ntmps84
  go_wp2_with fail
  refine hcut.out.mono ?_
  rintro e w1 ⟨rfl, rfl⟩
  go_wp2_with fail
  refine hpar.out.mono ?_
  rintro e w2 ⟨⟨x, rfl⟩, hb⟩
  have hc2 := (hb.cell (lt_of_cell hc)).trans hc
  go_wp2
  go_quiet (fail)
  go_wp2
  go_ret2
  exact ⟨rfl, hb.trans ((many_drew _ _).mono hb.size)⟩

theorem number_no (n : Name) (a : Addr) (w : World) (hl : n.length ≤ 100) (h : numOf n = none) (hc : w.cell? ⟨0, 0, none⟩ = some (.iface 227 (.pointer (some a)))) :
    Calls Tryz.prog 84 #[.string ⟨n.toArray⟩] w fun e w' => e = .returned (.tuple #[.int .i64 0, .iface 227 (.pointer (some a))]) ∧ Below w.heap.size w w' := by
  have hcut := Tryz.strings_CutPrefix ⟨n.toArray⟩ ⟨#[108, 111, 103, 46]⟩ w
  change Calls _ _ _ _ (fun e w' => e = .returned (.tuple #[.string ⟨(Lib.trimPrefix n dot).toArray⟩, .bool (Lib.hasPrefix n dot)]) ∧ w' = w) at hcut
  by_cases h4 : n.take 4 = dot
  · have e1 : Lib.hasPrefix n dot = true := by rw [dot_prefix, h4]; rfl
    have e2 : Lib.trimPrefix n dot = n.drop 4 := by unfold Lib.trimPrefix; rw [e1]; rfl
    rw [e1, e2] at hcut
    by_cases h12 : n.length = 12
    · refine number_zero n a _ w hc (Lib.hid hcut) (by rw [str_size, List.length_drop]; omega) (Lib.hid ?_)
      have hne : n.drop 4 ≠ [] := fun e => by have := congrArg List.length e; rw [List.length_drop] at this; simp at this; omega
      have h32 : ∀ r, Lib.parseUintB 32 (n.drop 4) = r ↔ Lib.parseUintM 4294967295 0 (n.drop 4) = r := fun r => by rw [Lib.parseUintB, if_neg hne]
      by_cases hd : (n.drop 4).all isDig = true
      · have hv : Wl.valOf (n.drop 4) = 0 := by
          by_cases hv : Wl.valOf (n.drop 4) = 0
          · exact hv
          · unfold numOf at h
            rw [if_pos ⟨h4, h12, hd, hv⟩] at h
            cases h
        have hp := parse_digits (n.drop 4) 0 hd (by rw [List.length_drop, h12]; decide)
        rw [show valGo 0 (n.drop 4) = 0 from hv] at hp
        refine (Tryz.strconv_ParseUint_10_at32_ok ⟨(n.drop 4).toArray⟩ (by rw [str_size, List.length_drop]; omega) 0 ((h32 _).2 hp) w).mono ?_
        rintro e w' ⟨rfl, hw⟩
        refine ⟨⟨_, rfl⟩, ?_⟩
        rcases hw with rfl | rfl
        · exact Below.refl _ _
        · exact Lib.bytesWorld_below _ _ _
      · obtain ⟨p1, p2⟩ := parse_other (n.drop 4) 0 (all_false hd) (by rw [List.length_drop, h12]; decide)
        refine (Tryz.strconv_ParseUint_10_at32_bad ⟨(n.drop 4).toArray⟩ (by rw [str_size, List.length_drop]; omega) (fun m hm => p1 m ((h32 _).1 hm)) (fun hm => p2 ((h32 _).1 hm)) _ w hc (.inr ⟨_, _, rfl⟩)).mono ?_
        rintro e w' ⟨N, rfl, _, _, hb⟩
        exact ⟨⟨_, rfl⟩, hb⟩
    · refine number_other n a _ _ w hc (Lib.hid hcut) (.inr ?_)
      rw [str_size, List.length_drop]
      have hle : 4 ≤ n.length := by
        have := congrArg List.length h4
        rw [List.length_take] at this
        simp [dot] at this
        omega
      rw [beq_eq_false_iff_ne]
      omega
  · have e1 : Lib.hasPrefix n dot = false := by rw [dot_prefix]; exact decide_eq_false h4
    rw [e1] at hcut
    exact number_other n a _ _ w hc (Lib.hid hcut) (.inl rfl)

theorem repeat_zero : ∀ c : Nat, Lib.repeatL [48] c = List.replicate c 48
  | 0 => rfl
  | c + 1 => by
    rw [List.replicate_succ, ← repeat_zero c]
    rfl

theorem digs_zero : ∀ w : Nat, digs w 0 = List.replicate w 48
  | 0 => rfl
  | w + 1 => by
    rw [digs, show 0 / 10 = 0 from rfl, digs_zero w, List.replicate_succ']
    rfl

theorem digs_dec (w : Nat) : ∀ n : Nat, n < 10 ^ (w + 1) → digs (w + 1) n = List.replicate (w + 1 - (Lib.decDigits n).length) 48 ++ Lib.decDigits n ∧ (Lib.decDigits n).length ≤ w + 1 ∧ 1 ≤ (Lib.decDigits n).length := by
  induction w with
  | zero =>
    intro n h
    have h : n < 10 := by simpa using h
    rw [Lib.decDigits_one h]
    simp [digs, Nat.mod_eq_of_lt h]
  | succ w ih =>
    intro n h
    by_cases h10 : n < 10
    · rw [Lib.decDigits_one h10, digs, Nat.div_eq_of_lt h10, digs_zero, Nat.mod_eq_of_lt h10]
      refine ⟨?_, by simp, by simp⟩
      simp
    · have h1 : n / 10 < 10 ^ (w + 1) := by
        rw [Nat.pow_succ 10 (w + 1)] at h
        exact Nat.div_lt_of_lt_mul (by rw [Nat.mul_comm]; exact h)
      obtain ⟨i1, i2, i3⟩ := ih (n / 10) h1
      rw [Lib.decDigits, dif_neg h10, digs, i1]
      refine ⟨?_, by simp; omega, by simp⟩
      rw [List.append_assoc, List.length_append]
      congr 2
      simp

set_option maxRecDepth 100000 in
set_option maxHeartbeats 1000000 in
theorem name_any (B k : Nat) (x y z u : Value) (w : World) (hk : k ≤ 99999999) (ht : Tabs B w) (hB : B ≤ w.heap.size) :
    Calls Tryz.prog 50 #[.agg #[.int .i64 (k : Int), x, y, z, u]] w fun e w' => e = .returned (.string ⟨(nameOf k).toArray⟩) ∧ Below w.heap.size w w' := by
  obtain ⟨d1, d2, d3⟩ := digs_dec 7 k (by omega)
  obtain ⟨D, hD⟩ : ∃ D, D = Lib.decDigits k := ⟨_, rfl⟩
  rw [← hD] at d1 d2 d3
  have hit : ∀ W : World, Below B w W → Calls Tryz.prog 86 #[.int .i64 (k : Int)] W fun e w' => e = .returned (.string ⟨D.toArray⟩) ∧ Below W.heap.size W w' := fun W hb => by
    refine (Tryz.strconv_Itoa k (by omega) (by omega) W (ht.below hb).pow).mono ?_
    rintro e w' ⟨rfl, n, os, rfl⟩
    rw [Lib.itoa_nonneg, ← hD]
    exact ⟨rfl, Lib.below_grow _ W (Nat.le_refl _) n os⟩
  have hrep : ∀ W : World, Calls Tryz.prog 87 #[.string ⟨#[48]⟩, .int .i64 (8 - (D.length : Int))] W fun e w' => e = .returned (.string ⟨(List.replicate (8 - D.length) 48).toArray⟩) ∧ Below W.heap.size W w' := fun W => by
    have h := Tryz.strings_Repeat ⟨#[48]⟩ (8 - D.length) W (by omega) (by
      rw [show (⟨#[48]⟩ : ByteArray).size = 1 from rfl]
      omega)
    rw [show (8 - (D.length : Int)) = ((8 - D.length : Nat) : Int) by omega, ← repeat_zero]
    exact h
  have hsz : (⟨D.toArray⟩ : ByteArray).size = D.length := str_size D
  have hsz2 : (⟨(List.replicate (8 - D.length) (48 : UInt8)).toArray⟩ : ByteArray).size = 8 - D.length := by rw [str_size, List.length_replicate]
  have HN : Hid ((⟨#[108, 111, 103, 46]⟩ : ByteArray) ++ ⟨Array.replicate (8 - D.length) 48⟩ ++ ⟨D.toArray⟩ = ⟨(nameOf k).toArray⟩) := by
    have h1 : (⟨#[108, 111, 103, 46]⟩ : ByteArray) ++ ⟨(List.replicate (8 - D.length) (48 : UInt8)).toArray⟩ = ⟨(dot ++ List.replicate (8 - D.length) (48 : UInt8)).toArray⟩ := str_append dot _
    rw [List.toArray_replicate] at h1
    refine Lib.hid ?_
    rw [h1, str_append, nameOf, d1, List.append_assoc]
  have HI := Lib.hid hit
  have HR := Lib.hid hrep
  have hw1 : Below w.heap.size w (w.alloc (.cells #[.int .i64 (k : Int), x, y, z, u] 75)) := (Below.refl _ _).alloc (Nat.le_refl _) _
  have HT := Lib.hid (hw1.mono hB)
  clear hit hrep hD d1
  go_enter Tryz.func50, Tryz.ntmps50
  go_wp2_with fail
  refine (HI.out _ HT.out).mono ?_
  rintro e w2 ⟨rfl, hb2⟩
  go_wp2_with fail
  refine (HR.out _).mono ?_
  rintro e w3 ⟨rfl, hb3⟩
  go_wp2
  go_ret
  have hs2 := hb2.size
  have hs0 : w.heap.size ≤ w2.heap.size := Nat.le_trans (by simp) hs2
  exact ⟨congrArg (fun z => Ending.returned (Value.string z)) HN.out, ((Below.refl _ _).alloc (Nat.le_refl _) _).trans ((hb2.mono (by simp)).trans (hb3.mono hs0))⟩

end Go.Proofs.YtmfemedcjgeheaaGreatDoor
