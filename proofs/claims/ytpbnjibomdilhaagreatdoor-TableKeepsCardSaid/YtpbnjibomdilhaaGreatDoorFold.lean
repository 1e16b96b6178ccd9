/- unicode.SimpleFold at the letters that names have; strings.EqualFold at three bytes of which one is none of ASCII's. -/
import Derived.Test.YtpbnjibomdilhaaGreatDoorMaa
import Derived.ScopeJumps
import Derived.LoopN
import Derived.Handy
import Derived.WalkMore
import Derived.Laws.RangeAny
import Derived.Laws.RangeString
import Derived.Lib.QuoteLoop
import Derived.Lib.RuneCount
import Derived.Deep.LoopGhost
namespace Go.Proofs.YtpbnjibomdilhaaGreatDoor
open Go.RowKit

section
variable {P : Program} {a : Act} {w : World} {Q : Exit → Act → World → Prop}
/-- as Q; by a goto to label l: K; by any other goto: no way out -/
def hop (l : Nat) (K : Act → World → Prop) (Q : Exit → Act → World → Prop) : Exit → Act → World → Prop
  | .goto l', a, w => l' = l ∧ K a w
  | e, a, w => Q e a w
/-- a scope in which the run jumps once, or not at all -/
theorem wp_scope_hop {c rest : Code} (l : Nat) (hf : findLabel c l = some rest) (h : c.wp P (hop l (fun a' w' => rest.wp P (Exit.noGoto Q) a' w') Q) a w) : (Code.scope c).wp P Q a w := by
  intro b k cs
  have hg : gotoIn l (.inScope c :: k) = some (.code rest :: .inScope c :: k) := by simp [gotoIn, hf]
  obtain ⟨e, a₁, w₁, hq, harr⟩ := h b (.inScope c :: k) cs
  cases e with
  | normal => exact ⟨.normal, a₁, w₁, hq, .head step_scope (Steps.trans harr (.one step_inScope))⟩
  | exit id => exact ⟨.exit id, a₁, w₁, hq, fun k' hk => .head step_scope (harr k' (by simp [exitTo, hk]))⟩
  | goto l' =>
    obtain ⟨rfl, hJ⟩ := hq
    obtain ⟨e₂, a₂, w₂, hq₂, harr₂⟩ := hJ b (.inScope c :: k) cs
    cases e₂ with
    | normal => exact ⟨.normal, a₂, w₂, hq₂, .head step_scope (Steps.trans (harr _ hg) (Steps.trans harr₂ (.one step_inScope)))⟩
    | exit id => exact ⟨.exit id, a₂, w₂, hq₂, fun k' hk => .head step_scope (Steps.trans (harr _ hg) (harr₂ k' (by simp [exitTo, hk])))⟩
    | goto l => exact hq₂.elim
    | ret => exact ⟨_, a₂, w₂, hq₂, .of_steps (.head step_scope (harr _ hg)) harr₂⟩
    | panic ch => exact ⟨_, a₂, w₂, hq₂, .of_steps (.head step_scope (harr _ hg)) harr₂⟩
    | outgrown => exact ⟨_, a₂, w₂, hq₂, .of_steps (.head step_scope (harr _ hg)) harr₂⟩
  | ret => exact ⟨_, a₁, w₁, hq, .of_steps (.one step_scope) harr⟩
  | panic ch => exact ⟨_, a₁, w₁, hq, .of_steps (.one step_scope) harr⟩
  | outgrown => exact ⟨_, a₁, w₁, hq, .of_steps (.one step_scope) harr⟩
end

set_option maxRecDepth 100000 in
theorem sf_ascii (c d : Nat) (w : World) (hc : c < 128) (h : w.cell? ⟨6, c, none⟩ = some (.int .u16 (d : Int))) (hd : d < 65536) : Calls Tryz.prog 136 #[.int .i32 (c : Int)] w fun e w' => e = .returned (.int .i32 (d : Int)) ∧ w = w' := by
  have g0 : decide ((c : Int) < 0) = false := by simp
  have g1 : decide ((1114111 : Int) < (c : Int)) = false := by simp; omega
  have g2 : decide ((c : Int) < 128) = true := by simp; omega
  go_enter Tryz.func136, Tryz.ntmps136
  go_wp2_with fail
  go_ret
  exact ⟨rfl, rfl⟩
set_option maxRecDepth 100000 in
theorem sf_long (w : World) (hw : Tabs w) : Calls Tryz.prog 136 #[.int .i32 383] w fun e w' => e = .returned (.int .i32 83) ∧ w = w' := by
  obtain ⟨b, o, c, h0, hc, h1, h2, h3, h4, h5, h6, h7, h8⟩ := hw.orb
  clear hw
  go_enter Tryz.func136, Tryz.ntmps136
  go_wp2_with fail
  refine wp_loop_rounds 8 ?_
  repeat (rw [rounds_succ]; go_wp2_with fail)
  go_ret
  exact ⟨rfl, rfl⟩
/-- what a letter is folded to, and that again -/
theorem sf_down (c : Nat) (w : World) (hw : Tabs w) (h1 : 97 ≤ c) (h2 : c ≤ 122) (h3 : c ≠ 107) (h4 : c ≠ 115) : Calls Tryz.prog 136 #[.int .i32 (c : Int)] w fun e w' => e = .returned (.int .i32 ((c : Int) - 32)) ∧ w = w' := by
  have := sf_ascii c (c - 32) w (by omega) (by rw [hw.asc c h1 h2 h3 h4]; congr 2; omega) (by omega)
  rw [show ((c - 32 : Nat) : Int) = (c : Int) - 32 by omega] at this
  exact this
theorem sf_up (c : Nat) (w : World) (hw : Tabs w) (h1 : 97 ≤ c) (h2 : c ≤ 122) (h3 : c ≠ 107) (h4 : c ≠ 115) : Calls Tryz.prog 136 #[.int .i32 ((c : Int) - 32)] w fun e w' => e = .returned (.int .i32 (c : Int)) ∧ w = w' := by
  have := sf_ascii (c - 32) c w (by omega) (by rw [hw.asc2 (c - 32) (by omega) (by omega) (by omega) (by omega)]; congr 2; omega) (by omega)
  rw [show ((c - 32 : Nat) : Int) = (c : Int) - 32 by omega] at this
  exact this
theorem sf_s (w : World) (hw : Tabs w) : Calls Tryz.prog 136 #[.int .i32 115] w fun e w' => e = .returned (.int .i32 383) ∧ w = w' := sf_ascii 115 383 w (by decide) hw.ess.1 (by decide)
theorem sf_S (w : World) (hw : Tabs w) : Calls Tryz.prog 136 #[.int .i32 83] w fun e w' => e = .returned (.int .i32 115) ∧ w = w' := sf_ascii 83 115 w (by decide) hw.ess.2 (by decide)

/-! what a decoder tells of bytes of which the first one is none of ASCII's -/
theorem decode_room (s : ByteArray) (h : 0 < s.size) : (Lib.decodeGo s).2 ≤ s.size ∧ 1 ≤ (Lib.decodeGo s).2 := by
  unfold Lib.decodeGo
  rw [if_neg (by omega)]
  exact ⟨Lib.width_le s h, Lib.decode_width_pos s 0 h⟩
theorem decode_far (s : ByteArray) (h : 0 < s.size) (ha : 128 ≤ (s[0]'h).toNat) : 128 ≤ (Lib.decodeGo s).1 := by
  unfold Lib.decodeGo
  rw [if_neg (by omega)]
  exact (decode_high s 0 h ha).1

theorem code383 (n b0 b1 b2 b3 : Nat) : (Lib.decodeN n b0 b1 b2 b3).1 = 383 → (Lib.decodeN n b0 b1 b2 b3).2 = 2 := by
  unfold Lib.decodeN
  by_cases h1 : b0 < 128
  · rw [if_pos h1]; intro h; simp only at h; omega
  rw [if_neg h1]
  by_cases h2 : b0 / 32 = 6 ∧ (1 < n ∧ b1 / 64 = 2)
  · rw [if_pos h2]
    split
    · intro _; rfl
    · intro h; simp only at h; omega
  rw [if_neg h2]
  split
  · split
    · rename_i h3; intro h; simp only at h; rw [h] at h3; omega
    · intro h; simp only at h; omega
  · split
    · split
      · rename_i h3; intro h; simp only at h; rw [h] at h3; omega
      · intro h; simp only at h; omega
    · intro h; simp only at h; omega
/-- an iterator that is one step on -/
def stepIter (W : World) (B : Nat) (s : ByteArray) (p : Nat) : World := { W with heap := W.heap.setIfInBounds B (.stringIter s p) }
theorem next_at {P : Program} (W : World) (B : Nat) (s : ByteArray) (pos : Nat) (ty : TypeId) (hB : W.heap[B]? = some (.stringIter s pos)) (h : pos < s.size) (ha : (s[pos]'h).toNat < 128) :
    (Instr.next (.pointer (some ⟨B, 0, none⟩)) true ty).run P W = .ok (.tuple #[.bool true, .int .i64 pos, .int .i32 (s[pos]'h).toNat]) (stepIter W B s (pos + 1)) := by
  simp only [Instr.next, getObj, setObj, Sem.run_bind, Sem.run, hB, Result.andThen, h, if_true, decode_ascii s pos h ha]
  simp [goInt, stepIter]
theorem step_below {n : Nat} {w W : World} {B : Nat} {s : ByteArray} {p : Nat} (hb : Below n w W) (hB : n ≤ B) : Below n w (stepIter W B s p) :=
  ⟨hb.os, hb.tape, hb.output, by simpa [stepIter] using hb.size, fun k hk => by
    rw [← hb.block k hk]
    simp only [stepIter]
    rw [Array.getElem?_setIfInBounds_ne (by omega)]⟩
theorem step_here {W : World} {B : Nat} {s : ByteArray} {p : Nat} (h : B < W.heap.size) : (stepIter W B s p).heap[B]? = some (.stringIter s p) := by
  simp [stepIter, h]
/-- the loop of all three bytes: as far as all are ASCII's -/
structure Bad (N s : ByteArray) (J : Nat) : Prop where
  hN : N.size = 3
  hs : s.size = 3
  hJ : J < 3
  ha : ∀ j (h : j < s.size), j < J → (s[j]'h).toNat < 128
  hb : ∀ (h : J < s.size), 128 ≤ (s[J]'h).toNat
  hn : ∀ j (h : j < N.size), 97 ≤ (N[j]'h).toNat ∧ (N[j]'h).toNat ≤ 122 ∧ (N[j]'h).toNat ≠ 107
  h1 : ∀ j (h : j < N.size), 1 ≤ j → (N[j]'h).toNat ≠ 115

set_option maxHeartbeats 2000000 in
set_option maxRecDepth 100000 in
theorem fold_bad (N s : ByteArray) (J : Nat) (w : World) (hw : TabsOn w) (h : Bad N s J) : Calls Tryz.prog 129 #[.string N, .string s] w fun e w' => e = .returned (.bool false) ∧ Below w.heap.size w w' := by
  have HN := h.hN
  have HS := h.hs
  have HJ := h.hJ
  have HB := Lib.hid h
  clear h
  go_enter Tryz.func129, Tryz.ntmps129
  go_wp2_with fail
  refine wp_scope_hop 0 rfl ?_
  go_wp2_with fail
  go_loopg [5] J (fun g s5 wx => w = wx ∧ ∃ i : Nat, i + g = J ∧ s5 = .int .i64 i)
  case atStart => exact ⟨rfl, 0, by omega, rfl⟩
  case round =>
    obtain ⟨rfl, i, hig, rfl⟩ := hrel
    have hiN : i < N.size := by omega
    have hiS : i < s.size := by omega
    have hiM : (i : Int) < 3 := by omega
    obtain ⟨x, hx⟩ : ∃ x : UInt8, N[i]'hiN = x := ⟨_, rfl⟩
    obtain ⟨y, hy⟩ : ∃ y : UInt8, s[i]'hiS = y := ⟨_, rfl⟩
    have hxr := HB.out.hn i hiN
    rw [hx] at hxr
    have hor : bits .or .u8 (x.toNat : Int) (y.toNat : Int) = ((x.toNat ||| y.toNat : Nat) : Int) := u8_or_nat _ _ (by omega) (by have := y.toNat_lt; omega)
    cases gk with
    | zero =>
      obtain rfl : i = J := by omega
      have hy128 := HB.out.hb hiS
      rw [hy] at hy128
      have hor128 : (128 : Int) ≤ ((x.toNat ||| y.toNat : Nat) : Int) := by
        have : y.toNat ≤ x.toNat ||| y.toNat := Nat.right_le_or
        omega
      go_wp2_with fail
      go_step3
      refine ⟨rfl, ?_⟩
      clear hor hor128
      go_wp2_with fail
      have hgN : ∀ h0, (N.extract i 3)[0]'h0 = x := fun h0 => by rw [← hx, ByteArray.getElem_extract]; simp
      have hgS : ∀ h0, (s.extract i 3)[0]'h0 = y := fun h0 => by rw [← hy, ByteArray.getElem_extract]; simp
      have hzN : (N.extract i 3).size = 3 - i := by rw [ByteArray.size_extract]; omega
      have hzS : (s.extract i 3).size = 3 - i := by rw [ByteArray.size_extract]; omega
      have hs0 : x.toNat = 115 → i = 0 := fun e => by
        rcases Nat.eq_zero_or_pos i with h | h
        · exact h
        · exact absurd (by rw [hx]; exact e) (HB.out.h1 i hiN h)
      have hmore : i = 0 → ∀ j, 1 ≤ j → ∀ h0 : j < (N.extract i 3).size, 97 ≤ ((N.extract i 3)[j]'h0).toNat ∧ ((N.extract i 3)[j]'h0).toNat ≤ 122 ∧ ((N.extract i 3)[j]'h0).toNat ≠ 107 ∧ ((N.extract i 3)[j]'h0).toNat ≠ 115 := fun hi j hj h0 => by
        have hjN : j < N.size := by rw [ByteArray.size_extract] at h0; omega
        have e : (N.extract i 3)[j]'h0 = N[j]'hjN := by rw [ByteArray.getElem_extract]; simp [hi]
        rw [e]
        exact ⟨(HB.out.hn j hjN).1, (HB.out.hn j hjN).2.1, (HB.out.hn j hjN).2.2, HB.out.h1 j hjN hj⟩
      have HM := Lib.hid hmore
      clear hmore
      generalize N.extract i 3 = N1 at *
      generalize s.extract i 3 = s1 at *
      have HX := Lib.hid hx
      have HY := Lib.hid hy
      clear hx hy
      have h0N : 0 < N1.size := by omega
      have h0S : 0 < s1.size := by omega
      have hr := decode_room s1 h0S
      have hf := decode_far s1 h0S (by rw [hgS]; exact hy128)
      have hbI : Below w.heap.size w (w.iter N1 1) := (Below.refl _ _).alloc (Nat.le_refl _) _
      have HD := Lib.hid (Tryz.utf8_DecodeRuneInString s1 (w.iter N1 1) (hw.on hbI).utf)
      have h383 : (Lib.decodeGo s1).1 = 383 → (Lib.decodeGo s1).2 = 2 := by
        unfold Lib.decodeGo
        rw [if_neg (by omega), Lib.decode_at]
        exact code383 _ _ _ _ _
      obtain ⟨R, hR⟩ : ∃ R, (Lib.decodeGo s1).1 = R := ⟨_, rfl⟩
      obtain ⟨K, hK⟩ : ∃ K, (Lib.decodeGo s1).2 = K := ⟨_, rfl⟩
      rw [hR, hK] at HD h383
      rw [hR] at hf
      rw [hK] at hr
      clear hR hK
      obtain ⟨c, hc⟩ : ∃ c, x.toNat = c := ⟨_, rfl⟩
      rw [hc] at hxr hs0
      have hnx : ∀ ty, (Instr.next (.pointer (some ⟨w.heap.size, 0, none⟩)) true ty).run Tryz.prog (w.iter N1 0) = .ok (.tuple #[.bool true, .int .i64 (0 : Nat), .int .i32 (c : Nat)]) (w.iter N1 1) := fun ty => by
        have := run_next_ascii (P := Tryz.prog) w N1 0 ty h0N (by rw [hgN]; omega)
        rw [hgN, hc] at this
        exact this
      clear hgN hgS hc
      have gR0 : decide ((R : Int) < 128) = false := by simp; omega
      have gR1 : ((R : Int) == (c : Int)) = false := by rw [beq_eq_false_iff_ne]; omega
      have gR2 : decide ((R : Int) < (c : Int)) = false := by simp; omega
      have gz : ((s1.size : Int) == 0) = false := by rw [beq_eq_false_iff_ne]; omega
      refine wp_loop_rounds 4 ?_
      rw [rounds_succ]
      go_wp2_with fail
      with_reducible refine HD.out.mono ?_
      rintro e w1 ⟨rfl, hb1⟩
      have hb2 := hbI.trans (hb1.mono hbI.size)
      have HT := Lib.hid (hw.on hb2)
      have HI := Lib.hid ((hb1.block w.heap.size (by show _ < (w.heap.push _).size; simp)).trans (World.iter_heap w N1 1))
      clear hnx hbI hb1
      by_cases h115 : c = 115
      · obtain rfl : i = 0 := hs0 h115
        subst h115
        have gR1 : ((R : Int) == 115) = false := by rw [beq_eq_false_iff_ne]; omega
        have gR2 : decide ((R : Int) < 115) = false := by simp; omega
        go_wp2_with fail
        with_reducible refine (sf_s _ HT.out).mono ?_
        rintro e w2 ⟨rfl, rfl⟩
        rcases Nat.lt_trichotomy R 383 with hlt | heq | hgt
        · have gA : decide ((383 : Int) < (R : Int)) = false := by simp; omega
          have gB : ((383 : Int) == (R : Int)) = false := by rw [beq_eq_false_iff_ne]; omega
          go_wp2_with fail
          refine wp_loop_rounds 1 ?_
          rw [rounds_succ]
          go_wp2_with fail
          simp only [Exit.noGoto]
          go_ret
          exact ⟨rfl, hb2⟩
        · subst heq
          obtain rfl : K = 2 := h383 rfl
          go_wp2_with fail
          refine wp_loop_rounds 1 ?_
          rw [rounds_succ]
          go_wp2_with fail
          have h1N : 1 < N1.size := by omega
          have h2N : 2 < N1.size := by omega
          have hd := HM.out trivial 1 (by omega) h1N
          have he := HM.out trivial 2 (by omega) h2N
          have hnx : ∀ ty, (Instr.next (.pointer (some ⟨w.heap.size, 0, none⟩)) true ty).run Tryz.prog w1 = .ok (.tuple #[.bool true, .int .i64 (1 : Nat), .int .i32 ((N1[1]'h1N).toNat : Nat)]) (stepIter w1 w.heap.size N1 2) := fun ty => next_at (P := Tryz.prog) w1 w.heap.size N1 1 ty HI.out h1N (by omega)
          have hb3 : Below w.heap.size w (stepIter w1 w.heap.size N1 2) := step_below hb2 (Nat.le_refl _)
          have HI2 := Lib.hid (step_here (s := N1) (p := 2) (lt_of_block HI.out))
          generalize stepIter w1 w.heap.size N1 2 = w2 at hnx hb3 HI2
          generalize (N1[1]'h1N).toNat = d at hnx hd
          rw [rounds_succ]
          have hz2 : (s1.extract 2 3).size = 1 := by rw [ByteArray.size_extract]; omega
          generalize s1.extract 2 3 = s2 at *
          have gz2 : ((s2.size : Int) == 0) = false := by rw [beq_eq_false_iff_ne]; omega
          go_wp2_with fail
          have hr2 := decode_room s2 (by omega)
          have HT2 := Lib.hid (hw.on hb3)
          have HD2 := Lib.hid (Tryz.utf8_DecodeRuneInString s2 w2 HT2.out.utf)
          have hlow : (Lib.decodeGo s2).2 = 1 := by omega
          generalize (Lib.decodeGo s2).1 = R at HD2
          rw [hlow] at HD2
          clear hlow hr2
          with_reducible refine HD2.out.mono ?_
          rintro e w3 ⟨rfl, hb4⟩
          have hb5 := hb3.trans (hb4.mono hb3.size)
          have HT3 := Lib.hid (hw.on hb5)
          have HI3 := Lib.hid ((hb4.block w.heap.size (lt_of_block HI2.out)).trans HI2.out)
          clear hnx hb4 hb3 HT2 HD2 HI2
          have hnx : ∀ ty, (Instr.next (.pointer (some ⟨w.heap.size, 0, none⟩)) true ty).run Tryz.prog w3 = .ok (.tuple #[.bool true, .int .i64 (2 : Nat), .int .i32 ((N1[2]'h2N).toNat : Nat)]) (stepIter w3 w.heap.size N1 3) := fun ty => next_at (P := Tryz.prog) w3 w.heap.size N1 2 ty HI3.out h2N (by omega)
          have hb6 : Below w.heap.size w (stepIter w3 w.heap.size N1 3) := step_below hb5 (Nat.le_refl _)
          generalize stepIter w3 w.heap.size N1 3 = w4 at hnx hb6
          generalize (N1[2]'h2N).toNat = e at hnx he
          have hz3 : (s2.extract 1 1).size = 0 := by rw [ByteArray.size_extract]; omega
          generalize s2.extract 1 1 = s3 at *
          have gz3 : ((s3.size : Int) == 0) = true := by rw [beq_iff_eq]; omega
          have gd1 : decide ((65 : Int) ≤ (d : Int)) = true := by simp; omega
          have gd2 : decide ((d : Int) ≤ 90) = false := by simp; omega
          rcases Nat.lt_trichotomy R d with hlt | heq | hgt
          · have gE : ((R : Int) == (d : Int)) = false := by rw [beq_eq_false_iff_ne]; omega
            have gL : decide ((R : Int) < (d : Int)) = true := by simp; omega
            have gM : decide ((d : Int) < 128) = true := by simp; omega
            go_wp2_with fail
            all_goals first
              | (go_ret; exact ⟨rfl, hb5⟩)
              | (simp only [Exit.noGoto]; go_ret; exact ⟨rfl, hb5⟩)
              | (rw [rounds_succ]; go_wp2_with fail; go_ret; exact ⟨rfl, hb6⟩)
              | (rw [rounds_succ]; go_wp2_with fail; simp only [Exit.noGoto]; go_ret; exact ⟨rfl, hb6⟩)
          · subst heq
            go_wp2_with fail
            all_goals first
              | (go_ret; exact ⟨rfl, hb5⟩)
              | (simp only [Exit.noGoto]; go_ret; exact ⟨rfl, hb5⟩)
              | (rw [rounds_succ]; go_wp2_with fail; go_ret; exact ⟨rfl, hb6⟩)
              | (rw [rounds_succ]; go_wp2_with fail; simp only [Exit.noGoto]; go_ret; exact ⟨rfl, hb6⟩)
          · have gE : ((R : Int) == (d : Int)) = false := by rw [beq_eq_false_iff_ne]; omega
            have gL : decide ((R : Int) < (d : Int)) = false := by simp; omega
            by_cases h128 : R < 128
            · have gM : decide ((R : Int) < 128) = true := by simp; omega
              go_wp2_with fail
              simp only [Exit.noGoto]; go_ret; exact ⟨rfl, hb5⟩
            · have gM : decide ((R : Int) < 128) = false := by simp; omega
              go_wp2_with fail
              with_reducible refine (sf_down d _ HT3.out hd.1 hd.2.1 hd.2.2.1 hd.2.2.2).mono ?_
              rintro e w5 ⟨rfl, rfl⟩
              have gA : (((d : Int) - 32) == (d : Int)) = false := by simp; omega
              have gB : decide (((d : Int) - 32) < (R : Int)) = true := by simp; omega
              go_wp2_with fail
              refine wp_loop_rounds 2 ?_
              rw [rounds_succ]
              go_wp2_with fail
              with_reducible refine (sf_up d _ HT3.out hd.1 hd.2.1 hd.2.2.1 hd.2.2.2).mono ?_
              rintro e w5 ⟨rfl, rfl⟩
              go_wp2_with fail
              rw [rounds_succ]
              go_wp2_with fail
              simp only [Exit.noGoto]
              go_ret
              exact ⟨rfl, hb5⟩
        · have gA : decide ((383 : Int) < (R : Int)) = true := by simp; omega
          have gC : decide ((83 : Int) < (R : Int)) = true := by simp; omega
          have gB : ((115 : Int) == (R : Int)) = false := by rw [beq_eq_false_iff_ne]; omega
          go_wp2_with fail
          refine wp_loop_rounds 3 ?_
          rw [rounds_succ]
          go_wp2_with fail
          with_reducible refine (sf_long _ HT.out).mono ?_
          rintro e w2 ⟨rfl, rfl⟩
          go_wp2_with fail
          rw [rounds_succ]
          go_wp2_with fail
          with_reducible refine (sf_S _ HT.out).mono ?_
          rintro e w2 ⟨rfl, rfl⟩
          go_wp2_with fail
          rw [rounds_succ]
          go_wp2_with fail
          simp only [Exit.noGoto]
          go_ret
          exact ⟨rfl, hb2⟩
      · go_wp2_with fail
        with_reducible refine (sf_down c _ HT.out hxr.1 hxr.2.1 hxr.2.2 h115).mono ?_
        rintro e w2 ⟨rfl, rfl⟩
        have gA : (((c : Int) - 32) == (c : Int)) = false := by simp; omega
        have gB : decide (((c : Int) - 32) < (R : Int)) = true := by simp; omega
        go_wp2_with fail
        refine wp_loop_rounds 2 ?_
        rw [rounds_succ]
        go_wp2_with fail
        with_reducible refine (sf_up c _ HT.out hxr.1 hxr.2.1 hxr.2.2 h115).mono ?_
        rintro e w2 ⟨rfl, rfl⟩
        go_wp2_with fail
        rw [rounds_succ]
        go_wp2_with fail
        simp only [Exit.noGoto]
        go_ret
        exact ⟨rfl, hb2⟩
    | succ g =>
      have hy128 := HB.out.ha i hiS (by omega)
      rw [hy] at hy128
      have hor128 : ¬ ((128 : Int) ≤ ((x.toNat ||| y.toNat : Nat) : Int)) := by have := Nat.or_lt_two_pow (n := 7) (show x.toNat < 2 ^ 7 by omega) (show y.toNat < 2 ^ 7 by omega); omega
      go_wp2_with fail
      all_goals first
        | (go_roundg g
           case measure => omega
           case rel => exact ⟨rfl, i + 1, by omega, by first | rfl | simp⟩)
        | (simp only [hop]; go_ret
           exact ⟨rfl, Below.refl _ _⟩)
end Go.Proofs.YtpbnjibomdilhaaGreatDoor
