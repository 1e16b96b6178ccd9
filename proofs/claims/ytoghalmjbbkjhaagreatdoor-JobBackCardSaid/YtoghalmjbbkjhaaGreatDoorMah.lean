/- A row of bytes that a call itself made: its words over this program. pack.Put, by its contract: the bytes of a number, in a row of the call's own. pack.Join, by its contract: n parts, whatever they are (nil, empty, or rows of bytes), one behind the other, in a row of the call's own. -/
import Derived.Test.YtoghalmjbbkjhaaGreatDoorPNum
import Derived.Test.YtoghalmjbbkjhaaGreatDoorProg
import Derived.WalkKit
import Derived.Lib.Hide
import Derived.Laws.BytesArg
import Derived.Deep.AppendLies
namespace Go.Proofs.YtoghalmjbbkjhaaGreatDoor.Pk
open Go.RowKit

theorem info5 : (Tryz.prog.info? 5).map (fun i => (i.zero, i.size, i.bytes)) = some (some (.int .u8 0), 1, 1) := by kernel_rfl

/-- v holds just the bytes zs, in a block from B on -/
def Row (w : World) (B : Nat) (zs : List Int) (v : Value) : Prop := w.ownsRow B 5 1 v zs.length (zs.map (Value.int .u8))

section
variable {w w' : World} {B : Nat} {zs : List Int} {v : Value}

theorem Row.below (h : Row w B zs v) (hb : Below w.heap.size w w') : Row w' B zs v := by
  refine ⟨h.1, ?_⟩
  rcases h.2 with hn | ⟨g, cap, cur, rfl, hB, hg, rest⟩
  · exact .inl hn
  · exact .inr ⟨g, cap, cur, rfl, hB, (hb.block g (Array.getElem?_eq_some_iff.1 hg).1).trans hg, rest⟩

theorem Row.less {B' : Nat} (h : Row w B zs v) (hB : B' ≤ B) : Row w B' zs v := by
  refine ⟨h.1, ?_⟩
  rcases h.2 with hn | ⟨g, cap, cur, rfl, hb, rest⟩
  · exact .inl hn
  · exact .inr ⟨g, cap, cur, rfl, by omega, rest⟩

theorem Row.is (h : Row w B zs v) (hne : zs ≠ []) :
    ∃ g cap, v = .slice (some ⟨g, 0, none⟩) zs.length cap ∧ B ≤ g ∧ g < w.heap.size ∧ zs.length ≤ cap ∧ cap ≤ maxLen ∧ ∀ i, i < zs.length → w.cell? ⟨g, i, none⟩ = some (.int .u8 (zs.getD i 0)) := by
  rcases h.2 with ⟨_, hn⟩ | ⟨g, cap, cur, rfl, hB, hg, hc, hm, _⟩
  · exact absurd (List.eq_nil_of_length_eq_zero hn) hne
  · refine ⟨g, cap, rfl, hB, (Array.getElem?_eq_some_iff.1 hg).1, hc, hm, fun i hi => ?_⟩
    have h' := h
    unfold Row at h'
    rw [h'.cellAt i (by omega)]
    simp [List.getD, List.getElem?_eq_getElem hi]

/-- 'string(v)', now or later -/
theorem Row.text (h : Row w B zs v) (hb : Below w.heap.size w w') : (convert 32 9 v).run Tryz.prog w' = .ok (.string (strOfNums zs)) w' := by
  have h' := h.below hb
  by_cases hne : zs = []
  · subst hne
    rcases h'.2 with ⟨rfl, _⟩ | ⟨g, cap, cur, rfl, _⟩
    · exact run_convert_bytes_nil w' _ _ Tryz.underlying32 Tryz.underlying5 0 0 _ Tryz.underlying9
    · exact run_convert_bytes_arg w' _ _ Tryz.underlying32 Tryz.underlying5 g 0 0 cap [] rfl (fun i hi => by omega) _ Tryz.underlying9
  · obtain ⟨g, cap, rfl, _, _, _, _, hc⟩ := h'.is hne
    exact run_convert_bytes_arg w' _ _ Tryz.underlying32 Tryz.underlying5 g 0 _ cap zs rfl (fun i hi => by rw [Nat.zero_add]; exact hc i hi) _ Tryz.underlying9

/-- the cells, as an append's source asks for them -/
theorem Row.news (h : Row w B zs v) (hb : Below w.heap.size w w') {g n cap : Nat} (hv : v = .slice (some ⟨g, 0, none⟩) n cap) :
    ∀ j u, (zs.map (Value.int .u8))[j]? = some u → w'.cell? ((⟨g, 0, none⟩ : Addr).add j) = some u := by
  subst hv
  exact (h.below hb).cells (g := g) rfl
end

/-- the one cell of a block that has just been made -/
theorem one_new (w : World) (x : Value) (t : TypeId) : ∀ j u, [x][j]? = some u → (w.alloc (.cells #[x] t)).cell? ((⟨w.heap.size, 0, none⟩ : Addr).add j) = some u := by
  intro j u hj
  match j, hj with
  | 0, hj => simp at hj; subst hj; simp [Addr.add]

/-- a literal of one byte -/
theorem Row.lit1 (w : World) (x : Int) : Row (w.alloc (.cells #[.int .u8 x] 5)) w.heap.size [x] (.slice (some ⟨w.heap.size, 0, none⟩) 1 1) :=
  World.ownsRow_lit w #[.int .u8 x] 1 (Nat.le_refl _) (by unfold maxLen; omega) rfl

end Go.Proofs.YtoghalmjbbkjhaaGreatDoor.Pk

namespace Go.Proofs.YtoghalmjbbkjhaaGreatDoor.Pk
open Go.RowKit

set_option maxRecDepth 100000 in
set_option maxHeartbeats 400000 in
theorem put_any (n : Nat) (hn : n < 18446744073709551616) (w : World) :
    Calls Tryz.prog 24 #[.int .u64 (n : Int)] w fun e w' => ∃ v, e = .returned v ∧ Row w' w.heap.size (Num.put n) v ∧ Below w.heap.size w w' := by
  obtain ⟨i0, hi, hz0, hz1, hz2⟩ := info_parts info5
  go_enter Tryz.func24, Tryz.ntmps24
  go_wp2
  go_loopw [0, 3] (fun x v wr => ∃ (k : Nat) (pre : List Int), k ≤ 9 ∧ x = .int .u64 ((n / 128 ^ k : Nat) : Int) ∧ pre.length = k ∧ Num.put n = pre ++ Num.enc (9 - k) (n / 128 ^ k) ∧
      wr.ownsRow w.heap.size 5 1 v pre.length (pre.map (Value.int .u8)) ∧ Below w.heap.size w wr)
    (fun x _ _ => (intOf x).toNat)
  case atStart => exact ⟨0, [], by omega, by simp, rfl, by simp [Num.put], World.ownsRow_nil _ _ _ _, Below.refl _ _⟩
  case round =>
    obtain ⟨k, pre, hk, rfl, hpl, hput, hown, hbel⟩ := hrel
    have HP := Lib.hid hput
    have HL := Lib.hid hpl
    clear hput hpl
    have hlt : n / 128 ^ k < 18446744073709551616 := Nat.lt_of_le_of_lt (Nat.div_le_self _ _) hn
    obtain ⟨q, hq⟩ : ∃ q, q = n / 128 ^ k := ⟨_, rfl⟩
    rw [← hq] at hlt
    rw [← hq]
    have HQ := Lib.hid hq
    clear hq
    have HN := Lib.hid hn
    clear hn
    have HT := Lib.hid hlt
    clear hlt
    by_cases hb : q < 128
    · go_wp2_with (at_builtin; refine wpList_append_own _ rfl _ _ 32 rfl w.heap.size 5 i0 (.int .u8 0) 1 1 Tryz.underlying32 hi hz0 hz1 hz2 rfl (by decide) _ _ _ rfl (hown.alloc _) ⟨wr.heap.size, 0, none⟩ 1 1 [.int .u8 (q : Int)] rfl rfl (one_new _ _ _) (ints_oneCell .u8 [(q : Int)]) (by have := HL.out; unfold maxLen; omega) (by have := HL.out; omega) (by have := hbel.size; simp; omega) ?_)
      intro v' w1 hown1 hg1 _
      go_wp2
      go_ret
      have hq : Num.put n = pre ++ [(q : Int)] := by rw [HP.out, ← HQ.out, Num.enc_small _ _ hb]
      refine ⟨_, rfl, ?_, ?_⟩
      · rw [hq]; simpa [Row] using hown1
      · exact (hbel.alloc hbel.size _).grown hg1 (by have := hbel.size; simp; omega) (fun k hk => (hown.lt k hk).1)
    · have ha := Num.and127 q (by have := HT.out; omega)
      have ho := Num.or128 q
      go_wp2_with (at_builtin; refine wpList_append_own _ rfl _ _ 32 rfl w.heap.size 5 i0 (.int .u8 0) 1 1 Tryz.underlying32 hi hz0 hz1 hz2 rfl (by decide) _ _ _ rfl (hown.alloc _) ⟨wr.heap.size, 0, none⟩ 1 1 [.int .u8 ((q : Int) % 128 + 128)] rfl rfl (one_new _ _ _) (ints_oneCell .u8 [(q : Int) % 128 + 128]) (by have := HL.out; unfold maxLen; omega) (by have := HL.out; omega) (by have := hbel.size; simp; omega) ?_)
      intro v' w1 hown1 hg1 _
      have hbel1 := (hbel.alloc hbel.size (.cells #[.int .u8 ((q : Int) % 128 + 128)] 5)).grown hg1 (by have := hbel.size; simp; omega) (fun k hk => (hown.lt k hk).1)
      have h9 : k < 9 := by
        rcases Nat.lt_or_ge k 9 with h | h
        · exact h
        · exact absurd (Num.top_small n k h (HN.out)) (by rw [← HQ.out]; exact hb)
      clear ha ho hown hg1 hbel
      go_wp2
      go_roundw
      case rel =>
        refine ⟨k + 1, pre ++ [(q : Int) % 128 + 128], by omega, ?_, by rw [List.length_append, HL.out]; rfl, ?_, by simpa using hown1, hbel1⟩
        · rw [Nat.pow_succ, ← Nat.div_div_eq_div_mul, ← HQ.out]; first | rfl | go_num
        · rw [HP.out, ← HQ.out, Nat.pow_succ, ← Nat.div_div_eq_div_mul, ← HQ.out, show 9 - k = (9 - (k + 1)) + 1 by omega, Num.enc_big _ _ hb]
          simp
      case measure => simp [intOf]; omega

end Go.Proofs.YtoghalmjbbkjhaaGreatDoor.Pk

namespace Go.Proofs.YtoghalmjbbkjhaaGreatDoor.Pk
open Go.RowKit

/-- the first k lists, one behind the other -/
def cat (L : Nat → List Int) : Nat → List Int
  | 0 => []
  | k + 1 => cat L k ++ L k

theorem cat_le (L : Nat → List Int) {k n : Nat} (h : k ≤ n) : (cat L k).length ≤ (cat L n).length := by
  induction n with
  | zero => have : k = 0 := by omega
            subst this; exact Nat.le_refl _
  | succ n ih =>
    rcases Nat.lt_or_ge k (n + 1) with h' | h'
    · have := ih (by omega); simp only [cat, List.length_append]; omega
    · have : k = n + 1 := by omega
      subst this; exact Nat.le_refl _

/-- n parts lie in the block g from its head on; each one's bytes are L k -/
structure Parts (w : World) (g n : Nat) (A : Nat → Option Addr) (L : Nat → List Int) (C : Nat → Nat) : Prop where
  cell : ∀ k, k < n → w.cell? ⟨g, k, none⟩ = some (.slice (A k) (L k).length (C k))
  nil : ∀ k, k < n → A k = none → (L k).length = 0 ∧ C k = 0
  reads : ∀ k, k < n → ∀ ad, A k = some ad → ∀ j u, ((L k).map (Value.int .u8))[j]? = some u → w.cell? (ad.add j) = some u

theorem block_of_add (a : Addr) (n : Nat) : (a.add n).block = a.block := by unfold Addr.add; split <;> rfl

theorem Parts.below {w w' : World} {g n : Nat} {A : Nat → Option Addr} {L : Nat → List Int} {C : Nat → Nat} (h : Parts w g n A L C) (hb : Below w.heap.size w w') : Parts w' g n A L C :=
  ⟨fun k hk => (hb.cell (World.block_lt_of_cell? w _ (h.cell k hk))).trans (h.cell k hk), h.nil,
   fun k hk ad ha j u hu => (hb.cell (World.block_lt_of_cell? w _ (h.reads k hk ad ha j u hu))).trans (h.reads k hk ad ha j u hu)⟩

set_option maxRecDepth 100000 in
set_option maxHeartbeats 1000000 in
theorem join_any (g n c : Nat) (A : Nat → Option Addr) (L : Nat → List Int) (C : Nat → Nat) (w : World) (hp : Parts w g n A L C) (hn : n ≤ 1000000) (hlen : (cat L n).length ≤ 1000000) :
    Calls Tryz.prog 51 #[.slice (some ⟨g, 0, none⟩) n c] w fun e w' => ∃ g' c', e = .returned (.slice (some ⟨g', 0, none⟩) (cat L n).length c') ∧ Row w' w.heap.size (cat L n) (.slice (some ⟨g', 0, none⟩) (cat L n).length c') ∧ Below w.heap.size w w' := by
  obtain ⟨i0, hi, hz0, hz1, hz2⟩ := info_parts info5
  have HP := Lib.hid hp
  clear hp
  go_enter Tryz.func51, Tryz.ntmps51
  go_wp2
  go_loop [3, 11] (fun a i => ∃ k : Nat, k ≤ n ∧ i = .int .i64 k ∧ a = .int .i64 ((cat L k).length : Nat)) (fun _ i => n - (intOf i).toNat)
  case atStart => exact ⟨0, Nat.zero_le _, rfl, rfl⟩
  case round =>
    obtain ⟨k, hk, rfl, rfl⟩ := hrel
    have hl1 := cat_le L hk
    by_cases hlt : k < n
    · have hcell := HP.out.cell k hlt
      have hl2 := cat_le L (show k + 1 ≤ n by omega)
      have e : (cat L (k + 1)).length = (cat L k).length + (L k).length := by simp [cat]
      have HE := Lib.hid e
      rw [e] at hl2
      clear e
      go_wp2
      go_round
      case rel => exact ⟨k + 1, by omega, by go_num, by rw [HE.out]; go_num⟩
      case measure => simp [intOf]; omega
    · obtain rfl : k = n := by omega
      go_wp2_with (at_make; go_loud (refine wpList_make_own _ rfl _ _ 32 rfl w.heap.size 5 i0 (.int .u8 0) 1 Tryz.underlying32 hi hz0 hz1 _ _ _ (cat L k).length rfl rfl (by omega) (by rw [hz2]; omega) (by unfold maxLen; omega) (Nat.le_refl _) ?_))
      intro w1 hown1 hg1
      have hb1 : Below w.heap.size w w1 := (Below.refl _ _).grown hg1 (Nat.le_refl _) (fun k hk => by cases hk)
      clear hg1
      go_wp2
      go_loopw [6, 24] (fun v i wr => ∃ m : Nat, m ≤ k ∧ i = .int .i64 m ∧ v = .slice (some ⟨w.heap.size, 0, none⟩) (cat L m).length (cat L k).length ∧
          wr.ownsRow w.heap.size 5 1 (.slice (some ⟨w.heap.size, 0, none⟩) (cat L m).length (cat L k).length) (cat L m).length ((cat L m).map (Value.int .u8)) ∧ Below w.heap.size w wr)
        (fun _ i _ => k - (intOf i).toNat)
      case atStart => exact ⟨0, Nat.zero_le _, rfl, rfl, hown1, hb1⟩
      case round =>
        obtain ⟨m, hm, rfl, rfl, hown, hbel⟩ := hrel
        clear hown1 hb1
        have hl1 := cat_le L hm
        by_cases hlt : m < k
        · have hcell := (HP.out.below hbel).cell m hlt
          have hl2 := cat_le L (show m + 1 ≤ k by omega)
          have e : (cat L (m + 1)).length = (cat L m).length + (L m).length := by simp [cat]
          have HE := Lib.hid e
          rw [e] at hl2
          clear e
          go_wp2_with (at_builtin; go_loud (refine wpList_append_fits_any _ rfl _ _ 32 rfl w.heap.size 5 i0 1 Tryz.underlying32 hi hz1 w.heap.size (cat L m).length (cat L k).length _ rfl hown (A m) (L m).length (C m) ((L m).map (Value.int .u8)) rfl (by simp) (fun h => HP.out.nil m hlt h) ((HP.out.below hbel).reads m hlt) (ints_oneCell .u8 (L m)) (by omega) ?_))
          intro w2 hown2 hg2
          have hb2 : Below w.heap.size w w2 := hbel.grown hg2 hbel.size (fun k hk => by cases hk; exact Nat.le_refl _)
          clear hg2 hown hbel hcell
          go_wp2
          go_roundw
          case rel =>
            refine ⟨m + 1, by omega, by go_num, by rw [HE.out], ?_, hb2⟩
            rw [HE.out]
            simpa [cat] using hown2
          case measure => simp [intOf]; omega
        · obtain rfl : m = k := by omega
          go_wp2
          go_ret
          exact ⟨_, _, rfl, hown, hbel⟩

end Go.Proofs.YtoghalmjbbkjhaaGreatDoor.Pk
