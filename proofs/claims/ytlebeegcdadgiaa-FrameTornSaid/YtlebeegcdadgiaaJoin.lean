/- pack.Join, by its contract: n parts, whatever they are (nil, empty, or rows of bytes), one behind the other, in a row of the call's own. -/
import Derived.Test.YtlebeegcdadgiaaRow
namespace Go.Proofs.Ytlebeegcdadgiaa
open Go.RowKit

/-- the first k lists, one behind the other -/
def cat (L : Nat → List Int) : Nat → List Int
  | 0 => []
  | k + 1 => cat L k ++ L k

theorem cat_le (L : Nat → List Int) {k n : Nat} (h : k ≤ n) : (cat L k).length ≤ (cat L n).length := by
  induction n with
  | zero => have : k = 0 := by omega
            subst this; exact Nat.le_refl _
  | succ n ih =>
    rcases Nat.lt_or_ge k (n + 1) with h' | h'
    · have := ih (by omega); simp only [cat, List.length_append]; omega
    · have : k = n + 1 := by omega
      subst this; exact Nat.le_refl _

/-- n parts lie in the block g from its head on; each one's bytes are L k -/
structure Parts (w : World) (g n : Nat) (A : Nat → Option Addr) (L : Nat → List Int) (C : Nat → Nat) : Prop where
  cell : ∀ k, k < n → w.cell? ⟨g, k, none⟩ = some (.slice (A k) (L k).length (C k))
  nil : ∀ k, k < n → A k = none → (L k).length = 0 ∧ C k = 0
  reads : ∀ k, k < n → ∀ ad, A k = some ad → ∀ j u, ((L k).map (Value.int .u8))[j]? = some u → w.cell? (ad.add j) = some u

theorem block_of_add (a : Addr) (n : Nat) : (a.add n).block = a.block := by unfold Addr.add; split <;> rfl

theorem Parts.below {w w' : World} {g n : Nat} {A : Nat → Option Addr} {L : Nat → List Int} {C : Nat → Nat} (h : Parts w g n A L C) (hb : Below w.heap.size w w') : Parts w' g n A L C :=
  ⟨fun k hk => (hb.cell (World.block_lt_of_cell? w _ (h.cell k hk))).trans (h.cell k hk), h.nil,
   fun k hk ad ha j u hu => (hb.cell (World.block_lt_of_cell? w _ (h.reads k hk ad ha j u hu))).trans (h.reads k hk ad ha j u hu)⟩

set_option maxRecDepth 100000 in
set_option maxHeartbeats 1000000 in
theorem join_any (g n c : Nat) (A : Nat → Option Addr) (L : Nat → List Int) (C : Nat → Nat) (w : World) (hp : Parts w g n A L C) (hn : n ≤ 1000000) (hlen : (cat L n).length ≤ 1000000) :
    Calls Try.prog 16 #[.slice (some ⟨g, 0, none⟩) n c] w fun e w' => ∃ g' c', e = .returned (.slice (some ⟨g', 0, none⟩) (cat L n).length c') ∧ Row w' w.heap.size (cat L n) (.slice (some ⟨g', 0, none⟩) (cat L n).length c') ∧ Below w.heap.size w w' := by
  obtain ⟨i0, hi, hz0, hz1, hz2⟩ := info_parts info5
  have HP := Lib.hid hp
  clear hp
  go_enter Try.func16, Try.ntmps16
  go_wp2
  go_loop [3, 11] (fun a i => ∃ k : Nat, k ≤ n ∧ i = .int .i64 k ∧ a = .int .i64 ((cat L k).length : Nat)) (fun _ i => n - (intOf i).toNat)
  case atStart => exact ⟨0, Nat.zero_le _, rfl, rfl⟩
  case round =>
    obtain ⟨k, hk, rfl, rfl⟩ := hrel
    have hl1 := cat_le L hk
    by_cases hlt : k < n
    · have hcell := HP.out.cell k hlt
      have hl2 := cat_le L (show k + 1 ≤ n by omega)
      have e : (cat L (k + 1)).length = (cat L k).length + (L k).length := by simp [cat]
      have HE := Lib.hid e
      rw [e] at hl2
      clear e
      go_wp2
      go_round
      case rel => exact ⟨k + 1, by omega, by go_num, by rw [HE.out]; go_num⟩
      case measure => simp [intOf]; omega
    · obtain rfl : k = n := by omega
      go_wp2_with (at_make; go_loud (refine wpList_make_own _ rfl _ _ 22 rfl w.heap.size 5 i0 (.int .u8 0) 1 Try.underlying22 hi hz0 hz1 _ _ _ (cat L k).length rfl rfl (by omega) (by rw [hz2]; omega) (by unfold maxLen; omega) (Nat.le_refl _) ?_))
      intro w1 hown1 hg1
      have hb1 : Below w.heap.size w w1 := (Below.refl _ _).grown hg1 (Nat.le_refl _) (fun k hk => by cases hk)
      clear hg1
      go_wp2
      go_loopw [6, 24] (fun v i wr => ∃ m : Nat, m ≤ k ∧ i = .int .i64 m ∧ v = .slice (some ⟨w.heap.size, 0, none⟩) (cat L m).length (cat L k).length ∧
          wr.ownsRow w.heap.size 5 1 (.slice (some ⟨w.heap.size, 0, none⟩) (cat L m).length (cat L k).length) (cat L m).length ((cat L m).map (Value.int .u8)) ∧ Below w.heap.size w wr)
        (fun _ i _ => k - (intOf i).toNat)
      case atStart => exact ⟨0, Nat.zero_le _, rfl, rfl, hown1, hb1⟩
      case round =>
        obtain ⟨m, hm, rfl, rfl, hown, hbel⟩ := hrel
        clear hown1 hb1
        have hl1 := cat_le L hm
        by_cases hlt : m < k
        · have hcell := (HP.out.below hbel).cell m hlt
          have hl2 := cat_le L (show m + 1 ≤ k by omega)
          have e : (cat L (m + 1)).length = (cat L m).length + (L m).length := by simp [cat]
          have HE := Lib.hid e
          rw [e] at hl2
          clear e
          go_wp2_with (at_builtin; go_loud (refine wpList_append_fits_any _ rfl _ _ 22 rfl w.heap.size 5 i0 1 Try.underlying22 hi hz1 w.heap.size (cat L m).length (cat L k).length _ rfl hown (A m) (L m).length (C m) ((L m).map (Value.int .u8)) rfl (by simp) (fun h => HP.out.nil m hlt h) ((HP.out.below hbel).reads m hlt) (ints_oneCell .u8 (L m)) (by omega) ?_))
          intro w2 hown2 hg2
          have hb2 : Below w.heap.size w w2 := hbel.grown hg2 hbel.size (fun k hk => by cases hk; exact Nat.le_refl _)
          clear hg2 hown hbel hcell
          go_wp2
          go_roundw
          case rel =>
            refine ⟨m + 1, by omega, by go_num, by rw [HE.out], ?_, hb2⟩
            rw [HE.out]
            simpa [cat] using hown2
          case measure => simp [intOf]; omega
        · obtain rfl : m = k := by omega
          go_wp2
          go_ret
          exact ⟨_, _, rfl, hown, hbel⟩

end Go.Proofs.Ytlebeegcdadgiaa
