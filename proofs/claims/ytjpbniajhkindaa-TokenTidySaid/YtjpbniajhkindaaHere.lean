/- Bytes that fill a block from its head on; a slice's beginning, as text; frames by what is taken. -/
import Derived.Test.YtjpbniajhkindaaFramePut
import Derived.Laws.Strings
namespace Go.Proofs.Ytjpbniajhkindaa
open Go.RowKit

/-- the bytes zs stand at the head of the block g -/
structure Here (w : World) (g : Nat) (zs : List Int) : Prop where
  blk : ∃ cs fr, w.heap[g]? = some (.cells cs 5 fr) ∧ ∀ i, i < zs.length → cs[i]? = some (.int .u8 (zs.getD i 0))
  hr : ∀ x ∈ zs, 0 ≤ x ∧ x ≤ 255
  hl : zs.length ≤ 9223372036854775807

theorem Here.lt {w : World} {g : Nat} {zs : List Int} (h : Here w g zs) : g < w.heap.size := by
  obtain ⟨cs, fr, hg, _⟩ := h.blk
  exact lt_of_block hg
theorem Here.reads {w : World} {g : Nat} {zs : List Int} (h : Here w g zs) : Reads w (some ⟨g, 0, none⟩) zs := by
  obtain ⟨cs, fr, hg, hc⟩ := h.blk
  exact reads_row zs hg hc h.hr h.hl
theorem Here.other {w w' : World} {g : Nat} {zs : List Int} (h : Here w g zs) (he : w'.heap[g]? = w.heap[g]?) : Here w' g zs := by
  obtain ⟨cs, fr, hg, hc⟩ := h.blk
  exact ⟨⟨cs, fr, he.trans hg, hc⟩, h.hr, h.hl⟩
theorem Here.below {w w' : World} {g : Nat} {zs : List Int} (h : Here w g zs) (hb : Below w.heap.size w w') : Here w' g zs := h.other (hb.block g h.lt)

theorem bytes_here (w : World) (zs : List Int) (hr : ∀ x ∈ zs, 0 ≤ x ∧ x ≤ 255) (hl : zs.length ≤ 9223372036854775807) : Here (Lib.bytesWorld w 5 (strOfNums zs)) w.heap.size zs := by
  have hg := Lib.bytesWorld_at_new w 5 (strOfNums zs)
  refine ⟨⟨_, _, hg, fun i hi => ?_⟩, hr, hl⟩
  have h1 := Lib.bytesWorld_cell w 5 (strOfNums zs) i (by rw [strOfNums_size]; exact hi)
  rw [cell_of_row _ _ i _ _ _ hg] at h1
  rw [h1, strOfNums_data]
  have := hr (zs.getD i 0) (by simp [List.getD, hi])
  simp [List.getD, hi] at this ⊢
  omega

theorem Row.here {w : World} {B : Nat} {zs : List Int} {g c : Nat} (h : Row w B zs (.slice (some ⟨g, 0, none⟩) zs.length c)) (hr : ∀ x ∈ zs, 0 ≤ x ∧ x ≤ 255) (hl : zs.length ≤ 9223372036854775807) : Here w g zs ∧ B ≤ g ∧ zs.length ≤ c ∧ c ≤ 9223372036854775807 := by
  rcases h.2 with ⟨he, _⟩ | ⟨g', cap, cur, he, hB, hg, hc, hm, _⟩
  · cases he
  · cases he
    unfold maxLen at hm
    refine ⟨⟨⟨cur, _, hg, fun i hi => ?_⟩, hr, hl⟩, hB, hc, hm⟩
    have h' := h
    unfold Row at h'
    have := h'.cells (g := g) rfl i (.int .u8 (zs.getD i 0)) (by simp [List.getD, hi])
    rw [show ((⟨g, 0, none⟩ : Addr).add i) = ⟨g, i, none⟩ by unfold Addr.add; split <;> simp_all, cell_of_row w g i cur _ _ hg] at this
    exact this

theorem str_inj {xs ys : List Int} (hx : ∀ x ∈ xs, 0 ≤ x ∧ x ≤ 255) (hy : ∀ x ∈ ys, 0 ≤ x ∧ x ≤ 255) : strOfNums xs = strOfNums ys ↔ xs = ys :=
  ⟨fun h => by rw [← bl_str hx, ← bl_str hy, h], fun h => by rw [h]⟩
theorem str_eq {xs ys : List Int} (hx : ∀ x ∈ xs, 0 ≤ x ∧ x ≤ 255) (hy : ∀ x ∈ ys, 0 ≤ x ∧ x ≤ 255) : ((strOfNums xs).toList == (strOfNums ys).toList) = decide (xs = ys) := by
  rw [Bool.eq_iff_iff, beq_iff_eq, decide_eq_true_eq, ← str_inj hx hy, ByteArray.toList_eq, ByteArray.toList_eq]
  exact ⟨fun h => ByteArray.ext (Array.toList_inj.1 h), fun h => by rw [h]⟩

set_option maxHeartbeats 400000 in
theorem equal_any (a : Option Addr) (len cap : Nat) (xs : List Int) (a2 : Option Addr) (len2 cap2 : Nat) (ys : List Int) (w : World) (hx : Reads w a xs) (hxl : len = xs.length) (hy : Reads w a2 ys) (hyl : len2 = ys.length) :
    Calls Try.prog 55 #[.slice a len cap, .slice a2 len2 cap2] w fun e w' => e = .returned (.bool (decide (xs = ys))) ∧ w = w' := by
  have h1 := hx.text len cap hxl
  have h2 := hy.text len2 cap2 hyl
  have HE := Lib.hid (str_eq hx.hr hy.hr)
  clear hx hy hxl hyl
  go_enter Try.func55, Try.ntmps55
  go_wp2
  go_ret
  refine ⟨?_, rfl⟩
  rw [← HE.out]
  rfl

set_option maxHeartbeats 400000 in
theorem hasPrefix_any (a : Option Addr) (len cap : Nat) (xs : List Int) (a2 : Option Addr) (len2 cap2 : Nat) (ys : List Int) (w : World) (hx : Reads w a xs) (hxl : len = xs.length) (hcap : len ≤ cap) (hy : Reads w a2 ys) (hyl : len2 = ys.length) :
    Calls Try.prog 43 #[.slice a len cap, .slice a2 len2 cap2] w fun e w' => e = .returned (.bool (decide (xs.take ys.length = ys))) ∧ w = w' := by
  by_cases h : len2 ≤ len
  · have E := Lib.hid (equal_any a len2 cap (xs.take len2) a2 len2 cap2 ys w (hx.take len2) (by rw [List.length_take]; omega) hy hyl)
    have HH := Lib.hid hyl
    clear hx hy hxl hyl
    go_enter Try.func43, Try.ntmps43
    go_wp2_with fail
    refine E.out.mono ?_
    rintro e w1 ⟨rfl, rfl⟩
    clear E
    go_wp2
    go_ret
    exact ⟨by rw [HH.out]; rfl, rfl⟩
  · have hd : decide (xs.take ys.length = ys) = false := by
      rw [decide_eq_false_iff_not]
      intro he
      have := congrArg List.length he
      rw [List.length_take] at this
      omega
    have HH := Lib.hid hd
    clear hx hy hxl hyl hd
    go_enter Try.func43, Try.ntmps43
    go_wp2
    go_ret
    exact ⟨by rw [HH.out]; rfl, rfl⟩

namespace Frame
open Num (dec)
theorem first_dec {bs ys : List Int} {m : Nat} (h : firstOf bs = some (ys, m)) : ∃ n k, dec 10 0 0 (bs.drop 1) = some (n, k) ∧ n ≤ 4096 ∧ 1 + k + n ≤ bs.length ∧ ys = (bs.drop (1 + k)).take n ∧ bs.getD 0 0 = 90 ∧ 0 < bs.length := by
  cases bs with
  | nil => cases h
  | cons b r =>
    simp only [firstOf] at h
    by_cases hb : b = 90
    · rw [if_pos hb] at h
      cases hd : dec 10 0 0 r with
      | none => rw [hd] at h; cases h
      | some nk =>
        obtain ⟨n, k⟩ := nk
        rw [hd] at h
        dsimp only at h
        by_cases hc : n ≤ 4096 ∧ k + n + 4 ≤ r.length ∧ (r.drop (k + n)).take 4 = tail (r.take (k + n))
        · rw [if_pos hc] at h
          simp only [Option.some.injEq, Prod.mk.injEq] at h
          obtain ⟨rfl, rfl⟩ := h
          refine ⟨n, k, by simpa using hd, hc.1, by simp; omega, ?_, by simp [hb], by simp⟩
          rw [show 1 + k = k + 1 by omega, List.drop_succ_cons]
        · rw [if_neg hc] at h; cases h
    · rw [if_neg hb] at h; cases h

theorem first_none_dec {bs : List Int} (h : dec 10 0 0 (bs.drop 1) = none) : firstOf bs = none := by
  cases hf : firstOf bs with
  | none => rfl
  | some p =>
    obtain ⟨n, k, hd, _⟩ := first_dec (ys := p.1) (m := p.2) hf
    rw [h] at hd; cases hd
theorem first_none_fit {bs : List Int} {n k : Nat} (h : dec 10 0 0 (bs.drop 1) = some (n, k)) (hn : ¬ (n ≤ 4096 ∧ 1 + k + n ≤ bs.length)) : firstOf bs = none := by
  cases hf : firstOf bs with
  | none => rfl
  | some p =>
    obtain ⟨n', k', hd, h1, h2, _⟩ := first_dec (ys := p.1) (m := p.2) hf
    rw [h] at hd; cases hd
    exact absurd ⟨h1, h2⟩ hn
theorem first_by {bs zs : List Int} {n k : Nat} (hr : ∀ x ∈ bs, 0 ≤ x ∧ x ≤ 255) (h : dec 10 0 0 (bs.drop 1) = some (n, k)) (hn : n ≤ 4096) (hz : zs = (bs.drop (1 + k)).take n) :
    firstOf bs = if bs.take (frameOf zs).length = frameOf zs then some (zs, (frameOf zs).length) else none := by
  have hlen : zs.length ≤ 4096 := by rw [hz, List.length_take]; omega
  split
  · next ht => exact (first_iff hr zs _).2 ⟨hlen, rfl, ht⟩
  · next ht =>
    cases hf : firstOf bs with
    | none => rfl
    | some p =>
      obtain ⟨ys, m⟩ := p
      obtain ⟨n', k', hd, _, _, hy, _⟩ := first_dec hf
      rw [h] at hd; cases hd
      rw [← hz] at hy
      subst hy
      obtain ⟨_, rfl, ht'⟩ := (first_iff hr ys m).1 hf
      exact absurd ht' ht
end Frame

end Go.Proofs.Ytjpbniajhkindaa
