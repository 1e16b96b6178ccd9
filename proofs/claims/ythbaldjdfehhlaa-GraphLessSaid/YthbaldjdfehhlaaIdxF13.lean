/- slices.IndexFunc, slices.ContainsFunc over rows of nodes; isLong, by their contracts. -/
import Derived.Test.YthbaldjdfehhlaaSet13
import Derived.Test.YthbaldjdfehhlaaRefMay13
import Derived.Shelf.Abstract
namespace Go.Proofs.Ythbaldjdfehhlaa
open Go.RowKit Gr Go.Shelf

/-- a closure that tells p of each node of l, wherever it is called -/
def Tests (g : Nat) (lb : Array Value) (l : List NodeV) (p : NodeV → Bool) (w : World) : Prop :=
  ∀ (W : World) (v : NodeV), v ∈ l → Below w.heap.size w W → Calls Try.prog g (#[.agg #[.int .u64 v.id, .slice v.da v.deps.length v.dc]] ++ lb) W fun e w' => e = .returned (.bool (p v)) ∧ Below W.heap.size W w'

set_option maxRecDepth 100000 in
set_option maxHeartbeats 1000000 in
theorem indexFunc_any {w : World} {a : Option Addr} {l : List NodeV} {c : Nat} (hN : NodesF w a l) (hl : l.length ≤ 1000000) (g : Nat) (lb : Array Value) (eg : ∀ args w, (callFunc g args).run Try.prog w = .ok (.enter g args) w) (p : NodeV → Bool) (hp : Tests g lb l p w) :
    Calls Try.prog 50 #[.slice a l.length c, .func (.func g) #[] lb] w fun e w' => ∃ r : Int, e = .returned (.int .i64 r) ∧ -1 ≤ r ∧ (0 ≤ r ↔ l.any p = true) ∧ Below w.heap.size w w' := by
  obtain ⟨⟨b, q, ha, hc⟩, hfit⟩ := hN
  have HA := Lib.hid ha
  have HC := Lib.hid hc
  have HP := Lib.hid hp
  obtain ⟨s, hs⟩ : ∃ s, s = l.any p := ⟨_, rfl⟩
  rw [← hs]
  have HS := Lib.hid hs
  clear ha hc hfit hp hs
  go_enter Try.func50, Try.ntmps50
  go_wp2
  go_loopw [8] (fun v wr => Below w.heap.size w wr ∧ ∃ i : Nat, v = .int .i64 (i : Int) ∧ i ≤ l.length ∧ ∀ j (hj : j < l.length), j < i → p l[j] = false) (fun v _ => l.length - (intOf v).toNat)
  case atStart => exact ⟨Below.refl _ _, 0, rfl, Nat.zero_le _, fun j _ hj => absurd hj (by omega)⟩
  case round =>
    obtain ⟨hb, i, rfl, hi, hall⟩ := hrel
    have HALL := Lib.hid hall
    have HB := Lib.hid hb
    clear hall hb
    by_cases hlt : i < l.length
    · obtain ⟨hg, hc1, hc2⟩ := HC.out i hlt
      have ea := HA.out (by intro e; subst e; simp at hlt)
      cases ea
      have hd1 := (HB.out.cell (p := ⟨b, q + i * 2, none⟩) hg).trans hc1
      have hd2 := (HB.out.cell (p := ⟨b, q + i * 2 + 1, none⟩) hg).trans hc2
      have hd : decide ((i : Int) < (l.length : Int)) = true := by simp; omega
      have hcall := HP.out wr l[i] (List.getElem_mem hlt) HB.out
      obtain ⟨v, hv⟩ : ∃ v, l[i] = v := ⟨_, rfl⟩
      rw [hv] at hd1 hd2 hcall
      have HV := Lib.hid hv
      clear hv hc1 hc2 hg
      cases hq : p v with
      | true =>
        rw [hq] at hcall
        have HQ := Lib.hid hq
        have HCALL := Lib.hid hcall
        clear hcall hq
        go_wp2_with (go_at_fn g; refine HCALL.out.mono ?_; rintro e w' ⟨rfl, hb'⟩)
        go_ret
        have : l.any p = true := List.any_eq_true.2 ⟨l[i], List.getElem_mem hlt, by rw [HV.out]; exact HQ.out⟩
        exact ⟨(i : Int), rfl, by omega, ⟨fun _ => by rw [HS.out]; exact this, fun _ => by omega⟩, HB.out.trans (hb'.mono HB.out.size)⟩
      | false =>
        rw [hq] at hcall
        have HQ := Lib.hid hq
        have HCALL := Lib.hid hcall
        clear hcall hq
        go_wp2_with (go_at_fn g; refine HCALL.out.mono ?_; rintro e w' ⟨rfl, hb'⟩)
        go_roundw
        case rel => exact ⟨HB.out.trans (hb'.mono HB.out.size), i + 1, by go_num, by omega, fun j hj hji => by
          rcases Nat.lt_or_ge j i with h1 | h1
          · exact HALL.out j hj h1
          · obtain rfl : j = i := by omega
            rw [HV.out]
            exact HQ.out⟩
        case measure => simp [intOf]; omega
    · have hd : decide ((i : Int) < (l.length : Int)) = false := by simp; omega
      go_wp2
      go_ret
      have : l.any p = false := by
        rw [List.any_eq_false]
        intro v hv
        obtain ⟨j, hj, rfl⟩ := List.getElem_of_mem hv
        rw [HALL.out j hj (by omega)]
        simp
      exact ⟨-1, rfl, by omega, ⟨fun h => absurd h (by omega), fun h => by rw [HS.out, this] at h; cases h⟩, HB.out⟩

theorem containsFunc_any {w : World} {a : Option Addr} {l : List NodeV} {c : Nat} (hN : NodesF w a l) (hl : l.length ≤ 1000000) (g : Nat) (lb : Array Value) (eg : ∀ args w, (callFunc g args).run Try.prog w = .ok (.enter g args) w) (p : NodeV → Bool) (hp : Tests g lb l p w) :
    Calls Try.prog 36 #[.slice a l.length c, .func (.func g) #[] lb] w fun e w' => e = .returned (.bool (l.any p)) ∧ Below w.heap.size w w' := by
  have HI := Lib.hid (indexFunc_any (c := c) hN hl g lb eg p hp)
  obtain ⟨s, hs⟩ : ∃ s, s = l.any p := ⟨_, rfl⟩
  rw [← hs] at HI ⊢
  clear hN hp hs
  go_enter Try.func36, Try.ntmps36
  go_wp2_with fail
  refine HI.out.mono ?_
  rintro e w1 ⟨r, rfl, hr1, hr2, hb⟩
  have HB := Lib.hid hb
  have hrs : decide (0 ≤ r) = s := by
    cases s with
    | true => have := hr2.2 rfl; simp; omega
    | false =>
      have : ¬ 0 ≤ r := fun h => by have := hr2.1 h; cases this
      simp; omega
  have HRS := Lib.hid hrs
  clear hr2 hb hrs
  go_wp2
  go_ret
  exact ⟨by rw [← HRS.out]; rfl, HB.out⟩

theorem isLong1_any (v : NodeV) (W : World) :
    Calls Try.prog 37 #[.agg #[.int .u64 v.id, .slice v.da v.deps.length v.dc]] W fun e w' => e = .returned (.bool (decide (8 < v.deps.length))) ∧ Below W.heap.size W w' := by
  obtain ⟨s, hs⟩ : ∃ s, s = decide (8 < v.deps.length) := ⟨_, rfl⟩
  rw [← hs]
  have hs2 : decide ((8 : Int) < (v.deps.length : Int)) = s := by rw [hs]; simp; omega
  have HS := Lib.hid hs2
  clear hs hs2
  go_enter Try.func37, Try.ntmps37
  go_wp2
  go_ret
  exact ⟨by rw [← HS.out]; rfl, (Below.refl _ _).alloc (Nat.le_refl _) _⟩

theorem isLong_any {w : World} {a : Option Addr} {l : List NodeV} {c : Nat} (hN : NodesF w a l) (hl : l.length ≤ 1000000) :
    Calls Try.prog 19 #[.slice a l.length c] w fun e w' => e = .returned (.bool (isLong (rowOf l))) ∧ Below w.heap.size w w' := by
  have hC := containsFunc_any (c := c) hN hl 37 #[] (enters_of Try.func37 (by kernel_rfl) rfl) (fun v => decide (8 < v.deps.length)) (fun W v _ _ => isLong1_any v W)
  have he : isLong (rowOf l) = (decide (64 < l.length) || l.any fun v => decide (8 < v.deps.length)) := by
    unfold isLong
    rw [rowOf_len, rowOf, List.any_map]
    rfl
  obtain ⟨s, hs⟩ : ∃ s, s = isLong (rowOf l) := ⟨_, rfl⟩
  obtain ⟨t, ht⟩ : ∃ t, t = l.any fun v => decide (8 < v.deps.length) := ⟨_, rfl⟩
  rw [← hs, ← ht] at he
  rw [← ht] at hC
  rw [← hs]
  have HC := Lib.hid hC
  clear hN hC hs ht
  by_cases h64 : l.length ≤ 64
  · have hg64 : decide ((64 : Int) < (l.length : Int)) = false := by simp; omega
    have hst : s = t := by rw [he, decide_eq_false (by omega)]; rfl
    subst hst
    clear he
    go_enter Try.func19, Try.ntmps19
    go_wp2_with fail
    refine HC.out.mono ?_
    rintro e w1 ⟨rfl, hb⟩
    have HB := Lib.hid hb
    clear hb
    go_wp2
    go_ret
    exact ⟨rfl, HB.out⟩
  · have hg64 : decide ((64 : Int) < (l.length : Int)) = true := by simp; omega
    have hst : s = true := by rw [he, decide_eq_true (by omega)]; rfl
    subst hst
    clear he HC
    go_enter Try.func19, Try.ntmps19
    go_wp2
    go_ret
    exact ⟨rfl, Below.refl _ _⟩

end Go.Proofs.Ythbaldjdfehhlaa
