/- The statement NextGap, walked: what After and Last of a moment tell, and between. The firings of a time, newest first: plain mathematics. slices.Reverse at []int64, by its contract: a row of the caller's own is turned about. -/
import Derived.Test.YtoghalmjbbkjhaaGreatDoorLast8
import Derived.Test.YtoghalmjbbkjhaaGreatDoorMal
import Derived.Test.YtoghalmjbbkjhaaGreatDoorMag
import Derived.Sort.WalkB12
import Derived.Lib.SlicesMore
import Derived.Lib.Walk
import Derived.Deep.LoopGhost
namespace Go.Proofs.YtoghalmjbbkjhaaGreatDoor
open Go.RowKit

/-! what holds of a firing, and of a moment that is none -/
theorem fired {b : Nat → Nat} {s : Nat → Bool} {r : Int} (hm : Cron.may b = true) (hf : Fire.fires b s r) : ∃ y m d h i k, Stm.may y m d h i 0 k ∧ Stm.num y m d h i 0 = r ∧ Cron.fits b s y m d h i 0 k = true := by
  obtain ⟨y, m, d, h, i, x, k, hmay, hn⟩ := Stm.onto r hf.1 hf.2.1
  rw [← hn] at hf
  obtain ⟨rfl, hfit⟩ := (Fire.fires_at hm hmay).1 hf
  exact ⟨y, m, d, h, i, k, hmay, hn, hfit⟩
theorem not_fired {b : Nat → Nat} {s : Nat → Bool} {r : Int} (hm : Cron.may b = true) (h0 : 0 ≤ r ∧ r < 13569465600) (hf : ¬ Fire.fires b s r) : ∃ y m d h i x k, Stm.may y m d h i x k ∧ Stm.num y m d h i x = r ∧ (x = 0 → Cron.fits b s y m d h i x k = false) := by
  obtain ⟨y, m, d, h, i, x, k, hmay, hn⟩ := Stm.onto r h0.1 h0.2
  refine ⟨y, m, d, h, i, x, k, hmay, hn, fun hx => ?_⟩
  cases hq : Cron.fits b s y m d h i x k
  · rfl
  · exact absurd (hn ▸ (Fire.fires_at hm hmay).2 ⟨hx, hq⟩) hf
theorem may_ints {y m d h i x k : Int} (hm : Stm.may y m d h i x k) : inInts m d h i k := by
  obtain ⟨h1, h2, h3, h4, h5, h6, h7, h8⟩ := hm
  have hmo := Cal.may_month h1
  have hlg := Cal.long_pos (y := y) hmo
  have hd := h1.2.2
  have hk : 0 ≤ k ∧ k ≤ 6 := by rw [h8]; unfold Cal.week; omega
  unfold inInts
  refine five ?_ ?_ ?_ ?_ ?_ <;> simp only [shows] <;> omega
section
variable (b : Nat → Nat) (s : Nat → Bool) (hb : ∀ k, k < 5 → b k < 2 ^ 64)
include hb
theorem last_says (t : Int) (p1 p2 : Int) (h : Fire.LastT b s t (p1, p2)) (W : World) (hW : World7 W) : Calls Tryz.prog 17 #[xval b s, .int .i64 t] W fun e W' => e = .returned (.tuple #[.int .i64 p1, .int .i64 p2]) ∧ Below W.heap.size W W' :=
  (last_any b s hb t W hW).mono fun e W' ⟨q, hq, he, hb⟩ => by obtain rfl := Fire.lastT_one hq h; exact ⟨he, hb⟩
end

namespace Fire
theorem after_some {b : Nat → Nat} {s : Nat → Bool} {t : Int} : ∀ (n : Nat) (u : Int), t < u → u - t ≤ n → fires b s u → ∃ a, AfterIs b s t a
  | 0, _, h1, h2, _ => absurd h1 (by omega)
  | n + 1, u, h1, h2, hf => by
    by_cases h : ∃ v, (t < v ∧ v < u) ∧ fires b s v
    · obtain ⟨v, hv, hvf⟩ := h
      exact after_some n v hv.1 (by omega) hvf
    · exact ⟨u, hf, h1, fun v q1 q2 hv => h ⟨v, ⟨q1, q2⟩, hv⟩⟩
theorem after_or (b : Nat → Nat) (s : Nat → Bool) (t : Int) : (∃ a, AfterIs b s t a) ∨ NoAfter b s t := by
  by_cases h : ∃ u, t < u ∧ fires b s u
  · obtain ⟨u, h1, hf⟩ := h
    exact .inl (after_some (u - t).toNat u h1 (by omega) hf)
  · exact .inr fun u h1 hf => h ⟨u, h1, hf⟩
theorem last_some {b : Nat → Nat} {s : Nat → Bool} {t : Int} : ∀ (n : Nat) (u : Int), u ≤ t → t - u < n → fires b s u → ∃ a, LastIs b s t a
  | 0, _, h1, h2, _ => absurd h1 (by omega)
  | n + 1, u, h1, h2, hf => by
    by_cases h : ∃ v, (u < v ∧ v ≤ t) ∧ fires b s v
    · obtain ⟨v, hv, hvf⟩ := h
      exact last_some n v hv.2 (by omega) hvf
    · exact ⟨u, hf, h1, fun v q1 q2 hv => h ⟨v, ⟨q1, q2⟩, hv⟩⟩
theorem last_or (b : Nat → Nat) (s : Nat → Bool) (t : Int) : (∃ a, LastIs b s t a) ∨ NoLast b s t := by
  by_cases h : ∃ u, u ≤ t ∧ fires b s u
  · obtain ⟨u, h1, hf⟩ := h
    exact .inl (last_some ((t - u).toNat + 1) u h1 (by omega) hf)
  · exact .inr fun u h1 hf => h ⟨u, h1, hf⟩
end Fire

end Go.Proofs.YtoghalmjbbkjhaaGreatDoor

namespace Go.Proofs.YtoghalmjbbkjhaaGreatDoor.Job
open Fire Classical

/-- the firings behind f, up to t, newest first -/
noncomputable def R (b : Nat → Nat) (s : Nat → Bool) (f t : Int) : List Int := ((List.range (t - f).toNat).map fun (i : Nat) => t - (i : Int)).filter fun u => decide (fires b s u)
variable {b : Nat → Nat} {s : Nat → Bool} {f m t r : Int}
theorem R_none (h : t ≤ f) : R b s f t = [] := by
  unfold R
  rw [show (t - f).toNat = 0 by omega]
  rfl
theorem R_mem {u : Int} (h : u ∈ R b s f t) : fires b s u ∧ f < u ∧ u ≤ t := by
  unfold R at h
  rw [List.mem_filter, List.mem_map] at h
  obtain ⟨⟨i, hi, rfl⟩, h2⟩ := h
  rw [List.mem_range] at hi
  exact ⟨of_decide_eq_true h2, by omega, by omega⟩
theorem R_clear (h : ∀ u, f < u → u ≤ t → ¬ fires b s u) : R b s f t = [] := by
  cases hl : R b s f t with
  | nil => rfl
  | cons u l =>
    have hu : u ∈ R b s f t := by rw [hl]; simp
    obtain ⟨h1, h2, h3⟩ := R_mem hu
    exact absurd h1 (h u h2 h3)
theorem R_split (h1 : f ≤ m) (h2 : m ≤ t) : R b s f t = R b s m t ++ R b s f m := by
  unfold R
  rw [← List.filter_append]
  congr 1
  rw [show (t - f).toNat = (t - m).toNat + (m - f).toNat by omega, List.range_add, List.map_append, List.map_map]
  congr 1
  refine List.map_congr_left fun i _ => ?_
  simp only [Function.comp]
  omega
theorem R_one (h : fires b s r) : R b s (r - 1) r = [r] := by
  unfold R
  rw [show (r - (r - 1)).toNat = 1 by omega]
  simp [h]
/-- the newest one, and those ahead of it -/
theorem R_last (h : LastIs b s t r) (hf : f < r) : R b s f t = r :: R b s f (r - 1) := by
  obtain ⟨h1, h2, h3⟩ := h
  rw [R_split (m := r) (by omega) h2, R_clear (f := r) (t := t) h3, List.nil_append, R_split (f := f) (m := r - 1) (t := r) (by omega) (by omega), R_one h1]
  rfl
theorem R_over (h : LastIs b s t r) (hf : r ≤ f) : R b s f t = [] := R_clear fun u h1 h2 => h.2.2 u (by omega) h2
theorem R_no (h : NoLast b s t) : R b s f t = [] := R_clear fun u _ h2 => h u h2
/-- they fall -/
theorem R_falls : (R b s f t).Pairwise (fun x y => y < x) := by
  unfold R
  refine List.Pairwise.filter _ ?_
  rw [List.pairwise_map]
  refine List.Pairwise.imp (fun h => ?_) (List.pairwise_lt_range)
  omega
/-- the newest n of what was cut in two -/
theorem take_two (n : Nat) (A B : List Int) : (A ++ B).take n = (A.take n ++ B.take n).take n := by
  rw [List.take_append, List.take_append, List.take_take, Nat.min_self]
  congr 1
  rcases Nat.lt_or_ge A.length n with h | h
  · rw [List.length_take, Nat.min_eq_right (by omega), List.take_take, Nat.min_eq_left (by omega)]
  · rw [Nat.sub_eq_zero_of_le h, List.length_take, Nat.min_eq_left h, Nat.sub_self, List.take_zero, List.take_zero]
/-- the firings that are told: rising -/
noncomputable def told14 (b : Nat → Nat) (s : Nat → Bool) (f t : Int) (n : Nat) : List Int := ((R b s f t).take n).reverse
theorem told_len (n : Nat) : (told14 b s f t n).length ≤ n := by unfold told14; rw [List.length_reverse, List.length_take]; omega
theorem told_mem {n : Nat} {u : Int} (h : u ∈ told14 b s f t n) : fires b s u ∧ f < u ∧ u ≤ t := by
  unfold told14 at h
  exact R_mem (List.mem_of_mem_take (List.mem_reverse.1 h))
theorem told_rise {n : Nat} : (told14 b s f t n).Pairwise (fun x y => x < y) := by
  unfold told14
  rw [List.pairwise_reverse]
  exact (R_falls).sublist (List.take_sublist _ _)
/-- those of a time that is cut in two -/
theorem told_two (n : Nat) (h1 : f ≤ m) (h2 : m ≤ t) : (told14 b s f m n ++ told14 b s m t n).drop ((told14 b s f m n ++ told14 b s m t n).length - n) = told14 b s f t n := by
  unfold told14
  rw [← List.reverse_append, R_split h1 h2, take_two n (R b s m t) (R b s f m)]
  generalize (R b s m t).take n ++ (R b s f m).take n = L
  rw [List.length_reverse]
  rw [← List.reverse_take]
end Go.Proofs.YtoghalmjbbkjhaaGreatDoor.Job

namespace Go.Proofs.YtoghalmjbbkjhaaGreatDoor.Job
open Go.RowKit Go.Sort Go.Lib

set_option maxHeartbeats 1600000 in
set_option maxRecDepth 100000 in
theorem rev_holds (blk off cap : Nat) (zs : List Int) (w : World) (hH : Holds iv w blk off zs.toArray) (hsz : zs.length ≤ 1000000) :
    Calls Tryz.prog 18 #[.slice (some ⟨blk, off, none⟩) zs.length cap] w fun e w' => e = .returned (.tuple #[]) ∧ ∃ n, w' = putRow iv (Sort.ahead w n) blk off zs.reverse.toArray := by
  obtain ⟨N, hN⟩ : ∃ N, N = zs.length := ⟨_, rfl⟩
  obtain ⟨d0, hd0⟩ : ∃ d0, d0 = zs.toArray := ⟨_, rfl⟩
  have hsd : d0.size = N := by rw [hd0, hN]; simp
  have hrev : zs.reverse.toArray = d0.reverse := by rw [hd0]; simp
  rw [← hd0] at hH
  rw [hrev, ← hN]
  have hNb : N ≤ 1000000 := by omega
  have HSD := Lib.hid hsd
  have HH := Lib.hid hH
  clear hN hd0 hsd hrev hH hsz
  go_enter Tryz.func18, Tryz.ntmps18
  go_wp2
  go_loopg [2, 3] N (fun k s2 s3 wr => ∃ (i jn : Nat) (jz : Int) (dk : Array Int) (n : Nat), s2 = .int .i64 i ∧ s3 = .int .i64 jz ∧ ((i : Int) < jz → jz = jn ∧ jn < N) ∧ (¬ (i : Int) < jz → ¬ i < jn) ∧ jn - i ≤ k ∧ i ≤ N ∧
    Hid (dk.size = N) ∧ Hid (wr = putRow iv (Sort.ahead w n) blk off dk) ∧ Hid (reverseLoop i jn dk = reverseLoop 0 (N - 1) d0))
  case atStart => exact ⟨0, N - 1, (N : Int) - 1, d0, 0, rfl, rfl, fun h => ⟨by omega, by omega⟩, fun h => by omega, by omega, by omega, HSD, Lib.hid (putRow_self iv w blk off d0 HH.out).symm, Lib.hid rfl⟩
  case round =>
    obtain ⟨i, jn, jz, dk, n, rfl, rfl, h1, h2, hk, hiN, HDS, HWR, HEQ⟩ := hrel
    by_cases hlt : (i : Int) < jz
    · obtain ⟨rfl, hjn⟩ := h1 hlt
      have hij : i < jn := by omega
      have hds := HDS.out
      have hHk : Holds iv wr blk off dk := by rw [HWR.out]; exact holds_putRow iv _ blk off d0 dk (holds_ahead iv w n blk off d0 HH.out) (by rw [hds, HSD.out])
      obtain ⟨ci, fi⟩ := hHk i (by omega)
      obtain ⟨cj, fj⟩ := hHk jn (by omega)
      obtain ⟨x, hx⟩ : ∃ x, dk[i]! = x := ⟨_, rfl⟩
      obtain ⟨y, hy⟩ : ∃ y, dk[jn]! = y := ⟨_, rfl⟩
      rw [hx] at ci
      rw [hy] at cj
      unfold iv at ci cj
      have HX := Lib.hid hx
      have HY := Lib.hid hy
      clear hHk h1 h2 hds hx hy
      go_wp2_with fail
      go_region
      go_wp2
      go_roundg (jn - 1 - (i + 1))
      case measure => omega
      case rel =>
        have heq := HEQ.out
        have hds := HDS.out
        rw [reverseLoop, if_pos hij] at heq
        refine ⟨i + 1, jn - 1, (jn : Int) - 1, swp dk i jn, n + 1, by simp, rfl, fun h => ⟨by omega, by omega⟩, fun h => by omega, Nat.le_refl _, by omega, Lib.hid (by rw [size_swp]; exact hds), Lib.hid ?_, Lib.hid heq⟩
        exact swap_world iv (by omega) (by omega) HWR.out (by rw [← HY.out]; first | rfl | simp [iv, getElem!_pos, show jn < dk.size by omega]) (by rw [← HX.out]; first | rfl | simp [iv, getElem!_pos, show i < dk.size by omega])
    · have hnot := h2 hlt
      go_wp2
      go_end0
      have heq := HEQ.out
      refine ⟨rfl, n, ?_⟩
      rw [reverseLoop, if_neg hnot] at heq
      rw [← HSD.out] at heq
      rw [← Lib.reverseLoop_reverse, ← heq]
      exact HWR.out

set_option maxHeartbeats 1000000 in
theorem rev_none (a : Option Addr) (cap : Nat) (w : World) :
    Calls Tryz.prog 18 #[.slice a 0 cap] w fun e w' => e = .returned (.tuple #[]) ∧ w' = w := by
  go_enter Tryz.func18, Tryz.ntmps18
  go_wp2
  go_loopg [2, 3] 0 (fun _ s2 s3 wr => s2 = .int .i64 0 ∧ s3 = .int .i64 (-1) ∧ wr = w)
  case atStart => exact ⟨rfl, rfl, rfl⟩
  case round =>
    obtain ⟨rfl, rfl, rfl⟩ := hrel
    go_wp2
    go_end0
    exact ⟨rfl, rfl⟩

theorem holds_own {w : World} {g : Nat} {cur : Array Value} {e : TypeId} {ss : List Int} (hb : w.heap[g]? = some (.cells cur e (0, 0))) (ht : cur.toList.take ss.length = ss.map iv) : Holds iv w g 0 ss.toArray := by
  intro j hj
  have hj' : j < ss.length := by simpa using hj
  refine ⟨?_, by simp [World.frozen?, hb]⟩
  have h1 : (cur.toList.take ss.length)[j]? = (ss.map iv)[j]? := by rw [ht]
  rw [List.getElem?_take_of_lt hj'] at h1
  simp only [World.cell?, hb, Nat.zero_add]
  simp only [Option.isSome_none, Bool.false_eq_true, if_false]
  rw [← Array.getElem?_toList, h1]
  simp [hj']
theorem heap_put_row {w : World} {g n : Nat} {cur : Array Value} {e : TypeId} {fr : Nat × Nat} (d : Array Int) (hb : w.heap[g]? = some (.cells cur e fr)) :
    (putRow iv (Sort.ahead w n) g 0 d).heap[g]? = some (.cells (putCells iv 0 d cur) e fr) := by
  simp [putRow, mapBlock, Sort.ahead, Array.getElem?_modify, hb, onCells]
theorem grown_put_row {w : World} {g n : Nat} (d : Array Int) : w.grownBy (putRow iv (Sort.ahead w n) g 0 d) (some g) := by
  refine ⟨rfl, rfl, rfl, by simp, fun k hk hne => ?_⟩
  have : g ≠ k := fun e => hne (by rw [e])
  simp [putRow, mapBlock, Sort.ahead, Array.getElem?_modify, this]
theorem take_put (cur : Array Value) (ts : List Int) (h : ts.length ≤ cur.size) : (putCells iv 0 ts.toArray cur).toList.take ts.length = ts.map iv := by
  apply List.ext_getElem?
  intro k
  by_cases hk : k < ts.length
  · rw [List.getElem?_take_of_lt hk, Array.getElem?_toList]
    simp [putCells, show k < cur.size by omega, hk]
  · rw [List.getElem?_eq_none (by simp; omega), List.getElem?_eq_none (by simp; omega)]

/-- slices.Reverse of a row of the caller's own -/
theorem rev_own {w : World} {B : Nat} {v : Value} {ss : List Int} (h : RowI w B ss v) (hsz : ss.length ≤ 1000000) :
    Calls Tryz.prog 18 #[v] w fun e w' => e = .returned (.tuple #[]) ∧ RowI w' B ss.reverse v ∧ w.grownBy w' v.ownBlock := by
  rcases h.2 with ⟨rfl, h0⟩ | ⟨g, cap, cur, rfl, hB, hg, r1, r2, r3, r4⟩
  · obtain rfl : ss = [] := List.eq_nil_of_length_eq_zero (by simpa using h0)
    refine (rev_none none 0 w).mono ?_
    rintro e w' ⟨rfl, rfl⟩
    exact ⟨rfl, by simpa using h, World.grownBy.refl _ _⟩
  · refine (rev_holds g 0 cap ss w (holds_own hg (by simpa using r4)) hsz).mono ?_
    rintro e w' ⟨rfl, n, rfl⟩
    have hl : ss.reverse.length = ss.length := List.length_reverse
    refine ⟨rfl, ?_, grown_put_row _⟩
    unfold RowI
    rw [hl]
    refine ⟨by simp, .inr ⟨g, cap, _, rfl, hB, heap_put_row _ hg, r1, r2, by simp [putCells, r3], ?_⟩⟩
    rw [Nat.mul_one, ← hl]
    exact take_put cur _ (by rw [hl]; omega)
end Go.Proofs.YtoghalmjbbkjhaaGreatDoor.Job
