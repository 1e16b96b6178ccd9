/- What a step of the law leaves; great; the law's own jobs. What the law's own examples come to: plain reckoning. The law's own examples: 'known' answers true. -/
import Derived.Test.YtpbnjibomdilhaaGreatDoorMax
namespace Go.Proofs.YtpbnjibomdilhaaGreatDoor.Job
open Go.RowKit Go.Maps

/-- the law's table, as it stands -/
structure St (w W : World) (k b : Nat) (L : List J) (last : Int) (n : Nat) : Prop where
  tab : TabAt W k b L last
  ok : Ok L last n
  bel : Below w.heap.size w W
  ge : w.heap.size ≤ k ∧ w.heap.size ≤ b
theorem St.below {w W W' : World} {k b : Nat} {L : List J} {last : Int} {n : Nat} (h : St w W k b L last n) (hb : Below W.heap.size W W') : St w W' k b L last n := ⟨h.tab.below hb, h.ok, h.bel.trans (hb.mono h.bel.size), h.ge⟩
theorem St.step {w W W' : World} {k b : Nat} {L L' : List J} {last last' : Int} {n m : Nat} (h : St w W k b L last n) (ht : TabAt W' k b L' last') (ho : Ok L' last' m) (hf : Eff k b W W') : St w W' k b L' last' m := ⟨ht, ho, h.bel.trans (hf.below h.ge.1 h.ge.2 h.bel.size), h.ge⟩

theorem step_add {w W W' : World} {k b : Nat} {L : List J} {last : Int} {n : Nat} {j : J} {e : Ending} (h : St w W k b L last n) (hp : AddPost W k b L last j e W') (id : Int) :
    ∃ e0 L' last', e = .returned (.tuple #[.int .u64 (if e0 = 0 then last + 1 else 0), .int .i64 e0]) ∧ St w W' k b L' last' (n + 1) ∧ StepOk n 0 id L last e0 L' last' ∧ Eff k b W W' := by
  obtain ⟨L', last', he, ht, hc, hf⟩ := hp
  rcases hc with ⟨hne, rfl, rfl⟩ | ⟨h0, rfl, da, dc, rfl⟩
  · exact ⟨_, _, _, he, h.step ht (h.ok.more (by omega)) hf, StepOk.none h.ok (.inl hne), hf⟩
  · have hs := StepOk.add (k := 0) (id := id) h.ok (j := j.num (last + 1)) (j' := (j.num (last + 1)).one.at da dc) rfl rfl h0 rfl
    refine ⟨_, _, _, he, h.step ht hs.ok hf, ?_, hf⟩
    rw [h0]
    exact hs
theorem step_change {w W W' : World} {k b : Nat} {L : List J} {last id : Int} {n : Nat} {j : J} {e : Ending} (h : St w W k b L last n) (hp : ChangePost W k b L last id j e W') :
    ∃ e0 L', e = .returned (.int .i64 e0) ∧ St w W' k b L' last (n + 1) ∧ StepOk n 1 id L last e0 L' last ∧ Eff k b W W' := by
  obtain ⟨ce, L', he, ht, hf, hc⟩ := hp
  rcases hc with ⟨hn, rfl, rfl⟩ | ⟨was, hw, ⟨hne, -, rfl⟩ | ⟨rfl, h0, da, dc, rfl⟩⟩
  · exact ⟨_, _, he, h.step ht (h.ok.more (by omega)) hf, StepOk.none h.ok (.inl (by decide)), hf⟩
  · exact ⟨_, _, he, h.step ht (h.ok.more (by omega)) hf, StepOk.none h.ok (.inl hne), hf⟩
  · have hok := h.ok.change (j := j.num id) (j' := ((j.num id).keep was).at da dc) (was := was) hw h0 rfl
    exact ⟨_, _, he, h.step ht hok hf, StepOk.put hw rfl hok (by show was.seen ≤ was.seen; omega) (.inr ⟨rfl, rfl⟩), hf⟩
theorem step_rem {w W W' : World} {k b : Nat} {L : List J} {last id : Int} {n : Nat} {e : Ending} (h : St w W k b L last n) (hp : RemPost W k b L last id e W') :
    ∃ e0 L', e = .returned (.int .i64 e0) ∧ St w W' k b L' last (n + 1) ∧ StepOk n 2 id L last e0 L' last ∧ Eff k b W W' := by
  obtain ⟨ce, L', he, ht, hf, hc⟩ := hp
  rcases hc with ⟨hn, rfl, rfl⟩ | ⟨was, hw, ⟨rfl, -, rfl⟩ | ⟨rfl, h0, rfl⟩⟩
  · exact ⟨_, _, he, h.step ht (h.ok.more (by omega)) hf, StepOk.none h.ok (.inl (by decide)), hf⟩
  · exact ⟨_, _, he, h.step ht (h.ok.more (by omega)) hf, StepOk.none h.ok (.inl (by decide)), hf⟩
  · exact ⟨_, _, he, h.step ht (h.ok.drop hw h0) hf, StepOk.drop hw (h.ok.drop hw h0), hf⟩
theorem step_note {w W W' : World} {k b : Nat} {L : List J} {last id s : Int} {n : Nat} {f : J → J} {kd : Int} {e : Ending} (h : St w W k b L last n) (hp : NotePost W k b L last id s f e W')
    (hfj : ∀ was : J, was.May → seenB s = true → f was = { was with pau := (f was).pau, seen := (f was).seen } ∧ was.seen ≤ (f was).seen ∧ (f was).seen ≤ 13569465599) :
    ∃ e0 L', e = .returned (.int .i64 e0) ∧ St w W' k b L' last (n + 1) ∧ StepOk n kd id L last e0 L' last ∧ Eff k b W W' := by
  obtain ⟨ce, L', he, ht, hf, hc⟩ := hp
  rcases hc with ⟨hn, rfl, rfl⟩ | ⟨was, hw, ⟨rfl, rfl⟩ | ⟨rfl, h0, da, dc, rfl⟩⟩
  · exact ⟨_, _, he, h.step ht (h.ok.more (by omega)) hf, StepOk.none h.ok (.inl (by decide)), hf⟩
  · exact ⟨_, _, he, h.step ht (h.ok.more (by omega)) hf, StepOk.none h.ok (.inl (by decide)), hf⟩
  · obtain ⟨h1, h2, h3⟩ := hfj was (h.ok.may was (findJ_mem hw).1) h0
    have hwm := h.ok.may was (findJ_mem hw).1
    have hid : ((f was).at da dc).id = id := by rw [h1]; exact (findJ_mem hw).2
    have hok : Ok (putJ L ((f was).at da dc)) last (n + 1) := h.ok.note (j := (f was).at da dc) (was := was) (by rw [hid]; exact hw) (by
      conv => lhs; rw [h1]
      rfl) (by have := hwm.seen; show -1 ≤ (f was).seen ∧ (f was).seen ≤ 13569465599; omega)
    exact ⟨_, _, he, h.step ht hok hf, StepOk.put hw hid hok h2 (.inl (by
      have : ((f was).at da dc).ver = was.ver := by rw [h1]; rfl
      exact this)), hf⟩
theorem see_f (s : Int) : ∀ was : J, was.May → seenB s = true → was.seenAt s = { was with pau := (was.seenAt s).pau, seen := (was.seenAt s).seen } ∧ was.seen ≤ (was.seenAt s).seen ∧ (was.seenAt s).seen ≤ 13569465599 := fun was hm hs => by
  have hr : -1 ≤ s ∧ s < 13569465600 := by simpa [seenB] using hs
  have := hm.seen
  refine ⟨rfl, ?_, ?_⟩
  · show was.seen ≤ max was.seen s; omega
  · show max was.seen s ≤ _; omega
theorem pau_f (p : Bool) (s : Int) : ∀ was : J, was.May → seenB s = true → pauF p s was = { was with pau := (pauF p s was).pau, seen := (pauF p s was).seen } ∧ was.seen ≤ (pauF p s was).seen ∧ (pauF p s was).seen ≤ 13569465599 := fun was hm hs => by
  have hr : -1 ≤ s ∧ s < 13569465600 := by simpa [seenB] using hs
  have := hm.seen
  unfold pauF
  by_cases h : (was.pau && !p) = true
  · rw [if_pos h]
    refine ⟨rfl, ?_, ?_⟩
    · show was.seen ≤ max was.seen s; omega
    · show max was.seen s ≤ _; omega
  · rw [if_neg h]
    refine ⟨rfl, ?_, ?_⟩
    · show was.seen ≤ was.seen; omega
    · show was.seen ≤ _; omega

def greatB (j : J) : Bool := decide (100 < j.name.size) || decide (600 < j.expr.size) || decide (12 < j.deps.length)
set_option maxRecDepth 100000 in
theorem great_any (j : J) (w : World) : Calls Tryz.prog 6 #[j.val] w fun e w' => e = .returned (.bool (greatB j)) ∧ Below w.heap.size w w' := by
  unfold greatB J.val J.cells jcells
  by_cases h1 : 100 < j.name.size
  · have d1 : decide (100 < j.name.size) = true := decide_eq_true h1
    have e0 : (100 : Int) < (j.name.size : Int) := by omega
    have e1 : decide ((100 : Int) < (j.name.size : Int)) = true := decide_eq_true e0
    rw [d1, Bool.true_or, Bool.true_or]
    clear d1 h1
    go_enter Tryz.func6, Tryz.ntmps6
    go_wp2
    go_ret
    exact ⟨by first | rfl | simp, (Below.refl _ _).alloc (Nat.le_refl _) _⟩
  · have d1 : decide (100 < j.name.size) = false := decide_eq_false h1
    have e0 : ¬ (100 : Int) < (j.name.size : Int) := by omega
    have e1 : decide ((100 : Int) < (j.name.size : Int)) = false := decide_eq_false e0
    rw [d1, Bool.false_or]
    clear d1 h1
    by_cases h2 : 600 < j.expr.size
    · have d2 : decide (600 < j.expr.size) = true := decide_eq_true h2
      have x0 : (600 : Int) < (j.expr.size : Int) := by omega
      have x1 : decide ((600 : Int) < (j.expr.size : Int)) = true := decide_eq_true x0
      rw [d2, Bool.true_or]
      clear d2 h2
      go_enter Tryz.func6, Tryz.ntmps6
      go_wp2
      go_ret
      exact ⟨by first | rfl | simp, (Below.refl _ _).alloc (Nat.le_refl _) _⟩
    · have d2 : decide (600 < j.expr.size) = false := decide_eq_false h2
      have x0 : ¬ (600 : Int) < (j.expr.size : Int) := by omega
      have x1 : decide ((600 : Int) < (j.expr.size : Int)) = false := decide_eq_false x0
      rw [d2, Bool.false_or]
      clear d2 h2
      by_cases h3 : 12 < j.deps.length
      · have d3 : decide (12 < j.deps.length) = true := decide_eq_true h3
        have y0 : (12 : Int) < (j.deps.length : Int) := by omega
        have y1 : decide ((12 : Int) < (j.deps.length : Int)) = true := decide_eq_true y0
        rw [d3]
        clear d3 h3
        go_enter Tryz.func6, Tryz.ntmps6
        go_wp2
        go_ret
        exact ⟨by first | rfl | simp, (Below.refl _ _).alloc (Nat.le_refl _) _⟩
      · have d3 : decide (12 < j.deps.length) = false := decide_eq_false h3
        have y0 : ¬ (12 : Int) < (j.deps.length : Int) := by omega
        have y1 : decide ((12 : Int) < (j.deps.length : Int)) = false := decide_eq_false y0
        rw [d3]
        clear d3 h3
        go_enter Tryz.func6, Tryz.ntmps6
        go_wp2
        go_ret
        exact ⟨by first | rfl | simp, (Below.refl _ _).alloc (Nat.le_refl _) _⟩
theorem not_great {j : J} (h : greatB j = false) : j.deps.length ≤ 12 := by
  unfold greatB at h
  simp at h
  omega

/-- the law's own jobs -/
def plainJ (name : ByteArray) (a : Option Addr) (c : Nat) (deps : List Int) : J := ⟨0, name, ByteArray.mk #[64, 100, 97, 105, 108, 121], 1, 0, 1, 0, 1, a, c, deps, false, 0, 0⟩
set_option maxRecDepth 100000 in
theorem plain_any (name : ByteArray) (a : Option Addr) (c : Nat) (deps : List Int) (w : World) :
    Calls Tryz.prog 19 #[.string name, .slice a deps.length c] w fun e w' => e = .returned (plainJ name a c deps).val ∧ Below w.heap.size w w' := by
  go_enter Tryz.func19, Tryz.ntmps19
  go_wp2
  refine bodyPost_ret (v := (plainJ name a c deps).val) (by simp [results, Tryz.results19, go_sem, plainJ, J.val, J.cells, jcells]) rfl ?_
  exact ⟨rfl, (Below.refl _ _).alloc (Nat.le_refl _) _⟩
end Go.Proofs.YtpbnjibomdilhaaGreatDoor.Job

namespace Go.Proofs.YtpbnjibomdilhaaGreatDoor.Job
open Go.RowKit Go.Maps

abbrev nA : ByteArray := ByteArray.mk #[97]
abbrev nB : ByteArray := ByteArray.mk #[98]
abbrev nC : ByteArray := ByteArray.mk #[99]
def jA (a : Option Addr) (c : Nat) : J := (((plainJ nA none 0 []).num (0 + 1)).one.at a c)
def jB (x : Option Addr) (y : Nat) (a : Option Addr) (c : Nat) : J := (((plainJ nB x y [1]).num (1 + 1)).one.at a c)
theorem e1 : addE [] ((plainJ nA none 0 []).num (0 + 1)) = 0 := by decide +kernel
theorem e2 (a : Option Addr) (c : Nat) (x : Option Addr) (y : Nat) : addE ([] ++ [jA a c]) ((plainJ nB x y [1]).num (1 + 1)) = 0 := by kernel_rfl
theorem e3 (a : Option Addr) (c : Nat) (x : Option Addr) (y : Nat) (a2 : Option Addr) (c2 : Nat) : addE ([] ++ [jA a c] ++ [jB x y a2 c2]) ((plainJ nA none 0 []).num (2 + 1)) = 150 := by kernel_rfl
theorem f1 (a : Option Addr) (c : Nat) (x : Option Addr) (y : Nat) (a2 : Option Addr) (c2 : Nat) : findJ ([] ++ [jA a c] ++ [jB x y a2 c2]) 1 = some (jA a c) := by kernel_rfl
theorem f2 (a : Option Addr) (c : Nat) (x : Option Addr) (y : Nat) (a2 : Option Addr) (c2 : Nat) : findJ ([] ++ [jA a c] ++ [jB x y a2 c2]) 2 = some (jB x y a2 c2) := by kernel_rfl
theorem u1 (a : Option Addr) (c : Nat) (x : Option Addr) (y : Nat) (a2 : Option Addr) (c2 : Nat) : Gr.usersOf (rowJ ([] ++ [jA a c] ++ [jB x y a2 c2])) 1 = [2] := by kernel_rfl
theorem u2 (a : Option Addr) (c : Nat) (x : Option Addr) (y : Nat) (a2 : Option Addr) (c2 : Nat) : Gr.usersOf (rowJ ([] ++ [jA a c] ++ [jB x y a2 c2])) 2 = [] := by kernel_rfl
theorem e4 (a : Option Addr) (c : Nat) (x : Option Addr) (y : Nat) (a2 : Option Addr) (c2 : Nat) (p : Option Addr) (q : Nat) : changeE ([] ++ [jA a c] ++ [jB x y a2 c2]) ((plainJ nA p q [2]).num 1) = 131 := by kernel_rfl
theorem d2 (a : Option Addr) (c : Nat) (x : Option Addr) (y : Nat) (a2 : Option Addr) (c2 : Nat) : dropJ ([] ++ [jA a c] ++ [jB x y a2 c2]) 2 = [jA a c] := by kernel_rfl
theorem f3 (a : Option Addr) (c : Nat) : findJ [jA a c] 1 = some (jA a c) := by kernel_rfl
theorem u3 (a : Option Addr) (c : Nat) : Gr.usersOf (rowJ [jA a c]) 1 = [] := by kernel_rfl
theorem d1 (a : Option Addr) (c : Nat) : dropJ [jA a c] 1 = [] := by kernel_rfl
theorem e5 : addE [] ((plainJ nC none 0 []).num (2 + 1)) = 0 := by decide +kernel

theorem add_yes {w W W' : World} {k b : Nat} {L : List J} {last : Int} {n : Nat} {j : J} {e : Ending} (h : St w W k b L last n) (hp : AddPost W k b L last j e W') (he : addE L (j.num (last + 1)) = 0) {l1 : Int} (hl : last + 1 = l1) :
    ∃ da dc, e = .returned (.tuple #[.int .u64 l1, .int .i64 0]) ∧ St w W' k b (L ++ [(j.num (last + 1)).one.at da dc]) l1 (n + 1) := by
  obtain ⟨L', last', ee, ht, hc, hf⟩ := hp
  rcases hc with ⟨hne, -, -⟩ | ⟨h0, rfl, da, dc, rfl⟩
  · exact absurd he hne
  · rw [h0, if_pos rfl] at ee
    subst hl
    exact ⟨da, dc, ee, h.step ht (h.ok.add (j := j.num (last + 1)) rfl h0 rfl) hf⟩
theorem add_not {w W W' : World} {k b : Nat} {L : List J} {last : Int} {n : Nat} {j : J} {e : Ending} (h : St w W k b L last n) (hp : AddPost W k b L last j e W') {z : Int} (he : addE L (j.num (last + 1)) = z) (hz : z ≠ 0) :
    e = .returned (.tuple #[.int .u64 0, .int .i64 z]) ∧ St w W' k b L last (n + 1) := by
  obtain ⟨L', last', ee, ht, hc, hf⟩ := hp
  rcases hc with ⟨-, rfl, rfl⟩ | ⟨h0, -⟩
  · rw [he, if_neg hz] at ee
    exact ⟨ee, h.step ht (h.ok.more (by omega)) hf⟩
  · rw [he] at h0; exact absurd h0 hz
theorem rem_used {w W W' : World} {k b : Nat} {L : List J} {last id : Int} {n : Nat} {e : Ending} (h : St w W k b L last n) (hp : RemPost W k b L last id e W') {was : J} (hf : findJ L id = some was) (hu : Gr.usersOf (rowJ L) id ≠ []) :
    e = .returned (.int .i64 151) ∧ St w W' k b L last (n + 1) := by
  obtain ⟨ce, L', he, ht, hE, hc⟩ := hp
  rcases hc with ⟨hn, -⟩ | ⟨was, hw, ⟨rfl, -, rfl⟩ | ⟨rfl, h0, rfl⟩⟩
  · rw [hf] at hn; cases hn
  · exact ⟨he, h.step ht (h.ok.more (by omega)) hE⟩
  · exact absurd h0 hu
theorem rem_gone {w W W' : World} {k b : Nat} {L : List J} {last id : Int} {n : Nat} {e : Ending} (h : St w W k b L last n) (hp : RemPost W k b L last id e W') {was : J} (hf : findJ L id = some was) (hu : Gr.usersOf (rowJ L) id = []) :
    e = .returned (.int .i64 0) ∧ St w W' k b (dropJ L id) last (n + 1) := by
  obtain ⟨ce, L', he, ht, hE, hc⟩ := hp
  rcases hc with ⟨hn, -⟩ | ⟨was, hw, ⟨-, h0, -⟩ | ⟨rfl, h0, rfl⟩⟩
  · rw [hf] at hn; cases hn
  · exact absurd hu h0
  · exact ⟨he, h.step ht (h.ok.drop hw h0) hE⟩
theorem change_not {w W W' : World} {k b : Nat} {L : List J} {last id : Int} {n : Nat} {j : J} {e : Ending} (h : St w W k b L last n) (hp : ChangePost W k b L last id j e W') {was : J} (hf : findJ L id = some was) {z : Int} (he : changeE L (j.num id) = z) (hz : z ≠ 0) :
    e = .returned (.int .i64 z) ∧ St w W' k b L last (n + 1) := by
  obtain ⟨ce, L', ee, ht, hE, hc⟩ := hp
  rcases hc with ⟨hn, -⟩ | ⟨was, hw, ⟨-, rfl, rfl⟩ | ⟨rfl, h0, da, dc, rfl⟩⟩
  · rw [hf] at hn; cases hn
  · rw [he] at ee
    exact ⟨ee, h.step ht (h.ok.more (by omega)) hE⟩
  · rw [he] at h0; exact absurd h0 hz
end Go.Proofs.YtpbnjibomdilhaaGreatDoor.Job

namespace Go.Proofs.YtpbnjibomdilhaaGreatDoor.Job
open Go.RowKit Go.Maps

theorem plain_none (name : ByteArray) (w : World) : JF w (plainJ name none 0 []) := ⟨show U64 0 from ⟨by decide, by decide⟩, show U64 0 from ⟨by decide, by decide⟩, fun x hx => (by cases hx), Vals.nil _ _, fun _ => ⟨rfl, rfl⟩, Nat.le_refl _, Nat.zero_le _⟩
theorem plain_one (name : ByteArray) (w : World) (x : Int) (hx : U64 x) : JF (w.alloc (.cells #[.int .u64 x] 26)) (plainJ name (some ⟨w.heap.size, 0, none⟩) 1 [x]) :=
  ⟨show U64 0 from ⟨by decide, by decide⟩, show U64 0 from ⟨by decide, by decide⟩, (fun y hy => by rw [show y = x by simpa [plainJ] using hy]; exact hx), vals_row [.int .u64 x] (heap_alloc_new w _) (fun i hi => by
    match i, hi with
    | 0, _ => rfl), (fun e => by simp [plainJ] at e), Nat.le_refl _, by unfold maxLen; show (1 : Nat) ≤ _; omega⟩
set_option maxRecDepth 100000 in
set_option maxHeartbeats 8000000 in
theorem known15_any (w : World) (hk : Kit w) : Calls Tryz.prog 4 #[] w fun e w' => e = .returned (.bool true) ∧ Below w.heap.size w w' := by
  have HK := Lib.hid hk
  clear hk
  go_enter Tryz.func4, Tryz.ntmps4
  go_wp2_with fail
  refine (new_any w).mono ?_
  rintro e w1 ⟨rfl, ht1, hb1⟩
  obtain ⟨k, hk⟩ : ∃ k, k = w.heap.size + 1 := ⟨_, rfl⟩
  obtain ⟨b, hb⟩ : ∃ b, b = w.heap.size := ⟨_, rfl⟩
  rw [← hk, ← hb] at ht1
  rw [← hk]
  have HS1 := Lib.hid (show St w w1 k b [] 0 0 from ⟨ht1, Ok.nil 0, hb1, by omega⟩)
  clear hk hb ht1 hb1
  go_wp2_with fail
  refine (plain_any nA none 0 [] w1).mono ?_
  rintro e w2 ⟨rfl, hb⟩
  have HS2 := Lib.hid (HS1.out.below hb)
  have HA := Lib.hid (add_any HS2.out.tab (HK.out.next HS2.out.bel) HS2.out.ok (by omega) (plain_none nA w2) (by decide))
  clear hb
  unfold plainJ J.val J.cells jcells at HA
  unfold plainJ J.val J.cells jcells
  go_wp2_with fail
  refine HA.out.mono ?_
  rintro e w3 hp
  obtain ⟨da, dc, rfl, hs⟩ := add_yes HS2.out hp e1 (l1 := 1) (by decide)
  have HS3 := Lib.hid (show St w w3 k b ([] ++ [jA da dc]) 1 1 from hs)
  clear hp hs HA
  go_wp2_with fail
  refine (plain_any nB (some ⟨w3.heap.size, 0, none⟩) 1 [1] (w3.alloc (.cells #[.int .u64 1] 26))).mono ?_
  rintro e w4 ⟨rfl, hb⟩
  have hb4 : Below w3.heap.size w3 w4 := ((Below.refl _ _).alloc (Nat.le_refl _) _).trans (hb.mono (by simp))
  have HS4 := Lib.hid (HS3.out.below hb4)
  obtain ⟨p, hp⟩ : ∃ p, p = w3.heap.size := ⟨_, rfl⟩
  have hjf := (plain_one nB w3 1 ⟨by decide, by decide⟩).below hb
  rw [← hp] at hjf
  have HA := Lib.hid (add_any HS4.out.tab (HK.out.next HS4.out.bel) HS4.out.ok (by omega) hjf (show 1 ≤ 12 by decide))
  rw [← hp]
  clear hb hb4 hp hjf
  unfold plainJ J.val J.cells jcells at HA
  unfold plainJ J.val J.cells jcells
  go_wp2_with fail
  refine HA.out.mono ?_
  rintro e w5 hp
  obtain ⟨ea, ec, rfl, hs⟩ := add_yes HS4.out hp (e2 da dc (some ⟨p, 0, none⟩) 1) (l1 := 2) (by decide)
  have HS5 := Lib.hid (show St w w5 k b ([] ++ [jA da dc] ++ [jB (some ⟨p, 0, none⟩) 1 ea ec]) 2 2 from hs)
  clear hp hs HA
  go_wp2_with fail
  refine (plain_any nA none 0 [] w5).mono ?_
  rintro e w6 ⟨rfl, hb⟩
  have HS6 := Lib.hid (HS5.out.below hb)
  have HA := Lib.hid (add_any HS6.out.tab (HK.out.next HS6.out.bel) HS6.out.ok (by omega) (plain_none nA w6) (by decide))
  clear hb
  unfold plainJ J.val J.cells jcells at HA
  unfold plainJ J.val J.cells jcells
  go_wp2_with fail
  refine HA.out.mono ?_
  rintro e w7 hp
  obtain ⟨rfl, hs⟩ := add_not HS6.out hp (e3 da dc (some ⟨p, 0, none⟩) 1 ea ec) (by decide)
  have HS7 := Lib.hid hs
  clear hp hs HA
  go_wp2_with fail
  refine (rem_yes HS7.out.tab HS7.out.ok (id := 1) ⟨by decide, by decide⟩ (f1 _ _ _ _ _ _)).mono ?_
  rintro e w8 hp
  obtain ⟨rfl, hs⟩ := rem_used HS7.out hp (f1 _ _ _ _ _ _) (by rw [u1]; simp)
  have HS8 := Lib.hid hs
  clear hp hs
  go_wp2_with fail
  refine (plain_any nA (some ⟨w8.heap.size, 0, none⟩) 1 [2] (w8.alloc (.cells #[.int .u64 2] 26))).mono ?_
  rintro e w9 ⟨rfl, hb⟩
  have hb9 : Below w8.heap.size w8 w9 := ((Below.refl _ _).alloc (Nat.le_refl _) _).trans (hb.mono (by simp))
  have HS9 := Lib.hid (HS8.out.below hb9)
  obtain ⟨r, hr⟩ : ∃ r, r = w8.heap.size := ⟨_, rfl⟩
  have hjf := (plain_one nA w8 2 ⟨by decide, by decide⟩).below hb
  rw [← hr] at hjf
  have HC := Lib.hid (change_yes HS9.out.tab (HK.out.next HS9.out.bel) HS9.out.ok (by omega) (id := 1) ⟨by decide, by decide⟩ (f1 _ _ _ _ _ _) hjf (show 1 ≤ 12 by decide))
  rw [← hr]
  clear hb hb9 hr hjf
  unfold plainJ J.val J.cells jcells at HC
  unfold plainJ J.val J.cells jcells
  go_wp2_with fail
  refine HC.out.mono ?_
  rintro e w10 hp
  obtain ⟨rfl, hs⟩ := change_not HS9.out hp (f1 _ _ _ _ _ _) (e4 _ _ _ _ _ _ (some ⟨r, 0, none⟩) 1) (by decide)
  have HS10 := Lib.hid hs
  clear hp hs HC
  go_wp2_with fail
  refine (rem_yes HS10.out.tab HS10.out.ok (id := 2) ⟨by decide, by decide⟩ (f2 _ _ _ _ _ _)).mono ?_
  rintro e w11 hp
  obtain ⟨rfl, hs⟩ := rem_gone HS10.out hp (f2 _ _ _ _ _ _) (u2 _ _ _ _ _ _)
  rw [d2] at hs
  have HS11 := Lib.hid hs
  clear hp hs
  go_wp2_with fail
  refine (rem_yes HS11.out.tab HS11.out.ok (id := 1) ⟨by decide, by decide⟩ (f3 _ _)).mono ?_
  rintro e w12 hp
  obtain ⟨rfl, hs⟩ := rem_gone HS11.out hp (f3 _ _) (u3 _ _)
  rw [d1] at hs
  have HS12 := Lib.hid hs
  clear hp hs
  go_wp2_with fail
  refine (plain_any nC none 0 [] w12).mono ?_
  rintro e w13 ⟨rfl, hb⟩
  have HS13 := Lib.hid (HS12.out.below hb)
  have HA := Lib.hid (add_any HS13.out.tab (HK.out.next HS13.out.bel) HS13.out.ok (by omega) (plain_none nC w13) (by decide))
  clear hb
  unfold plainJ J.val J.cells jcells at HA
  unfold plainJ J.val J.cells jcells
  go_wp2_with fail
  refine HA.out.mono ?_
  rintro e w14 hp
  obtain ⟨da9, dc9, rfl, hs⟩ := add_yes HS13.out hp e5 (l1 := 3) (by decide)
  have HB := Lib.hid hs.bel
  clear hp hs HA
  go_wp2
  go_ret
  exact ⟨by first | rfl | simp, HB.out⟩
end Go.Proofs.YtpbnjibomdilhaaGreatDoor.Job
