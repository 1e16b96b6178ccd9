/- The reference's Has, place, twice, Same, by their contracts. The reference's Reach, by its contract. The reference's May, by its contract. slices.IndexFunc, slices.ContainsFunc over rows of nodes; isLong, by their contracts. -/
import Derived.Test.YtpbnjibomdilhaaGreatDoorMak
import Derived.BigQuiet
import Derived.Test.YtpbnjibomdilhaaGreatDoorMal
import Derived.BigRegion
import Derived.Test.YtpbnjibomdilhaaGreatDoorMas
import Derived.Shelf.Abstract
namespace Go.Proofs.YtpbnjibomdilhaaGreatDoor.Gph
open Go.RowKit Gr

/-- an Id's place, or -1 -/
def placeOf : List NodeV → Nat → Int → Int
  | [], _, _ => -1
  | v :: l, k, n => if v.id = n then (k : Int) else placeOf l (k + 1) n
theorem placeOf_there {l : List NodeV} {n : Int} : ∀ {k : Nat}, 0 ≤ placeOf l k n ↔ n ∈ ids (rowOf l) := by
  rw [rowOf_ids]
  induction l with
  | nil => intro k; simp [placeOf]
  | cons v l ih =>
    intro k
    simp only [placeOf]
    split
    · rename_i e; subst e; simp
    · rename_i e
      rw [ih]
      simp [Ne.symm e]
theorem placeOf_le {l : List NodeV} {n : Int} : ∀ {k : Nat}, -1 ≤ placeOf l k n ∧ placeOf l k n ≤ k + l.length := by
  induction l with
  | nil => intro k; simp [placeOf]
  | cons v l ih =>
    intro k
    simp only [placeOf, List.length_cons]
    split
    · omega
    · have := ih (k := k + 1)
      omega

end Go.Proofs.YtpbnjibomdilhaaGreatDoor.Gph

namespace Go.Proofs.YtpbnjibomdilhaaGreatDoor.Gph
open Go.RowKit Gr Go.Sort

/-- two rows of a call's own: those seen, and more, in blocks from H on -/
structure RS (w : World) (H : Nat) (sv : Value) (seen : List Int) (mv : Value) (more : List Int) (W : World) : Prop where
  bel : Below w.heap.size w W
  hs : H ≤ W.heap.size
  hw : w.heap.size ≤ H
  seen : RowU w.heap.size sv seen W
  sb : ∀ k, sv.ownBlock = some k → k < H
  more : RowU H mv more W
section
variable {w W W' : World} {H : Nat} {sv mv mv' : Value} {seen more more' : List Int}
theorem RS.below (t : RS w H sv seen mv more W) (hb : Below W.heap.size W W') : RS w H sv seen mv more W' :=
  ⟨t.bel.trans (hb.mono t.bel.size), Nat.le_trans t.hs hb.size, t.hw, t.seen.below hb, t.sb, t.more.below hb⟩
theorem RS.grown (t : RS w H sv seen mv more W) (hg : W.grownBy W' mv.ownBlock) (h : RowU H mv' more' W') : RS w H sv seen mv' more' W' := by
  have hb : Below H W W' := (Below.refl _ _).grown hg t.hs fun k e => (t.more.lt k e).1
  exact ⟨t.bel.trans (hb.mono t.hw), Nat.le_trans t.hs hb.size, t.hw, t.seen.keep hb t.sb, t.sb, h⟩
theorem RS.start (hb : Below w.heap.size w W) (h : RowU w.heap.size sv seen W) : RS w W.heap.size sv seen (.slice none 0 0) [] W :=
  ⟨hb, Nat.le_refl _, hb.size, h, fun k e => (h.lt k e).2, RowU.nil _ _⟩
end

def allDeps (l : List NodeV) : List Int := (l.map (·.deps)).flatten
theorem allDeps_len {l : List NodeV} (hd : ∀ v ∈ l, v.deps.length ≤ 12) : (allDeps l).length ≤ 12 * l.length := by
  unfold allDeps
  induction l with
  | nil => simp
  | cons v l ih =>
    have h1 := hd v (by simp)
    have h2 := ih fun u hu => hd u (by simp [hu])
    simp only [List.map_cons, List.flatten_cons, List.length_append, List.length_cons]
    omega
theorem mem_allDeps {l : List NodeV} {v : NodeV} {d : Int} (hv : v ∈ l) (hd : d ∈ v.deps) : d ∈ allDeps l := List.mem_flatten.2 ⟨v.deps, List.mem_map_of_mem hv, hd⟩
theorem edge_of {l : List NodeV} {v : NodeV} {d : Int} (hv : v ∈ l) (hd : d ∈ v.deps) : Gr.Edge (rowOf l) v.id d := ⟨v.node, List.mem_map_of_mem hv, rfl, hd⟩
theorem edge_iff {l : List NodeV} {x d : Int} : Gr.Edge (rowOf l) x d ↔ ∃ v ∈ l, v.id = x ∧ d ∈ v.deps := by
  constructor
  · rintro ⟨n, hn, e1, e2⟩
    obtain ⟨v, hv, rfl⟩ := List.mem_map.1 hn
    exact ⟨v, hv, e1, e2⟩
  · rintro ⟨v, hv, rfl, hd⟩
    exact edge_of hv hd

/-- those seen so far -/
structure Seen (l : List NodeV) (f : Int) (seen : List Int) : Prop where
  me : f ∈ seen
  nodup : seen.Nodup
  fit : ∀ x ∈ seen, U64 x
  way : ∀ x ∈ seen, x = f ∨ Path (rowOf l) f x
  dep : ∀ x ∈ seen, x = f ∨ x ∈ allDeps l
/-- more, behind k Deps of the i-th node -/
structure More (l : List NodeV) (f t : Int) (seen : List Int) (i k : Nat) (more : List Int) : Prop where
  nodup : more.Nodup
  fit : ∀ x ∈ more, U64 x
  new : ∀ x ∈ more, x ∉ seen
  way : ∀ x ∈ more, Path (rowOf l) f x
  dep : ∀ x ∈ more, x ∈ allDeps l
  done : ∀ j (h : j < l.length), j < i → l[j].id ∈ seen → ∀ d ∈ l[j].deps, d ≠ t ∧ (d ∈ seen ∨ d ∈ more)
  part : ∀ (h : i < l.length), ∀ d ∈ l[i].deps.take k, d ≠ t ∧ (d ∈ seen ∨ d ∈ more)
section
variable {l : List NodeV} {f t : Int} {seen more : List Int} {i k : Nat}
theorem Seen.len (h : Seen l f seen) (hd : ∀ v ∈ l, v.deps.length ≤ 12) : seen.length ≤ 1 + 12 * l.length := by
  have := nodup_le (l := f :: allDeps l) h.nodup fun x hx => by
    rcases h.dep x hx with rfl | h
    · simp
    · simp [h]
  have := allDeps_len hd
  simp only [List.length_cons] at *
  omega
theorem More.len (h : More l f t seen i k more) (hd : ∀ v ∈ l, v.deps.length ≤ 12) : more.length ≤ 12 * l.length := by
  have := nodup_le (l := allDeps l) h.nodup h.dep
  have := allDeps_len hd
  omega
theorem Seen.start (h : U64 f) : Seen l f [f] := ⟨by simp, by simp, (fun x hx => by simp at hx; exact hx ▸ h), (fun x hx => by simp at hx; exact .inl hx), fun x hx => by simp at hx; exact .inl hx⟩
theorem More.start : More l f t seen 0 0 [] :=
  ⟨List.nodup_nil, (fun x hx => by cases hx), (fun x hx => by cases hx), (fun x hx => by cases hx), (fun x hx => by cases hx), fun j _ hj => absurd hj (by omega), fun _ d hd => by simp at hd⟩
/-- the next node -/
theorem More.next (h : More l f t seen i k more) (hi : i < l.length) (hk : l[i].id ∈ seen → k = l[i].deps.length) : More l f t seen (i + 1) 0 more :=
  ⟨h.nodup, h.fit, h.new, h.way, h.dep, fun j hj hji hjs => by
    rcases Nat.lt_or_ge j i with h1 | h1
    · exact h.done j hj h1 hjs
    · obtain rfl : j = i := by omega
      intro d hd
      refine h.part hj d ?_
      rw [hk hjs, List.take_length]
      exact hd, fun _ d hd => by simp at hd⟩
/-- the next Dep, which is in already -/
theorem More.old (h : More l f t seen i k more) (hi : i < l.length) (hk : k < l[i].deps.length) (hne : l[i].deps[k] ≠ t) (hin : l[i].deps[k] ∈ seen ∨ l[i].deps[k] ∈ more) : More l f t seen i (k + 1) more :=
  ⟨h.nodup, h.fit, h.new, h.way, h.dep, h.done, fun _ d hd => by
    rw [List.take_succ_eq_append_getElem hk] at hd
    rcases List.mem_append.1 hd with hd | hd
    · exact h.part hi d hd
    · simp at hd
      subst hd
      exact ⟨hne, hin⟩⟩
/-- .. which is new -/
theorem More.add (h : More l f t seen i k more) (hS : Seen l f seen) (hi : i < l.length) (hk : k < l[i].deps.length) (hne : l[i].deps[k] ≠ t) (hs : l[i].id ∈ seen) (h1 : l[i].deps[k] ∉ seen) (h2 : l[i].deps[k] ∉ more) (hu : U64 l[i].deps[k]) :
    More l f t seen i (k + 1) (more ++ [l[i].deps[k]]) := by
  have he := edge_of (List.getElem_mem hi) (List.getElem_mem hk)
  have hp : Path (rowOf l) f l[i].deps[k] := by
    rcases hS.way _ hs with e | p
    · rw [← e]; exact .one he
    · exact p.snoc he
  have hm : ∀ {P : Int → Prop}, (∀ x ∈ more, P x) → P l[i].deps[k] → ∀ x ∈ more ++ [l[i].deps[k]], P x := fun h3 h4 x hx => by
    rcases List.mem_append.1 hx with hx | hx
    · exact h3 x hx
    · simp at hx; subst hx; exact h4
  refine ⟨List.nodup_append.2 ⟨h.nodup, by simp, fun a ha b hb => by simp at hb; subst hb; exact fun e => h2 (e ▸ ha)⟩, hm h.fit hu, hm h.new h1, hm h.way hp, hm h.dep (mem_allDeps (List.getElem_mem hi) (List.getElem_mem hk)), fun j hj hji hjs d hd => ?_, fun _ d hd => ?_⟩
  · obtain ⟨a, b⟩ := h.done j hj hji hjs d hd
    exact ⟨a, b.imp id fun b => List.mem_append.2 (.inl b)⟩
  · rw [List.take_succ_eq_append_getElem hk] at hd
    rcases List.mem_append.1 hd with hd | hd
    · obtain ⟨a, b⟩ := h.part hi d hd
      exact ⟨a, b.imp id fun b => List.mem_append.2 (.inl b)⟩
    · simp at hd
      subst hd
      exact ⟨hne, .inr (by simp)⟩
/-- who is found is reached -/
theorem Seen.found (h : Seen l f seen) (hi : i < l.length) (hk : k < l[i].deps.length) (hs : l[i].id ∈ seen) (he : l[i].deps[k] = t) : Path (rowOf l) f t := by
  have e := edge_of (List.getElem_mem hi) (List.getElem_mem hk)
  rw [he] at e
  rcases h.way _ hs with h1 | p
  · rw [← h1]; exact .one e
  · exact p.snoc e
/-- nothing more: who has not been found is not reached -/
theorem Seen.none (h : Seen l f seen) (hm : More l f t seen l.length 0 []) : ¬ Path (rowOf l) f t := fun p => by
  have key : ∀ x, x ∈ seen → ∀ d, Gr.Edge (rowOf l) x d → d ∈ seen ∧ d ≠ t := fun x hx d he => by
    obtain ⟨v, hv, rfl, hd⟩ := edge_iff.1 he
    obtain ⟨j, hj, rfl⟩ := List.getElem_of_mem hv
    obtain ⟨a, b⟩ := hm.done j hj hj hx d hd
    exact ⟨b.resolve_right (by simp), a⟩
  exact (p.closed (S := fun x => x ∈ seen ∧ x ≠ t) (fun c e => key f h.me c e) (fun c d hc e => key c hc.1 d e)).2 rfl
/-- what is seen in the next round -/
theorem Seen.join (h : Seen l f seen) (hm : More l f t seen i k more) : Seen l f (seen ++ more) := by
  have hap : ∀ {P : Int → Prop}, (∀ x ∈ seen, P x) → (∀ x ∈ more, P x) → ∀ x ∈ seen ++ more, P x := fun h1 h2 x hx => (List.mem_append.1 hx).elim (h1 x) (h2 x)
  exact ⟨List.mem_append.2 (.inl h.me), List.nodup_append.2 ⟨h.nodup, hm.nodup, fun a ha b hb e => hm.new b hb (e ▸ ha)⟩, hap h.fit hm.fit, hap h.way fun x hx => .inr (hm.way x hx), hap h.dep fun x hx => .inr (hm.dep x hx)⟩
end
def meas (seen : List Int) (fst : Bool) : Nat := 2 * (2000 - seen.length) + fst.toNat

end Go.Proofs.YtpbnjibomdilhaaGreatDoor.Gph

namespace Go.Proofs.YtpbnjibomdilhaaGreatDoor.Gph
open Go.RowKit Gr

theorem long_yes {l : List NodeV} {i : Nat} (hi : i < l.length) (h : 8 < l[i].deps.length) : isLong (rowOf l) = true := by
  unfold isLong
  rw [Bool.or_eq_true, List.any_eq_true]
  exact .inr ⟨l[i].node, List.mem_map_of_mem (List.getElem_mem hi), decide_eq_true h⟩
theorem long_no {l : List NodeV} (h : l.length ≤ 64) (hd : ∀ i (hi : i < l.length), l[i].deps.length ≤ 8) : isLong (rowOf l) = false := by
  refine long_iff.2 ⟨by rw [rowOf_len]; exact h, fun n hn => ?_⟩
  obtain ⟨v, hv, rfl⟩ := List.mem_map.1 hn
  obtain ⟨i, hi, rfl⟩ := List.getElem_of_mem hv
  exact hd i hi
theorem twice_ids {l : List NodeV} {i : Nat} (hi : i < l.length) (h : l[i].id ∈ ids (rowOf (l.take i))) : hasTwice (rowOf l) = true := by
  unfold hasTwice
  rw [Bool.or_eq_true]
  refine .inl ?_
  simp only [Gr.twice, Bool.not_eq_true', decide_eq_false_iff_not]
  intro hn
  rw [rowOf_ids] at hn h
  obtain ⟨v, hv, he⟩ := List.mem_map.1 h
  obtain ⟨j, hj, hje⟩ := List.mem_take_iff_getElem.1 hv
  refine List.pairwise_iff_getElem.1 hn j i (by simp; omega) (by simpa using hi) (by omega) ?_
  simp [hje, he]
theorem twice_deps {l : List NodeV} {i : Nat} (hi : i < l.length) (h : Gr.twice l[i].deps = true) : hasTwice (rowOf l) = true := by
  unfold hasTwice
  rw [Bool.or_eq_true, List.any_eq_true]
  exact .inr ⟨l[i].node, List.mem_map_of_mem (List.getElem_mem hi), h⟩
theorem twice_no {l : List NodeV} (h1 : ∀ i (hi : i < l.length), l[i].id ∉ ids (rowOf (l.take i))) (h2 : ∀ i (hi : i < l.length), Gr.twice l[i].deps = false) : hasTwice (rowOf l) = false := by
  refine twice_iff.2 ⟨?_, fun n hn => ?_⟩
  · rw [rowOf_ids]
    refine List.pairwise_iff_getElem.2 fun j k hj hk hjk e => ?_
    simp only [List.length_map] at hj hk
    refine h1 k hk ?_
    rw [rowOf_ids]
    refine List.mem_map.2 ⟨l[j], List.mem_take_iff_getElem.2 ⟨j, by omega, rfl⟩, ?_⟩
    simpa using e
  · obtain ⟨v, hv, rfl⟩ := List.mem_map.1 hn
    obtain ⟨i, hi, rfl⟩ := List.getElem_of_mem hv
    have := h2 i hi
    simpa [Gr.twice, NodeV.node] using this
theorem stranger_yes {l : List NodeV} {i k : Nat} (hi : i < l.length) (hk : k < l[i].deps.length) (h : l[i].deps[k] ∉ ids (rowOf l)) : hasStranger (rowOf l) = true := by
  cases hs : hasStranger (rowOf l) with
  | true => rfl
  | false => exact absurd (stranger_iff.1 hs l[i].node (List.mem_map_of_mem (List.getElem_mem hi)) _ (List.getElem_mem hk)) h
theorem stranger_no {l : List NodeV} (h : ∀ i (hi : i < l.length), ∀ d ∈ l[i].deps, d ∈ ids (rowOf l)) : hasStranger (rowOf l) = false := by
  refine stranger_iff.2 fun n hn d hd => ?_
  obtain ⟨v, hv, rfl⟩ := List.mem_map.1 hn
  obtain ⟨i, hi, rfl⟩ := List.getElem_of_mem hv
  exact h i hi d hd
theorem may_long {L : Row} (h : isLong L = true) : mayOf L = 3 := by simp [mayOf, h]
theorem may_twice {L : Row} (h : isLong L = false) (h2 : hasTwice L = true) : mayOf L = 130 := by simp [mayOf, h, h2]
theorem may_stranger {L : Row} (h : isLong L = false) (h2 : hasTwice L = false) (h3 : hasStranger L = true) : mayOf L = 5 := by simp [mayOf, h, h2, h3]
theorem may_ring {L : Row} (h : isLong L = false) (h2 : hasTwice L = false) (h3 : hasStranger L = false) {a : Int} (p : Path L a a) : mayOf L = 131 := by
  have := (order_full (twice_iff.1 h2).1 (stranger_iff.1 h3)).2 ⟨a, p.head, p⟩
  simp [mayOf, h, h2, h3, this]
theorem may_ok {L : Row} (h : isLong L = false) (h2 : hasTwice L = false) (h3 : hasStranger L = false) (hp : ∀ n ∈ L, ¬ Path L n.1 n.1) : mayOf L = 0 := by
  have : ¬ (orderOf L).length < L.length := fun hl => by
    obtain ⟨a, ha, p⟩ := (order_full (twice_iff.1 h2).1 (stranger_iff.1 h3)).1 hl
    obtain ⟨n, hn, rfl⟩ := List.mem_map.1 ha
    exact hp n hn p
  simp [mayOf, h, h2, h3, this]

end Go.Proofs.YtpbnjibomdilhaaGreatDoor.Gph

namespace Go.Proofs.YtpbnjibomdilhaaGreatDoor.Gph
open Go.RowKit Gr Go.Shelf

/-- a closure that tells p of each node of l, wherever it is called -/
def Tests (g : Nat) (lb : Array Value) (l : List NodeV) (p : NodeV → Bool) (w : World) : Prop :=
  ∀ (W : World) (v : NodeV), v ∈ l → Below w.heap.size w W → Calls Tryz.prog g (#[.agg #[.int .u64 v.id, .slice v.da v.deps.length v.dc]] ++ lb) W fun e w' => e = .returned (.bool (p v)) ∧ Below W.heap.size W w'

set_option maxRecDepth 100000 in
set_option maxHeartbeats 1000000 in
theorem indexFunc_any {w : World} {a : Option Addr} {l : List NodeV} {c : Nat} (hN : NodesF w a l) (hl : l.length ≤ 1000000) (g : Nat) (lb : Array Value) (eg : ∀ args w, (callFunc g args).run Tryz.prog w = .ok (.enter g args) w) (p : NodeV → Bool) (hp : Tests g lb l p w) :
    Calls Tryz.prog 65 #[.slice a l.length c, .func (.func g) #[] lb] w fun e w' => ∃ r : Int, e = .returned (.int .i64 r) ∧ -1 ≤ r ∧ (0 ≤ r ↔ l.any p = true) ∧ Below w.heap.size w w' := by
  obtain ⟨⟨b, q, ha, hc⟩, hfit⟩ := hN
  have HA := Lib.hid ha
  have HC := Lib.hid hc
  have HP := Lib.hid hp
  obtain ⟨s, hs⟩ : ∃ s, s = l.any p := ⟨_, rfl⟩
  rw [← hs]
  have HS := Lib.hid hs
  clear ha hc hfit hp hs
  go_enter Tryz.func65, Tryz.ntmps65
  go_wp2
  go_loopw [8] (fun v wr => Below w.heap.size w wr ∧ ∃ i : Nat, v = .int .i64 (i : Int) ∧ i ≤ l.length ∧ ∀ j (hj : j < l.length), j < i → p l[j] = false) (fun v _ => l.length - (intOf v).toNat)
  case atStart => exact ⟨Below.refl _ _, 0, rfl, Nat.zero_le _, fun j _ hj => absurd hj (by omega)⟩
  case round =>
    obtain ⟨hb, i, rfl, hi, hall⟩ := hrel
    have HALL := Lib.hid hall
    have HB := Lib.hid hb
    clear hall hb
    by_cases hlt : i < l.length
    · obtain ⟨hg, hc1, hc2⟩ := HC.out i hlt
      have ea := HA.out (by intro e; subst e; simp at hlt)
      cases ea
      have hd1 := (HB.out.cell (p := ⟨b, q + i * 2, none⟩) hg).trans hc1
      have hd2 := (HB.out.cell (p := ⟨b, q + i * 2 + 1, none⟩) hg).trans hc2
      have hd : decide ((i : Int) < (l.length : Int)) = true := by simp; omega
      have hcall := HP.out wr l[i] (List.getElem_mem hlt) HB.out
      obtain ⟨v, hv⟩ : ∃ v, l[i] = v := ⟨_, rfl⟩
      rw [hv] at hd1 hd2 hcall
      have HV := Lib.hid hv
      clear hv hc1 hc2 hg
      cases hq : p v with
      | true =>
        rw [hq] at hcall
        have HQ := Lib.hid hq
        have HCALL := Lib.hid hcall
        clear hcall hq
        go_wp2_with (go_at_fn g; refine HCALL.out.mono ?_; rintro e w' ⟨rfl, hb'⟩)
        go_ret
        have : l.any p = true := List.any_eq_true.2 ⟨l[i], List.getElem_mem hlt, by rw [HV.out]; exact HQ.out⟩
        exact ⟨(i : Int), rfl, by omega, ⟨fun _ => by rw [HS.out]; exact this, fun _ => by omega⟩, HB.out.trans (hb'.mono HB.out.size)⟩
      | false =>
        rw [hq] at hcall
        have HQ := Lib.hid hq
        have HCALL := Lib.hid hcall
        clear hcall hq
        go_wp2_with (go_at_fn g; refine HCALL.out.mono ?_; rintro e w' ⟨rfl, hb'⟩)
        go_roundw
        case rel => exact ⟨HB.out.trans (hb'.mono HB.out.size), i + 1, by go_num, by omega, fun j hj hji => by
          rcases Nat.lt_or_ge j i with h1 | h1
          · exact HALL.out j hj h1
          · obtain rfl : j = i := by omega
            rw [HV.out]
            exact HQ.out⟩
        case measure => simp [intOf]; omega
    · have hd : decide ((i : Int) < (l.length : Int)) = false := by simp; omega
      go_wp2
      go_ret
      have : l.any p = false := by
        rw [List.any_eq_false]
        intro v hv
        obtain ⟨j, hj, rfl⟩ := List.getElem_of_mem hv
        rw [HALL.out j hj (by omega)]
        simp
      exact ⟨-1, rfl, by omega, ⟨fun h => absurd h (by omega), fun h => by rw [HS.out, this] at h; cases h⟩, HB.out⟩

theorem containsFunc_any {w : World} {a : Option Addr} {l : List NodeV} {c : Nat} (hN : NodesF w a l) (hl : l.length ≤ 1000000) (g : Nat) (lb : Array Value) (eg : ∀ args w, (callFunc g args).run Tryz.prog w = .ok (.enter g args) w) (p : NodeV → Bool) (hp : Tests g lb l p w) :
    Calls Tryz.prog 47 #[.slice a l.length c, .func (.func g) #[] lb] w fun e w' => e = .returned (.bool (l.any p)) ∧ Below w.heap.size w w' := by
  have HI := Lib.hid (indexFunc_any (c := c) hN hl g lb eg p hp)
  obtain ⟨s, hs⟩ : ∃ s, s = l.any p := ⟨_, rfl⟩
  rw [← hs] at HI ⊢
  clear hN hp hs
  go_enter Tryz.func47, Tryz.ntmps47
  go_wp2_with fail
  refine HI.out.mono ?_
  rintro e w1 ⟨r, rfl, hr1, hr2, hb⟩
  have HB := Lib.hid hb
  have hrs : decide (0 ≤ r) = s := by
    cases s with
    | true => have := hr2.2 rfl; simp; omega
    | false =>
      have : ¬ 0 ≤ r := fun h => by have := hr2.1 h; cases this
      simp; omega
  have HRS := Lib.hid hrs
  clear hr2 hb hrs
  go_wp2
  go_ret
  exact ⟨by rw [← HRS.out]; rfl, HB.out⟩

theorem isLong1_any (v : NodeV) (W : World) :
    Calls Tryz.prog 48 #[.agg #[.int .u64 v.id, .slice v.da v.deps.length v.dc]] W fun e w' => e = .returned (.bool (decide (8 < v.deps.length))) ∧ Below W.heap.size W w' := by
  obtain ⟨s, hs⟩ : ∃ s, s = decide (8 < v.deps.length) := ⟨_, rfl⟩
  rw [← hs]
  have hs2 : decide ((8 : Int) < (v.deps.length : Int)) = s := by rw [hs]; simp; omega
  have HS := Lib.hid hs2
  clear hs hs2
  go_enter Tryz.func48, Tryz.ntmps48
  go_wp2
  go_ret
  exact ⟨by rw [← HS.out]; rfl, (Below.refl _ _).alloc (Nat.le_refl _) _⟩

theorem isLong_any {w : World} {a : Option Addr} {l : List NodeV} {c : Nat} (hN : NodesF w a l) (hl : l.length ≤ 1000000) :
    Calls Tryz.prog 32 #[.slice a l.length c] w fun e w' => e = .returned (.bool (isLong (rowOf l))) ∧ Below w.heap.size w w' := by
  have hC := containsFunc_any (c := c) hN hl 48 #[] (enters_of Tryz.func48 (by kernel_rfl) rfl) (fun v => decide (8 < v.deps.length)) (fun W v _ _ => isLong1_any v W)
  have he : isLong (rowOf l) = (decide (64 < l.length) || l.any fun v => decide (8 < v.deps.length)) := by
    unfold isLong
    rw [rowOf_len, rowOf, List.any_map]
    rfl
  obtain ⟨s, hs⟩ : ∃ s, s = isLong (rowOf l) := ⟨_, rfl⟩
  obtain ⟨t, ht⟩ : ∃ t, t = l.any fun v => decide (8 < v.deps.length) := ⟨_, rfl⟩
  rw [← hs, ← ht] at he
  rw [← ht] at hC
  rw [← hs]
  have HC := Lib.hid hC
  clear hN hC hs ht
  by_cases h64 : l.length ≤ 64
  · have hg64 : decide ((64 : Int) < (l.length : Int)) = false := by simp; omega
    have hst : s = t := by rw [he, decide_eq_false (by omega)]; rfl
    subst hst
    clear he
    go_enter Tryz.func32, Tryz.ntmps32
    go_wp2_with fail
    refine HC.out.mono ?_
    rintro e w1 ⟨rfl, hb⟩
    have HB := Lib.hid hb
    clear hb
    go_wp2
    go_ret
    exact ⟨rfl, HB.out⟩
  · have hg64 : decide ((64 : Int) < (l.length : Int)) = true := by simp; omega
    have hst : s = true := by rw [he, decide_eq_true (by omega)]; rfl
    subst hst
    clear he HC
    go_enter Tryz.func32, Tryz.ntmps32
    go_wp2
    go_ret
    exact ⟨rfl, Below.refl _ _⟩

end Go.Proofs.YtpbnjibomdilhaaGreatDoor.Gph
