/- Mathematics of a log's last segment: what is sure of it, what a put, a sync, a crash make of it. No program is spoken of here. Mathematics of a log of which so many entries are sure: one more entry, a sync, a crash. No program is spoken of here. Mathematics of a log, continued: what Sync and a crash make of it. No program is spoken of here. Mathematics of a log, the end: what Open makes of a log behind a crash. No program is spoken of here. Mathematics of a log: a crash, and Open behind it. No program is spoken of here. Append of one entry, Sync, a crash with Open behind it, Loose: by their contracts, at a log of which so much is sure. -/
import Derived.Test.YtmfemedcjgeheaaGreatDoorTornW10
import Derived.Test.YtmfemedcjgeheaaGreatDoorWhC
import Derived.Test.YtmfemedcjgeheaaGreatDoorSync10
namespace Go.Proofs.YtmfemedcjgeheaaGreatDoor.Wl
open Dsk

/-- the file of a log's last segment: s of its records are sure -/
inductive Tail : Fil → List Ent → Nat → Prop
  | sure {recs : List Ent} {s : Nat} {lo : Bool} : 1 ≤ s → s ≤ recs.length → (lo = false → s = recs.length) → Tail ⟨⟨true, flatE recs, (flatE (recs.take s)).length⟩, [], lo⟩ recs s
  | new {recs : List Ent} {w : Nat} : 1 ≤ recs.length → Tail ⟨Ver.zero, [⟨true, flatE recs, w⟩], true⟩ recs 0

theorem Tail.now {f : Fil} {recs : List Ent} {s : Nat} (h : Tail f recs s) : f.now.there = true ∧ f.now.bs = flatE recs := by
  cases h with
  | sure _ _ _ => rw [Fil.now_nil rfl]; exact ⟨rfl, rfl⟩
  | new _ => rw [Fil.now_some (l := []) rfl]; exact ⟨rfl, rfl⟩
theorem Tail.put {f : Fil} {recs : List Ent} {s : Nat} (h : Tail f recs s) (e : Ent) : Tail (appF f (frm e)) (recs ++ [e]) s := by
  have hn := h.now.1
  unfold appF
  rw [if_pos hn]
  cases h with
  | @sure recs s lo h1 h2 h3 =>
    rw [Fil.app_nil rfl]
    have ht : recs.take s = (recs ++ [e]).take s := by rw [List.take_append_of_le_length h2]
    have hb : (Ver.mk true (flatE recs) (flatE (recs.take s)).length).app (frm e) = ⟨true, flatE (recs ++ [e]), (flatE ((recs ++ [e]).take s)).length⟩ := by
      rw [← ht, flatE_snoc]
      rfl
    rw [hb]
    exact .sure h1 (by simp; omega) (fun h => by cases h)
  | @new recs w h1 =>
    rw [Fil.app_some (l := []) rfl]
    have hb : (Ver.mk true (flatE recs) w).app (frm e) = ⟨true, flatE (recs ++ [e]), w⟩ := by rw [flatE_snoc]; rfl
    rw [hb]
    exact .new (by simp)
theorem Tail.first (e : Ent) : Tail (appF Fil.zero (frm e)) [e] 0 := by
  have : appF Fil.zero (frm e) = ⟨Ver.zero, [⟨true, flatE [e], (frm e).length⟩], true⟩ := by
    unfold appF
    rw [if_neg (by decide)]
    simp [Fil.chg, Fil.zero, flatE]
  rw [this]
  exact .new (by simp)
theorem Tail.sync {f : Fil} {recs : List Ent} {s : Nat} (h : Tail f recs s) : settled f.now = some ⟨⟨true, flatE recs, (flatE recs).length⟩, [], false⟩ := by
  obtain ⟨h1, h2⟩ := h.now
  unfold settled
  rw [if_pos h1, h1, h2]
theorem Tail.whole {recs : List Ent} (h : 1 ≤ recs.length) : Tail ⟨⟨true, flatE recs, (flatE recs).length⟩, [], false⟩ recs recs.length := by
  have := Tail.sure (recs := recs) (s := recs.length) (lo := false) h (Nat.le_refl _) (fun _ => rfl)
  rwa [List.take_length] at this
theorem Tail.crash {f : Fil} {recs : List Ent} {s : Nat} (h : Tail f recs s) (p : Nat) : (settled (f.torn p) = none ∧ s = 0) ∨ ∃ m, settled (f.torn p) = some ⟨⟨true, (flatE recs).take m, ((flatE recs).take m).length⟩, [], false⟩ ∧ (flatE (recs.take s)).length ≤ m := by
  cases h with
  | @sure recs s lo h1 h2 h3 =>
    exact .inr ⟨_, rfl, Nat.le_add_right _ _⟩
  | @new recs w h1 =>
    unfold Fil.torn tornGo
    split
    · left
      exact ⟨rfl, rfl⟩
    · right
      exact ⟨_, rfl, by simp [flatE]⟩
end Go.Proofs.YtmfemedcjgeheaaGreatDoor.Wl

namespace Go.Proofs.YtmfemedcjgeheaaGreatDoor.Wl
open Dsk

def whl (l : List Ent) : Option Fil := some ⟨⟨true, flatE l, (flatE l).length⟩, [], false⟩
/-- a log alone on its disk, of which c records are sure -/
structure Log (M : Files) (L : List (Nat × List Ent)) (E : List Ent) (c : Nat) : Prop where
  whole : Whole M L E
  only : ∀ n f, M n = some f → ∃ x ∈ L, n = nameOf x.1
  full : ∀ L0 x, L = L0 ++ [x] → ∀ y ∈ L0, M (nameOf y.1) = whl y.2
  tail : ∀ L0 x, L = L0 ++ [x] → ∃ f s, M (nameOf x.1) = some f ∧ Tail f x.2 s ∧ c ≤ (L0.map Prod.snd).flatten.length + s
  zero : L = [] → c = 0

theorem Log.new : Log (fun _ => none) [] [] 0 where
  whole := Whole.new
  only := fun n f h => by cases h
  full := fun L0 x h => by simp at h
  tail := fun L0 x h => by simp at h
  zero := fun _ => rfl

theorem snoc_inj {α : Type} {a b : List α} {x y : α} (h : a ++ [x] = b ++ [y]) : a = b ∧ x = y := by
  have := List.append_inj' h rfl
  exact ⟨this.1, by simpa using this.2⟩

theorem Log.put {M : Files} {L : List (Nat × List Ent)} {E E' : List Ent} {c : Nat} (h : Log M L E c) {e : Ent} (he : e.ok) (hf : follow E e = some E') (hk : (curL L).num < 99999999) : Log (putM M (curL L) e) (putL L e) E' c := by
  have hW := h.whole.put he hf hk
  by_cases hL : L = []
  · subst hL
    have hc0 := h.zero rfl
    subst hc0
    have hs : putM M (curL []) e = upd M (nameOf 1) (some (appF (M.at (nameOf 1)) (frm e))) := rfl
    have hM : M (nameOf 1) = none := by
      cases hm : M (nameOf 1) with
      | none => rfl
      | some f => obtain ⟨x, hx, _⟩ := h.only _ f hm; cases hx
    have hat : M.at (nameOf 1) = Fil.zero := by simp [Files.at, hM]
    rw [hs, hat, putL_nil] at hW ⊢
    refine ⟨hW, fun n f hn => ?_, fun L0 x hx => ?_, fun L0 x hx => ?_, fun h0 => by simp at h0⟩
    · by_cases e1 : n = nameOf 1
      · exact ⟨(1, [e]), by simp, e1⟩
      · rw [upd_other _ _ e1] at hn
        obtain ⟨x, hx, _⟩ := h.only _ f hn
        cases hx
    · obtain ⟨rfl, rfl⟩ := snoc_inj (a := []) hx
      intro y hy; cases hy
    · obtain ⟨rfl, rfl⟩ := snoc_inj (a := []) hx
      exact ⟨_, 0, upd_same _ _ _, Tail.first e, Nat.zero_le _⟩
  · obtain ⟨L, x, rfl⟩ : ∃ L' x, L = L' ++ [x] := ⟨L.dropLast, L.getLast hL, (List.dropLast_concat_getLast hL).symm⟩
    obtain ⟨hx1, hx2, hx3, hx4⟩ := h.whole.last
    obtain ⟨f, s, hfm, hft, hcs⟩ := h.tail L x rfl
    have hfull := h.full L x rfl
    rw [curL_snoc] at hk hW ⊢
    dsimp only at hk
    by_cases h8 : 8 ≤ x.2.length
    · have hs : syncM M ⟨x.1, x.2.length⟩ = upd M (nameOf x.1) (settled (M.at (nameOf x.1)).now) := if_pos h8
      have hst : settled (M.at (nameOf x.1)).now = whl x.2 := by
        have : M.at (nameOf x.1) = f := by simp [Files.at, hfm]
        rw [this]
        exact hft.sync
      have hne1 : nameOf (x.1 + 1) ≠ nameOf x.1 := fun e0 => by
        have := name_inj (j := x.1 + 1) (k := x.1) ⟨by omega, by omega⟩ hx1 e0
        omega
      have hnone : M (nameOf (x.1 + 1)) = none := by
        cases hm : M (nameOf (x.1 + 1)) with
        | none => rfl
        | some q =>
          obtain ⟨y, hy, hye⟩ := h.only _ q hm
          have hyr : 1 ≤ y.1 ∧ y.1 ≤ 99999999 := ((h.whole.segs.2 y.1 (flatE y.2)).1 (List.mem_map.2 ⟨y, hy, rfl⟩)).1
          have := name_inj (j := x.1 + 1) (k := y.1) ⟨by omega, by omega⟩ hyr hye
          rcases List.mem_append.1 hy with hy | hy
          · have := hx4 y hy; omega
          · simp at hy; subst hy; omega
      have hp : putM M ⟨x.1, x.2.length⟩ e = upd (upd M (nameOf x.1) (whl x.2)) (nameOf (x.1 + 1)) (some (appF Fil.zero (frm e))) := by
        unfold putM
        rw [next_full h8, hs, hst]
        dsimp only
        rw [upd_at_other _ _ hne1]
        simp [Files.at, hnone]
      rw [hp, putL_full e h8] at hW ⊢
      have hlo : ∀ y ∈ L, nameOf y.1 ≠ nameOf x.1 ∧ nameOf y.1 ≠ nameOf (x.1 + 1) := fun y hy => by
        have hyr : 1 ≤ y.1 ∧ y.1 ≤ 99999999 := ((h.whole.segs.2 y.1 (flatE y.2)).1 (List.mem_map.2 ⟨y, by simp [hy], rfl⟩)).1
        have := hx4 y hy
        exact ⟨fun e0 => by have := name_inj hyr hx1 e0; omega, fun e0 => by have := name_inj hyr (k := x.1 + 1) ⟨by omega, by omega⟩ e0; omega⟩
      refine ⟨hW, fun n q hn => ?_, fun L0 z hz => ?_, fun L0 z hz => ?_, fun h0 => by simp at h0⟩
      · by_cases e1 : n = nameOf (x.1 + 1)
        · exact ⟨(x.1 + 1, [e]), by simp, e1⟩
        · rw [upd_other _ _ e1] at hn
          by_cases e2 : n = nameOf x.1
          · exact ⟨x, by simp, e2⟩
          · rw [upd_other _ _ e2] at hn
            obtain ⟨y, hy, hye⟩ := h.only _ q hn
            exact ⟨y, by simp at hy ⊢; rcases hy with hy | hy <;> simp [hy], hye⟩
      · obtain ⟨rfl, rfl⟩ := snoc_inj hz
        intro y hy
        rcases List.mem_append.1 hy with hy | hy
        · rw [upd_other _ _ (hlo y hy).2, upd_other _ _ (hlo y hy).1]
          exact hfull y hy
        · simp at hy; subst hy
          rw [upd_other _ _ (Ne.symm hne1), upd_same]
      · obtain ⟨rfl, rfl⟩ := snoc_inj hz
        refine ⟨_, 0, upd_same _ _ _, Tail.first e, ?_⟩
        have : s ≤ x.2.length := by cases hft <;> simp_all
        simp
        simp at hcs
        omega
    · have hs : syncM M ⟨x.1, x.2.length⟩ = M := if_neg h8
      have hp : putM M ⟨x.1, x.2.length⟩ e = upd M (nameOf x.1) (some (appF f (frm e))) := by
        unfold putM
        rw [next_same (by omega) h8, hs]
        simp [Files.at, hfm]
      rw [hp, putL_more e h8] at hW ⊢
      have hlo : ∀ y ∈ L, nameOf y.1 ≠ nameOf x.1 := fun y hy => by
        have hyr : 1 ≤ y.1 ∧ y.1 ≤ 99999999 := ((h.whole.segs.2 y.1 (flatE y.2)).1 (List.mem_map.2 ⟨y, by simp [hy], rfl⟩)).1
        have := hx4 y hy
        exact fun e0 => by have := name_inj hyr hx1 e0; omega
      refine ⟨hW, fun n q hn => ?_, fun L0 z hz => ?_, fun L0 z hz => ?_, fun h0 => by simp at h0⟩
      · by_cases e2 : n = nameOf x.1
        · exact ⟨(x.1, x.2 ++ [e]), by simp, e2⟩
        · rw [upd_other _ _ e2] at hn
          obtain ⟨y, hy, hye⟩ := h.only _ q hn
          rcases List.mem_append.1 hy with hy | hy
          · exact ⟨y, by simp [hy], hye⟩
          · simp at hy; subst hy; exact absurd hye e2
      · obtain ⟨rfl, rfl⟩ := snoc_inj hz
        intro y hy
        rw [upd_other _ _ (hlo y hy)]
        exact hfull y hy
      · obtain ⟨rfl, rfl⟩ := snoc_inj hz
        exact ⟨_, s, upd_same _ _ _, hft.put e, hcs⟩
end Go.Proofs.YtmfemedcjgeheaaGreatDoor.Wl

namespace Go.Proofs.YtmfemedcjgeheaaGreatDoor.Wl
open Dsk

def count (L : List (Nat × List Ent)) : Nat := (L.map Prod.snd).flatten.length
theorem count_snoc (L : List (Nat × List Ent)) (x : Nat × List Ent) : count (L ++ [x]) = count L + x.2.length := by simp [count]

theorem Log.loose_nil {M : Files} {E : List Ent} {c : Nat} (h : Log M [] E c) {ks : List Name} (hks : NamesOf M (fun f => f.loose) ks) : ks = [] := by
  cases ks with
  | nil => rfl
  | cons n r =>
    obtain ⟨f, hf, _⟩ := (hks.2 n).1 (by simp)
    obtain ⟨x, hx, _⟩ := h.only n f hf
    cases hx
theorem Log.loose {M : Files} {L : List (Nat × List Ent)} {x : Nat × List Ent} {E : List Ent} {c : Nat} (h : Log M (L ++ [x]) E c) {ks : List Name} (hks : NamesOf M (fun f => f.loose) ks) :
    ∃ f s, M (nameOf x.1) = some f ∧ Tail f x.2 s ∧ c ≤ count L + s ∧ ((f.loose = true ∧ ks = [nameOf x.1]) ∨ (ks = [] ∧ s = x.2.length ∧ M (nameOf x.1) = whl x.2)) := by
  obtain ⟨f, s, hf, ht, hc⟩ := h.tail L x rfl
  refine ⟨f, s, hf, ht, hc, ?_⟩
  have honly : ∀ n q, M n = some q → q.loose = true → n = nameOf x.1 := fun n q hq hl => by
    obtain ⟨y, hy, rfl⟩ := h.only n q hq
    rcases List.mem_append.1 hy with hy | hy
    · rw [h.full L x rfl y hy] at hq
      unfold whl at hq
      cases hq
      cases hl
    · simp at hy; subst hy; rfl
  cases hlo : f.loose with
  | true =>
    left
    refine ⟨rfl, NamesOf.one hks ⟨by simp, fun n => ?_⟩⟩
    simp only [List.mem_singleton]
    constructor
    · rintro rfl; exact ⟨f, hf, hlo⟩
    · rintro ⟨q, hq, hl⟩; exact honly n q hq hl
  | false =>
    right
    refine ⟨NamesOf.one hks ⟨.nil, fun n => ?_⟩, ?_⟩
    · simp only [List.not_mem_nil, false_iff]
      rintro ⟨q, hq, hl⟩
      have := honly n q hq hl
      subst this
      rw [hf] at hq
      cases hq
      rw [hlo] at hl; cases hl
    · cases ht with
      | @sure recs s lo h1 h2 h3 =>
        have h4 : s = x.2.length := h3 hlo
        subst h4
        refine ⟨rfl, ?_⟩
        rw [hf, List.take_length]
        simp only at hlo
        rw [hlo]
        rfl
      | new _ => cases hlo

theorem Log.apart {M : Files} {L : List (Nat × List Ent)} {x : Nat × List Ent} {E : List Ent} {c : Nat} (h : Log M (L ++ [x]) E c) : ∀ y ∈ L, nameOf y.1 ≠ nameOf x.1 := fun y hy e0 => by
  obtain ⟨hx1, _, _, hx4⟩ := h.whole.last
  have hyr : 1 ≤ y.1 ∧ y.1 ≤ 99999999 := ((h.whole.segs.2 y.1 (flatE y.2)).1 (List.mem_map.2 ⟨y, by simp [hy], rfl⟩)).1
  have := hx4 y hy
  have := name_inj hyr hx1 e0
  omega

/-- the last segment is settled -/
theorem Log.settle {M : Files} {L : List (Nat × List Ent)} {x : Nat × List Ent} {E : List Ent} {c : Nat} (h : Log M (L ++ [x]) E c) : Log (upd M (nameOf x.1) (whl x.2)) (L ++ [x]) E (count (L ++ [x])) := by
  obtain ⟨hx1, hx2, hx3, hx4⟩ := h.whole.last
  have hne : x.2 ≠ [] := h.whole.ne x (by simp)
  have hpos : 1 ≤ x.2.length := by
    cases hx : x.2 with
    | nil => exact absurd hx hne
    | cons a r => simp
  obtain ⟨f, s, hf, ht, hc⟩ := h.tail L x rfl
  have hset : settled (M.at (nameOf x.1)).now = whl x.2 := by
    have : M.at (nameOf x.1) = f := by simp [Files.at, hf]
    rw [this]; exact ht.sync
  have hseg := segList_sync h.whole.segs hx1 hx2
  rw [hset] at hseg
  refine ⟨⟨hseg, h.whole.ne, h.whole.ok, h.whole.ents, fun k h1 h2 hg => ?_⟩, fun n q hn => ?_, fun L0 z hz y hy => ?_, fun L0 z hz => ?_, fun h0 => by simp at h0⟩
  · by_cases hk : k = x.1
    · subst hk
      rw [show (upd M (nameOf x.1) (whl x.2)).at (nameOf x.1) = ⟨⟨true, flatE x.2, (flatE x.2).length⟩, [], false⟩ from upd_at _ _ _] at hg
      cases hg
    · have hkn : nameOf k ≠ nameOf x.1 := fun e0 => hk (name_inj ⟨h1, h2⟩ hx1 e0)
      rw [upd_at_other _ _ hkn] at hg
      rw [upd_other _ _ hkn]
      exact h.whole.gone k h1 h2 hg
  · by_cases e2 : n = nameOf x.1
    · exact ⟨x, by simp, e2⟩
    · rw [upd_other _ _ e2] at hn
      exact h.only _ q hn
  · obtain ⟨rfl, rfl⟩ := snoc_inj hz
    rw [upd_other _ _ (h.apart y hy)]
    exact h.full L x rfl y hy
  · obtain ⟨rfl, rfl⟩ := snoc_inj hz
    refine ⟨_, x.2.length, upd_same _ _ _, Tail.whole hpos, ?_⟩
    rw [count_snoc]
    exact Nat.le_refl _

/-- Sync of a log -/
theorem Log.sync {M : Files} {L : List (Nat × List Ent)} {E : List Ent} {c : Nat} (h : Log M L E c) {ks : List Name} (hks : NamesOf M (fun f => f.loose) ks) : Log (syncAll M (numsOf ks)) L E (count L) := by
  by_cases hL : L = []
  · subst hL
    have hk := h.loose_nil hks
    subst hk
    have hc := h.zero rfl
    subst hc
    exact h
  · obtain ⟨L, x, rfl⟩ : ∃ L' x, L = L' ++ [x] := ⟨L.dropLast, L.getLast hL, (List.dropLast_concat_getLast hL).symm⟩
    obtain ⟨f, s, hf, ht, hc, hl⟩ := h.loose hks
    have hset := h.settle
    rcases hl with ⟨_, rfl⟩ | ⟨rfl, _, hw⟩
    · obtain ⟨hx1, _, _, _⟩ := h.whole.last
      have hn : numsOf [nameOf x.1] = [x.1] := by simp [numsOf, num_name hx1.1 hx1.2]
      have hat : M.at (nameOf x.1) = f := by simp [Files.at, hf]
      rw [hn]
      show Log (upd M (nameOf x.1) (settled (M.at (nameOf x.1)).now)) _ _ _
      rw [hat, ht.sync]
      exact hset
    · have : upd M (nameOf x.1) (whl x.2) = M := by
        funext n
        unfold upd
        split
        · rename_i e0; rw [e0, hw]
        · rfl
      rw [this] at hset
      exact hset
end Go.Proofs.YtmfemedcjgeheaaGreatDoor.Wl

namespace Go.Proofs.YtmfemedcjgeheaaGreatDoor.Wl
open Dsk

theorem segList_drop {M : Files} {l : List (Nat × List Int)} {k : Nat} {bs : List Int} (h : SegList M (l ++ [(k, bs)])) : SegList (upd M (nameOf k) none) l := by
  have hp := List.pairwise_append.1 h.1
  have hk : 1 ≤ k ∧ k ≤ 99999999 := ((h.2 k bs).1 (by simp)).1
  have hl : ∀ x ∈ l, x.1 < k := fun x hx => hp.2.2 x hx (k, bs) (by simp)
  refine ⟨hp.1, fun j cs => ?_⟩
  by_cases hj : j = k
  · subst hj
    have hno : ¬ (j, cs) ∈ l := fun e => absurd (hl _ e) (Nat.lt_irrefl _)
    have hat : (upd M (nameOf j) none).at (nameOf j) = Fil.zero := by simp [Files.at, upd]
    rw [hat]
    simp [hno, Fil.zero, Fil.now, Ver.zero]
  · have h1 := h.2 j cs
    rw [List.mem_append] at h1
    simp only [List.mem_singleton, Prod.mk.injEq, hj, false_and, or_false] at h1
    rw [h1]
    constructor
    · rintro ⟨a1, a2, a3⟩
      have : nameOf j ≠ nameOf k := fun e => hj (name_inj a1 hk e)
      rw [upd_at_other _ _ this]
      exact ⟨a1, a2, a3⟩
    · rintro ⟨a1, a2, a3⟩
      have : nameOf j ≠ nameOf k := fun e => hj (name_inj a1 hk e)
      rw [upd_at_other _ _ this] at a2 a3
      exact ⟨a1, a2, a3⟩

/-- the last segment is gone -/
theorem Log.drop {M : Files} {L : List (Nat × List Ent)} {x : Nat × List Ent} {E E0 : List Ent} {c : Nat} (h : Log M (L ++ [x]) E c) (he : chain [] (L.map Prod.snd).flatten = some E0) : Log (upd M (nameOf x.1) none) L E0 (count L) := by
  obtain ⟨hx1, hx2, hx3, hx4⟩ := h.whole.last
  have hseg := h.whole.segs
  rw [List.map_append] at hseg
  refine ⟨⟨segList_drop hseg, fun y hy => h.whole.ne y (by simp [hy]), fun y hy => h.whole.ok y (by simp [hy]), he, fun k h1 h2 hg => ?_⟩, fun n q hn => ?_, fun L0 z hz y hy => ?_, fun L0 z hz => ?_, fun h0 => by subst h0; rfl⟩
  · by_cases hk : k = x.1
    · subst hk; exact upd_same _ _ _
    · have hkn : nameOf k ≠ nameOf x.1 := fun e0 => hk (name_inj ⟨h1, h2⟩ hx1 e0)
      rw [upd_at_other _ _ hkn] at hg
      rw [upd_other _ _ hkn]
      exact h.whole.gone k h1 h2 hg
  · by_cases e2 : n = nameOf x.1
    · subst e2; rw [upd_same] at hn; cases hn
    · rw [upd_other _ _ e2] at hn
      obtain ⟨y, hy, hye⟩ := h.only _ q hn
      rcases List.mem_append.1 hy with hy | hy
      · exact ⟨y, hy, hye⟩
      · simp at hy; subst hy; exact absurd hye e2
  · subst hz
    rw [upd_other _ _ (h.apart y (by simp [hy]))]
    exact h.full _ x rfl y (by simp [hy])
  · subst hz
    have hne := h.whole.ne z (by simp)
    have hpos : 1 ≤ z.2.length := by
      cases hx : z.2 with
      | nil => exact absurd hx hne
      | cons a r => simp
    refine ⟨_, z.2.length, ?_, Tail.whole hpos, ?_⟩
    · rw [upd_other _ _ (h.apart z (by simp))]
      exact h.full _ x rfl z (by simp)
    · rw [count_snoc]; exact Nat.le_refl _

/-- the last segment is cut -/
theorem Log.cut {M : Files} {L : List (Nat × List Ent)} {x : Nat × List Ent} {E E2 : List Ent} {c : Nat} (h : Log M (L ++ [x]) E c) (j : Nat) (hr : x.2.take j ≠ []) (he : chain [] ((L ++ [(x.1, x.2.take j)]).map Prod.snd).flatten = some E2) : Log (upd M (nameOf x.1) (whl (x.2.take j))) (L ++ [(x.1, x.2.take j)]) E2 (count (L ++ [(x.1, x.2.take j)])) := by
  obtain ⟨hx1, hx2, hx3, hx4⟩ := h.whole.last
  have hpos : 1 ≤ (x.2.take j).length := by
    cases hx : x.2.take j with
    | nil => exact absurd hx hr
    | cons a r => simp
  have h0 := h.whole.segs
  rw [List.map_append] at h0
  have hseg := segList_last (f := ⟨⟨true, flatE (x.2.take j), (flatE (x.2.take j)).length⟩, [], false⟩) (l := L.map fun x => (x.1, flatE x.2)) (k := x.1) (bs := flatE x.2) h0 rfl
  refine ⟨⟨by simpa [whl, Fil.now] using hseg, fun y hy => ?_, fun y hy => ?_, he, fun k h1 h2 hg => ?_⟩, fun n q hn => ?_, fun L0 z hz y hy => ?_, fun L0 z hz => ?_, fun h0 => by simp at h0⟩
  · rcases List.mem_append.1 hy with hy | hy
    · exact h.whole.ne y (by simp [hy])
    · simp at hy; subst hy; exact hr
  · rcases List.mem_append.1 hy with hy | hy
    · exact h.whole.ok y (by simp [hy])
    · simp at hy; subst hy
      exact fun e he => h.whole.ok x (by simp) e (List.mem_of_mem_take he)
  · by_cases hk : k = x.1
    · subst hk
      rw [show (upd M (nameOf x.1) (whl (x.2.take j))).at (nameOf x.1) = ⟨⟨true, flatE (x.2.take j), (flatE (x.2.take j)).length⟩, [], false⟩ from upd_at _ _ _] at hg
      cases hg
    · have hkn : nameOf k ≠ nameOf x.1 := fun e0 => hk (name_inj ⟨h1, h2⟩ hx1 e0)
      rw [upd_at_other _ _ hkn] at hg
      rw [upd_other _ _ hkn]
      exact h.whole.gone k h1 h2 hg
  · by_cases e2 : n = nameOf x.1
    · exact ⟨(x.1, x.2.take j), by simp, e2⟩
    · rw [upd_other _ _ e2] at hn
      obtain ⟨y, hy, hye⟩ := h.only _ q hn
      rcases List.mem_append.1 hy with hy | hy
      · exact ⟨y, by simp [hy], hye⟩
      · simp at hy; subst hy; exact absurd hye e2
  · obtain ⟨rfl, rfl⟩ := snoc_inj hz
    rw [upd_other _ _ (h.apart y hy)]
    exact h.full _ x rfl y hy
  · obtain ⟨rfl, rfl⟩ := snoc_inj hz
    refine ⟨_, (x.2.take j).length, upd_same _ _ _, Tail.whole hpos, ?_⟩
    rw [count_snoc]
    exact Nat.le_refl _
end Go.Proofs.YtmfemedcjgeheaaGreatDoor.Wl

namespace Go.Proofs.YtmfemedcjgeheaaGreatDoor
open Dsk Wl

theorem open_is {M : Files} {L : List (Nat × List Ent)} {E : List Ent} (h : Whole M L E) {ks : List Name} (hks : NamesOf M (fun f => f.now.there) ks) : openOf M ks = M := by
  unfold openOf
  rw [h.read hks]
  exact cutAll_whole M L h.ne h.ok
theorem crashed_nil (M : Files) (stay : Nat → Nat) : crashed M [] stay = M := by funext n; simp [crashed]
theorem crashed_one (M : Files) (n : Name) (stay : Nat → Nat) : crashed M [n] stay = upd M n (settled ((M.at n).torn (stay 0))) := by
  funext m
  unfold crashed upd
  by_cases h : m = n
  · subst h; simp
  · simp [h]
theorem flat_snoc (L : List (Nat × List Ent)) (x : Nat × List Ent) : ((L ++ [x]).map Prod.snd).flatten = (L.map Prod.snd).flatten ++ x.2 := by simp

/-- nothing is loose -/
def Firm (M : Files) : Prop := ∀ n f, M n = some f → f.loose = false
theorem Firm.none {M : Files} (h : Firm M) {ks : List Name} (hks : NamesOf M (fun f => f.loose) ks) : ks = [] := by
  cases ks with
  | nil => rfl
  | cons n r =>
    obtain ⟨f, hf, hl⟩ := (hks.2 n).1 (by simp)
    exact absurd ((h n f hf).symm.trans hl) (by decide)
theorem firm_upd {M : Files} {L : List (Nat × List Ent)} {x : Nat × List Ent} {E : List Ent} {c : Nat} (h : Log M (L ++ [x]) E c) {o : Option Fil} (ho : ∀ f, o = some f → f.loose = false) : Firm (upd M (nameOf x.1) o) := fun n f hf => by
  by_cases e : n = nameOf x.1
  · subst e; rw [upd_same] at hf; exact ho f hf
  · rw [upd_other _ _ e] at hf
    obtain ⟨y, hy, rfl⟩ := h.only n f hf
    rcases List.mem_append.1 hy with hy | hy
    · rw [h.full L x rfl y hy] at hf
      cases hf
      rfl
    · simp at hy; subst hy; exact absurd rfl e
theorem whl_firm {l : List Ent} : ∀ f, whl l = some f → f.loose = false := fun f h => by cases h; rfl

theorem crash_open {M : Files} {L : List (Nat × List Ent)} {E : List Ent} {c : Nat} (h : Log M L E c) {ks : List Name} (hks : NamesOf M (fun f => f.loose) ks) (stay : Nat → Nat) {ks2 : List Name} (hks2 : NamesOf (crashed M ks stay) (fun f => f.now.there) ks2) :
    ∃ L2 E2 j, Log (openOf (crashed M ks stay) ks2) L2 E2 (count L2) ∧ (L2.map Prod.snd).flatten = (L.map Prod.snd).flatten.take j ∧ c ≤ j ∧ j ≤ count L ∧ Firm (openOf (crashed M ks stay) ks2) := by
  by_cases hL : L = []
  · subst hL
    have hk := h.loose_nil hks
    subst hk
    rw [crashed_nil] at hks2 ⊢
    rw [open_is h.whole hks2]
    have hc := h.zero rfl
    subst hc
    exact ⟨[], E, 0, h, rfl, Nat.le_refl _, Nat.zero_le _, fun n f hf => by obtain ⟨y, hy, _⟩ := h.only n f hf; cases hy⟩
  · obtain ⟨L, x, rfl⟩ : ∃ L' x, L = L' ++ [x] := ⟨L.dropLast, L.getLast hL, (List.dropLast_concat_getLast hL).symm⟩
    obtain ⟨f, s, hf, ht, hc, hl⟩ := h.loose hks
    have hsl : s ≤ x.2.length := by cases ht <;> simp_all
    obtain ⟨hx1, hx2, hx3, hx4⟩ := h.whole.last
    have hents := h.whole.ents
    rw [flat_snoc] at hents
    obtain ⟨E0, he0, he1⟩ := chain_split _ _ _ hents
    have hdrop : Log (upd M (nameOf x.1) none) L E0 (count L) := h.drop he0
    have hfl : (L.map Prod.snd).flatten = ((L ++ [x]).map Prod.snd).flatten.take (count L) := by
      rw [flat_snoc]
      unfold count
      rw [List.take_left]
    rcases hl with ⟨_, rfl⟩ | ⟨rfl, hs, hw⟩
    · have hat : M.at (nameOf x.1) = f := by simp [Files.at, hf]
      rw [crashed_one, hat] at hks2 ⊢
      rcases ht.crash (stay 0) with ⟨hset, hs0⟩ | ⟨m, hset, hm⟩
      · rw [hset] at hks2 ⊢
        rw [open_is hdrop.whole hks2]
        exact ⟨L, E0, count L, hdrop, hfl, by omega, by rw [count_snoc]; omega, firm_upd h (fun f hf => by cases hf)⟩
      · rw [hset] at hks2 ⊢
        obtain ⟨bs, hbs⟩ : ∃ bs, bs = (flatE x.2).take m := ⟨_, rfl⟩
        have hxok : ∀ e ∈ x.2, e.ok := h.whole.ok x (by simp)
        obtain ⟨rest, hsp, -⟩ := fit_split x.2 m hxok
        obtain ⟨E2, he2, he3⟩ := chain_split E0 (x.2.take (fit x.2 m)) (x.2.drop (fit x.2 m)) (by rw [List.take_append_drop]; exact he1)
        have hfit := fit_has x.2 m s hsl hm
        have hfle := fit_le x.2 m
        have hro := readGo_one x.1 hxok he2
        have h0 := h.whole.segs
        rw [List.map_append] at h0
        have hseg := segList_last (f := ⟨⟨true, (flatE x.2).take m, ((flatE x.2).take m).length⟩, [], false⟩) (l := L.map fun x => (x.1, flatE x.2)) (k := x.1) (bs := flatE x.2) h0 rfl
        have hone := (segs_of hks2).one hseg
        have hrs := readGo_snoc L (x.1, (flatE x.2).take m) [] (fun y hy => h.whole.ne y (by simp [hy])) (fun y hy => h.whole.ok y (by simp [hy])) he0
        rw [hro] at hrs
        have hopen : openOf (upd M (nameOf x.1) (some ⟨⟨true, (flatE x.2).take m, ((flatE x.2).take m).length⟩, [], false⟩)) ks2 = cutSeg (upd M (nameOf x.1) (some ⟨⟨true, (flatE x.2).take m, ((flatE x.2).take m).length⟩, [], false⟩)) ⟨x.1, (flatE x.2).take m, (flatE (x.2.take (fit x.2 m))).length, x.2.take (fit x.2 m)⟩ := by
          unfold openOf
          rw [hone]
          simp only [Fil.now, List.getLast?_nil, Option.getD_none]
          rw [hrs]
          unfold cutAll
          rw [List.foldl_append]
          have := cutAll_whole (upd M (nameOf x.1) (some ⟨⟨true, (flatE x.2).take m, ((flatE x.2).take m).length⟩, [], false⟩)) L (fun y hy => h.whole.ne y (by simp [hy])) (fun y hy => h.whole.ok y (by simp [hy]))
          unfold cutAll at this
          rw [this]
          rfl
        rw [hopen]
        by_cases hr : x.2.take (fit x.2 m) = []
        · have hz : (flatE (x.2.take (fit x.2 m))).length = 0 := by rw [hr]; rfl
          unfold cutSeg
          rw [if_pos hz, upd_upd]
          refine ⟨L, E0, count L, hdrop, hfl, ?_, by rw [count_snoc]; omega, firm_upd h (fun f hf => by cases hf)⟩
          have hl0 : (x.2.take (fit x.2 m)).length = 0 := by rw [hr]; rfl
          rw [List.length_take] at hl0
          omega
        · have hrok : ∀ e ∈ x.2.take (fit x.2 m), e.ok := fun e he => hxok e (List.mem_of_mem_take he)
          have hnz : ¬ (flatE (x.2.take (fit x.2 m))).length = 0 := by
            have := (flatE_len hrok).1
            have h1 : (x.2.take (fit x.2 m)).length ≠ 0 := fun e => hr (List.length_eq_zero_iff.1 e)
            omega
          have hcut : cutSeg (upd M (nameOf x.1) (some ⟨⟨true, (flatE x.2).take m, ((flatE x.2).take m).length⟩, [], false⟩)) ⟨x.1, (flatE x.2).take m, (flatE (x.2.take (fit x.2 m))).length, x.2.take (fit x.2 m)⟩ = upd M (nameOf x.1) (whl (x.2.take (fit x.2 m))) := by
            unfold cutSeg
            rw [if_neg hnz]
            split
            · rw [upd_upd]
              dsimp only
              rw [hsp, List.take_left]
              rfl
            · rename_i hge
              dsimp only at hge
              have hrest : rest = [] := by
                rw [hsp, List.length_append] at hge
                exact List.length_eq_zero_iff.1 (by omega)
              rw [hsp, hrest, List.append_nil]
              rfl
          rw [hcut]
          have hch : chain [] ((L ++ [(x.1, x.2.take (fit x.2 m))]).map Prod.snd).flatten = some E2 := by
            rw [flat_snoc, chain_append _ _ _ he0]
            exact he2
          refine ⟨_, E2, count L + fit x.2 m, h.cut (fit x.2 m) hr hch, ?_, by omega, by rw [count_snoc]; omega, firm_upd h whl_firm⟩
          rw [flat_snoc, flat_snoc]
          unfold count
          rw [List.take_length_add_append]
    · rw [crashed_nil] at hks2 ⊢
      rw [open_is h.whole hks2]
      have hset := h.settle
      have hup : upd M (nameOf x.1) (whl x.2) = M := by
        funext n
        unfold upd
        split
        · rename_i e0; rw [e0, hw]
        · rfl
      have hfi := firm_upd h (whl_firm (l := x.2))
      rw [hup] at hset hfi
      exact ⟨L ++ [x], E, count (L ++ [x]), hset, (List.take_of_length_le (Nat.le_refl _)).symm, by rw [count_snoc]; omega, Nat.le_refl _, hfi⟩

/-- the entries of a torn log: one behind the other -/
def eTorn (i : Nat) (b : List Int) : Ent := ⟨i + 1, i / 3, b⟩
def esTorn : Nat → List (List Int) → List Ent
  | _, [] => []
  | i, b :: r => eTorn i b :: esTorn (i + 1) r
theorem esTorn_len : ∀ (i : Nat) (l : List (List Int)), (esTorn i l).length = l.length
  | _, [] => rfl
  | i, b :: r => by simp [esTorn, esTorn_len (i + 1) r]
theorem esTorn_at : ∀ (i : Nat) (l : List (List Int)) (k : Nat) (h : k < l.length), (esTorn i l)[k]'(by rw [esTorn_len]; exact h) = eTorn (i + k) l[k]
  | i, b :: r, 0, _ => by simp [esTorn]
  | i, b :: r, k + 1, h => by
    simp only [esTorn, List.getElem_cons_succ]
    rw [esTorn_at (i + 1) r k (by simpa using h)]
    congr 1
    omega
theorem esTorn_snoc : ∀ (i : Nat) (l : List (List Int)) (b : List Int), esTorn i (l ++ [b]) = esTorn i l ++ [eTorn (i + l.length) b]
  | i, [], b => by simp [esTorn]
  | i, x :: r, b => by
    simp only [List.cons_append, esTorn, esTorn_snoc (i + 1) r b]
    rw [show i + 1 + r.length = i + (x :: r).length by simp; omega]
/-- an entry whose index is one more goes behind all -/
theorem follow_next {i : Nat} {E : List Ent} (hE : ∀ e ∈ E, e.ix < i + 1) (hi : i < 18446744073709551615) (hl : lastIx E = i) (b : List Int) : Wl.follow E (eTorn i b) = some (E ++ [eTorn i b]) := by
  have hf : follows (lastIx E) (i + 1) = true := by
    rw [hl]
    unfold follows
    have : (i + 1) % 18446744073709551616 = i + 1 := Nat.mod_eq_of_lt (by omega)
    simp [this]
  have hc : cutTo (i + 1) E = E := by
    rcases List.eq_nil_or_concat E with rfl | ⟨r, e, rfl⟩
    · rfl
    · rw [List.concat_eq_append] at hE ⊢
      have := hE e (by simp)
      exact cutTo_snoc_no (by omega)
  unfold Wl.follow
  show (if follows (lastIx E) (i + 1) = true then _ else _) = _
  rw [if_pos hf]
  show some (cutTo (i + 1) E ++ _) = _
  rw [hc]
end Go.Proofs.YtmfemedcjgeheaaGreatDoor

namespace Go.Proofs.YtmfemedcjgeheaaGreatDoor
open Go.RowKit Go.Maps Go.Sort Dsk Wl

section
variable {B g N c : Nat} {M : Files} {L : List (Nat × List Ent)} {E E' : List Ent} {e : Ent}

theorem append_log {w : World} {o : Tags} (h : Live w B o g M N) (hG : Log M L E c) (hb : Nat) (hw : WalAt w o hb g) (a : Option Addr) (cp : Nat) (U : Nat) (hs : EntsF w o U a [e]) (he : e.ok) (hf : Wl.follow E e = some E') (hE : E.length ≤ 1000000000) (hk : (curL L).num < 99999999) (hn : (curL L).n ≤ 1000000000) (hN : N < 64) :
    Calls Tryz.prog 11 #[.pointer (some ⟨hb, 0, none⟩), .slice a 1 cp] w fun r w' => r = .returned (.int .i64 0) ∧ ∃ o' N2, Live w' B o' g (putM M (curL L) e) N2 ∧ Step o w o' w' ∧ Log (putM M (curL L) e) (putL L e) E' c ∧ N2 ≤ N + 1 := by
  have hp := puts_any (B := B) (g := g) (N := N) hG.whole h.tame he hk hn hN
  have hch : chain E [e] = some E' := by rw [chain_cons [] hf]; rfl
  have hcnt := (cntN_le (syncM M (curL L)) (nameOf (curL L).next.num) N).2
  refine (append_puts h hb hw [e] a cp U hs (by simp) 0 (putM M (curL L) e) (cntN (syncM M (curL L)) (nameOf (curL L).next.num) N) fun ks hks => ?_).mono ?_
  · rw [hG.whole.read hks, curOf_sg]
    exact ⟨refuse_chain hch (fun x hx => by simp at hx; subst hx; exact he), hE, .step hp (.nil _ _ _)⟩
  · rintro r w' ⟨rfl, o', a1, a2⟩
    exact ⟨rfl, o', _, a1, a2, hG.put he hf hk, hcnt⟩
theorem sync_log {w : World} {o : Tags} (h : Live w B o g M N) (hG : Log M L E c) (hb : Nat) (hw : WalAt w o hb g) :
    Calls Tryz.prog 13 #[.pointer (some ⟨hb, 0, none⟩)] w fun r w' => r = .returned (.int .i64 0) ∧ ∃ o' M2, Live w' B o' g M2 N ∧ Step o w o' w' ∧ Log M2 L E (count L) := by
  refine (sync_wal h hb hw).mono ?_
  rintro r w' ⟨ks, o', hks, rfl, a1, a2⟩
  exact ⟨rfl, o', _, a1, a2, hG.sync hks⟩
theorem loose_firm {w : World} {o : Tags} (h : Live w B o g M N) (hF : Firm M) :
    Calls Tryz.prog 33 #[.pointer (some ⟨g, 0, none⟩)] w fun r w' => ∃ a cp, r = .returned (.slice a 0 cp) ∧ Below w.heap.size w w' := by
  refine (loose_all g B N o M w h.disk (by have := h.few; omega) (fun l f hf => by have := (h.tame l f hf).2; omega)).mono ?_
  rintro r w' ⟨ks, a, cp, rfl, hks, _, hb, _⟩
  have := hF.none hks
  subst this
  exact ⟨a, cp, rfl, hb⟩
theorem tame_crashed (h : Tame M) (ks : List Name) (stay : Nat → Nat) : Tame (crashed M ks stay) := by
  intro l f hf
  unfold crashed at hf
  split at hf
  · rename_i hm
    unfold settled at hf
    split at hf
    · rename_i ht
      cases hf
      refine ⟨?_, by simp⟩
      cases hM : M l with
      | some q => exact (h l q hM).1
      | none =>
        rw [Files.at, hM] at ht
        simp [Fil.torn, tornGo, tornOf, Fil.zero, Ver.zero] at ht
    · cases hf
  · exact h l f hf
/-- a crash: the files, as they stand then; Open makes a log of a beginning of what was written -/
theorem crash_log {w : World} {o : Tags} (h : Live w B o g M N) (hG : Log M L E c) (sa : Option Addr) (sc : Nat) (ss : List Int) (hs : Stay w o sa ss) :
    Calls Tryz.prog 17 #[.pointer (some ⟨g, 0, none⟩), .slice sa ss.length sc] w fun r w' => r = .returned (.tuple #[]) ∧ ∃ o' M1, Live w' B o' g M1 N ∧ Step o w o' w' ∧
      ∀ ks2, NamesOf M1 (fun f => f.now.there) ks2 → ∃ L2 E2 j, Log (openOf M1 ks2) L2 E2 (count L2) ∧ (L2.map Prod.snd).flatten = (L.map Prod.snd).flatten.take j ∧ c ≤ j ∧ j ≤ count L ∧ Firm (openOf M1 ks2) := by
  refine (crash_any g B N o M sa sc ss w h.disk hs h.tame.good (by have := h.few; omega)).mono ?_
  rintro r w' ⟨rfl, ks, o', hks, hd, hst⟩
  exact ⟨rfl, o', _, h.step hst hd (tame_crashed h.tame ks _) h.few, hst, fun ks2 hks2 => crash_open hG hks _ hks2⟩
end
end Go.Proofs.YtmfemedcjgeheaaGreatDoor
