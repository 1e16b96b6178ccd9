/- What read keeps from round to round. -/
import Derived.Test.YtmfemedcjgeheaaGreatDoorAmong
import Derived.Test.YtmfemedcjgeheaaGreatDoorFollow
import Derived.Test.YtmfemedcjgeheaaGreatDoorKn9
namespace Go.Proofs.YtmfemedcjgeheaaGreatDoor
open Go.RowKit Go.Maps Go.Sort Dsk Wl

/-- a segment's numbers -/
def Wl.Sg.raw (s : Sg) : Sx := ⟨s.num, s.bs, s.good, s.recs.length, top s.recs⟩
theorem raw0 (k : Nat) : Sg.raw ⟨k, [], 0, []⟩ = Sx.mk0 k := rfl

/-- what read tells -/
structure ReadTold (w w' : World) (l : List (Nat × List Int)) (v1 v2 : Value) : Prop where
  segs : SegRow w' w.heap.size ((readGo l []).1.map Sg.raw) v1
  ents : EntRow w' w.heap.size (readGo l []).2 v2
  below : Below w.heap.size w w'

theorem nums_len (ks : List Name) : (numsOf ks).length ≤ ks.length := List.length_filterMap_le _ _

/-- what holds at the beginning of each segment -/
structure AtSeg (w : World) (M : Files) (ns : List Nat) (sv : Value) (k : Nat) (done : List Sg) (ents : List Ent) (wr : World) : Prop where
  len : done.length = k
  segs : SegRow wr w.heap.size (done.map Sg.raw ++ (ns.drop k).map Sx.mk0) sv
  box : Boxed wr w.heap.size w.heap.size ents
  ok : ∀ e ∈ ents, e.ok
  many : ents.length ≤ k * 116600
  same : readGo (segsOf M ns) [] = (done ++ (readGo (segsOf M (ns.drop k)) ents).1, (readGo (segsOf M (ns.drop k)) ents).2)
  below : Below w.heap.size w wr

/-- what holds at the beginning of each record -/
structure AtRec (w : World) (ns : List Nat) (sv : Value) (k : Nat) (done : List Sg) (ents : List Ent) (num : Nat) (bs : List Int) (f good : Nat) (recs ents' : List Ent) (wr : World) : Prop where
  segs : SegRow wr w.heap.size (done.map Sg.raw ++ ⟨num, bs, good, recs.length, top recs⟩ :: (ns.drop (k + 1)).map Sx.mk0) sv
  box : Boxed wr w.heap.size w.heap.size ents'
  ok : ∀ e ∈ ents', e.ok
  many : ents'.length ≤ ents.length + recs.length
  few : 9 * recs.length ≤ good
  le : good ≤ bs.length
  fuel : bs.length - good < f
  same : walk f bs good recs ents' = walk (bs.length + 1) bs 0 [] ents
  below : Below w.heap.size w wr

section
variable {w wr wr' : World} {M : Files} {ns : List Nat} {sv : Value} {k : Nat} {done : List Sg} {ents ents' recs : List Ent} {num f good : Nat} {bs : List Int}

theorem AtRec.down (h : AtRec w ns sv k done ents num bs f good recs ents' wr) (hb : Below wr.heap.size wr wr') : AtRec w ns sv k done ents num bs f good recs ents' wr' :=
  ⟨h.segs.below hb, h.box.below hb, h.ok, h.many, h.few, h.le, h.fuel, h.same, h.below.trans (hb.mono h.below.size)⟩

/-- the walk of this segment is over: all of it is good -/
theorem AtRec.over (h : AtRec w ns sv k done ents num bs f good recs ents' wr) (he : bs.length ≤ good) : walk (bs.length + 1) bs 0 [] ents = (good, recs, ents', true) := by
  rw [← h.same]
  have hf := h.fuel
  obtain ⟨f', rfl⟩ : ∃ f', f = f' + 1 := ⟨f - 1, by omega⟩
  exact walk_end _ _ he
theorem AtRec.bad (h : AtRec w ns sv k done ents num bs f good recs ents' wr) (he : ¬ bs.length ≤ good) (hs : step1 (bs.drop good) = none) : walk (bs.length + 1) bs 0 [] ents = (good, recs, ents', false) := by
  rw [← h.same]
  have hf := h.fuel
  obtain ⟨f', rfl⟩ : ∃ f', f = f' + 1 := ⟨f - 1, by omega⟩
  exact walk_none _ _ he hs
theorem AtRec.stop {e : Ent} {n : Nat} (h : AtRec w ns sv k done ents num bs f good recs ents' wr) (he : ¬ bs.length ≤ good) (hs : step1 (bs.drop good) = some (e, n)) (hf : Wl.follow ents' e = none) : walk (bs.length + 1) bs 0 [] ents = (good, recs, ents', false) := by
  rw [← h.same]
  have hfu := h.fuel
  obtain ⟨f', rfl⟩ : ∃ f', f = f' + 1 := ⟨f - 1, by omega⟩
  exact walk_stop _ he hs hf
theorem AtRec.more {e : Ent} {n : Nat} {E : List Ent} (hsm : walk f bs good recs ents' = walk (bs.length + 1) bs 0 [] ents) (hfu : bs.length - good < f) (hr : ∀ x ∈ bs, 0 ≤ x ∧ x ≤ 255) (he : ¬ bs.length ≤ good) (hs : step1 (bs.drop good) = some (e, n)) (hf : Wl.follow ents' e = some E) :
    ∃ f', walk f' bs (good + n) (recs ++ [e]) E = walk (bs.length + 1) bs 0 [] ents ∧ bs.length - (good + n) < f' ∧ good + n ≤ bs.length ∧ e.ok ∧ 9 ≤ n := by
  obtain ⟨h1, h2, h3, h4⟩ := step1_is (fun x hx => hr x (List.mem_of_mem_drop hx)) hs
  have hn := frm_len h1
  rw [List.length_drop] at h4
  obtain ⟨f', rfl⟩ : ∃ f', f = f' + 1 := ⟨f - 1, by omega⟩
  refine ⟨f', ?_, by omega, by omega, h1, by omega⟩
  rw [← hsm, walk_more _ he hs hf]

theorem drop_head (hk : k < ns.length) : ns.drop k = ns[k] :: ns.drop (k + 1) := List.drop_eq_getElem_cons hk
theorem segs_head (hk : k < ns.length) : segsOf M (ns.drop k) = (ns[k], (M.at (nameOf ns[k])).now.bs) :: segsOf M (ns.drop (k + 1)) := by rw [drop_head hk]; rfl

/-- the segment is done: the next one -/
theorem AtSeg.next (h : AtSeg w M ns sv k done ents wr) (hk : k < ns.length) (hbs : bs = (M.at (nameOf ns[k])).now.bs) (hR : walk (bs.length + 1) bs 0 [] ents = (good, recs, ents', true)) (hne : recs ≠ []) (hsm : bs.length ≤ 1048576)
    (hr : AtRec w ns sv k done ents ns[k] bs f good recs ents' wr') : AtSeg w M ns sv (k + 1) (done ++ [⟨ns[k], bs, good, recs⟩]) ents' wr' where
  len := by simp [h.len]
  segs := by
    rw [List.map_append, List.append_assoc]
    exact hr.segs
  box := hr.box
  ok := hr.ok
  many := by
    have h1 := hr.many
    have h2 := h.many
    have h3 := hr.few
    have h4 := hr.le
    omega
  same := by
    rw [h.same, segs_head hk]
    have hg := readGo_more (x := (ns[k], (M.at (nameOf ns[k])).now.bs)) (segsOf M (ns.drop (k + 1))) (by rw [← hbs]; exact hR) hne
    rw [hg, ← hbs]
    simp
  below := hr.below

/-- read ends within this segment -/
theorem AtSeg.stops {b : Bool} (h : AtSeg w M ns sv k done ents wr) (hk : k < ns.length) (hbs : bs = (M.at (nameOf ns[k])).now.bs) (hR : walk (bs.length + 1) bs 0 [] ents = (good, recs, ents', b)) (hb : b = false ∨ recs = []) :
    readGo (segsOf M ns) [] = (done ++ ⟨ns[k], bs, good, recs⟩ :: (ns.drop (k + 1)).map (fun j => ⟨j, [], 0, []⟩), ents') := by
  rw [h.same, segs_head hk]
  have hg := readGo_stop (x := (ns[k], (M.at (nameOf ns[k])).now.bs)) (segsOf M (ns.drop (k + 1))) (by rw [← hbs]; exact hR) hb
  rw [hg, ← hbs]
  unfold segsOf
  rw [List.map_map]
  rfl

theorem raw_stops (done : List Sg) (num : Nat) (bs : List Int) (good : Nat) (recs : List Ent) (l : List Nat) : (done ++ (⟨num, bs, good, recs⟩ : Sg) :: l.map (fun j => ⟨j, [], 0, []⟩)).map Sg.raw = done.map Sg.raw ++ ⟨num, bs, good, recs.length, top recs⟩ :: l.map Sx.mk0 := by
  simp only [List.map_append, List.map_cons, List.map_map]
  rfl

/-- the end of read: what lies behind both results is what was told -/
theorem told_end {l : List (Nat × List Int)} {segs : List Sg} {ea : Option Addr} {ec : Nat} (heq : readGo l [] = (segs, ents)) (hsg : SegRow wr w.heap.size (segs.map Sg.raw) sv) (hbx : Boxed wr w.heap.size w.heap.size ents) (her : EntRow wr w.heap.size ents (.slice ea ents.length ec)) (hb : Below w.heap.size w wr) :
    ReadTold w ((wr.setCell ⟨w.heap.size, 0, none⟩ (.slice ea ents.length ec)).drew) l sv (.slice ea ents.length ec) := by
  obtain ⟨cs, hbox⟩ := hbx.box
  have hoff : ∀ {k : Nat} {cs' : Array Value} {t : TypeId} {fr : Nat × Nat}, t ≠ 36 → wr.heap[k]? = some (.cells cs' t fr) → (wr.setCell ⟨w.heap.size, 0, none⟩ (.slice ea ents.length ec)).drew.heap[k]? = wr.heap[k]? := fun ht hk =>
    Below.heap_setCell _ _ _ _ fun e0 => by
      subst e0
      rw [hbox] at hk
      injection hk with h1
      injection h1 with _ h2
      exact ht h2.symm
  refine ⟨?_, ?_, ?_⟩
  · rw [heq]
    exact hsg.keep (fun k cs' _ hk _ => hoff (by decide) hk) (fun k cs' _ hk => hoff (by decide) hk)
  · rw [heq]
    exact her.keep (fun k cs' _ hk _ => hoff (by decide) hk) (fun k cs' fr _ hk => hoff (by decide) hk)
  · exact (hb.setCell (p := ⟨w.heap.size, 0, none⟩) (Nat.le_refl _) _).drew
end

theorem segCells_set1 : ∀ (l : List Sx) (vs : List Value) (i : Nat) (hi : i < l.length) (zs : List Int) (v : Value), vs.length = l.length →
    (segCells l vs).set (i * 5 + 1) v = segCells (l.set i { l[i] with bs := zs }) (vs.set i v)
  | [], _, i, hi, _, _, _ => by simp at hi
  | e :: es, [], i, hi, _, _, h => by simp at h
  | e :: es, v :: vs, 0, hi, zs, u, h => by simp [segCells]
  | e :: es, v :: vs, i + 1, hi, zs, u, h => by
    have := segCells_set1 es vs i (by simpa using hi) zs u (by simpa using h)
    simp only [segCells]
    rw [show (i + 1) * 5 = i * 5 + 1 + 1 + 1 + 1 + 1 by omega]
    simpa [segCells] using this
theorem segCells_set3 : ∀ (l : List Sx) (vs : List Value) (i : Nat) (hi : i < l.length) (g n t : Nat), vs.length = l.length →
    (((segCells l vs).set (i * 5 + 2) (.int .i64 (g : Int))).set (i * 5 + 3) (.int .i64 (n : Int))).set (i * 5 + 4) (.int .u64 (t : Int)) = segCells (l.set i ⟨l[i].num, l[i].bs, g, n, t⟩) vs
  | [], _, i, hi, _, _, _, _ => by simp at hi
  | e :: es, [], i, hi, _, _, _, h => by simp at h
  | e :: es, v :: vs, 0, hi, g, n, t, h => by simp [segCells]
  | e :: es, v :: vs, i + 1, hi, g, n, t, h => by
    have := segCells_set3 es vs i (by simpa using hi) g n t (by simpa using h)
    simp only [segCells]
    rw [show (i + 1) * 5 = i * 5 + 1 + 1 + 1 + 1 + 1 by omega]
    simpa [segCells] using this

section
variable {w w' : World} {B g cap : Nat} {l : List Sx}
/-- bytes rows stay where a segment's cell is written -/
theorem seg_row_keep {zs : List Int} {u x : Value} {xs : List Value} {n j : Nat} (h : w.ownsRow B 75 5 (.slice (some ⟨g, 0, none⟩) n cap) n xs) (hr : Row w B zs u) : Row (w.setCell ⟨g, j, none⟩ x) B zs u :=
  hr.keep fun k e => Below.heap_setCell _ _ _ _ fun e0 => by
    subst e0
    have h1 := ownsRow_apart hr h (by decide)
    rcases h1 with h1 | h1
    · rw [h1] at e; cases e
    · exact h1 e
theorem SegRow.bytes (h : SegRow w B l (.slice (some ⟨g, 0, none⟩) l.length cap)) {i : Nat} (hi : i < l.length) {zs : List Int} {a : Option Addr} {c : Nat} (hr : Row w B zs (.slice a zs.length c)) :
    SegRow (w.setCell ⟨g, i * 5 + 1, none⟩ (.slice a zs.length c)) B (l.set i { l[i] with bs := zs }) (.slice (some ⟨g, 0, none⟩) l.length cap) := by
  obtain ⟨vs, h1, h2, h3⟩ := h.row
  refine ⟨vs.set i (.slice a zs.length c), by simp [h1], ?_, fun j hj => ?_⟩
  · rw [← segCells_set1 l vs i hi zs _ h1, List.length_set]
    exact (h2.stored _ _).1
  · rw [List.length_set] at hj
    by_cases hji : j = i
    · subst hji
      rw [List.getElem_set_self]
      rw [show (vs.set j (Value.slice a zs.length c)).getD j undef = .slice a zs.length c by simp [List.getD, show j < vs.length by omega]]
      exact seg_row_keep h2 hr
    · rw [List.getElem_set_ne (fun e => hji e.symm)]
      rw [show (vs.set i (Value.slice a zs.length c)).getD j undef = vs.getD j undef by rw [List.getD, List.getElem?_set_ne (fun e => hji e.symm), List.getD]]
      exact seg_row_keep h2 (h3 j hj)
theorem SegRow.three (h : SegRow w B l (.slice (some ⟨g, 0, none⟩) l.length cap)) {i : Nat} (hi : i < l.length) (gd n t : Nat) :
    SegRow (((w.setCell ⟨g, i * 5 + 2, none⟩ (.int .i64 (gd : Int))).setCell ⟨g, i * 5 + 3, none⟩ (.int .i64 (n : Int))).setCell ⟨g, i * 5 + 4, none⟩ (.int .u64 (t : Int))) B (l.set i ⟨l[i].num, l[i].bs, gd, n, t⟩) (.slice (some ⟨g, 0, none⟩) l.length cap) := by
  obtain ⟨vs, h1, h2, h3⟩ := h.row
  have s1 := (h2.stored (i * 5 + 2) (.int .i64 (gd : Int))).1
  have s2 := (s1.stored (i * 5 + 3) (.int .i64 (n : Int))).1
  have s3 := (s2.stored (i * 5 + 4) (.int .u64 (t : Int))).1
  refine ⟨vs, by simp [h1], ?_, fun j hj => ?_⟩
  · rw [← segCells_set3 l vs i hi gd n t h1, List.length_set]
    exact s3
  · rw [List.length_set] at hj
    have hb : (l.set i ⟨l[i].num, l[i].bs, gd, n, t⟩)[j]'(by simpa using hj) = (if j = i then ⟨l[i].num, l[i].bs, gd, n, t⟩ else l[j]) := by
      by_cases hji : j = i
      · subst hji; simp
      · rw [List.getElem_set_ne (fun e => hji e.symm), if_neg hji]
    have hbs : ((l.set i ⟨l[i].num, l[i].bs, gd, n, t⟩)[j]'(by simpa using hj)).bs = l[j].bs := by
      rw [hb]
      split
      · subst_vars; rfl
      · rfl
    rw [hbs]
    exact seg_row_keep s2 (seg_row_keep s1 (seg_row_keep h2 (h3 j hj)))
end

theorem SegRow.block {w : World} {B g cap n : Nat} {l : List Sx} (h : SegRow w B l (.slice (some ⟨g, 0, none⟩) n cap)) : ∃ cs, w.heap[g]? = some (.cells cs 75 (0, 0)) := by
  obtain ⟨vs, h1, h2, h3⟩ := h.row
  rcases h2.2 with ⟨hv, _⟩ | ⟨g', cap', cur, hv, hB, hg, _⟩
  · simp at hv
  · simp only [Value.slice.injEq, Option.some.injEq, Addr.mk.injEq, and_true] at hv
    obtain ⟨rfl, _, rfl⟩ := hv
    exact ⟨cur, hg⟩
/-- what is no segment stays where a segment's cell is written -/
theorem set_seg {w : World} {g j k : Nat} {cs cs' : Array Value} {t : TypeId} {fr fr' : Nat × Nat} {x : Value} (hg : w.heap[g]? = some (.cells cs 75 fr)) (hk : w.heap[k]? = some (.cells cs' t fr')) (ht : t ≠ 75) : (w.setCell ⟨g, j, none⟩ x).heap[k]? = w.heap[k]? :=
  Below.heap_setCell _ _ _ _ fun e0 => by
    subst e0
    rw [hg] at hk
    injection hk with h1
    injection h1 with _ h2
    exact ht h2.symm
theorem Boxed.seg {w : World} {B eb g j : Nat} {es : List Ent} {cs : Array Value} {fr : Nat × Nat} {x : Value} (h : Boxed w B eb es) (hg : w.heap[g]? = some (.cells cs 75 fr)) : Boxed (w.setCell ⟨g, j, none⟩ x) B eb es := by
  obtain ⟨v, h1, h2⟩ := h.at_
  exact ⟨v, (set_seg hg h1 (by decide)).trans h1, h2.keep (fun k cs' _ hk _ => set_seg hg hk (by decide)) (fun k cs' fr' _ hk => set_seg hg hk (by decide))⟩
theorem set_mid {done : List Sg} {k : Nat} {r : List Sx} {x y : Sx} (h : done.length = k) : (done.map Sg.raw ++ y :: r).set k x = done.map Sg.raw ++ x :: r := by
  rw [List.set_append, if_neg (by simp [h])]
  simp [h]
theorem get_mid {done : List Sg} {k : Nat} {r : List Sx} {y : Sx} (h : done.length = k) (hk : k < (done.map Sg.raw ++ y :: r).length) : (done.map Sg.raw ++ y :: r)[k] = y := by
  rw [List.getElem_append_right (by simp [h])]
  simp [h]

/-- the bytes are read: the records may come -/
theorem AtSeg.read {w wr w5 : World} {M : Files} {ns : List Nat} {k : Nat} {done : List Sg} {ents : List Ent} {sg sc : Nat} {bs : List Int} {ra : Option Addr} {rc : Nat} (h : AtSeg w M ns (.slice (some ⟨sg, 0, none⟩) ns.length sc) k done ents wr) (hk : k < ns.length) (hb : Below wr.heap.size wr w5)
    (hr : Row w5 wr.heap.size bs (.slice ra bs.length rc)) : AtRec w ns (.slice (some ⟨sg, 0, none⟩) ns.length sc) k done ents ns[k] bs (bs.length + 1) 0 [] ents (w5.setCell ⟨sg, k * 5 + 1, none⟩ (.slice ra bs.length rc)) := by
  have hs5 := h.segs.below hb
  rw [drop_head hk, List.map_cons] at hs5
  have hll : (done.map Sg.raw ++ Sx.mk0 ns[k] :: (ns.drop (k + 1)).map Sx.mk0).length = ns.length := by simp [h.len]; omega
  have hkl : k < (done.map Sg.raw ++ Sx.mk0 ns[k] :: (ns.drop (k + 1)).map Sx.mk0).length := by omega
  obtain ⟨cs, hblk⟩ := hs5.block
  have hs6 := SegRow.bytes (l := done.map Sg.raw ++ Sx.mk0 ns[k] :: (ns.drop (k + 1)).map Sx.mk0) (by rw [hll]; exact hs5) hkl (hr.less h.below.size)
  rw [hll, get_mid h.len hkl, set_mid h.len] at hs6
  have hsz : w.heap.size ≤ sg := by
    obtain ⟨vs, h1, h2, h3⟩ := hs5.row
    exact (World.ownsRow.lt h2 sg rfl).1
  exact ⟨hs6, (h.box.below hb).seg hblk, h.ok, by simp, by simp, Nat.zero_le _, by omega, rfl, (h.below.trans (hb.mono h.below.size)).setCell (p := ⟨sg, k * 5 + 1, none⟩) hsz _⟩

/-- the record was taken -/
theorem AtRec.took {w wr w5 : World} {ns : List Nat} {k : Nat} {done : List Sg} {ents ents' recs E : List Ent} {sg sc num f f' good n : Nat} {bs : List Int} {e : Ent} (h : AtRec w ns (.slice (some ⟨sg, 0, none⟩) ns.length sc) k done ents num bs f good recs ents' wr) (hl : done.length = k) (hk : k < ns.length)
    (hT : Turns w.heap.size w.heap.size wr w5) (hx : Boxed w5 w.heap.size w.heap.size E) (hf : Wl.follow ents' e = some E) (h1 : walk f' bs (good + n) (recs ++ [e]) E = walk (bs.length + 1) bs 0 [] ents) (h2 : bs.length - (good + n) < f') (h3 : good + n ≤ bs.length) (h4 : e.ok) (h5 : 9 ≤ n) :
    AtRec w ns (.slice (some ⟨sg, 0, none⟩) ns.length sc) k done ents num bs f' (good + n) (recs ++ [e]) E
      (((w5.setCell ⟨sg, k * 5 + 2, none⟩ (.int .i64 ((good + n : Nat) : Int))).setCell ⟨sg, k * 5 + 3, none⟩ (.int .i64 ((recs.length + 1 : Nat) : Int))).setCell ⟨sg, k * 5 + 4, none⟩ (.int .u64 ((max (top recs) e.ix : Nat) : Int))) := by
  obtain ⟨cs, hblk⟩ := h.segs.block
  obtain ⟨ecs, hbox⟩ := h.box.box
  have hne : sg ≠ w.heap.size := fun e0 => by
    rw [e0, hbox] at hblk
    injection hblk with h1
    injection h1 with _ h2
    exact absurd h2 (by decide)
  have hblk5 : w5.heap[sg]? = some (.cells cs 75 (0, 0)) := (hT.typed hblk (by decide) hne).trans hblk
  have heb : ∀ {k : Nat} {cs' : Array Value} {t : TypeId} {fr : Nat × Nat}, t ≠ 36 → wr.heap[k]? = some (.cells cs' t fr) → k ≠ w.heap.size := fun ht hk e0 => by
    subst e0
    rw [hbox] at hk
    injection hk with h1
    injection h1 with _ h2
    exact ht h2.symm
  have hs5 : SegRow w5 w.heap.size (done.map Sg.raw ++ ⟨num, bs, good, recs.length, top recs⟩ :: (ns.drop (k + 1)).map Sx.mk0) (.slice (some ⟨sg, 0, none⟩) ns.length sc) :=
    h.segs.keep (fun q cs' _ hq _ => hT.typed hq (by decide) (heb (by decide) hq)) (fun q cs' _ hq => hT.typed hq (by decide) (heb (by decide) hq))
  have hll : (done.map Sg.raw ++ (⟨num, bs, good, recs.length, top recs⟩ : Sx) :: (ns.drop (k + 1)).map Sx.mk0).length = ns.length := by simp [hl]; omega
  have hkl : k < (done.map Sg.raw ++ (⟨num, bs, good, recs.length, top recs⟩ : Sx) :: (ns.drop (k + 1)).map Sx.mk0).length := by omega
  have hs6 := SegRow.three (l := done.map Sg.raw ++ (⟨num, bs, good, recs.length, top recs⟩ : Sx) :: (ns.drop (k + 1)).map Sx.mk0) (by rw [hll]; exact hs5) hkl (good + n) (recs.length + 1) (max (top recs) e.ix)
  rw [hll, get_mid hl hkl, set_mid hl] at hs6
  have hsz : w.heap.size ≤ sg := by
    obtain ⟨vs, h1, h2, h3⟩ := hs5.row
    exact (World.ownsRow.lt h2 sg rfl).1
  have hb6 : (w5.setCell ⟨sg, k * 5 + 2, none⟩ (.int .i64 ((good + n : Nat) : Int))).heap[sg]? = some (.cells (cs.setIfInBounds (k * 5 + 2) (.int .i64 ((good + n : Nat) : Int))) 75 (0, 0)) := cells_set hblk5 _ _
  refine ⟨?_, ((hx.seg hblk5).seg hb6).seg (cells_set hb6 _ _), follow_ok h.ok h4 hf, ?_, ?_, h3, h2, h1, ?_⟩
  · rw [top_snoc, List.length_append]
    exact hs6
  · have h6 := h.many
    have h7 := follow_len hf
    simp
    omega
  · have h6 := h.few
    simp
    omega
  · exact ((((h.below.trans (hT.below h.below.size (Nat.le_refl _))).setCell (p := ⟨sg, k * 5 + 2, none⟩) hsz _).setCell (p := ⟨sg, k * 5 + 3, none⟩) hsz _).setCell (p := ⟨sg, k * 5 + 4, none⟩) hsz _)

/-- a call left the entries as they were -/
theorem AtRec.turned {w wr w5 : World} {ns : List Nat} {k : Nat} {done : List Sg} {ents ents' recs : List Ent} {sv : Value} {num f good : Nat} {bs : List Int} (h : AtRec w ns sv k done ents num bs f good recs ents' wr) (hT : Turns w.heap.size w.heap.size wr w5) (hx : Boxed w5 w.heap.size w.heap.size ents') :
    AtRec w ns sv k done ents num bs f good recs ents' w5 := by
  obtain ⟨ecs, hbox⟩ := h.box.box
  have heb : ∀ {k : Nat} {cs' : Array Value} {t : TypeId} {fr : Nat × Nat}, t ≠ 36 → wr.heap[k]? = some (.cells cs' t fr) → k ≠ w.heap.size := fun ht hk e0 => by
    subst e0
    rw [hbox] at hk
    injection hk with h1
    injection h1 with _ h2
    exact ht h2.symm
  exact ⟨h.segs.keep (fun q cs' _ hq _ => hT.typed hq (by decide) (heb (by decide) hq)) (fun q cs' _ hq => hT.typed hq (by decide) (heb (by decide) hq)), hx, h.ok, h.many, h.few, h.le, h.fuel, h.same, h.below.trans (hT.below h.below.size (Nat.le_refl _))⟩

theorem addr_add (b i : Nat) : (⟨b, 0, none⟩ : Addr).add i = ⟨b, i, none⟩ := by unfold Addr.add; split <;> simp_all

/-- what the box holds behind the last store -/
theorem box_end {w wr : World} {ents : List Ent} (h : Boxed wr w.heap.size w.heap.size ents) (v : Value) : ((wr.setCell ⟨w.heap.size, 0, none⟩ v).drew).cell? ⟨w.heap.size, 0, none⟩ = some v := by
  obtain ⟨v0, hv0, _⟩ := h.at_
  rw [cell_of_row _ _ 0 _ _ _ (show ((wr.setCell ⟨w.heap.size, 0, none⟩ v).drew).heap[w.heap.size]? = _ from cells_set hv0 0 v)]
  simp

end Go.Proofs.YtmfemedcjgeheaaGreatDoor
