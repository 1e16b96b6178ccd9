/- frame.Scan, by its contract: all records of a file, and how many bytes are good. -/
import Derived.Test.YtaljfpkgancidaaAllIn
import Derived.Maps.AppendAt
namespace Go.Proofs.Ytaljfpkgancidaa
open Go.RowKit Go.Shelf
attribute [local go_sem] Oper.semAt_some

theorem infoSl : (Try.prog.info? 25).map (fun i => (i.zero, i.size, i.bytes)) = some (some (.slice none 0 0), 1, 24) := by kernel_rfl

def lastOf (xs : List Rec) : Nat := ((xs.getLast?).map Rec.at_).getD 0
theorem lastOf_snoc (xs : List Rec) (x : Rec) : lastOf (xs ++ [x]) = x.at_ := by simp [lastOf]

theorem Goes.last {bs : List Int} {xs : List Rec} {k : Nat} (h : Goes bs xs k) : (xs = [] ∧ k = 0 ∧ lastOf xs = 0) ∨ ∃ zs m, Frame.firstOf (bs.drop (lastOf xs)) = some (zs, m) ∧ k = lastOf xs + m := by
  cases h with
  | start => exact .inl ⟨rfl, rfl, rfl⟩
  | @next pre x m k h0 h1 h2 => exact .inr ⟨x.zs, m, by rw [lastOf_snoc, h2]; exact h1, by rw [lastOf_snoc, h2]⟩

theorem own_less {w : World} {B B' : Nat} {e : TypeId} {size : Nat} {v : Value} {n : Nat} {xs : List Value} (h : w.ownsRow B e size v n xs) (hB : B' ≤ B) : w.ownsRow B' e size v n xs := by
  refine ⟨h.1, ?_⟩
  rcases h.2 with hn | ⟨g, cap, cur, rfl, hb, rest⟩
  · exact .inl hn
  · exact .inr ⟨g, cap, cur, rfl, by omega, rest⟩

theorem own_same {w w' : World} {B : Nat} {e : TypeId} {size : Nat} {v : Value} {n : Nat} {xs : List Value} (h : w.ownsRow B e size v n xs) (hs : ∀ g cs fr, B ≤ g → w.heap[g]? = some (.cells cs e fr) → w'.heap[g]? = w.heap[g]?) : w'.ownsRow B e size v n xs := by
  refine ⟨h.1, ?_⟩
  rcases h.2 with hn | ⟨g, cap, cur, rfl, hb, hg, rest⟩
  · exact .inl hn
  · exact .inr ⟨g, cap, cur, rfl, hb, (hs g _ _ hb hg).trans hg, rest⟩

/-- what Scan tells -/
structure Scanned (bs : List Int) (w w' : World) (xs : List Rec) (v : Value) (good : Nat) : Prop where
  row : w'.ownsRow w.heap.size 25 1 v xs.length (xs.map Rec.val)
  here : ∀ x ∈ xs, Here w' x.g x.zs ∧ w.heap.size ≤ x.g ∧ x.zs.length ≤ x.c
  scans : Frame.Scans bs (xs.map Rec.zs) good
  below : Below w.heap.size w w'

/-- the body: what a round keeps -/
theorem scan_kept {W w1 : World} {n1 R0 R1 Bn : Nat} {v v' : Value} {k : Nat} {xs : List Value} {tmp : Obj} (hrow : W.ownsRow n1 25 1 v k xs) (hgrow : (W.alloc tmp).grownBy w1 v.ownBlock) (hBn : Bn < n1) (h0 : R0 ≠ Bn) (h1 : R1 ≠ Bn) (u0 u1 u1' : Value)
    (hb0 : Boxed W R0 60 u0) (hb1 : Boxed W R1 3 u1) :
    KeepB Bn W ((w1.setCell ⟨R0, 0, none⟩ v').setCell ⟨R1, 0, none⟩ u1') := by
  have hsz : W.heap.size ≤ w1.heap.size := by have := hgrow.size; simp at this; omega
  refine ⟨?_, fun j cs t fr hj ht => ?_⟩
  · have a1 := (KeepsOthers.setCell w1 ⟨R0, 0, none⟩ v').size
    have a2 := (KeepsOthers.setCell (w1.setCell ⟨R0, 0, none⟩ v') ⟨R1, 0, none⟩ u1').size
    omega
  · have hlt := lt_of_block hj
    have n0 : j ≠ R0 := by
      rintro rfl
      rw [show W.heap[j]? = _ from hb0] at hj
      simp at hj
      rcases ht with rfl | rfl
      · simp at hj
      · exact h0 rfl
    have n1' : j ≠ R1 := by
      rintro rfl
      rw [show W.heap[j]? = _ from hb1] at hj
      simp at hj
      rcases ht with rfl | rfl
      · simp at hj
      · exact h1 rfl
    have nv : some j ≠ v.ownBlock := by
      rcases hrow.2 with ⟨rfl, _⟩ | ⟨g, cap, cur, rfl, hb, hgb, _⟩
      · simp [Value.ownBlock]
      · intro e
        obtain rfl : j = g := by simpa [Value.ownBlock] using e
        rcases ht with rfl | rfl
        · rw [hgb] at hj; simp at hj
        · omega
    rw [Below.heap_setCell _ _ _ _ (show j ≠ R1 from n1'), Below.heap_setCell _ _ _ _ (show j ≠ R0 from n0), hgrow.block j (by simp; omega) nv, Below.heap_alloc _ _ _ hlt]

theorem first_more (a : Option Addr) (len cap : Nat) (bs : List Int) (w : World) (hz : len = bs.length) (hp : Reads w a bs) (hl : len ≤ 9223372036854775806) (hcap : len ≤ cap) (hcm : cap ≤ 9223372036854775807) (last k : Nat)
    (h : (Frame.firstOf bs = none ∧ k = last) ∨ ∃ zs m, Frame.firstOf bs = some (zs, m) ∧ k = last + m) :
    Calls Try.prog 65 #[.slice a len cap] w fun e w' => ∃ v0 ok, ∃ m : Nat, e = .returned (.tuple #[v0, .int .i64 (m : Int), .bool ok]) ∧ k = last + m ∧ Below w.heap.size w w' := by
  refine (first_any a len cap bs w hz hp hl hcap hcm).mono ?_
  intro e w' he
  rcases h with ⟨h1, h2⟩ | ⟨zs, m, h1, h2⟩
  · rw [h1] at he
    exact ⟨_, _, 0, he.1, h2, he.2⟩
  · rw [h1] at he
    obtain ⟨g, c, he, _, _, _, hb⟩ := he
    exact ⟨_, _, m, he, h2, hb⟩

set_option maxRecDepth 100000 in
set_option maxHeartbeats 2000000 in
theorem scan_any (a : Option Addr) (len cap : Nat) (bs : List Int) (w : World) (hz : len = bs.length) (hp : Reads w a bs) (hl : bs.length ≤ 1000000) (hcap : len ≤ cap) (hcm : cap ≤ 9223372036854775807) (hn : a = none → cap = 0) :
    Calls Try.prog 53 #[.slice a len cap] w fun e w' => ∃ xs v good, e = .returned (.tuple #[v, .int .i64 ((good : Nat) : Int)]) ∧ Scanned bs w w' xs v good := by
  obtain ⟨i0, hi, hz0, hz1, hz2⟩ := info_parts infoSl
  have hR := Lib.hid hp.hr
  have hbA : Below w.heap.size w ((w.alloc (.cells #[.slice none 0 0] 60)).alloc (.cells #[.int .i64 0] 3)) := ((Below.refl _ _).alloc (Nat.le_refl _) _).alloc (by simp) _
  have A := Lib.hid (all_any a len cap bs ((w.alloc (.cells #[.slice none 0 0] 60)).alloc (.cells #[.int .i64 0] 3)) hz (hp.below hbA) hl hn)
  have HP := Lib.hid hp
  have HZ := Lib.hid hz
  have HN := Lib.hid hn
  clear hp hz hn
  refine (callsIn_wide (n := 3)).1 ?_
  refine callsIn_of_wp_marks Try.func53 rfl trivial ?_ rfl
  simp only [Try.ntmps53, List.size_toArray, List.length_cons, List.length_nil, Nat.reduceAdd, Nat.reduceSub, Array.replicate_succ, Array.replicate_zero, List.push_toArray, List.append_toArray, List.nil_append, List.cons_append]
  gi_wp2_with fail
  refine ⟨trivial, (callsIn_wide.2 A.out).mono ?_⟩
  rintro e w1 ⟨rfl, a', c', hbox, hh, hc1, hc2, hb1⟩
  clear A
  have hR0 : Boxed w1 w.heap.size 60 (.slice none 0 0) := (hb1.block w.heap.size (by simp; omega)).trans ((Below.heap_alloc _ _ _ (by simp)).trans (heap_alloc_new w _))
  have hR1 : Boxed w1 (w.heap.size + 1) 3 (.int .i64 0) := by
    have h := heap_alloc_new (w.alloc (.cells #[.slice none 0 0] 60)) (.cells #[.int .i64 0] 3)
    rw [World.size_alloc] at h
    exact (hb1.block (w.heap.size + 1) (by simp)).trans h
  have hBn : ((w.alloc (.cells #[.slice none 0 0] 60)).alloc (.cells #[.int .i64 0] 3)).heap.size = w.heap.size + 2 := by simp
  rw [hBn] at hbox
  have hsz1 := hbox.lt
  have hbw : Below w.heap.size w w1 := hbA.trans (hb1.mono (by simp; omega))
  have HBX := Lib.hid hbox
  have HH := Lib.hid hh
  have HC2 := Lib.hid hc2
  clear hbox hh hb1 hbA hc2
  gi_wp2_with fail
  refine range_told (by omega) (gf := 81) (lb := #[.pointer (some ⟨w.heap.size + 2, 0, none⟩)]) rfl (enters_of Try.func81 (by kernel_rfl) rfl)
    (encs := Rec.encs) (Kp := KeepB (w.heap.size + 2)) (T := Told3 bs w1.heap.size) (S := fun xs => ∃ k, Goes bs xs k ∧ Frame.firstOf (bs.drop k) = none) (N := bs.length) (w0 := w1)
    (fun l J Jx W hW hJ hJx hY h0 => all1_in (3 - 1) (by omega) l (w.heap.size + 2) w1.heap.size a' c' bs hl hc1 HC2.out J Jx W hW.size hJ hY ((hW.block _ hsz1).trans HBX.out) (HH.out.keep (KeepB.below (Bn := 0) hW)) h0)
    (fun h k => h.trans k) (fun W l o o' _ h ho => KeepB.other W l o o' h ho) (Told3.own bs _ _) (Below.refl _ _) (fun _ => rfl)
    (fun pre W => (∃ v, Boxed W w.heap.size 60 v ∧ W.ownsRow w1.heap.size 25 1 v pre.length (pre.map Rec.val)) ∧ Boxed W (w.heap.size + 1) 3 (.int .i64 ((lastOf pre : Nat) : Int)) ∧ Below w.heap.size w W ∧ w1.heap.size ≤ W.heap.size)
    (fun _ _ _ => False)
    ?own (fun _ _ _ _ _ hs _ _ => hs) ⟨⟨_, hR0, World.ownsRow_nil _ _ _ _⟩, hR1, hbw, Nat.le_refl _⟩
    (fun x => { tmps := #[.slice a len cap, undef, .pointer (some ⟨w.heap.size, 0, none⟩), .int .i64 0, .pointer (some ⟨w.heap.size + 1, 0, none⟩), .int .i64 (x.at_ : Int), .slice (some ⟨x.g, 0, none⟩) x.zs.length x.c, undef, undef, undef, .slice a len cap, .func (.func 81) #[] #[.pointer (some ⟨w.heap.size + 2, 0, none⟩)], .int .i64 (x.at_ : Int), .slice (some ⟨x.g, 0, none⟩) x.zs.length x.c, undef, undef, undef, undef, undef, undef, undef, undef, undef, undef, undef, undef, undef, undef, undef, undef, undef], defers := [] }) ?assign ?body ?done ?stop
  case assign =>
    intro l x W K hK
    simp only [Rec.encs]
    gi_wp2
    exact hK
  case own =>
    rintro s X Y row ⟨⟨v, hv, hrow⟩, hl1, hB, hs⟩ hg hr
    have hr2 : ∀ r, row = some r → ∃ o : Obj, X.heap[r]? = some o ∧ o.isCells = false := fun r e => (hr r e).2
    obtain ⟨v2, hv2, hrow2, _⟩ := holdsRow_own w1.heap.size w.heap.size 60 25 1 (fun pre : List Rec => pre.length) (fun pre => pre.map Rec.val) (fun _ _ => True) s X Y row ⟨v, hv, hrow, trivial⟩ hg hr2
    have hsz := hg.size
    exact ⟨⟨v2, hv2, hrow2⟩, (grownBy_keeps_cells hg hr2 hl1 rfl).trans hl1, hB.grown hg hB.size (fun k e => by have := (hr k e).1; omega), by omega⟩
  case body =>
    rintro l pre x W ⟨⟨v, hv, hrow⟩, hl1, hB, hs⟩ hT hlt
    have hc := hv.cell
    have hc1 := hl1.cell
    have hf1 := hl1.frozen
    gi_wp2_with (gi_at_builtin; refine wpListIn_append_own _ rfl _ _ 60 rfl w1.heap.size 25 i0 (.slice none 0 0) 1 24 Try.underlying60 hi hz0 hz1 hz2 rfl (by decide) _ _ _ rfl (hrow.alloc _) ⟨W.heap.size, 0, none⟩ 1 1 [.slice (some ⟨x.g, 0, none⟩) x.zs.length x.c] rfl rfl (cell_one_new _ _ _) (by simp [Value.oneCell']) (by unfold maxLen; omega) (by omega) (by simp; omega) ?_)
    intro v' w2 hown' hgrow _
    obtain ⟨g', cap', rfl⟩ := ownsRow_succ hown'
    have hwW := hB.size
    have hn1 : w.heap.size ≤ w1.heap.size := hbw.size
    obtain ⟨hv1, hv2, _, hko, hbl⟩ := hv.appended (by decide) (own_less hrow hn1) hwW (Nat.le_refl _) (own_less hown' hn1) hgrow
    have hrow2 := hown'.kept (grownBy_setCell' w2 w.heap.size (.slice (some ⟨g', 0, none⟩) (pre.length + 1) cap')) (.inr (hv1.not_row (by decide) hown').symm)
    have hl2 : Boxed w2 (w.heap.size + 1) 3 (.int .i64 ((lastOf pre : Nat) : Int)) := (hl1.alloc _).kept hgrow (hl1.not_row (by decide) hrow)
    have hl3 : Boxed (w2.setCell ⟨w.heap.size, 0, none⟩ (.slice (some ⟨g', 0, none⟩) (pre.length + 1) cap')) (w.heap.size + 1) 3 (.int .i64 ((lastOf pre : Nat) : Int)) :=
      (Below.heap_setCell _ _ _ _ (by show w.heap.size + 1 ≠ w.heap.size; omega)).trans hl2
    have hkb := scan_kept (Bn := w.heap.size + 2) (R0 := w.heap.size) (R1 := w.heap.size + 1) (v' := .slice (some ⟨g', 0, none⟩) (pre.length + 1) cap') hrow hgrow (by omega) (by omega) (by omega) v (.int .i64 ((lastOf pre : Nat) : Int)) (.int .i64 (x.at_ : Int)) hv hl1
    have hrow3 := hrow2.kept (grownBy_setCell' _ (w.heap.size + 1) (.int .i64 (x.at_ : Int))) (.inr (hl3.not_row (by decide) hrow2).symm)
    have hl4 := hl3.set (.int .i64 (x.at_ : Int))
    have hv4 : Boxed ((w2.setCell ⟨w.heap.size, 0, none⟩ (.slice (some ⟨g', 0, none⟩) (pre.length + 1) cap')).setCell ⟨w.heap.size + 1, 0, none⟩ (.int .i64 (x.at_ : Int))) w.heap.size 60 (.slice (some ⟨g', 0, none⟩) (pre.length + 1) cap') :=
      (Below.heap_setCell _ _ _ _ (by show w.heap.size ≠ w.heap.size + 1; omega)).trans hv2
    have hb4 := hbl.setCell (p := ⟨w.heap.size + 1, 0, none⟩) (by show w.heap.size ≤ w.heap.size + 1; omega) (.int .i64 (x.at_ : Int))
    have hc1 := hv1.cell
    have hf1 := hv1.frozen
    have hc3 := hl3.cell
    have hf3 := hl3.frozen
    have HK := Lib.hid hkb
    have HO := Lib.hid (hko.trans (KeepsOthers.setCell _ ⟨w.heap.size + 1, 0, none⟩ (.int .i64 (x.at_ : Int))))
    have HV := Lib.hid hv4
    have HR3 := Lib.hid hrow3
    have HL := Lib.hid hl4
    have HB4 := Lib.hid (hB.trans hb4)
    clear hkb hko hv4 hrow3 hrow2 hl4 hb4 hbl hl3 hl2 hv2 hv1 hgrow hown' hrow hB hT hv hl1
    gi_wp2
    have hsz3 := HK.out.size
    refine ⟨HO.out.from _, HK.out, ⟨_, HV.out, ?_⟩, ?_, HB4.out, by omega⟩
    · rw [List.length_append, List.map_append]
      exact HR3.out
    · rw [lastOf_snoc]
      exact HL.out
  case stop =>
    rintro D c pre W _ h _
    exact h.elim
  case done =>
    rintro D xs W hD ⟨k, hgo, hnone⟩ hT ⟨⟨v, hv, hrow⟩, hl1, hB, hs⟩ hK
    obtain ⟨av, nv, cv, rfl⟩ : ∃ av nv cv, v = .slice av nv cv := by
      rcases hrow.2 with ⟨rfl, _⟩ | ⟨g, cap, cur, rfl, _⟩
      · exact ⟨_, _, _, rfl⟩
      · exact ⟨_, _, _, rfl⟩
    have hc := hv.cell
    have hc1 := hl1.cell
    have hlast := hgo.last
    have hle := hgo.le hR.out
    have hd := HP.out.below hB
    have hscan := hgo.scans (.stop hnone)
    rw [List.append_nil, Nat.add_zero] at hscan
    have hlk : lastOf xs ≤ k := by rcases hlast with ⟨_, h1, h2⟩ | ⟨_, m, _, h2⟩ <;> omega
    have hD : (Frame.firstOf (bs.drop (lastOf xs)) = none ∧ k = lastOf xs) ∨ ∃ zs m, Frame.firstOf (bs.drop (lastOf xs)) = some (zs, m) ∧ k = lastOf xs + m := by
      rcases hlast with ⟨_, h1, h2⟩ | h
      · exact .inl ⟨by rw [h2, ← h1]; exact hnone, by rw [h1, h2]⟩
      · exact .inr h
    by_cases hcl : cap = lastOf xs
    · have F := Lib.hid (first_more a 0 0 (bs.drop (lastOf xs)) W (by rw [List.length_drop]; have := HZ.out; omega) (hd.dropAll (by have := HZ.out; omega)) (by omega) (by omega) (by omega) (lastOf xs) k hD)
      have HZ2 : len = lastOf xs := by have := HZ.out; omega
      subst HZ2
      subst hcl
      have HS := Lib.hid hscan
      have HT := Lib.hid hT
      have HROW := Lib.hid hrow
      have HV := Lib.hid hv
      have HB := Lib.hid hB
      have HL1 := Lib.hid hl1
      have HK := Lib.hid hK
      have hkl := hle.1
      clear hscan hT hrow hB hd hlast hnone hgo hD hle hv hl1 hK
      gi_wp2_with fail
      refine ⟨trivial, ?_⟩
      with_reducible refine (callsIn_wide.2 F.out).mono ?_
      rintro e W2 ⟨v0, ok, m, rfl, hkm, hb2⟩
      clear F
      have hV2 := Lib.hid ((hb2.block _ HV.out.lt).trans HV.out)
      have hL2 := Lib.hid ((hb2.block _ HL1.out.lt).trans HL1.out)
      have hK2 := Lib.hid ((hb2.block D (lt_of_block HK.out)).trans HK.out)
      have hcV : W2.cell? ⟨w.heap.size, 0, none⟩ = some (.slice av nv cv) := Boxed.cell hV2.out
      have hfV : W2.frozen? ⟨w.heap.size, 0, none⟩ = false := Boxed.frozen hV2.out
      have hcL : W2.cell? ⟨w.heap.size + 1, 0, none⟩ = some (.int .i64 ((lastOf xs : Nat) : Int)) := Boxed.cell hL2.out
      have hm1 : m ≤ 1000000 := by omega
      clear hc hc1
      gi_wp2_with fail
      gi_region
      have hKd : (W2.setCell ⟨w.heap.size, 0, none⟩ (.slice av nv cv)).drew.heap[D]? = some (.deferred (some [])) := (Below.heap_setCell _ _ _ _ (by show D ≠ w.heap.size; omega)).trans hK2.out
      have hVe : Boxed ((W2.setCell ⟨w.heap.size, 0, none⟩ (.slice av nv cv)).drew.putObj D (.deferred none)) w.heap.size 60 (.slice av nv cv) :=
        (World.putObj_heap_other (by omega)).trans (Boxed.set (.slice av nv cv) hV2.out)
      have hce := hVe.cell
      gi_wp2
      refine ⟨by simp, .inl ⟨_, _, rfl, run_takeDeferred hKd, ?_⟩⟩
      have hfinal : ∀ j cs t fr, W.heap[j]? = some (.cells cs t fr) → j ≠ w.heap.size → ((W2.setCell ⟨w.heap.size, 0, none⟩ (.slice av nv cv)).drew.putObj D (.deferred none)).heap[j]? = W.heap[j]? := fun j cs t fr hj hne => by
        have hjD : j ≠ D := fun e => by rw [e, HK.out] at hj; simp at hj
        exact ((World.putObj_heap_other hjD).trans (Below.heap_setCell _ _ _ _ (by show j ≠ w.heap.size; exact hne))).trans (hb2.block j (lt_of_block hj))
      refine ⟨.tuple #[.slice av nv cv, .int .i64 ((lastOf xs : Int) + (m : Int))], by simp [results, Try.results53, go_sem, hce], xs, .slice av nv cv, k, by rw [hkm, Int.natCast_add], ?_⟩
      refine ⟨own_less (own_same HROW.out fun g cs fr hg hgc => hfinal g cs _ fr hgc (by omega)) (by omega), fun x hx => ?_, HS.out, ?_⟩
      · obtain ⟨h1, h2, h3⟩ := HT.out.2 x hx
        obtain ⟨cs, fr, hg, _⟩ := h1.blk
        exact ⟨h1.other (hfinal _ _ _ _ hg (by omega)), by omega, h3⟩
      · exact (((HB.out.trans (hb2.mono HB.out.size)).setCell (p := ⟨w.heap.size, 0, none⟩) (Nat.le_refl _) (.slice av nv cv)).drew).grown (grownBy_putObj' _ D (.deferred none)) (by
          have h1 := HB.out.size
          have h2 := hb2.size
          have h3 := (KeepsOthers.setCell W2 ⟨w.heap.size, 0, none⟩ (.slice av nv cv)).size
          show w.heap.size ≤ (W2.setCell ⟨w.heap.size, 0, none⟩ (.slice av nv cv)).heap.size
          omega) (fun j e => by cases e; omega)
    · have F := Lib.hid (first_more (Option.map (fun x => x.add (lastOf xs)) a) (len - lastOf xs) (cap - lastOf xs) (bs.drop (lastOf xs)) W (by rw [List.length_drop, HZ.out]) (hd.drop _) (by have := HZ.out; omega) (by omega) (by omega) (lastOf xs) k hD)
      have hll : lastOf xs ≤ len := by have := HZ.out; omega
      have HS := Lib.hid hscan
      have HT := Lib.hid hT
      have HROW := Lib.hid hrow
      have HV := Lib.hid hv
      have HB := Lib.hid hB
      have HL1 := Lib.hid hl1
      have HK := Lib.hid hK
      have hkl := hle.1
      clear hscan hT hrow hB hd hlast hnone hgo hD hle hv hl1 hK
      gi_wp2_with fail
      refine ⟨trivial, ?_⟩
      with_reducible refine (callsIn_wide.2 F.out).mono ?_
      rintro e W2 ⟨v0, ok, m, rfl, hkm, hb2⟩
      clear F
      have hV2 := Lib.hid ((hb2.block _ HV.out.lt).trans HV.out)
      have hL2 := Lib.hid ((hb2.block _ HL1.out.lt).trans HL1.out)
      have hK2 := Lib.hid ((hb2.block D (lt_of_block HK.out)).trans HK.out)
      have hcV : W2.cell? ⟨w.heap.size, 0, none⟩ = some (.slice av nv cv) := Boxed.cell hV2.out
      have hfV : W2.frozen? ⟨w.heap.size, 0, none⟩ = false := Boxed.frozen hV2.out
      have hcL : W2.cell? ⟨w.heap.size + 1, 0, none⟩ = some (.int .i64 ((lastOf xs : Nat) : Int)) := Boxed.cell hL2.out
      have hm1 : m ≤ 1000000 := by omega
      clear hc hc1
      gi_wp2_with fail
      gi_region
      have hKd : (W2.setCell ⟨w.heap.size, 0, none⟩ (.slice av nv cv)).drew.heap[D]? = some (.deferred (some [])) := (Below.heap_setCell _ _ _ _ (by show D ≠ w.heap.size; omega)).trans hK2.out
      have hVe : Boxed ((W2.setCell ⟨w.heap.size, 0, none⟩ (.slice av nv cv)).drew.putObj D (.deferred none)) w.heap.size 60 (.slice av nv cv) :=
        (World.putObj_heap_other (by omega)).trans (Boxed.set (.slice av nv cv) hV2.out)
      have hce := hVe.cell
      gi_wp2
      refine ⟨by simp, .inl ⟨_, _, rfl, run_takeDeferred hKd, ?_⟩⟩
      have hfinal : ∀ j cs t fr, W.heap[j]? = some (.cells cs t fr) → j ≠ w.heap.size → ((W2.setCell ⟨w.heap.size, 0, none⟩ (.slice av nv cv)).drew.putObj D (.deferred none)).heap[j]? = W.heap[j]? := fun j cs t fr hj hne => by
        have hjD : j ≠ D := fun e => by rw [e, HK.out] at hj; simp at hj
        exact ((World.putObj_heap_other hjD).trans (Below.heap_setCell _ _ _ _ (by show j ≠ w.heap.size; exact hne))).trans (hb2.block j (lt_of_block hj))
      refine ⟨.tuple #[.slice av nv cv, .int .i64 ((lastOf xs : Int) + (m : Int))], by simp [results, Try.results53, go_sem, hce], xs, .slice av nv cv, k, by rw [hkm, Int.natCast_add], ?_⟩
      refine ⟨own_less (own_same HROW.out fun g cs fr hg hgc => hfinal g cs _ fr hgc (by omega)) (by omega), fun x hx => ?_, HS.out, ?_⟩
      · obtain ⟨h1, h2, h3⟩ := HT.out.2 x hx
        obtain ⟨cs, fr, hg, _⟩ := h1.blk
        exact ⟨h1.other (hfinal _ _ _ _ hg (by omega)), by omega, h3⟩
      · exact (((HB.out.trans (hb2.mono HB.out.size)).setCell (p := ⟨w.heap.size, 0, none⟩) (Nat.le_refl _) (.slice av nv cv)).drew).grown (grownBy_putObj' _ D (.deferred none)) (by
          have h1 := HB.out.size
          have h2 := hb2.size
          have h3 := (KeepsOthers.setCell W2 ⟨w.heap.size, 0, none⟩ (.slice av nv cv)).size
          show w.heap.size ≤ (W2.setCell ⟨w.heap.size, 0, none⟩ (.slice av nv cv)).heap.size
          omega) (fun j e => by cases e; omega)

end Go.Proofs.Ytaljfpkgancidaa
