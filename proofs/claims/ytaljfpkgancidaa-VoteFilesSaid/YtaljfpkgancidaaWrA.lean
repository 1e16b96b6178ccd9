/- A disk in the world; isNone and write, by their contracts. write, where there is no disk. -/
import Derived.Test.YtaljfpkgancidaaRecV
import Derived.Test.YtaljfpkgancidaaRefScan
import Derived.Test.YtaljfpkgancidaaNoneD
import Derived.Test.YtaljfpkgancidaaKn9
import Derived.Maps.OwnIn
namespace Go.Proofs.Ytaljfpkgancidaa
open Go.RowKit Go.Maps Go.Sort Dsk

/-- what a disk may be: few files, few versions of each -/
def Tame (M : Files) : Prop := ∀ l f, M l = some f → l.length ≤ 64 ∧ f.later.length ≤ 1000
theorem Tame.good {M : Files} (h : Tame M) : Good M := fun l f hf => ⟨(h l f hf).1, by have := (h l f hf).2; omega⟩
structure Liv (w : World) (B : Nat) (o : Tags) (g : Nat) (M : Files) (N : Nat) : Prop where
  disk : DiskAt w B o g M N
  hB : B ≤ w.heap.size
  tame : Tame M
  few : N ≤ 50

section
variable {w w' : World} {B g N N' : Nat} {o o' : Tags} {M M' : Files}
theorem Liv.below (h : Liv w B o g M N) (hb : Below w.heap.size w w') : Liv w' B o g M N := ⟨h.disk.below hb, Nat.le_trans h.hB hb.size, h.tame, h.few⟩
theorem Liv.step (h : Liv w B o g M N) (hs : Step o w o' w') (hd : DiskAt w' B o' g M' N') (hg : Tame M') (hN : N' ≤ 50) : Liv w' B o' g M' N' :=
  ⟨hd, Nat.le_trans h.hB hs.size, hg, hN⟩
theorem Liv.free (h : Liv w B o g M N) {k : Nat} (hk : w.heap.size ≤ k) : o k = none := by
  cases e : o k with
  | none => rfl
  | some t => have := (h.disk.owns k (by rw [e]; simp)).2; omega
theorem Tame.at_ (h : Tame M) (l : Name) : (M.at l).later.length ≤ 1000 := by
  unfold Files.at
  cases hM : M l with
  | none => simp [Fil.zero]
  | some f => simpa using (h l f hM).2
theorem Liv.at_ (h : Liv w B o g M N) (l : Name) : (M.at l).later.length < 1000000000 := by
  have := h.tame.at_ l
  omega
theorem Liv.ok (h : Liv w B o g M N) (l : Name) : (M.at l).ok := by
  obtain ⟨b9, D9, hd9⟩ := h.disk
  obtain ⟨c9, _, _, _, hf9⟩ := hd9.file l
  exact hf9.ok
end

theorem upd_upd (M : Files) (n : Name) (x y : Option Fil) : upd (upd M n x) n y = upd M n y := by
  funext m
  unfold upd
  split <;> rfl
theorem tame_upd {M : Files} (h : Tame M) {n : Name} {x : Option Fil} (hn : n.length ≤ 64) (hx : ∀ f, x = some f → f.later.length ≤ 1000) : Tame (upd M n x) := by
  intro l f hf
  unfold upd at hf
  split at hf
  · rename_i e
    subst e
    exact ⟨hn, hx f hf⟩
  · exact h l f hf
theorem chg_now (f : Fil) (v : Ver) : (f.chg v).now = v := Fil.now_some (l := f.later) rfl

/-- a file that is sure of these bytes -/
def sureF (zs : List Int) : Fil := ⟨⟨true, zs, zs.length⟩, [], false⟩

theorem refusal_empty (g b : Nat) (w : World) (hc : w.cell? ⟨g, 0, none⟩ = some (.map (some b))) :
    Calls Try.prog 33 #[.pointer (some ⟨g, 0, none⟩), .string ⟨#[]⟩] w fun e w' => e = .returned (.int .i64 2) ∧ w = w' := by
  have hm := map_nil w (some b)
  simp only [Option.isNone_some] at hm
  go_enter Try.func33, Try.ntmps33
  go_wp2
  go_ret
  exact ⟨rfl, rfl⟩

theorem sync_empty {w : World} {B g N : Nat} {o : Tags} {M : Files} (h : DiskAt w B o g M N) :
    Calls Try.prog 46 #[.pointer (some ⟨g, 0, none⟩), .string ⟨#[]⟩] w fun e w' => e = .returned (.int .i64 2) ∧ w = w' := by
  obtain ⟨b, D, hd⟩ := h
  have H := Lib.hid (refusal_empty g b w hd.cell)
  clear hd
  go_enter Try.func46, Try.ntmps46
  go_wp2_with fail
  refine H.out.mono ?_
  rintro e w1 ⟨rfl, rfl⟩
  go_wp2
  go_ret
  exact ⟨rfl, rfl⟩

theorem isNone_live {w : World} {B g N : Nat} {o : Tags} {M : Files} (h : DiskAt w B o g M N) :
    Calls Try.prog 23 #[.pointer (some ⟨g, 0, none⟩)] w fun e w' => e = .returned (.bool false) ∧ w = w' := by
  have H := Lib.hid (sync_empty h)
  clear h
  go_enter Try.func23, Try.ntmps23
  go_wp2_with fail
  refine H.out.mono ?_
  rintro e w1 ⟨rfl, rfl⟩
  go_wp2
  go_ret
  exact ⟨rfl, rfl⟩
theorem isNone_no {w : World} {x : Value} (h : NoDisk w x) :
    Calls Try.prog 23 #[x] w fun e w' => e = .returned (.bool true) ∧ w = w' := by
  have H := Lib.hid (sync_no (.string ⟨#[]⟩) h)
  clear h
  go_enter Try.func23, Try.ntmps23
  go_wp2_with fail
  refine H.out.mono ?_
  rintro e w1 ⟨rfl, rfl⟩
  go_wp2
  go_ret
  exact ⟨rfl, rfl⟩

theorem cat_flat (ls : List (List Int)) : ∀ k, k ≤ ls.length → cat (fun i => Frame.frameOf (ls.getD i [])) k = Frame.flat (ls.take k)
  | 0, _ => by simp [cat, Frame.flat]
  | k + 1, h => by
    have e : ls.getD k [] = ls[k] := by simp [List.getD, show k < ls.length by omega]
    rw [cat, cat_flat ls k (by omega), List.take_succ_eq_append_getElem (show k < ls.length by omega), Frame.flat_snoc, e]

/-- a row of frames that were made -/
structure FrameRow (w : World) (B : Nat) (ls : List (List Int)) (k : Nat) (G C : Nat → Nat) (v : Value) : Prop where
  row : w.ownsRow B 25 1 v k ((List.range k).map fun i => .slice (some ⟨G i, 0, none⟩) (Frame.frameOf (ls.getD i [])).length (C i))
  here : ∀ i, i < k → Here w (G i) (Frame.frameOf (ls.getD i []))

theorem FrameRow.below {w w' : World} {B : Nat} {ls : List (List Int)} {k : Nat} {G C : Nat → Nat} {v : Value} (h : FrameRow w B ls k G C v) (hb : Below w.heap.size w w') : FrameRow w' B ls k G C v :=
  ⟨ownsRow_keep h.row fun j e => hb.block j (World.ownsRow.lt h.row j e).2, fun i hi => (h.here i hi).below hb⟩

theorem FrameRow.parts {w : World} {B : Nat} {ls : List (List Int)} {k : Nat} {G C : Nat → Nat} {g c : Nat} (h : FrameRow w B ls k G C (.slice (some ⟨g, 0, none⟩) k c)) :
    Parts w g k (fun i => some ⟨G i, 0, none⟩) (fun i => Frame.frameOf (ls.getD i [])) C where
  cell := fun i hi => by
    have := h.row.cellAt i (by omega)
    rw [this]
    simp [hi]
  nil := fun i _ e => by cases e
  reads := fun i hi ad ha => reads_news (h.here i hi).reads ad ha

def fn1 (G : Nat → Nat) (k x : Nat) : Nat → Nat := fun i => if i = k then x else G i
theorem fn1_self (G : Nat → Nat) (k x : Nat) : fn1 G k x k = x := by simp [fn1]
theorem fn1_other (G : Nat → Nat) (k x i : Nat) (h : i < k) : fn1 G k x i = G i := by simp [fn1, show i ≠ k by omega]

set_option maxRecDepth 100000 in
set_option maxHeartbeats 2000000 in
theorem write_any (g B N : Nat) (o : Tags) (M : Files) (l : Name) (a : Option Addr) (c : Nat) (ls : List (List Int)) (w : World) (hl : Liv w B o g M N) (hs : SlicesAt w a ls) (hne : 0 < ls.length) (hsm : ∀ z ∈ ls, z.length ≤ 4096) (hfl : (Frame.flat ls).length ≤ 1000000) (hn : ls.length ≤ 1000)
    (h1 : 1 ≤ l.length) (h2 : l.length ≤ 64) :
    Calls Try.prog 21 #[.pointer (some ⟨g, 0, none⟩), .string ⟨l.toArray⟩, .slice a ls.length c] w fun e w' => e = .returned (.int .i64 0) ∧ ∃ o', DiskAt w' B o' g (upd M l (some (sureF (Frame.flat ls)))) (cntN M l N) ∧ Step o w o' w' := by
  obtain ⟨i0, hi, hz0, hz1, hz2⟩ := info_parts infoSl
  have HL := Lib.hid hl
  have HS := Lib.hid hs
  have HSM := Lib.hid hsm
  have HFL := Lib.hid hfl
  have HNE := Lib.hid hne
  have H12 := Lib.hid (And.intro h1 h2)
  clear hl hs hsm hfl hne h1 h2
  go_enter Try.func21, Try.ntmps21
  go_wp2
  go_loopw [7, 15] (fun v i wr => ∃ (k : Nat) (G C : Nat → Nat), k ≤ ls.length ∧ i = .int .i64 k ∧ FrameRow wr w.heap.size ls k G C v ∧ Below w.heap.size w wr) (fun _ i _ => ls.length - (intOf i).toNat)
  case atStart => exact ⟨0, fun _ => 0, fun _ => 0, Nat.zero_le _, rfl, ⟨World.ownsRow_nil _ _ _ _, fun i hi => by omega⟩, Below.refl _ _⟩
  case round =>
    obtain ⟨k, G, C, hk, rfl, hrow, hb⟩ := hrel
    by_cases hlt : k < ls.length
    · obtain ⟨x, A, Cp, hx, hcell, hxl, hrd⟩ := (HS.out.below hb).at_ k hlt
      have hzm : ls.getD k [] ∈ ls := by
        have e : ls.getD k [] = ls[k] := by simp [List.getD, hlt]
        rw [e]; exact List.getElem_mem hlt
      have HFP := Lib.hid (framePut_any A (ls.getD k []).length Cp (ls.getD k []) wr rfl hrd (HSM.out _ hzm))
      subst hx
      have HROW := Lib.hid hrow
      have HB := Lib.hid hb
      obtain ⟨z, hz⟩ : ∃ z, z = ls.getD k [] := ⟨_, rfl⟩
      rw [← hz] at hcell HFP
      have HZ := Lib.hid hz
      clear hrow hb hrd hxl hzm hz
      go_wp2_with fail
      refine HFP.out.mono ?_
      rintro e w1 ⟨fg, fc, rfl, hfr, hb1⟩
      have hflen := Frame.frame_len z
      have hplen := Num.put_len z.length
      have hzl : z.length ≤ 4096 := by
        rw [HZ.out]
        have e : ls.getD k [] = ls[k] := by simp [List.getD, hlt]
        rw [e]; exact HSM.out _ (List.getElem_mem hlt)
      have hfh := (hfr.here (Frame.frame_range hzl (by
        rw [HZ.out]
        obtain ⟨_, _, _, _, _, _, hrd⟩ := HS.out.at_ k hlt
        exact hrd.hr)) (by omega)).1
      have hrow1 := HROW.out.below hb1
      have hw1 : w.heap.size ≤ w1.heap.size := Nat.le_trans HB.out.size hb1.size
      have HB1 := Lib.hid (HB.out.trans (hb1.mono HB.out.size))
      have HFH := Lib.hid hfh
      have HFR1 := Lib.hid hrow1
      clear hfr hb1 hrow1 hfh HFP HROW HB hcell
      obtain ⟨fl, hfl⟩ : ∃ fl, fl = (Frame.frameOf z).length := ⟨_, rfl⟩
      rw [← hfl] at hflen ⊢
      have hflb : fl ≤ 5000 := by omega
      have HFLN := Lib.hid hfl
      clear hfl hflen hplen hzl
      go_wp2_with (at_builtin; go_loud (refine wpList_append_own_at _ rfl _ _ 60 rfl w.heap.size 25 i0 (.slice none 0 0) 1 24 Try.underlying60 hi hz0 hz1 hz2 rfl (by decide) _ _ _ rfl (HFR1.out.row.alloc _) ⟨w1.heap.size, 0, none⟩ 1 1 [.slice (some ⟨fg, 0, none⟩) fl fc] rfl rfl (cell_one_new _ _ _) (by simp [Value.oneCell']) (by unfold maxLen; omega) (by omega) (by simp; omega) ?_))
      intro v' w2 hown hg _ _
      have hb2 : Below w.heap.size w w2 := (HB1.out.alloc hw1 _).grown hg (by simp; omega) (fun j e => (World.ownsRow.lt HFR1.out.row j e).1)
      have hfr2 : FrameRow w2 w.heap.size ls (k + 1) (fn1 G k fg) (fn1 C k fc) v' := by
        refine ⟨?_, fun i hi => ?_⟩
        · rw [List.range_succ, List.map_append, List.map_singleton, fn1_self, fn1_self, ← HZ.out, ← HFLN.out]
          have e : (List.range k).map (fun i => Value.slice (some ⟨fn1 G k fg i, 0, none⟩) (Frame.frameOf (ls.getD i [])).length (fn1 C k fc i)) = (List.range k).map (fun i => Value.slice (some ⟨G i, 0, none⟩) (Frame.frameOf (ls.getD i [])).length (C i)) :=
            List.map_congr_left fun i hi => by rw [fn1_other _ _ _ _ (List.mem_range.1 hi), fn1_other _ _ _ _ (List.mem_range.1 hi)]
          rw [e]
          exact hown
        · by_cases hik : i = k
          · subst hik
            rw [fn1_self, ← HZ.out]
            exact here_grown (here_alloc HFH.out _) (HFR1.out.row.alloc _) hg
          · rw [fn1_other _ _ _ _ (by omega)]
            exact here_grown (here_alloc (HFR1.out.here i (by omega)) _) (HFR1.out.row.alloc _) hg
      have HFR2 := Lib.hid hfr2
      have HB2 := Lib.hid hb2
      clear hown hg hfr2 hb2 HFR1 HB1 HFH
      go_wp2
      go_roundw
      case rel => exact ⟨k + 1, _, _, by omega, by go_num, HFR2.out, HB2.out⟩
      case measure => simp [intOf]; omega
    · obtain rfl : k = ls.length := by omega
      have hk0 := HNE.out
      have hcat := cat_flat ls ls.length (Nat.le_refl _)
      rw [List.take_length] at hcat
      obtain ⟨fa, fc, rfl, hfa⟩ := slice_shape hrow.row
      obtain ⟨fg, rfl⟩ : ∃ fg, fa = some ⟨fg, 0, none⟩ := by
        rcases hrow.row.2 with ⟨he, h0⟩ | ⟨fg, cap, cur, he, _⟩
        · omega
        · cases he; exact ⟨fg, rfl⟩
      have HJ := Lib.hid (join_any fg ls.length fc _ _ C wr hrow.parts (by omega) (by rw [hcat]; exact HFL.out))
      rw [hcat] at HJ
      have HB := Lib.hid hb
      clear hrow hb hcat hfa
      go_wp2_with fail
      refine HJ.out.mono ?_
      rintro e w1 ⟨jg, jc, rfl, hjr, hb1⟩
      have hbw := HB.out.trans (hb1.mono HB.out.size)
      have hlv1 := HL.out.below hbw
      have hrng : ∀ x ∈ Frame.flat ls, 0 ≤ x ∧ x ≤ 255 := Frame.flat_range HSM.out fun z hz x hx => by
        obtain ⟨i, hi, rfl⟩ := List.mem_iff_getElem.1 hz
        obtain ⟨_, _, _, _, _, _, hrd⟩ := HS.out.at_ i hi
        have e : ls.getD i [] = ls[i] := by simp [List.getD, hi]
        rw [e] at hrd
        exact hrd.hr x hx
      have hfll := HFL.out
      have hH := (hjr.here hrng (by omega)).1
      have HREP := Lib.hid (replace_any g B N o M l (some ⟨jg, 0, none⟩) (Frame.flat ls).length jc (Frame.flat ls) w1 hlv1.disk rfl hH.reads (fun e => by cases e) (by omega) (.inr (by have := HL.out.few; omega)) H12.out.1 H12.out.2 (by have := HL.out.few; omega) (fun l f hf => by have := (HL.out.tame l f hf).2; omega) hlv1.hB)
      have HLV1 := Lib.hid hlv1
      have HBW := Lib.hid hbw
      clear hjr hb1 hbw hlv1 hH HJ
      go_wp2_with fail
      refine HREP.out.mono ?_
      rintro e w2 ⟨rfl, o2, hd2, hs2⟩
      have HSY := Lib.hid (sync_any g B (cntN M l N) o2 _ l w2 hd2 (by rw [upd_same]; rfl) H12.out.1 H12.out.2 (by have := cntN_le M l N; have := HL.out.few; omega) (by
        rw [upd_at]
        have := HL.out.tame.at_ l
        simp [Fil.chg]
        omega))
      rw [upd_at, chg_now, upd_upd] at HSY
      have HS2 := Lib.hid hs2
      clear hd2 hs2 HREP
      go_wp2_with fail
      refine HSY.out.mono ?_
      rintro e w3 ⟨rfl, o3, hd3, hs3⟩
      have HD3 := Lib.hid hd3
      have HS3 := Lib.hid hs3
      clear hd3 hs3
      go_wp2_with fail
      go_ret
      exact ⟨rfl, o3, HD3.out, ((Step.of_below o HBW.out).trans HS2.out).trans HS3.out⟩

end Go.Proofs.Ytaljfpkgancidaa

namespace Go.Proofs.Ytaljfpkgancidaa
open Go.RowKit Go.Maps Go.Sort Dsk

theorem replace_no {x : Value} {w : World} (y z : Value) (h : NoDisk w x) : Calls Try.prog 13 #[x, y, z] w fun e w' => e = .returned (.int .i64 1) ∧ Below w.heap.size w w' := by
  have H := Lib.hid (refusal_no y h)
  clear h
  go_enter Try.func13, Try.ntmps13
  go_wp2_with fail
  refine H.out.mono ?_
  rintro e w1 ⟨rfl, rfl⟩
  go_wp2
  go_ret
  exact ⟨rfl, Below.refl _ _⟩

set_option maxRecDepth 100000 in
set_option maxHeartbeats 2000000 in
theorem write_no (x0 y0 : Value) (a : Option Addr) (c : Nat) (ls : List (List Int)) (w : World) (hl : NoDisk w x0) (hs : SlicesAt w a ls) (hne : 0 < ls.length) (hsm : ∀ z ∈ ls, z.length ≤ 4096) (hfl : (Frame.flat ls).length ≤ 1000000) (hn : ls.length ≤ 1000) :
    Calls Try.prog 21 #[x0, y0, .slice a ls.length c] w fun e w' => e = .returned (.int .i64 1) ∧ Below w.heap.size w w' := by
  obtain ⟨i0, hi, hz0, hz1, hz2⟩ := info_parts infoSl
  have HL := Lib.hid hl
  have HS := Lib.hid hs
  have HSM := Lib.hid hsm
  have HFL := Lib.hid hfl
  have HNE := Lib.hid hne
  clear hl hs hsm hfl hne
  go_enter Try.func21, Try.ntmps21
  go_wp2
  go_loopw [7, 15] (fun v i wr => ∃ (k : Nat) (G C : Nat → Nat), k ≤ ls.length ∧ i = .int .i64 k ∧ FrameRow wr w.heap.size ls k G C v ∧ Below w.heap.size w wr) (fun _ i _ => ls.length - (intOf i).toNat)
  case atStart => exact ⟨0, fun _ => 0, fun _ => 0, Nat.zero_le _, rfl, ⟨World.ownsRow_nil _ _ _ _, fun i hi => by omega⟩, Below.refl _ _⟩
  case round =>
    obtain ⟨k, G, C, hk, rfl, hrow, hb⟩ := hrel
    by_cases hlt : k < ls.length
    · obtain ⟨x, A, Cp, hx, hcell, hxl, hrd⟩ := (HS.out.below hb).at_ k hlt
      have hzm : ls.getD k [] ∈ ls := by
        have e : ls.getD k [] = ls[k] := by simp [List.getD, hlt]
        rw [e]; exact List.getElem_mem hlt
      have HFP := Lib.hid (framePut_any A (ls.getD k []).length Cp (ls.getD k []) wr rfl hrd (HSM.out _ hzm))
      subst hx
      have HROW := Lib.hid hrow
      have HB := Lib.hid hb
      obtain ⟨z, hz⟩ : ∃ z, z = ls.getD k [] := ⟨_, rfl⟩
      rw [← hz] at hcell HFP
      have HZ := Lib.hid hz
      clear hrow hb hrd hxl hzm hz
      go_wp2_with fail
      refine HFP.out.mono ?_
      rintro e w1 ⟨fg, fc, rfl, hfr, hb1⟩
      have hflen := Frame.frame_len z
      have hplen := Num.put_len z.length
      have hzl : z.length ≤ 4096 := by
        rw [HZ.out]
        have e : ls.getD k [] = ls[k] := by simp [List.getD, hlt]
        rw [e]; exact HSM.out _ (List.getElem_mem hlt)
      have hfh := (hfr.here (Frame.frame_range hzl (by
        rw [HZ.out]
        obtain ⟨_, _, _, _, _, _, hrd⟩ := HS.out.at_ k hlt
        exact hrd.hr)) (by omega)).1
      have hrow1 := HROW.out.below hb1
      have hw1 : w.heap.size ≤ w1.heap.size := Nat.le_trans HB.out.size hb1.size
      have HB1 := Lib.hid (HB.out.trans (hb1.mono HB.out.size))
      have HFH := Lib.hid hfh
      have HFR1 := Lib.hid hrow1
      clear hfr hb1 hrow1 hfh HFP HROW HB hcell
      obtain ⟨fl, hfl⟩ : ∃ fl, fl = (Frame.frameOf z).length := ⟨_, rfl⟩
      rw [← hfl] at hflen ⊢
      have hflb : fl ≤ 5000 := by omega
      have HFLN := Lib.hid hfl
      clear hfl hflen hplen hzl
      go_wp2_with (at_builtin; go_loud (refine wpList_append_own_at _ rfl _ _ 60 rfl w.heap.size 25 i0 (.slice none 0 0) 1 24 Try.underlying60 hi hz0 hz1 hz2 rfl (by decide) _ _ _ rfl (HFR1.out.row.alloc _) ⟨w1.heap.size, 0, none⟩ 1 1 [.slice (some ⟨fg, 0, none⟩) fl fc] rfl rfl (cell_one_new _ _ _) (by simp [Value.oneCell']) (by unfold maxLen; omega) (by omega) (by simp; omega) ?_))
      intro v' w2 hown hg _ _
      have hb2 : Below w.heap.size w w2 := (HB1.out.alloc hw1 _).grown hg (by simp; omega) (fun j e => (World.ownsRow.lt HFR1.out.row j e).1)
      have hfr2 : FrameRow w2 w.heap.size ls (k + 1) (fn1 G k fg) (fn1 C k fc) v' := by
        refine ⟨?_, fun i hi => ?_⟩
        · rw [List.range_succ, List.map_append, List.map_singleton, fn1_self, fn1_self, ← HZ.out, ← HFLN.out]
          have e : (List.range k).map (fun i => Value.slice (some ⟨fn1 G k fg i, 0, none⟩) (Frame.frameOf (ls.getD i [])).length (fn1 C k fc i)) = (List.range k).map (fun i => Value.slice (some ⟨G i, 0, none⟩) (Frame.frameOf (ls.getD i [])).length (C i)) :=
            List.map_congr_left fun i hi => by rw [fn1_other _ _ _ _ (List.mem_range.1 hi), fn1_other _ _ _ _ (List.mem_range.1 hi)]
          rw [e]
          exact hown
        · by_cases hik : i = k
          · subst hik
            rw [fn1_self, ← HZ.out]
            exact here_grown (here_alloc HFH.out _) (HFR1.out.row.alloc _) hg
          · rw [fn1_other _ _ _ _ (by omega)]
            exact here_grown (here_alloc (HFR1.out.here i (by omega)) _) (HFR1.out.row.alloc _) hg
      have HFR2 := Lib.hid hfr2
      have HB2 := Lib.hid hb2
      clear hown hg hfr2 hb2 HFR1 HB1 HFH
      go_wp2
      go_roundw
      case rel => exact ⟨k + 1, _, _, by omega, by go_num, HFR2.out, HB2.out⟩
      case measure => simp [intOf]; omega
    · obtain rfl : k = ls.length := by omega
      have hk0 := HNE.out
      have hcat := cat_flat ls ls.length (Nat.le_refl _)
      rw [List.take_length] at hcat
      obtain ⟨fa, fc, rfl, hfa⟩ := slice_shape hrow.row
      obtain ⟨fg, rfl⟩ : ∃ fg, fa = some ⟨fg, 0, none⟩ := by
        rcases hrow.row.2 with ⟨he, h0⟩ | ⟨fg, cap, cur, he, _⟩
        · omega
        · cases he; exact ⟨fg, rfl⟩
      have HJ := Lib.hid (join_any fg ls.length fc _ _ C wr hrow.parts (by omega) (by rw [hcat]; exact HFL.out))
      rw [hcat] at HJ
      have HB := Lib.hid hb
      clear hrow hb hcat hfa
      go_wp2_with fail
      refine HJ.out.mono ?_
      rintro e w1 ⟨jg, jc, rfl, hjr, hb1⟩
      have hbw := HB.out.trans (hb1.mono HB.out.size)
      have HREP := Lib.hid (replace_no y0 (.slice (some ⟨jg, 0, none⟩) (Frame.flat ls).length jc) (HL.out.below hbw))
      have HBW := Lib.hid hbw
      clear hjr hb1 hbw HJ
      go_wp2_with fail
      refine HREP.out.mono ?_
      rintro e w2 ⟨rfl, hb2⟩
      go_wp2_with fail
      go_ret
      exact ⟨rfl, HBW.out.trans (hb2.mono HBW.out.size)⟩

end Go.Proofs.Ytaljfpkgancidaa
