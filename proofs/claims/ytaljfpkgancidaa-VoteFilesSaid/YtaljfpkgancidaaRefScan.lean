/- The reference's Scan, by its contract. -/
import Derived.Test.YtaljfpkgancidaaRefFirst
import Derived.Test.YtaljfpkgancidaaScan
namespace Go.Proofs.Ytaljfpkgancidaa
open Go.RowKit

theorem here_alloc {w : World} {g : Nat} {zs : List Int} (h : Here w g zs) (o : Obj) : Here (w.alloc o) g zs := h.other (Below.heap_alloc _ _ _ h.lt)
theorem here_grown {w w' : World} {B : Nat} {g : Nat} {zs : List Int} {v : Value} {n : Nat} {xs : List Value} (h : Here w g zs) (hr : w.ownsRow B 25 1 v n xs) (hg : w.grownBy w' v.ownBlock) : Here w' g zs := by
  refine h.other (hg.block g h.lt fun e => ?_)
  obtain ⟨cs, fr, hb, _⟩ := h.blk
  rcases hr.2 with ⟨rfl, _⟩ | ⟨g', cap, cur, rfl, _, hgb, _⟩
  · simp [Value.ownBlock] at e
  · obtain rfl : g = g' := by simpa [Value.ownBlock] using e
    rw [hb] at hgb
    simp at hgb

set_option maxRecDepth 100000 in
set_option maxHeartbeats 2000000 in
theorem refScan_any (a : Option Addr) (len cap : Nat) (bs : List Int) (w : World) (hz : len = bs.length) (hp : Reads w a bs) (hl : bs.length ≤ 1000000) (hcap : len ≤ cap) (hcm : cap ≤ 9223372036854775807) :
    Calls Try.prog 41 #[.slice a len cap] w fun e w' => ∃ xs v good, e = .returned (.tuple #[v, .int .i64 ((good : Nat) : Int)]) ∧ Scanned bs w w' xs v good := by
  obtain ⟨i0, hi, hz0, hz1, hz2⟩ := info_parts infoSl
  have hR := Lib.hid hp.hr
  have HP := Lib.hid hp
  have HZ := Lib.hid hz
  clear hp hz
  have hll : len ≤ 1000000 := by have := HZ.out; omega
  go_enter Try.func41, Try.ntmps41
  go_wp2
  go_loopw [4, 5] (fun v p wr => ∃ (xs : List Rec) (k : Nat), p = .int .i64 (k : Int) ∧ wr.ownsRow w.heap.size 25 1 v xs.length (xs.map Rec.val) ∧ Goes bs xs k ∧ (∀ x ∈ xs, Here wr x.g x.zs ∧ w.heap.size ≤ x.g ∧ x.zs.length ≤ x.c) ∧ Below w.heap.size w wr)
    (fun _ p _ => bs.length - (intOf p).toNat)
  case atStart => exact ⟨[], 0, rfl, World.ownsRow_nil _ _ _ _, .start, fun x hx => (by cases hx), Below.refl _ _⟩
  case round =>
    obtain ⟨xs, k, rfl, hrow, hg, hhere, hb⟩ := hrel
    have hk := hg.le hR.out
    have hd := HP.out.below hb
    have hkll : k ≤ len := by have := HZ.out; omega
    by_cases hc : cap = k
    · have hlk : len = k := by omega
      have hF := Lib.hid (refFirst_any a 0 0 (bs.drop k) wr (by rw [List.length_drop]; have := HZ.out; omega) (hd.dropAll (by have := HZ.out; omega)) (by omega) (by omega) (by omega))
      subst hc
      subst hlk
      have HG := Lib.hid hg
      have HHERE := Lib.hid hhere
      have HROW := Lib.hid hrow
      have HB := Lib.hid hb
      have hkl := hk.1
      have hbs := hb.size
      obtain ⟨D, hD⟩ : ∃ D, D = Frame.firstOf (bs.drop len) := ⟨_, rfl⟩
      have HD := Lib.hid hD
      clear hg hhere hrow hb hd hk hD
      go_wp2_with fail
      with_reducible refine hF.out.mono ?_
      intro e W1 hfirst
      rw [← HD.out] at hfirst
      clear hF
      cases D with
      | none =>
        obtain ⟨rfl, hb1⟩ := hfirst
        go_wp2
        go_ret2
        refine ⟨xs, _, len, rfl, ?_⟩
        have hs := HG.out.scans (.stop HD.out.symm)
        rw [List.append_nil, Nat.add_zero] at hs
        exact ⟨own_same HROW.out fun g cs fr _ hgc => hb1.block g (lt_of_block hgc), fun x hx => ⟨((HHERE.out x hx).1.below hb1), (HHERE.out x hx).2⟩, hs, HB.out.trans (hb1.mono hbs)⟩
      | some zm =>
        obtain ⟨zs, m⟩ := zm
        obtain ⟨g, cg, rfl, hg0, hh1, hcg, hb1⟩ := hfirst
        have hgo : Goes bs (xs ++ [⟨len, g, cg, zs⟩]) (len + m) := .next (x := ⟨len, g, cg, zs⟩) HG.out HD.out.symm rfl
        have hgl := hgo.le hR.out
        have hgl0 := HG.out.le hR.out
        rw [List.length_append, List.length_singleton] at hgl
        have hm0 : 6 ≤ m := by
          obtain ⟨_, h3, _, _⟩ := Frame.first_is (fun y hy => hR.out y (List.mem_of_mem_drop hy)) HD.out.symm
          rw [Frame.frame_len] at h3
          have := Num.put_len zs.length
          omega
        have hrow1 := own_same (w' := W1) HROW.out fun g cs fr _ hgc => hb1.block g (lt_of_block hgc)
        have hB1 := HB.out.trans (hb1.mono hbs)
        have hw1 := hB1.size
        have HGO := Lib.hid hgo
        have hkm : len + m ≤ bs.length ∧ 6 * xs.length + 6 ≤ len + m := by omega
        have hxl : xs.length ≤ 1000000 := by omega
        have HH1 := Lib.hid (fun x hx => (⟨(HHERE.out x hx).1.below hb1, (HHERE.out x hx).2⟩ : Here W1 x.g x.zs ∧ w.heap.size ≤ x.g ∧ x.zs.length ≤ x.c))
        clear hgo hgl hgl0 hb1
        go_wp2_with (at_builtin; refine wpList_append_own _ rfl _ _ 60 rfl w.heap.size 25 i0 (.slice none 0 0) 1 24 Try.underlying60 hi hz0 hz1 hz2 rfl (by decide) _ _ _ rfl (hrow1.alloc _) ⟨W1.heap.size, 0, none⟩ 1 1 [.slice (some ⟨g, 0, none⟩) zs.length cg] rfl rfl (cell_one_new _ _ _) (by simp [Value.oneCell']) (by unfold maxLen; omega) (by omega) (by simp; omega) ?_)
        intro v' w2 hown' hgrow _
        have hkeep : ∀ y zz, Here W1 y zz → Here w2 y zz := fun y zz hy => here_grown (here_alloc hy _) (hrow1.alloc _) hgrow
        have hB2 := (hB1.alloc hw1 (.cells #[.slice (some ⟨g, 0, none⟩) zs.length cg] 25)).grown hgrow (by simp; omega) (fun j e => (hrow1.lt j e).1)
        have HO := Lib.hid hown'
        have HB2 := Lib.hid hB2
        have HK := Lib.hid hkeep
        clear hown' hgrow hrow1 hB1 hB2 hkeep HROW HB
        go_wp2
        go_roundw
        case rel =>
          have hh2 : ∀ x ∈ xs ++ [(⟨len, g, cg, zs⟩ : Rec)], Here w2 x.g x.zs ∧ w.heap.size ≤ x.g ∧ x.zs.length ≤ x.c := fun x hx => by
            rcases List.mem_append.1 hx with hx | hx
            · exact ⟨HK.out _ _ (HH1.out x hx).1, (HH1.out x hx).2⟩
            · simp only [List.mem_singleton] at hx
              subst hx
              exact ⟨HK.out _ _ hh1, by show w.heap.size ≤ g; omega, hcg⟩
          have hrow2 : w2.ownsRow w.heap.size 25 1 v' (xs ++ [(⟨len, g, cg, zs⟩ : Rec)]).length ((xs ++ [(⟨len, g, cg, zs⟩ : Rec)]).map Rec.val) := by
            rw [List.length_append, List.map_append]
            exact HO.out
          exact ⟨xs ++ [⟨len, g, cg, zs⟩], len + m, by go_num, hrow2, HGO.out, hh2, HB2.out⟩
        case measure => simp [intOf]; omega
    · have hF := Lib.hid (refFirst_any (Option.map (fun x => x.add k) a) (len - k) (cap - k) (bs.drop k) wr (by rw [List.length_drop, HZ.out]) (hd.drop k) (by omega) (by omega) (by omega))
      have HG := Lib.hid hg
      have HHERE := Lib.hid hhere
      have HROW := Lib.hid hrow
      have HB := Lib.hid hb
      have hkl := hk.1
      have hbs := hb.size
      obtain ⟨D, hD⟩ : ∃ D, D = Frame.firstOf (bs.drop k) := ⟨_, rfl⟩
      have HD := Lib.hid hD
      clear hg hhere hrow hb hd hk hD
      go_wp2_with fail
      with_reducible refine hF.out.mono ?_
      intro e W1 hfirst
      rw [← HD.out] at hfirst
      clear hF
      cases D with
      | none =>
        obtain ⟨rfl, hb1⟩ := hfirst
        go_wp2
        go_ret2
        refine ⟨xs, _, k, rfl, ?_⟩
        have hs := HG.out.scans (.stop HD.out.symm)
        rw [List.append_nil, Nat.add_zero] at hs
        exact ⟨own_same HROW.out fun g cs fr _ hgc => hb1.block g (lt_of_block hgc), fun x hx => ⟨((HHERE.out x hx).1.below hb1), (HHERE.out x hx).2⟩, hs, HB.out.trans (hb1.mono hbs)⟩
      | some zm =>
        obtain ⟨zs, m⟩ := zm
        obtain ⟨g, cg, rfl, hg0, hh1, hcg, hb1⟩ := hfirst
        have hgo : Goes bs (xs ++ [⟨k, g, cg, zs⟩]) (k + m) := .next (x := ⟨k, g, cg, zs⟩) HG.out HD.out.symm rfl
        have hgl := hgo.le hR.out
        have hgl0 := HG.out.le hR.out
        rw [List.length_append, List.length_singleton] at hgl
        have hm0 : 6 ≤ m := by
          obtain ⟨_, h3, _, _⟩ := Frame.first_is (fun y hy => hR.out y (List.mem_of_mem_drop hy)) HD.out.symm
          rw [Frame.frame_len] at h3
          have := Num.put_len zs.length
          omega
        have hrow1 := own_same (w' := W1) HROW.out fun g cs fr _ hgc => hb1.block g (lt_of_block hgc)
        have hB1 := HB.out.trans (hb1.mono hbs)
        have hw1 := hB1.size
        have HGO := Lib.hid hgo
        have hkm : k + m ≤ bs.length ∧ 6 * xs.length + 6 ≤ k + m := by omega
        have hxl : xs.length ≤ 1000000 := by omega
        have HH1 := Lib.hid (fun x hx => (⟨(HHERE.out x hx).1.below hb1, (HHERE.out x hx).2⟩ : Here W1 x.g x.zs ∧ w.heap.size ≤ x.g ∧ x.zs.length ≤ x.c))
        clear hgo hgl hgl0 hb1
        go_wp2_with (at_builtin; refine wpList_append_own _ rfl _ _ 60 rfl w.heap.size 25 i0 (.slice none 0 0) 1 24 Try.underlying60 hi hz0 hz1 hz2 rfl (by decide) _ _ _ rfl (hrow1.alloc _) ⟨W1.heap.size, 0, none⟩ 1 1 [.slice (some ⟨g, 0, none⟩) zs.length cg] rfl rfl (cell_one_new _ _ _) (by simp [Value.oneCell']) (by unfold maxLen; omega) (by omega) (by simp; omega) ?_)
        intro v' w2 hown' hgrow _
        have hkeep : ∀ y zz, Here W1 y zz → Here w2 y zz := fun y zz hy => here_grown (here_alloc hy _) (hrow1.alloc _) hgrow
        have hB2 := (hB1.alloc hw1 (.cells #[.slice (some ⟨g, 0, none⟩) zs.length cg] 25)).grown hgrow (by simp; omega) (fun j e => (hrow1.lt j e).1)
        have HO := Lib.hid hown'
        have HB2 := Lib.hid hB2
        have HK := Lib.hid hkeep
        clear hown' hgrow hrow1 hB1 hB2 hkeep HROW HB
        go_wp2
        go_roundw
        case rel =>
          have hh2 : ∀ x ∈ xs ++ [(⟨k, g, cg, zs⟩ : Rec)], Here w2 x.g x.zs ∧ w.heap.size ≤ x.g ∧ x.zs.length ≤ x.c := fun x hx => by
            rcases List.mem_append.1 hx with hx | hx
            · exact ⟨HK.out _ _ (HH1.out x hx).1, (HH1.out x hx).2⟩
            · simp only [List.mem_singleton] at hx
              subst hx
              exact ⟨HK.out _ _ hh1, by show w.heap.size ≤ g; omega, hcg⟩
          have hrow2 : w2.ownsRow w.heap.size 25 1 v' (xs ++ [(⟨k, g, cg, zs⟩ : Rec)]).length ((xs ++ [(⟨k, g, cg, zs⟩ : Rec)]).map Rec.val) := by
            rw [List.length_append, List.map_append]
            exact HO.out
          exact ⟨xs ++ [⟨k, g, cg, zs⟩], k + m, by go_num, hrow2, HGO.out, hh2, HB2.out⟩
        case measure => simp [intOf]; omega

end Go.Proofs.Ytaljfpkgancidaa
