/- The reference's TakeText and First, by their contracts. -/
import Derived.Test.YtaljfpkgancidaaRefTake
import Derived.Test.YtaljfpkgancidaaFirst
import Derived.Test.YtaljfpkgancidaaRefPut
import Derived.BigQuiet
import Derived.Deep.Draws
namespace Go.Proofs.Ytaljfpkgancidaa
open Go.RowKit

set_option maxRecDepth 100000 in
set_option maxHeartbeats 1000000 in
theorem refTakeText_any (a : Option Addr) (len cap p : Nat) (zs : List Int) (w : World) (hlies : Reads w a zs) (hz : len = zs.length) (hl : len ≤ 1000000) (hp : p ≤ len) (hcap : len ≤ cap) (hcm : cap ≤ 9223372036854775807) :
    Calls Try.prog 56 #[.slice a len cap, .int .i64 (p : Int)] w fun e w' => TookText w w' len p zs e (Num.dec 10 0 0 (zs.drop p)) := by
  have hlt := fun n j h => Num.dec_lt 10 0 0 (zs.drop p) n j (by omega) (by simp) (fun x hx => hlies.hr x (List.mem_of_mem_drop hx)) h
  have HT := Lib.hid (refTake_any a len cap p zs w hlies hz hl hp hcap hcm)
  have HLT := Lib.hid hlt
  have HL := Lib.hid hlies
  have hzz := hz
  clear hlt hlies hz
  have hdl : (zs.drop p).length = len - p := by rw [List.length_drop]; omega
  rw [hdl] at HLT
  have HZ := Lib.hid hzz
  clear hzz hdl
  obtain ⟨D, hD⟩ : ∃ D, D = Num.dec 10 0 0 (zs.drop p) := ⟨_, rfl⟩
  rw [← hD] at HT HLT ⊢
  clear hD
  go_enter Try.func56, Try.ntmps56
  go_wp2_with fail
  with_reducible refine HT.out.mono ?_
  intro e w1 ht
  clear HT
  cases D with
  | none =>
    obtain ⟨rfl, hb⟩ := ht
    go_wp2_with fail
    go_ret3
    exact ⟨rfl, hb⟩
  | some nk =>
    obtain ⟨n, k⟩ := nk
    obtain ⟨rfl, hb⟩ := ht
    obtain ⟨hn, hk0, hk⟩ := HLT.out n k rfl
    by_cases hbig : 4096 < n
    · go_wp2_with fail
      go_ret3
      exact ⟨hb, by rw [if_neg (by omega)]; rfl⟩
    · by_cases hfit : p + k + n ≤ len
      · have HP : Hid (n ≤ 4096 ∧ p + k + n ≤ len) := ⟨by omega, hfit⟩
        by_cases hc : cap = p + k
        · obtain rfl : n = 0 := by omega
          have hcv : ∀ c : Nat, (convert 25 9 (.slice a 0 c)).run Try.prog w1 = .ok (.string ByteArray.empty) w1 := fun c =>
            run_convert_bytes_zero w1 _ _ Try.underlying25 Try.underlying5 a c _ Try.underlying9
          go_wp2_with fail
          go_ret3
          exact ⟨hb, by rw [if_pos HP.out]; rfl⟩
        · have hcv : (convert 25 9 (.slice (Option.map (fun x => x.add (p + k)) a) n (cap - (p + k)))).run Try.prog w1 = .ok (.string (strOfNums ((zs.drop (p + k)).take n))) w1 :=
            (((HL.out.below hb).drop (p + k)).take n).text n _ (by have := HZ.out; rw [List.length_take, List.length_drop]; omega)
          go_wp2_with fail
          go_ret3
          exact ⟨hb, by rw [if_pos HP.out]; rfl⟩
      · go_wp2_with fail
        go_ret3
        exact ⟨hb, by rw [if_neg (by omega)]; rfl⟩

theorem below_drewN (w : World) (n : Nat) : Below w.heap.size w (w.drewN n) := ⟨rfl, rfl, rfl, Nat.le_refl _, fun _ _ => rfl⟩

set_option maxRecDepth 100000 in
set_option maxHeartbeats 1000000 in
theorem refFirst_any (a : Option Addr) (len cap : Nat) (bs : List Int) (w : World) (hz : len = bs.length) (hp : Reads w a bs) (hl : len ≤ 1000000) (hcap : len ≤ cap) (hcm : cap ≤ 9223372036854775807) :
    Calls Try.prog 38 #[.slice a len cap] w fun e w' => ToldFirst w w' e (Frame.firstOf bs) := by
  by_cases h0 : len = 0
  · have hbs : Frame.firstOf bs = none := by
      cases bs with
      | nil => rfl
      | cons b r => simp at hz; omega
    rw [hbs]
    subst h0
    clear hz hp hbs hcap hcm hl
    go_enter Try.func38, Try.ntmps38
    go_wp2_with fail
    go_ret3
    exact ⟨rfl, Below.refl _ _⟩
  · obtain ⟨x, rfl, _, hcell⟩ := hp.cell 0 (by omega)
    have hx0 : x.add 0 = x := by unfold Addr.add; split <;> simp_all
    rw [hx0] at hcell
    have hrange := hp.range 0
    obtain ⟨z, hzz⟩ : ∃ z : Nat, bs.getD 0 0 = (z : Int) := ⟨(bs.getD 0 0).toNat, by omega⟩
    rw [hzz] at hcell hrange
    by_cases h90 : z = 90
    · subst h90
      have T0 := refTakeText_any (some x) len cap 1 bs w hp hz hl (by omega) hcap hcm
      rw [show ((1 : Nat) : Int) = 1 from rfl] at T0
      have T := Lib.hid T0
      clear T0 hzz
      have HD := Lib.hid (fun h => Frame.first_none_dec (bs := bs) h)
      have HF := Lib.hid (fun n k h => Frame.first_none_fit (bs := bs) (n := n) (k := k) h)
      have HB := Lib.hid (fun zs n k => Frame.first_by (bs := bs) (zs := zs) (n := n) (k := k) hp.hr)
      have HP := Lib.hid hp
      have HZ := Lib.hid hz
      clear hp hz
      obtain ⟨D, hD⟩ : ∃ D, D = Num.dec 10 0 0 (bs.drop 1) := ⟨_, rfl⟩
      rw [← hD] at T HD
      have HDD := Lib.hid hD
      clear hD
      go_enter Try.func38, Try.ntmps38
      go_wp2_with fail
      with_reducible refine T.out.mono ?_
      intro e w1 ht
      clear T
      cases D with
      | none =>
        obtain ⟨rfl, hb⟩ := ht
        go_wp2_with fail
        go_ret3
        rw [HD.out (by trivial)]
        exact ⟨rfl, hb⟩
      | some nk =>
        obtain ⟨n, k⟩ := nk
        obtain ⟨hb, ht⟩ := ht
        by_cases hfit : n ≤ 4096 ∧ 1 + k + n ≤ len
        · rw [if_pos hfit] at ht
          subst ht
          obtain ⟨zs, hzs⟩ : ∃ zs, zs = (bs.drop (1 + k)).take n := ⟨_, rfl⟩
          have hzr : ∀ x ∈ zs, 0 ≤ x ∧ x ≤ 255 := fun x hx => by rw [hzs] at hx; exact HP.out.hr x (List.mem_of_mem_drop (List.mem_of_mem_take hx))
          have hzl : zs.length ≤ 4096 := by rw [hzs, List.length_take]; omega
          have HBY := Lib.hid (HB.out zs n k HDD.out.symm hfit.1 hzs)
          rw [← hzs]
          clear hzs HB HF HD HDD hfit
          have hcv := fun W : World => Lib.run_convert_string_bytes (P := Try.prog) W 9 25 5 (strOfNums zs) Try.underlying9 Try.underlying25 Try.underlying5
          have hsz := strOfNums_size zs
          rw [hsz] at hcv
          have hb1 := below_bytes w1 5 (strOfNums zs)
          have hz1 := Lib.bytesWorld_size w1 5 (strOfNums zs)
          have hhere := bytes_here w1 zs hzr (by omega)
          obtain ⟨c1, hc1⟩ : ∃ c1, grownCap w1 zs.length 0 5 = c1 := ⟨_, rfl⟩
          have hcv1 := hcv w1
          rw [hc1] at hcv1
          have HCV := Lib.hid hcv
          have HSZ := Lib.hid hsz
          have HZR := Lib.hid hzr
          clear hsz hc1 hzr hcv
          generalize Lib.bytesWorld w1 5 (strOfNums zs) = W1 at *
          go_wp2_with fail
          with_reducible refine (refFramePut_any (some ⟨w1.heap.size, 0, none⟩) zs.length c1 zs _ rfl hhere.reads hzl).mono ?_
          rintro e w2 ⟨g, c, rfl, hr2, hb2⟩
          have hbz := hb.size
          have hfl := Frame.frame_len zs
          have hpl := Num.put_len zs.length
          have hrd2 : Reads w2 (some ⟨g, 0, none⟩) (Frame.frameOf zs) := (hr2.here (Frame.frame_range hzl HZR.out) (by omega)).1.reads
          obtain ⟨fs, hfs⟩ : ∃ fs, fs = Frame.frameOf zs := ⟨_, rfl⟩
          rw [← hfs] at hr2 hrd2 HBY hfl ⊢
          have hfl2 : fs.length ≤ 4200 := by omega
          clear hfl hpl hfs
          have B2 := (hb.trans (hb1.mono hbz)).trans (hb2.mono (by omega))
          have hbs2 := HP.out.below B2
          clear hr2 hb2 hb1 hb hhere hcv1
          have hz2 := B2.size
          by_cases hfit2 : fs.length ≤ len
          · have q1 : ∀ n, (convert 25 9 (.slice (some ⟨g, 0, none⟩) fs.length c)).run Try.prog (w2.drewN n) = .ok (.string (strOfNums fs)) (w2.drewN n) := fun n => (hrd2.below (below_drewN w2 n)).text fs.length c rfl
            have q2 : ∀ n, (convert 25 9 (.slice (some x) fs.length cap)).run Try.prog (w2.drewN n) = .ok (.string (strOfNums (bs.take fs.length))) (w2.drewN n) := fun n => ((hbs2.below (below_drewN w2 n)).take fs.length).text fs.length cap (by rw [List.length_take]; have := HZ.out; omega)
            have hse := str_eq (xs := fs) (ys := bs.take fs.length) hrd2.hr (fun y hy => HP.out.hr y (List.mem_of_mem_take hy))
            have HSE := Lib.hid hse
            clear hse hrd2 hbs2
            have hcf : fs.length ≤ cap := by omega
            go_wp2_with fail
            go_quiet (fail)
            have hdl : decide (len < fs.length) = false := by rw [decide_eq_false_iff_not]; omega
            rw [hdl, Bool.false_or]
            have hbb := HSE.out
            generalize ((strOfNums fs).toList == (strOfNums (bs.take fs.length)).toList) = bb at hbb ⊢
            have b3 : Below w.heap.size w (w2.drewN nq) := B2.trans ((below_drewN w2 nq).mono hz2)
            by_cases ht : bs.take fs.length = fs
            · have h2 : Frame.firstOf bs = some (zs, fs.length) := HBY.out.trans (if_pos ht)
              rw [decide_eq_true ht.symm] at hbb
              subst hbb
              have HY := Lib.hid h2
              have hcv2 := HCV.out (w2.drewN nq)
              have hgc := grownCap_ge (w2.drewN nq) zs.length 0 5
              have hb4 := below_bytes (w2.drewN nq) 5 (strOfNums zs)
              have hh4 := bytes_here (w2.drewN nq) zs HZR.out (by omega)
              have HB4 := Lib.hid (b3.trans (hb4.mono b3.size))
              have hz4 : w.heap.size ≤ (w2.drewN nq).heap.size := b3.size
              clear ht h2 HBY hb4 hdl q1 q2 b3
              generalize w2.drewN nq = w3 at *
              go_wp2
              go_ret3
              rw [HY.out]
              exact ⟨_, _, rfl, hz4, hh4, hgc, HB4.out⟩
            · have h2 : Frame.firstOf bs = none := HBY.out.trans (if_neg ht)
              rw [decide_eq_false (fun h => ht h.symm)] at hbb
              subst hbb
              have HY := Lib.hid h2
              clear ht h2 HBY hdl q1 q2
              go_wp2
              go_ret3
              rw [HY.out]
              exact ⟨rfl, b3⟩
          · have hgt : len < fs.length := by omega
            have h2 : Frame.firstOf bs = none := HBY.out.trans (if_neg fun h => by
              have h3 := congrArg List.length h
              rw [List.length_take] at h3
              have := HZ.out
              omega)
            have HY := Lib.hid h2
            clear h2 HBY hrd2 hbs2
            go_wp2_with fail
            go_quiet (fail)
            have b3 : Below w.heap.size w (w2.drewN nq) := B2.trans ((below_drewN w2 nq).mono hz2)
            go_wp2
            go_ret3
            rw [HY.out]
            exact ⟨rfl, b3⟩
        · rw [if_neg hfit] at ht
          subst ht
          go_wp2_with fail
          go_ret3
          rw [HF.out n k HDD.out.symm (by rw [← HZ.out]; exact hfit)]
          exact ⟨rfl, hb⟩
    · have hne : ((z : Int) != 90) = true := by rw [bne_iff_ne]; omega
      have hne0 : ((len : Int) == 0) = false := by rw [beq_eq_false_iff_ne]; omega
      have hnone : Frame.firstOf bs = none := by
        cases hf : Frame.firstOf bs with
        | none => rfl
        | some q =>
          obtain ⟨_, _, _, _, _, _, h, _⟩ := Frame.first_dec (ys := q.1) (m := q.2) hf
          omega
      rw [hnone]
      clear hzz hnone hp hz
      go_enter Try.func38, Try.ntmps38
      go_wp2_with fail
      go_ret3
      exact ⟨rfl, Below.refl _ _⟩

end Go.Proofs.Ytaljfpkgancidaa
