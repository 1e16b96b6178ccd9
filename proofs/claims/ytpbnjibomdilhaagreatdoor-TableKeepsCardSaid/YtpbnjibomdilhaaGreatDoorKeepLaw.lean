/- The law's walk. -/
import Derived.Test.YtpbnjibomdilhaaGreatDoorMba
import Derived.Test.YtpbnjibomdilhaaGreatDoorKeepE
import Derived.Test.YtpbnjibomdilhaaGreatDoorMbb
namespace Go.Proofs.YtpbnjibomdilhaaGreatDoor.Job
open Go.RowKit Go.Maps

set_option maxRecDepth 100000 in
set_option maxHeartbeats 16000000 in
theorem keeps_law (l : List OpV) (a : Option Addr) (c : Nat) (w : World) (hk : Kit w) (h : OpsF w a l) : Calls Tryz.prog 3 #[.slice a l.length c] w fun e w' => e = .returned (.bool true) ∧ Below w.heap.size w w' := by
  have HK := Lib.hid hk
  have HO := Lib.hid h
  clear hk h
  by_cases h60 : 60 < l.length
  · have e0 : (60 : Int) < (l.length : Int) := by omega
    have e1 : decide ((60 : Int) < (l.length : Int)) = true := decide_eq_true e0
    clear h60
    go_enter Tryz.func3, Tryz.ntmps3
    go_wp2_with fail
    refine (known15_any w HK.out).mono ?_
    rintro e w1 ⟨rfl, hb1⟩
    go_wp2
    go_ret
    exact ⟨rfl, hb1⟩
  have e0 : ¬ (60 : Int) < (l.length : Int) := by omega
  have e1 : decide ((60 : Int) < (l.length : Int)) = false := decide_eq_false e0
  have HL := Lib.hid (show l.length ≤ 60 by omega)
  clear h60
  go_enter Tryz.func3, Tryz.ntmps3
  go_wp2_with fail
  refine (known15_any w HK.out).mono ?_
  rintro e w1 ⟨rfl, hb1⟩
  go_wp2_with fail
  refine (new_any w1).mono ?_
  rintro e w2 ⟨rfl, ht2, hb2⟩
  obtain ⟨k, hk⟩ : ∃ k, k = w1.heap.size + 1 := ⟨_, rfl⟩
  obtain ⟨b, hb⟩ : ∃ b, b = w1.heap.size := ⟨_, rfl⟩
  rw [← hk, ← hb] at ht2
  rw [← hk]
  have HS2 := Lib.hid (show St w w2 k b [] 0 0 from ⟨ht2, Ok.nil 0, hb1.trans (hb2.mono hb1.size), by have := hb1.size; omega⟩)
  clear hk hb ht2 hb1 hb2 e0 e1
  go_wp2_with fail
  go_loopw [4] (fun v4 wr => ∃ (i : Nat) (L : List J) (last : Int), v4 = .int .i64 (i : Int) ∧ i ≤ l.length ∧ St w wr k b L last i)
    (fun v4 _ => l.length - (intOf v4).toNat)
  case atStart => exact ⟨0, [], 0, rfl, Nat.zero_le _, HS2.out⟩
  case round =>
    obtain ⟨i, L, last, rfl, hi, hst⟩ := hrel
    by_cases hlt : i < l.length
    · obtain ⟨⟨g, q, p1, p2⟩, p3⟩ := HO.out
      have ea := p1 (by intro e; rw [e] at hlt; simp at hlt)
      cases ea
      obtain ⟨hg, hc⟩ := p2 i hlt
      have hfo := p3 l[i] (List.getElem_mem hlt)
      obtain ⟨o, ho⟩ : ∃ o, l[i] = o := ⟨_, rfl⟩
      rw [ho] at hc hfo
      obtain ⟨⟨⟨c0, c1, c2, c3⟩, ⟨c4, c5, c6, c7⟩⟩, ⟨⟨c8, c9, c10, c11⟩, ⟨c12, c13, c14, c15⟩⟩⟩ := OpsF.cells (w := wr) fun c h16 => (hst.bel.cell (p := ⟨g, q + (i * 16 + c), none⟩) hg).trans (hc c h16)
      have hb0 : (0 : Int) ≤ i := by omega
      have hb1 : (i : Int) ≤ 60 := by have := HL.out; omega
      obtain ⟨wa, hwa⟩ : ∃ W, W = wr.alloc (.cells o.cs 31) := ⟨_, rfl⟩
      obtain ⟨O, hO⟩ : ∃ n, n = wr.heap.size := ⟨_, rfl⟩
      have hba : Below wr.heap.size wr wa := by rw [hwa]; exact (Below.refl _ _).alloc (Nat.le_refl _) _
      have HOA := Lib.hid (show wa.heap[O]? = some (opobj o) by rw [hwa, hO]; exact heap_alloc_new wr _)
      have HSA := Lib.hid (hst.below hba)
      have HNKB := Lib.hid (show O ≠ k ∧ O ≠ b ∧ w.heap.size ≤ O from ⟨by rw [hO]; exact Nat.ne_of_gt hst.tab.ltk, by rw [hO]; exact Nat.ne_of_gt hst.tab.ltb, by rw [hO]; exact hst.bel.size⟩)
      have HWA := Lib.hid hwa
      have HOO := Lib.hid hO
      have HFO := Lib.hid hfo
      have HGR := Lib.hid (great_any o.j wa)
      clear p1 p2 p3 hc hfo ho hwa hO hba hst hg hi
      unfold J.val J.cells jcells at HGR
      go_wp2_with fail
      rw [← HWA.out, ← HOO.out]
      refine HGR.out.mono ?_
      rintro e w3 ⟨rfl, hb3⟩
      have HS3 := Lib.hid (HSA.out.below hb3)
      have HO3 := Lib.hid ((hb3.block _ (lt_of_block HOA.out)).trans HOA.out)
      clear hb3 HGR c0 c1 c2 c3 c4 c5 c6 c7 c8 c9 c10 c11 c12 c13 c14 c15
      cases hgb : greatB o.j with
      | true =>
        clear hgb
        go_wp2
        go_ret
        exact ⟨rfl, HS3.out.bel⟩
      | false =>
        have HD12 := Lib.hid (not_great hgb)
        clear hgb
        go_wp2_with fail
        refine (list_any HS3.out.tab (HS3.out.ok.deps (by omega)) (by have := HS3.out.ok.len; omega)).mono ?_
        rintro e w4 ⟨v, lw, rfl, hrow, hlike, hasd, hb4⟩
        obtain ⟨va, vc, rfl, -⟩ := ownRow_shape hrow
        have HJW := Lib.hid (hrow.read fun j hj => (hlike.each j hj).1).1
        have HLW := Lib.hid hlike.bare
        have HAW := Lib.hid (show (∀ x, va = some x → x.block ≠ k ∧ x.block ≠ b) ∧ (∀ j ∈ lw, ∀ x, j.da = some x → x.block ≠ k ∧ x.block ≠ b) from ⟨fun x hx => by
          subst hx
          have := (World.ownsRow.lt hrow x.block (by simp [Value.ownBlock])).1
          have := HS3.out.tab.ltk
          have := HS3.out.tab.ltb
          omega, fun j hj x hx => by
          have := (hlike.each j hj).2 x hx
          have := HS3.out.tab.ltk
          have := HS3.out.tab.ltb
          omega⟩)
        have HS4 := Lib.hid (HS3.out.below hb4)
        have HO4 := Lib.hid ((hb4.block _ (lt_of_block HO3.out)).trans HO3.out)
        clear hrow hlike hasd hb4
        go_wp2_with fail
        refine (last_any HS4.out.tab).mono ?_
        rintro e w5 ⟨rfl, rfl⟩
        obtain ⟨⟨⟨-, o1, -, -⟩, -⟩, -⟩ := op_cells HO4.out
        go_wp2_with fail
        refine (find_any HS4.out.tab HFO.out.2 (HS4.out.ok.deps (by omega))).mono ?_
        rintro e w6 ⟨da, dc, rfl, hb6⟩
        obtain ⟨old, hold⟩ : ∃ x, x = ((findJ L o.id).getD zeroJ).at da dc := ⟨_, rfl⟩
        obtain ⟨had, hhad⟩ : ∃ x, x = (findJ L o.id).isSome := ⟨_, rfl⟩
        rw [← hold, ← hhad]
        obtain ⟨w7, hw7⟩ : ∃ W, W = w6.alloc (.cells old.cs 29) := ⟨_, rfl⟩
        obtain ⟨F, hF⟩ : ∃ n, n = w6.heap.size := ⟨_, rfl⟩
        have hb67 : Below w6.heap.size w6 w7 := by rw [hw7]; exact (Below.refl _ _).alloc (Nat.le_refl _) _
        have hb47 : Below w4.heap.size w4 w7 := hb6.trans (hb67.mono hb6.size)
        have HS7 := Lib.hid (HS4.out.below hb47)
        have HO7 := Lib.hid ((hb47.block _ (lt_of_block HO4.out)).trans HO4.out)
        have HF7 := Lib.hid (show w7.heap[F]? = some (jobj old) by rw [hw7, hF]; exact heap_alloc_new w6 _)
        have HJW7 := Lib.hid (HJW.out.below hb47)
        have HNF := Lib.hid (show F ≠ k ∧ F ≠ b from ⟨by rw [hF]; exact Nat.ne_of_gt (Nat.lt_of_lt_of_le HS4.out.tab.ltk hb6.size), by rw [hF]; exact Nat.ne_of_gt (Nat.lt_of_lt_of_le HS4.out.tab.ltb hb6.size)⟩)
        have HW7 := Lib.hid hw7
        have HFF := Lib.hid hF
        have HOLD := Lib.hid (show ∀ m, findJ L o.id = some m → old.seen = m.seen ∧ old.ver = m.ver from fun m hm => by rw [hold, hm]; exact ⟨rfl, rfl⟩)
        have HHAD := Lib.hid hhad
        have HVER := Lib.hid (show 0 ≤ old.ver ∧ old.ver ≤ 100 by
          rw [hold]
          cases hm : findJ L o.id with
          | none => exact ⟨show (0 : Int) ≤ 0 by omega, show (0 : Int) ≤ 100 by omega⟩
          | some m =>
            have := HS4.out.ok.ver m (findJ_mem hm).1
            show 0 ≤ m.ver ∧ m.ver ≤ 100
            omega)
        clear hold hhad hw7 hF hb6 hb67 hb47 o1 HJW HS3 HSA HOA HO3 HWA
        unfold J.val J.cells jcells
        go_upto_region 15 with fail
        rw [← HW7.out, ← HFF.out]
        clear HW7 HFF
        obtain ⟨⟨⟨o0, -, -, -⟩, -⟩, -⟩ := op_cells HO7.out
        go_upto_block 2 with fail
        refine switch_wp _ _ _ _ _ _ _ _ _ _ _ _ _ _ _ _ _ _ _ _ _ _ _ _ _ _ _ _ _ _ _ _ _ _ _ _ _ _ _ _ _ _ _ _ _ _ _ _ _ _ _ _ _ _ _ _ _ _ _ _ _ _ _ _ _ _ _ _ _ _ _ _ _ _ _ _ _ _ _ _ _ _ _ _ _ _ _ _ _ _ _ _ _ _ _ _ _ _ _ _ _ _ _ _ _ _ _ _ _ _ _ _ _ _ _ _ _ _ _ _ _ _ _ _ _ _ _ _ _ _ _ _ _ _ _ _ _ _ _ _ _ _ _ _ _ _ _ _ _ _ _ _ _ _ _ _ _ _ _ _ _ _ _ _ _ _ _ _ _ _ _ _ _ _ _ _ _ _ _ _ _ _ _ _ _ _ _ _ _ _ _ _ _ _ _ _ _ _ _ _ _ _ _ _ _ _ _ _ _ _ _ _ _ _ _ _ _ _ _ _ _ _ _ _ _ _ _ _ _ _ _ _ _ _ _ _ _ _ _ _ _ _ _ _ _ _ _ _ _ _ _ _ _ _ _ _ w w7 k b O L last i o HK.out HS7.out HO7.out HFO.out HD12.out (by omega) ?_
        intro y10 y11 y12 y52 y53 y54 y55 y56 y57 y58 y59 y60 y61 y62 y63 y64 y65 y66 y67 y68 y69 y70 y71 y72 y73 y74 y75 y76 y77 y78 y79 y80 y81 y82 y83 y84 y85 y86 y87 y88 y89 y90 y91 y92 y93 y94 y95 y96 y97 y98 y99 y100 y101 y102 y103 y104 y105 y106 y107 y108 y109 wc hrel
        obtain ⟨e0, L', last', rfl, hsc, hok, hfc⟩ := hrel
        have HSC := Lib.hid hsc
        have HOKC := Lib.hid hok
        have HOC := Lib.hid (op_eff HO7.out hfc HNKB.out.1 HNKB.out.2.1)
        have HFC := Lib.hid (job_eff HF7.out hfc HNF.out.1 HNF.out.2)
        have HJWC := Lib.hid (HJW7.out.eff hfc HAW.out.1 HAW.out.2)
        have HOKL := Lib.hid HS7.out.ok
        clear hsc hok hfc o0
        go_wp2_with fail
        refine (list_any HSC.out.tab (HSC.out.ok.deps (by omega)) (by have := HSC.out.ok.len; omega)).mono ?_
        rintro e w9 ⟨v, li, rfl, hrow, hlike, hasd, hb9⟩
        obtain ⟨vi, vj, rfl, -⟩ := ownRow_shape hrow
        have HJI := Lib.hid (hrow.read fun j hj => (hlike.each j hj).1).1
        have HLI := Lib.hid hlike.bare
        have HS9 := Lib.hid (HSC.out.below hb9)
        have HO9 := Lib.hid ((hb9.block _ (lt_of_block HOC.out)).trans HOC.out)
        have HF9 := Lib.hid ((hb9.block _ (lt_of_block HFC.out)).trans HFC.out)
        have HJW9 := Lib.hid (HJWC.out.below hb9)
        clear hrow hlike hasd hb9 HSC HOC HFC HJWC
        obtain ⟨⟨⟨-, o1, -, -⟩, -⟩, -⟩ := op_cells HO9.out
        go_wp2_with fail
        refine (find_any HS9.out.tab HFO.out.2 (HS9.out.ok.deps (by omega))).mono ?_
        rintro e w10 ⟨ea, ec, rfl, hb10⟩
        obtain ⟨now, hnow⟩ : ∃ x, x = ((findJ L' o.id).getD zeroJ).at ea ec := ⟨_, rfl⟩
        obtain ⟨has, hhas⟩ : ∃ x, x = (findJ L' o.id).isSome := ⟨_, rfl⟩
        rw [← hnow, ← hhas]
        obtain ⟨w11, hw11⟩ : ∃ W, W = w10.alloc (.cells now.cs 29) := ⟨_, rfl⟩
        obtain ⟨G, hG⟩ : ∃ n, n = w10.heap.size := ⟨_, rfl⟩
        have hb1011 : Below w10.heap.size w10 w11 := by rw [hw11]; exact (Below.refl _ _).alloc (Nat.le_refl _) _
        have hb911 : Below w9.heap.size w9 w11 := hb10.trans (hb1011.mono hb10.size)
        have HS11 := Lib.hid (HS9.out.below hb911)
        have HO11 := Lib.hid ((hb911.block _ (lt_of_block HO9.out)).trans HO9.out)
        have HF11 := Lib.hid ((hb911.block _ (lt_of_block HF9.out)).trans HF9.out)
        have HG11 := Lib.hid (show w11.heap[G]? = some (jobj now) by rw [hw11, hG]; exact heap_alloc_new w10 _)
        have HJW11 := Lib.hid (HJW9.out.below hb911)
        have HJI11 := Lib.hid (HJI.out.below hb911)
        have HNOW := Lib.hid (show ∀ m, findJ L' o.id = some m → now.seen = m.seen ∧ now.ver = m.ver from fun m hm => by rw [hnow, hm]; exact ⟨rfl, rfl⟩)
        have HHAS := Lib.hid hhas
        have HW11 := Lib.hid hw11
        have HGG := Lib.hid hG
        clear hnow hhas hw11 hG hb10 hb1011 hb911 o1 HS9 HO9 HF9 HJW9 HJI
        unfold J.val J.cells jcells
        go_upto_region 31 with fail
        rw [← HW11.out, ← HGG.out]
        clear HW11 HGG
        refine ask_wp _ _ _ _ _ _ _ _ _ _ _ _ _ _ _ _ _ _ _ _ _ _ _ _ _ _ _ _ _ _ _ _ _ _ _ _ _ _ _ _ _ _ _ _ _ _ _ _ _ _ _ _ _ _ _ _ _ _ _ _ _ _ _ _ _ _ _ _ _ _ _ _ _ _ _ _ _ _ _ _ _ _ _ _ _ _ _ _ _ _ _ _ _ _ _ _ _ _ _ _ _ _ _ _ _ _ _ _ _ _ _ _ _ _ _ _ _ _ _ _ _ _ _ _ _ _ _ _ _ _ _ _ _ _ _ _ _ _ _ _ _ _ _ _ _ _ _ _ _ _ _ _ _ _ _ _ _ _ _ _ _ _ _ _ _ _ _ _ _ _ _ _ _ _ _ _ _ _ _ _ _ _ _ _ _ _ _ _ _ _ _ _ _ _ _ _ _ _ _ _ _ _ _ _ _ _ _ _ _ _ _ _ _ _ _ _ _ _ _ _ _ _ _ _ _ _ _ _ _ _ _ _ _ _ _ _ _ _ _ _ _ _ _ _ _ _ _ _ _ _ _ _ _ _ _ _ w w11 k b L L' lw li last last' e0 o.kind o.id (i + 1) i va vi vc vj HS11.out HOKC.out HOKL.out HJW11.out HLW.out HJI11.out HLI.out ?_
        intro y119 y120 y121 y122 y123 y124 y125 y126 y127 y128 y129 y130 y131 y132 y133 y134 y135 y136 y137 y138 y139 y140 y141 y142 w12 hb12
        have HS12 := Lib.hid (HS11.out.below hb12)
        have HO12 := Lib.hid ((hb12.block _ (lt_of_block HO11.out)).trans HO11.out)
        have HF12 := Lib.hid ((hb12.block _ (lt_of_block HF11.out)).trans HF11.out)
        have HG12 := Lib.hid ((hb12.block _ (lt_of_block HG11.out)).trans HG11.out)
        have HJI12 := Lib.hid (HJI11.out.below hb12)
        clear hb12 HS11 HO11 HF11 HG11 HJI11 HJW11
        go_upto_region 33 with fail
        refine seen_wp _ _ _ _ _ _ _ _ _ _ _ _ _ _ _ _ _ _ _ _ _ _ _ _ _ _ _ _ _ _ _ _ _ _ _ _ _ _ _ _ _ _ _ _ _ _ _ _ _ _ _ _ _ _ _ _ _ _ _ _ _ _ _ _ _ _ _ _ _ _ _ _ _ _ _ _ _ _ _ _ _ _ _ _ _ _ _ _ _ _ _ _ _ _ _ _ _ _ _ _ _ _ _ _ _ _ _ _ _ _ _ _ _ _ _ _ _ _ _ _ _ _ _ _ _ _ _ _ _ _ _ _ _ _ _ _ _ _ _ _ _ _ _ _ _ _ _ _ _ _ _ _ _ _ _ _ _ _ _ _ _ _ _ _ _ _ _ _ _ _ _ _ _ _ _ _ _ _ _ _ _ _ _ _ _ _ _ _ _ _ _ _ _ _ _ _ _ _ _ _ _ _ _ _ _ _ _ _ _ _ _ _ _ _ _ _ _ _ _ _ _ _ _ _ _ _ _ _ _ _ _ _ _ _ _ _ _ _ _ _ _ _ _ _ _ _ _ _ _ _ _ _ _ _ _ w12 O F G o old now had has L L' last last' e0 i HO12.out HF12.out HG12.out HHAD.out HHAS.out HOLD.out HNOW.out HVER.out HOKC.out ?_
        intro y144 y145 y146 y147 y148 y149 y150 y151 y152 y153 y154 y155 y156 y157 y158 y159 y160 y161 y162 y163 y164 y165 y166 y167 y168 y169 y170 y171 y172 y173 y174 y175 y176 y177 y178 y179 y180 y181 y182 y183 y184 y185 y186 y187 y188 y189 y190 y191
        go_upto_block 3 with fail
        refine rise_wp _ _ _ _ _ _ _ _ _ _ _ _ _ _ _ _ _ _ _ _ _ _ _ _ _ _ _ _ _ _ _ _ _ _ _ _ _ _ _ _ _ _ _ _ _ _ _ _ _ _ _ _ _ _ _ _ _ _ _ _ _ _ _ _ _ _ _ _ _ _ _ _ _ _ _ _ _ _ _ _ _ _ _ _ _ _ _ _ _ _ _ _ _ _ _ _ _ _ _ _ _ _ _ _ _ _ _ _ _ _ _ _ _ _ _ _ _ _ _ _ _ _ _ _ _ _ _ _ _ _ _ _ _ _ _ _ _ _ _ _ _ _ _ _ _ _ _ _ _ _ _ _ _ _ _ _ _ _ _ _ _ _ _ _ _ _ _ _ _ _ _ _ _ _ _ _ _ _ _ _ _ _ _ _ _ _ _ _ _ _ _ _ _ _ _ _ _ _ _ _ _ _ _ _ _ _ _ _ _ _ _ _ _ _ _ _ _ _ _ _ _ _ _ _ _ _ _ _ _ _ _ _ _ _ _ _ _ _ _ _ _ _ _ _ _ _ _ _ _ _ _ _ _ _ _ _ _ _ w w12 k b L' li last' (i + 1) vi vj HS12.out HJI12.out HLI.out ?_
        intro y2 y16 y17 y193 y194 y195 y196 y197 y198 y199 y200 y201 y202 y203 y204 y205 y206 y207 y208 y209 y210 y211 y212 y213 y214 y215 y216 y217 y218 y219 y220 y221 y222 y223 y224 y225 y226 y227 y228 y229 y230 y231 y232 y233 y234 y235 y236 w13 hdr
        have HS13 := Lib.hid (HS12.out.below hdr.bel)
        have HJI13 := Lib.hid (HJI12.out.below hdr.bel)
        clear hdr HS12 HJI12 HO12 HF12 HG12
        go_wp2_with fail
        refine (last_any HS13.out.tab).mono ?_
        rintro e w14 ⟨rfl, rfl⟩
        go_wp2_with fail
        refine (of_yes HJI13.out HLI.out HS13.out.ok (by omega) (HK.out.next HS13.out.bel)).mono ?_
        rintro e w15 ⟨k2, b2, T, rfl, ht, hT, hb15⟩
        have HS15 := Lib.hid (HS13.out.below hb15)
        have HJI15 := Lib.hid (HJI13.out.below hb15)
        have HT := Lib.hid ht
        have HTB := Lib.hid hT
        clear ht hT hb15 HS13 HJI13
        go_upto_region 46 with fail
        refine again_wp _ _ _ _ _ _ _ _ _ _ _ _ _ _ _ _ _ _ _ _ _ _ _ _ _ _ _ _ _ _ _ _ _ _ _ _ _ _ _ _ _ _ _ _ _ _ _ _ _ _ _ _ _ _ _ _ _ _ _ _ _ _ _ _ _ _ _ _ _ _ _ _ _ _ _ _ _ _ _ _ _ _ _ _ _ _ _ _ _ _ _ _ _ _ _ _ _ _ _ _ _ _ _ _ _ _ _ _ _ _ _ _ _ _ _ _ _ _ _ _ _ _ _ _ _ _ _ _ _ _ _ _ _ _ _ _ _ _ _ _ _ _ _ _ _ _ _ _ _ _ _ _ _ _ _ _ _ _ _ _ _ _ _ _ _ _ _ _ _ _ _ _ _ _ _ _ _ _ _ _ _ _ _ _ _ _ _ _ _ _ _ _ _ _ _ _ _ _ _ _ _ _ _ _ _ _ _ _ _ _ _ _ _ _ _ _ _ _ _ _ _ _ _ _ _ _ _ _ _ _ _ _ _ _ _ _ _ _ _ _ _ _ _ _ _ _ _ _ _ _ _ _ _ _ _ _ _ w w15 k b k2 b2 L' T li last' (i + 1) vi vj HS15.out HT.out HTB.out HJI15.out HLI.out ?_
        intro y244 y245 y246 y247 y248 y249 y250 y251 y252 y253 y254 y255 y256 y257 y258 w16 hb16
        have HS16 := Lib.hid (HS15.out.below hb16)
        clear hb16
        go_wp2_with fail
        go_roundw
        case rel => exact ⟨i + 1, L', last', by go_num, hlt, HS16.out⟩
        case measure => simp [intOf]; omega
    · have hi2 : i = l.length := by omega
      have hd : decide ((i : Int) < (l.length : Int)) = false := by simp; omega
      have HB := Lib.hid hst.bel
      clear hst
      go_wp2
      go_ret
      exact ⟨rfl, HB.out⟩
end Go.Proofs.YtpbnjibomdilhaaGreatDoor.Job
