/- Of, by its contract, where a table's own row is told. -/
import Derived.Test.YtpbnjibomdilhaaGreatDoorMaw
namespace Go.Proofs.YtpbnjibomdilhaaGreatDoor.Job
open Go.RowKit Go.Maps

theorem bare_eq {j m : J} (h : j.bare = m.bare) : m = j.at m.da m.dc := by
  obtain ⟨a1, a2, a3, a4, a5, a6, a7, a8, a9, a10, a11, a12, a13, a14⟩ := j
  obtain ⟨b1, b2, b3, b4, b5, b6, b7, b8, b9, b10, b11, b12, b13, b14⟩ := m
  simp only [J.bare, J.mk.injEq] at h
  simp only [J.at, J.mk.injEq]
  obtain ⟨h1, h2, h3, h4, h5, h6, h7, h8, -, -, h9, h10, h11, h12⟩ := h
  exact ⟨h1.symm, h2.symm, h3.symm, h4.symm, h5.symm, h6.symm, h7.symm, h8.symm, trivial, trivial, h9.symm, h10.symm, h11.symm, h12.symm⟩
theorem bares_at {l L : List J} (h : l.map J.bare = L.map J.bare) {i : Nat} (hi : i < l.length) (hI : i < L.length) : l[i].bare = L[i].bare := by
  have := congrArg (·[i]?) h
  simpa [hi, hI] using this
theorem rowJ_bare {l L : List J} (h : l.map J.bare = L.map J.bare) : rowJ l = rowJ L := by
  have := congrArg (List.map J.node) h
  rw [List.map_map, List.map_map] at this
  exact this
theorem names_bare {l L : List J} (h : l.map J.bare = L.map J.bare) : l.map (·.name) = L.map (·.name) := by
  have := congrArg (List.map (·.name)) h
  rw [List.map_map, List.map_map] at this
  exact this
theorem ids_bare {l L : List J} (h : l.map J.bare = L.map J.bare) : l.map (·.id) = L.map (·.id) := by
  have := congrArg (List.map (·.id)) h
  rw [List.map_map, List.map_map] at this
  exact this

/-- the next one is not refused -/
theorem of_next {L T : List J} {last : Int} {n i : Nat} (ho : Ok L last n) (hi : i < L.length) (hT : T.map J.bare = (L.take i).map J.bare) {j : J} (hj : j.bare = L[i].bare) : refJ T j = 0 ∧ ∀ m ∈ T, m.id < j.id := by
  have e := bare_eq hj
  have hid : j.id = L[i].id := by rw [e]; rfl
  have hnm : j.name = L[i].name := by rw [e]; rfl
  have her : j.err = 0 := by
    have h1 := J.may_iff.2 (ho.may L[i] (List.getElem_mem hi))
    rw [e] at h1
    exact h1
  have hsplit : L = L.take i ++ L[i] :: L.drop (i + 1) := by rw [← List.drop_eq_getElem_cons hi, List.take_append_drop]
  have hnames := ho.names
  have hrise := ho.rise
  rw [hsplit, List.pairwise_append] at hnames
  rw [hsplit, List.map_append, List.map_cons, List.pairwise_append] at hrise
  constructor
  · unfold refJ
    rw [if_neg (by simp [her]), if_neg]
    intro hd
    unfold dupJ at hd
    rw [List.any_eq_true] at hd
    obtain ⟨m, hm, h1⟩ := hd
    have hmn : m.name ∈ (L.take i).map (·.name) := by rw [← names_bare hT]; exact List.mem_map.2 ⟨m, hm, rfl⟩
    obtain ⟨m', hm', e1⟩ := List.mem_map.1 hmn
    have := hnames.2.2 m' hm' L[i] (List.mem_cons_self ..)
    have h2 : m.name = j.name := by simp at h1; exact h1.1
    exact this (by rw [e1, h2, hnm])
  · intro m hm
    have hmi : m.id ∈ (L.take i).map (·.id) := by rw [← ids_bare hT]; exact List.mem_map.2 ⟨m, hm, rfl⟩
    rw [hid]
    exact hrise.2.2 m.id hmi L[i].id (List.mem_cons_self ..)

set_option maxRecDepth 100000 in
set_option maxHeartbeats 4000000 in
theorem of_yes {w : World} {a : Option Addr} {c : Nat} {l L : List J} {last : Int} {n : Nat} (hl : JobsF w a l) (hb : l.map J.bare = L.map J.bare) (ho : Ok L last n) (hn : n ≤ 1000) (hk : Kit w) :
    Calls Tryz.prog 18 #[.slice a l.length c, .int .u64 last] w fun e w' => ∃ k b T, e = .returned (.tuple #[.pointer (some ⟨k, 0, none⟩), .int .i64 0]) ∧ TabAt w' k b T last ∧ T.map J.bare = L.map J.bare ∧ Below w.heap.size w w' := by
  have hlen : l.length = L.length := by have := congrArg List.length hb; simpa using this
  have hll := ho.len
  have hu64 : U64 last := ⟨ho.last0, by have := ho.lastn; omega⟩
  have HLJ := Lib.hid hl
  have HBR := Lib.hid hb
  have HOK := Lib.hid ho
  have HK := Lib.hid hk
  have HLEN := Lib.hid hlen
  have HLL := Lib.hid hll
  have HU := Lib.hid hu64
  clear hl hb ho hk hlen hll hu64
  go_enter Tryz.func18, Tryz.ntmps18
  go_wp2_with fail
  refine (new_any w).mono ?_
  rintro e w1 ⟨rfl, ht1, hb1⟩
  obtain ⟨k, hk⟩ : ∃ k, k = w.heap.size + 1 := ⟨_, rfl⟩
  obtain ⟨b, hb⟩ : ∃ b, b = w.heap.size := ⟨_, rfl⟩
  rw [← hk, ← hb] at ht1
  rw [← hk]
  obtain ⟨-, c1⟩ := ht1.cells
  have hfk : w1.frozen? ⟨k, 1, none⟩ = false := by simp [World.frozen?, ht1.blk]
  have ht2 := ht1.setLast HU.out
  obtain ⟨w2, hw2⟩ : ∃ W, W = w1.setCell ⟨k, 1, none⟩ (.int .u64 last) := ⟨_, rfl⟩
  rw [← hw2] at ht2
  have hb2 : Below w.heap.size w w2 := hb1.trans ⟨by rw [hw2]; rfl, by rw [hw2]; rfl, by rw [hw2]; rfl, by rw [hw2]; simp [World.setCell], fun i hi => by rw [hw2]; exact Below.heap_setCell w1 ⟨k, 1, none⟩ _ i (show i ≠ k by omega)⟩
  have HKB := Lib.hid (show w.heap.size ≤ k ∧ w.heap.size ≤ b by omega)
  have HT2 := Lib.hid ht2
  have HB2 := Lib.hid hb2
  have HW2 := Lib.hid hw2
  clear hk hb ht1 ht2 hb1 hb2 hw2
  go_wp2_with fail
  rw [← HW2.out]
  clear c1 hfk HW2
  go_loopw [7, 19] (fun v7 v19 wr => ∃ (i : Nat) (ah : Int) (T : List J), v7 = .int .u64 ah ∧ v19 = .int .i64 (i : Int) ∧ i ≤ L.length ∧ (∀ m ∈ L.drop i, ah < m.id) ∧ TabAt wr k b T last ∧ T.map J.bare = (L.take i).map J.bare ∧ Below w.heap.size w wr)
    (fun _ v19 _ => L.length - (intOf v19).toNat)
  case atStart => exact ⟨0, 0, [], rfl, rfl, Nat.zero_le _, (fun m hm => by have := (HOK.out.ids m (by simpa using hm)).1; omega), HT2.out, rfl, HB2.out⟩
  case round =>
    obtain ⟨i, ah, T, rfl, rfl, hi, hah, htr, hbare, hbel⟩ := hrel
    by_cases hlt : i < L.length
    · obtain ⟨⟨g, q, h1, h2⟩, hea⟩ := HLJ.out
      have hltl : i < l.length := by rw [HLEN.out]; exact hlt
      have ea := h1 (by intro e; rw [e] at hltl; simp at hltl)
      cases ea
      obtain ⟨hg, hc⟩ := h2 i hltl
      have hjb := bares_at HBR.out hltl hlt
      have hjf := hea l[i] (List.getElem_mem hltl)
      have hmem : L[i] ∈ L.drop i := by rw [List.drop_eq_getElem_cons hlt]; exact List.mem_cons_self ..
      have hahi := hah _ hmem
      have hidl := (HOK.out.ids L[i] (List.getElem_mem hlt)).2
      have htk : (L.take (i + 1)).map J.bare = (L.take i).map J.bare ++ [L[i].bare] := by rw [List.take_succ_eq_append_getElem hlt, List.map_append]; rfl
      have hnext : ∀ m ∈ L.drop (i + 1), L[i].id < m.id := fun m hm => by
        have hr := HOK.out.rise
        rw [← List.take_append_drop i L, List.drop_eq_getElem_cons hlt, List.map_append, List.map_cons, List.pairwise_append, List.pairwise_cons] at hr
        exact hr.2.1.1 m.id (List.mem_map.2 ⟨m, hm, rfl⟩)
      have hmayd := HOK.out.deps (m := 12) (by omega) L[i] (List.getElem_mem hlt)
      have hof := of_next HOK.out hlt hbare hjb
      have hidx : l[i].id = L[i].id := show l[i].bare.id = L[i].bare.id from congrArg J.id hjb
      have hdx : l[i].deps = L[i].deps := show l[i].bare.deps = L[i].bare.deps from congrArg J.deps hjb
      rw [← hidx] at hahi hidl hnext
      rw [← hdx] at hmayd
      rw [← hjb] at htk
      obtain ⟨x, hx⟩ : ∃ x, l[i] = x := ⟨_, rfl⟩
      rw [hx] at hc hjf hahi hidl htk hnext hmayd hof
      have hTlen : T.length = i := by have := congrArg List.length hbare; simp at this; omega
      obtain ⟨⟨c0, c1, c2, c3, c4, c5⟩, c6, c7, c8, c9, c10, c11⟩ := JobsF.cells (w := wr) fun c h12 => (hbel.cell (p := ⟨g, q + (i * 12 + c), none⟩) hg).trans (hc c h12)
      have hd : decide ((i : Int) < (l.length : Int)) = true := by simp; omega
      have hle : decide (x.id ≤ ah) = false := by simp; omega
      have hgt : decide (last < x.id) = false := by simp; omega
      obtain ⟨wa, hwa⟩ : ∃ W, W = wr.alloc (.cells x.cs 29) := ⟨_, rfl⟩
      have hba : Below wr.heap.size wr wa := by rw [hwa]; exact (Below.refl _ _).alloc (Nat.le_refl _) _
      have hxa : wa.heap[wr.heap.size]? = some (jobj x) := by rw [hwa]; exact heap_alloc_new wr _
      have hbwa : Below w.heap.size w wa := hbel.trans (hba.mono hbel.size)
      have hta := htr.below hba
      have HREF := Lib.hid (refuses_any hta (HK.out.next hbwa) x)
      rw [hof.1] at HREF
      have HWA := Lib.hid hwa
      have HXA := Lib.hid hxa
      have HTA := Lib.hid hta
      have HBWA := Lib.hid hbwa
      have HJF := Lib.hid (hjf.below hbwa)
      have HLT := Lib.hid hof.2
      have HTK := Lib.hid htk
      have HNX := Lib.hid hnext
      have HDX := Lib.hid hmayd
      have HTL := Lib.hid hTlen
      have HBB := Lib.hid hbare
      have hb0 : (0 : Int) ≤ i := by omega
      have hb1 : (i : Int) ≤ 32 := by have := HLL.out; omega
      have hr : wr.heap.size < wa.heap.size := lt_of_block hxa
      have HR := Lib.hid (show w.heap.size ≤ wr.heap.size from hbel.size)
      have HNKB := Lib.hid (show wr.heap.size ≠ k ∧ wr.heap.size ≠ b from ⟨Nat.ne_of_gt htr.ltk, Nat.ne_of_gt htr.ltb⟩)
      unfold J.val J.cells jcells at HREF
      clear h1 h2 hc hjb hjf hmem hahi hidl htk hnext hmayd hof hidx hdx hx hTlen hwa hba hxa hbwa hta hah htr hbare hbel hg hea hi hr
      go_wp2_with fail
      rw [← HWA.out]
      refine HREF.out.mono ?_
      rintro e w3 ⟨rfl, hb3⟩
      have HT3 := Lib.hid (HTA.out.below hb3)
      have HX3 := Lib.hid ((hb3.block _ (lt_of_block HXA.out)).trans HXA.out)
      have HB3 := Lib.hid (HBWA.out.trans (hb3.mono HBWA.out.size))
      have HJ3 := Lib.hid (HJF.out.below hb3)
      clear hb3 HREF c0 c1 c2 c3 c4 c5 c6 c7 c8 c9 c10 c11
      go_wp2_with fail
      refine (isFull_any HT3.out).mono ?_
      rintro e w4 ⟨rfl, rfl⟩
      rw [show decide (32 ≤ T.length) = false by rw [HTL.out]; have := HLL.out; simp; omega]
      obtain ⟨⟨c0, c1, c2, c3, c4, c5⟩, c6, c7, c8, c9, c10, c11⟩ := jobj_cells HX3.out
      have HPUT := Lib.hid (put_any HT3.out HJ3.out (by have := HDX.out; omega) (.inr HLT.out) (by rw [HTL.out]; omega))
      unfold J.val J.cells jcells at HPUT
      go_wp2_with fail
      refine HPUT.out.mono ?_
      rintro e w5 ⟨rfl, ⟨da, dc, ht5⟩, hf5⟩
      rw [putJ_new (fun m hm => by have := HLT.out m hm; show m.id ≠ x.id; omega)] at ht5
      have hx5 := (hf5.block _ (lt_of_block HX3.out) HNKB.out.1 HNKB.out.2).trans HX3.out
      have e0 := (jobj_cells hx5).1.1
      have HT5 := Lib.hid ht5
      have HB5 := Lib.hid (HB3.out.trans (hf5.below HKB.out.1 HKB.out.2 HB3.out.size))
      clear ht5 hf5 hx5 HPUT c0 c1 c2 c3 c4 c5 c6 c7 c8 c9 c10 c11 hle hgt
      go_wp2_with fail
      go_roundw
      case rel => exact ⟨i + 1, x.id, _, rfl, by go_num, hlt, HNX.out, HT5.out, by rw [List.map_append, HBB.out, HTK.out]; rfl, HB5.out⟩
      case measure => simp [intOf]; omega
    · have hiL : i = L.length := by omega
      have hnl : ¬ i < l.length := by rw [HLEN.out]; exact hlt
      have hd : decide ((i : Int) < (l.length : Int)) = false := by simp; omega
      rw [hiL, List.take_length] at hbare
      have hTok : ∀ j ∈ T, j.deps.length ≤ 1000000 := fun j hj => by
        have hm : (j.id, j.deps) ∈ rowJ L := by rw [← rowJ_bare hbare]; exact rowJ_mem.2 ⟨j, hj, rfl⟩
        obtain ⟨m, hm1, e⟩ := rowJ_mem.1 hm
        have e2 : m.deps = j.deps := congrArg Prod.snd e
        rw [← e2]
        exact HOK.out.deps (by omega) m hm1
      have hTl : T.length = L.length := by have := congrArg List.length hbare; simpa using this
      have HNO := Lib.hid (nodes_any htr hTok (by have := HLL.out; omega))
      have HT := Lib.hid htr
      have HBB := Lib.hid hbare
      have HBE := Lib.hid hbel
      clear htr hbare hbel hTok hTl hah hiL hi
      go_wp2_with fail
      refine HNO.out.mono ?_
      rintro e w3 ⟨v, lo, B, rfl, hrow, hB, hof, hnf, hb3⟩
      obtain ⟨va, vc, rfl, -⟩ := ownRow_shape hrow.own
      have hof2 : Gph.rowOf lo = rowJ L := hof.trans (rowJ_bare HBB.out)
      have hlen : lo.length = L.length := by have := congrArg List.length hof2; simpa [Gph.rowOf, rowJ] using this
      have hmay := Gph.may_any (c := vc) (hrow.read fun x hx => (hnf x hx).1).1 (by rw [hlen]; have := HLL.out; omega) (fun x hx => by
        have hm : (x.id, x.deps) ∈ rowJ L := by rw [← hof2]; exact List.mem_map.2 ⟨x, hx, rfl⟩
        obtain ⟨m, hm1, e⟩ := rowJ_mem.1 hm
        have e2 : m.deps = x.deps := congrArg Prod.snd e
        rw [← e2]
        exact HOK.out.deps (by omega) m hm1)
      rw [hof2, HOK.out.row] at hmay
      have HMAY := Lib.hid hmay
      have HT3 := Lib.hid (HT.out.below hb3)
      have HB3 := Lib.hid (HBE.out.trans (hb3.mono HBE.out.size))
      clear hrow hB hof hnf hb3 hof2 hlen hmay HNO
      go_wp2_with fail
      refine HMAY.out.mono ?_
      rintro e w4 ⟨rfl, hb4⟩
      have HT4 := Lib.hid (HT3.out.below hb4)
      have HB4 := Lib.hid (HB3.out.trans (hb4.mono HB3.out.size))
      clear hb4 HMAY
      go_wp2
      go_ret2
      exact ⟨k, b, T, rfl, HT4.out, HBB.out, HB4.out⟩
end Go.Proofs.YtpbnjibomdilhaaGreatDoor.Job
