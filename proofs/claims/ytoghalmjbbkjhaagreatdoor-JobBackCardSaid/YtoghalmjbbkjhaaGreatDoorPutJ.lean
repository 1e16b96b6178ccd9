/- job.Put, by its contract: the bytes of a job that may be. -/
import Derived.Test.YtoghalmjbbkjhaaGreatDoorMayJ
import Derived.Test.YtoghalmjbbkjhaaGreatDoorPutC
import Derived.Test.YtoghalmjbbkjhaaGreatDoorPPutInt
namespace Go.Proofs.YtoghalmjbbkjhaaGreatDoor.Job
open Go.RowKit

/-- a job as it is read: its numbers' bounds, its Deps -/
structure JF (w : World) (j : J) : Prop where
  id : U64 j.id
  ver : U64 j.ver
  fit : ∀ x ∈ j.deps, U64 x
  vals : Vals w j.da (j.deps.map uv)
  none_ : j.da = none → j.deps.length = 0 ∧ j.dc = 0
  cap : j.deps.length ≤ j.dc
  big : j.dc ≤ maxLen
theorem JF.below {w w' : World} {j : J} (h : JF w j) (hb : Below w.heap.size w w') : JF w' j := ⟨h.id, h.ver, h.fit, h.vals.below hb, h.none_, h.cap, h.big⟩

set_option maxRecDepth 100000 in
theorem paused_any (j : J) (w : World) : Calls Tryz.prog 27 #[j.val] w fun e w' => e = .returned (.int .u64 (if j.pau then 1 else 0)) ∧ Below w.heap.size w w' := by
  unfold J.val J.cells jcells
  generalize j.pau = p
  cases p
  · go_enter Tryz.func27, Tryz.ntmps27
    go_wp2
    go_ret
    exact ⟨rfl, (Below.refl _ _).alloc (Nat.le_refl _) _⟩
  · go_enter Tryz.func27, Tryz.ntmps27
    go_wp2
    go_ret
    exact ⟨rfl, (Below.refl _ _).alloc (Nat.le_refl _) _⟩

/-- a closure's call with numbers that are written down -/
theorem lit_step {W : World} {p : Nat} {zs : List Int} {v : Value} (h : Pn W p zs v) (hz : zs.length ≤ 50000) (ns : List Int) (cs : Array Value) (hcs : cs = (ns.map uv).toArray) (hns : ∀ x ∈ ns, U64 x) (hl : ns.length ≤ 1000) (n : Nat) (hn : n = ns.length) (g : Nat) (hg : g = W.heap.size) :
    Calls Tryz.prog 23 #[.slice (some ⟨g, 0, none⟩) n n, .pointer (some ⟨p, 0, none⟩)] (W.alloc (.cells cs 22)) fun e w' => e = .returned (.tuple #[]) ∧ ∃ v', Pn w' p (zs ++ putAll ns) v' ∧ Below p W w' := by
  subst hn hg
  have hb : Below W.heap.size W (W.alloc (.cells cs 22)) := (Below.refl _ _).alloc (Nat.le_refl _) _
  refine (putN_any p zs v ns (some ⟨W.heap.size, 0, none⟩) ns.length hns hl hz _ (h.below hb) (vals_row _ (heap_alloc_new W _) fun i hi => by subst hcs; simp at hi ⊢; simp [hi]) ?_).mono ?_
  · intro x hx
    cases hx
    refine ⟨by have := h.lt; show W.heap.size ≠ p; omega, fun e => ?_⟩
    have h9 := (h.row.lt _ e).2
    exact absurd h9 (Nat.lt_irrefl _)
  · rintro e w' ⟨he, v', h1, h2⟩
    exact ⟨he, v', h1, (hb.mono (Nat.le_of_lt h.lt)).trans h2⟩
set_option maxRecDepth 100000 in
theorem empty_any (p : Nat) (zs : List Int) (v : Value) (a : Option Addr) (c : Nat) (_ : zs.length ≤ 50000) (w : World) (h : Pn w p zs v) :
    Calls Tryz.prog 23 #[.slice a 0 c, .pointer (some ⟨p, 0, none⟩)] w fun e w' => e = .returned (.tuple #[]) ∧ ∃ v', Pn w' p (zs ++ putAll []) v' ∧ Below p w w' := by
  have H := Lib.hid h
  clear h
  go_enter Tryz.func23, Tryz.ntmps23
  go_wp2
  go_loopw [7] (fun s wr => s = .int .i64 0 ∧ wr = w) (fun _ _ => 0)
  case atStart => exact ⟨rfl, rfl⟩
  case round =>
    obtain ⟨rfl, rfl⟩ := hrel
    go_wp2
    go_end0
    exact ⟨rfl, v, by simpa [putAll] using H.out, Below.refl _ _⟩

/-- the other call's -/
theorem slice_step {W : World} {p : Nat} {zs : List Int} {v : Value} (h : Pn W p zs v) (hz : zs.length ≤ 50000) (j : J) (hj : JF W j) (hd : j.deps.length ≤ 8) (ha : ∀ x, j.da = some x → 0 < j.deps.length → x.block < p) :
    Calls Tryz.prog 23 #[.slice j.da j.deps.length j.dc, .pointer (some ⟨p, 0, none⟩)] W fun e w' => e = .returned (.tuple #[]) ∧ ∃ v', Pn w' p (zs ++ putAll j.deps) v' ∧ Below p W w' := by
  rcases Nat.eq_zero_or_pos j.deps.length with h0 | h0
  · -- nothing is read
    have hnil : j.deps = [] := List.eq_nil_of_length_eq_zero h0
    rw [hnil]
    have := putN_any p zs v [] none j.dc (fun x hx => by cases hx) (by simp) hz W h (Vals.nil _ _) (fun x hx => by cases hx)
    cases hda : j.da with
    | none => exact this
    | some x => exact empty_any p zs v (some x) j.dc hz W h
  · refine putN_any p zs v j.deps j.da j.dc hj.fit (by omega) hz W h hj.vals fun x hx => ?_
    have hb := ha x hx h0
    refine ⟨by omega, fun e => ?_⟩
    have := (h.row.lt _ e).1
    omega

set_option maxRecDepth 100000 in
set_option maxHeartbeats 3000000 in
theorem putJ_yes (j : J) (hm : j.May) (w : World) (hj : JF w j) (hw : TabsOn w) (hn : NamesOn w) :
    Calls Tryz.prog 11 #[j.val] w fun e w' => ∃ v, e = .returned (.tuple #[v, .int .i64 0]) ∧ Pk.Row w' w.heap.size j.bytes v ∧ Below w.heap.size w w' := by
  have HMAY := Lib.hid (fun W hW => mayJ_any j W (hw.next hW) (hn.next hW))
  rw [J.may_iff.2 hm] at HMAY
  have HPAU := Lib.hid (paused_any j)
  have hpol := hm.pol; have hgra := hm.gra; have hlim := hm.lim; have hret := hm.ret; have htim := hm.tim; have hseen := hm.seen
  have HSEEN := Lib.hid (fun W => Pk.putInt_any j.seen (by omega) (by omega) W)
  have HN := Lib.hid hm.name
  have HE : Hid (j.expr.size ≤ 400) := Lib.hid (by
    have h1 := hm.expr
    have h2 : j.expr.data.toList.length = j.expr.size := (Lib.size_eq j.expr).symm
    by_cases h : 400 < j.expr.data.toList.length
    · rw [(Cron.p_long h).1] at h1; cases h1
    · omega)
  have hd8 := hm.deps
  have HU1 := Lib.hid hj.id
  have HU2 := Lib.hid hj.ver
  have HB0 := Lib.hid (box_new w j)
  have HJ := Lib.hid hj
  have HDA : Hid (∀ x, j.da = some x → 0 < j.deps.length → x.block < w.heap.size) := Lib.hid (fun x hx h0 => by
    obtain ⟨g, q, h1, h2⟩ := hj.vals
    have e := (h1 (fun e => by have := congrArg List.length e; simp at this; rw [this] at h0; simp at h0)).symm.trans hx
    cases e
    exact (h2 0 (by simpa using h0)).1)
  have HBY : Hid (j.bytes = j.bytes) := Lib.hid rfl
  unfold J.val J.cells jcells at *
  clear hm hj hw hn
  go_enter Tryz.func11, Tryz.ntmps11
  go_wp2_with fail
  refine (HMAY.out _ ((Below.refl _ _).alloc (Nat.le_refl _) _)).mono ?_
  rintro e w1 ⟨rfl, hb1⟩
  have hs1 := hb1.size
  have hbel1 : Below w.heap.size w w1 := ((Below.refl _ _).alloc (Nat.le_refl _) _).trans (hb1.mono (by simp))
  have hrow1 : w1.heap[w.heap.size]? = some (jobj j) := (hb1.block _ (by simp)).trans HB0.out
  have hbp : w.heap.size < w1.heap.size := by simp at hs1; omega
  obtain ⟨p, hp⟩ : ∃ p, p = w1.heap.size := ⟨_, rfl⟩
  have hpn0 : Pn (w1.alloc (.cells #[.slice none 0 0] 32)) p [] (.slice none 0 0) := ⟨by rw [hp]; exact heap_alloc_new _ _, World.ownsRow_nil _ _ _ _⟩
  have hrow2 : (w1.alloc (.cells #[.slice none 0 0] 32)).heap[w.heap.size]? = some (jobj j) := (((Below.refl w1.heap.size w1).alloc (Nat.le_refl _) _).block _ hbp).trans hrow1
  have hbel2 := hbel1.alloc hbel1.size (.cells #[.slice none 0 0] 32)
  rw [← hp] at hbp
  obtain ⟨⟨c0, c1, c2, c3, c4, c5⟩, c6, c7, c8, c9, c10, c11⟩ := jobj_cells hrow2
  clear hb1 hs1 hbel1 hrow1 HB0
  go_wp2_with fail
  rw [← hp]
  generalize hw2 : w1.alloc (.cells #[.slice none 0 0] 32) = w2 at *
  have HP2 := Lib.hid hpn0
  have HB2 := Lib.hid hbel2
  have HROW2 := Lib.hid hrow2
  have HBP2 := Lib.hid (Below.refl p w2)
  have HSZ2 : Hid (p + 1 = w2.heap.size) := Lib.hid (by rw [← hw2, hp]; simp)
  clear hw2
  clear hp hpn0 hrow2 hbel2
  clear c0 c1 c2 c3 c4 c5 c6 c7 c8 c9 c10 c11
  refine (lit_step HP2.out (by simp) [j.id] #[.int .u64 j.id] rfl (fun x hx => by simp at hx; subst hx; exact HU1.out) (by simp) 1 rfl (p + 1) HSZ2.out).mono ?_
  rintro e w3 ⟨rfl, v3, hp3, hb3⟩
  have HP3 := Lib.hid hp3
  have HB3 := Lib.hid (HB2.out.trans (hb3.mono (Nat.le_of_lt hbp)))
  have hrow3 : w3.heap[w.heap.size]? = some (jobj j) := (hb3.block _ hbp).trans HROW2.out
  have HROW3 := Lib.hid hrow3
  have HBP3 := Lib.hid (HBP2.out.trans hb3)
  obtain ⟨⟨c0, c1, c2, c3, c4, c5⟩, c6, c7, c8, c9, c10, c11⟩ := jobj_cells hrow3
  clear hp3 hb3 hrow3
  go_wp2_with fail
  clear c0 c1 c2 c3 c4 c5 c6 c7 c8 c9 c10 c11
  refine (putT_any p _ _ j.name (by have := HN.out; omega) (by have := putAll_len [j.id]; simp at this ⊢; omega) _ HP3.out).mono ?_
  rintro e w4 ⟨rfl, v4, hp4, hb4⟩
  have HP4 := Lib.hid hp4
  have HB4 := Lib.hid (HB3.out.trans (hb4.mono (Nat.le_of_lt hbp)))
  have hrow4 : w4.heap[w.heap.size]? = some (jobj j) := (hb4.block _ hbp).trans HROW3.out
  have HROW4 := Lib.hid hrow4
  have HBP4 := Lib.hid (HBP3.out.trans hb4)
  obtain ⟨⟨c0, c1, c2, c3, c4, c5⟩, c6, c7, c8, c9, c10, c11⟩ := jobj_cells hrow4
  clear hp4 hb4 hrow4
  go_wp2_with fail
  clear c0 c1 c2 c3 c4 c5 c6 c7 c8 c9 c10 c11
  refine (putT_any p _ _ j.expr (by have := HE.out; omega) (by have h1 := putAll_len [j.id]; have h2 := txt_len j.name; have h3 := HN.out; simp at h1 ⊢; omega) _ HP4.out).mono ?_
  rintro e w5 ⟨rfl, v5, hp5, hb5⟩
  have HP5 := Lib.hid hp5
  have HB5 := Lib.hid (HB4.out.trans (hb5.mono (Nat.le_of_lt hbp)))
  have hrow5 : w5.heap[w.heap.size]? = some (jobj j) := (hb5.block _ hbp).trans HROW4.out
  have HROW5 := Lib.hid hrow5
  have HBP5 := Lib.hid (HBP4.out.trans hb5)
  obtain ⟨⟨c0, c1, c2, c3, c4, c5⟩, c6, c7, c8, c9, c10, c11⟩ := jobj_cells hrow5
  clear hp5 hb5 hrow5
  go_wp2_with fail
  clear c0 c1 c2 c3 c4 c5 c6 c7 c8 c9 c10 c11
  refine (lit_step HP5.out (by have h1 := putAll_len [j.id]; have h2 := txt_len j.name; have h3 := HN.out; have h4 := txt_len j.expr; have h5 := HE.out; simp at h1 ⊢; omega) [j.pol, j.gra, j.lim, j.ret, j.tim] #[.int .u64 j.pol, .int .u64 j.gra, .int .u64 j.lim, .int .u64 j.ret, .int .u64 j.tim] rfl (fun x hx => by simp at hx; unfold U64; rcases hx with rfl | rfl | rfl | rfl | rfl <;> omega) (by simp) 5 rfl _ rfl).mono ?_
  rintro e w6 ⟨rfl, v6, hp6, hb6⟩
  have HP6 := Lib.hid hp6
  have HB6 := Lib.hid (HB5.out.trans (hb6.mono (Nat.le_of_lt hbp)))
  have hrow6 : w6.heap[w.heap.size]? = some (jobj j) := (hb6.block _ hbp).trans HROW5.out
  have HROW6 := Lib.hid hrow6
  have HBP6 := Lib.hid (HBP5.out.trans hb6)
  obtain ⟨⟨c0, c1, c2, c3, c4, c5⟩, c6, c7, c8, c9, c10, c11⟩ := jobj_cells hrow6
  clear hp6 hb6 hrow6
  go_wp2_with fail
  clear c0 c1 c2 c3 c4 c5 c6 c7 c8 c9 c10 c11
  refine (lit_step HP6.out (by have h1 := putAll_len [j.id]; have h2 := txt_len j.name; have h3 := HN.out; have h4 := txt_len j.expr; have h5 := HE.out; have h6 := putAll_len [j.pol, j.gra, j.lim, j.ret, j.tim]; simp at h1 h6 ⊢; omega) [(j.deps.length : Int)] #[.int .u64 (j.deps.length : Int)] rfl (fun x hx => by simp at hx; subst hx; unfold U64; omega) (by simp) 1 rfl _ rfl).mono ?_
  rintro e w7 ⟨rfl, v7, hp7, hb7⟩
  have HP7 := Lib.hid hp7
  have HB7 := Lib.hid (HB6.out.trans (hb7.mono (Nat.le_of_lt hbp)))
  have hrow7 : w7.heap[w.heap.size]? = some (jobj j) := (hb7.block _ hbp).trans HROW6.out
  have HROW7 := Lib.hid hrow7
  have HBP7 := Lib.hid (HBP6.out.trans hb7)
  obtain ⟨⟨c0, c1, c2, c3, c4, c5⟩, c6, c7, c8, c9, c10, c11⟩ := jobj_cells hrow7
  clear hp7 hb7 hrow7
  go_wp2_with fail
  clear c0 c1 c2 c3 c4 c5 c6 c7 c8 c9 c10 c11
  refine (slice_step HP7.out (by have h1 := putAll_len [j.id]; have h2 := txt_len j.name; have h3 := HN.out; have h4 := txt_len j.expr; have h5 := HE.out; have h6 := putAll_len [j.pol, j.gra, j.lim, j.ret, j.tim]; have h7 := putAll_len [(j.deps.length : Int)]; simp at h1 h6 h7 ⊢; omega) j (HJ.out.below HB7.out) hd8 (fun x hx h0 => Nat.lt_trans (HDA.out x hx h0) hbp)).mono ?_
  rintro e w8 ⟨rfl, v8, hp8, hb8⟩
  have HP8 := Lib.hid hp8
  have HB8 := Lib.hid (HB7.out.trans (hb8.mono (Nat.le_of_lt hbp)))
  have hrow8 : w8.heap[w.heap.size]? = some (jobj j) := (hb8.block _ hbp).trans HROW7.out
  have HROW8 := Lib.hid hrow8
  have HBP8 := Lib.hid (HBP7.out.trans hb8)
  obtain ⟨⟨c0, c1, c2, c3, c4, c5⟩, c6, c7, c8, c9, c10, c11⟩ := jobj_cells hrow8
  clear hp8 hb8 hrow8
  go_wp2_with fail
  clear c0 c1 c2 c3 c4 c5 c6 c7 c8 c9 c10 c11
  obtain ⟨Z, hZ⟩ : ∃ Z, Z = [] ++ putAll [j.id] ++ txt j.name ++ txt j.expr ++ putAll [j.pol, j.gra, j.lim, j.ret, j.tim] ++ putAll [(j.deps.length : Int)] ++ putAll j.deps := ⟨_, rfl⟩
  have hzl : Z.length ≤ 5000 := by
    rw [hZ]
    have h1 := putAll_len [j.id]
    have h2 := txt_len j.name
    have h3 := HN.out
    have h4 := txt_len j.expr
    have h5 := HE.out
    have h6 := putAll_len [j.pol, j.gra, j.lim, j.ret, j.tim]
    have h7 := putAll_len [(j.deps.length : Int)]
    have h8 := putAll_len j.deps
    simp at h1 h6 h7 ⊢
    omega
  rw [← hZ] at HP8
  have HZB := Lib.hid hZ
  clear hZ
  obtain ⟨pz, hpz⟩ : ∃ x : Int, x = if j.pau = true then 1 else 0 := ⟨_, rfl⟩
  rw [← hpz] at HPAU
  have HPZ := Lib.hid hpz
  have HUP : Hid (U64 pz) := Lib.hid (by rw [hpz]; unfold U64; split <;> omega)
  clear hpz
  refine wp_region_held_drew (S := fun W => W.heap[w.heap.size]? = some (jobj j)) (by kernel_rfl) HROW8.out (fun hHeld => ?_)
  obtain ⟨u0, hu0⟩ : ∃ u, u = w8.drew := ⟨_, rfl⟩
  have hp0 : Pn u0 p Z v8 := by rw [hu0]; exact HP8.out.below (Below.refl _ _).drew
  have hr0 : u0.heap[w.heap.size]? = some (jobj j) := by rw [hu0]; exact HROW8.out
  have hb0 : Below w.heap.size w u0 := by rw [hu0]; exact HB8.out.drew
  rw [← hu0]
  have HP0 := Lib.hid hp0
  have HR0 := Lib.hid hr0
  have HB0 := Lib.hid hb0
  clear hp0 hr0 hb0 hu0 HP8 HROW8 HB8 hHeld
  refine wpAnyH_take (i := 0) (oi := ?_) (v := ?_) ?_ (by kernel_rfl) (by kernel_rfl) (by kernel_rfl) ?_ (Or.inl ⟨?_, ?_⟩) (by assumption) ?_
  rotate_left 2
  focus (simp only [List.getElem?_toArray, List.getElem?_cons_zero]; rfl)
  focus exact fun _ _ _ h => h
  focus rfl
  focus (intro W hS; (try dsimp only at hS); obtain ⟨⟨k0, k1, k2, k3, k4, k5⟩, k6, k7, k8, k9, k10, k11⟩ := jobj_cells hS; go_simp; (try with_reducible rfl))
  try simp only [Act.put]
  try simp only [List.setIfInBounds_toArray]
  try simp only [List.set_cons_succ]
  try simp only [List.set_cons_zero]
  refine wpAnyH_take (i := 1) (oi := ?_) (v := ?_) ?_ (by kernel_rfl) (by kernel_rfl) (by kernel_rfl) ?_ (Or.inl ⟨?_, ?_⟩) (by assumption) ?_
  rotate_left 2
  focus (simp only [List.getElem?_toArray, List.getElem?_cons_succ, List.getElem?_cons_zero]; rfl)
  focus exact fun _ _ _ h => h
  focus rfl
  focus (intro W hS; (try dsimp only at hS); obtain ⟨⟨k0, k1, k2, k3, k4, k5⟩, k6, k7, k8, k9, k10, k11⟩ := jobj_cells hS; go_simp; (try with_reducible rfl))
  try simp only [Act.put]
  try simp only [List.setIfInBounds_toArray]
  try simp only [List.set_cons_succ]
  try simp only [List.set_cons_zero]
  refine wpAnyH_take (i := 3) (oi := ?_) (v := ?_) ?_ (by kernel_rfl) (by kernel_rfl) (by kernel_rfl) ?_ (Or.inl ⟨?_, ?_⟩) (by assumption) ?_
  rotate_left 2
  focus (simp only [List.getElem?_toArray, List.getElem?_cons_succ, List.getElem?_cons_zero]; rfl)
  focus exact fun _ _ _ h => h
  focus rfl
  focus (intro W hS; (try dsimp only at hS); obtain ⟨⟨k0, k1, k2, k3, k4, k5⟩, k6, k7, k8, k9, k10, k11⟩ := jobj_cells hS; go_simp; (try with_reducible rfl))
  try simp only [Act.put]
  try simp only [List.setIfInBounds_toArray]
  try simp only [List.set_cons_succ]
  try simp only [List.set_cons_zero]
  refine wpAnyH_take (i := 4) (oi := ?_) (v := ?_) ?_ (by kernel_rfl) (by kernel_rfl) (by kernel_rfl) ?_ (Or.inl ⟨?_, ?_⟩) (by assumption) ?_
  rotate_left 2
  focus (simp only [List.getElem?_toArray, List.getElem?_cons_succ, List.getElem?_cons_zero]; rfl)
  focus exact fun _ _ _ h => h
  focus rfl
  focus (intro W hS; (try dsimp only at hS); obtain ⟨⟨k0, k1, k2, k3, k4, k5⟩, k6, k7, k8, k9, k10, k11⟩ := jobj_cells hS; go_simp; (try with_reducible rfl))
  try simp only [Act.put]
  try simp only [List.setIfInBounds_toArray]
  try simp only [List.set_cons_succ]
  try simp only [List.set_cons_zero]
  refine wpAnyH_ready (rs := [2]) (by kernel_rfl) (by simp) ?_
  refine AllReadyH.cons (o := ?_) ?_ (fun K hK => ?_) AllReadyH.nil
  rotate_left
  focus (simp only [List.getElem?_toArray, List.getElem?_cons_succ, List.getElem?_cons_zero]; rfl)
  rw [if_pos (by rfl)]
  go_simp
  with_reducible refine (HPAU.out u0).mono ?_
  rintro e w9 ⟨rfl, hb9⟩
  have HP9 := Lib.hid (HP0.out.below hb9)
  have hr9 := (hb9.block _ (Nat.lt_trans hbp HP0.out.lt)).trans HR0.out
  have HR9 := Lib.hid hr9
  have HB9 := Lib.hid (HB0.out.trans (hb9.mono HB0.out.size))
  clear hb9
  go_wp2_with fail
  refine hK.out _ _ hr9 (fun hHeld => ?_)
  clear hK K
  try simp only [Act.put]
  try simp only [List.setIfInBounds_toArray]
  try simp only [List.set_cons_succ]
  try simp only [List.set_cons_zero]
  clear hr9
  refine wpAnyH_ready (rs := [5]) (by kernel_rfl) (by simp) ?_
  refine AllReadyH.cons (o := ?_) ?_ (fun K hK => ?_) AllReadyH.nil
  rotate_left
  focus (simp only [List.getElem?_toArray, List.getElem?_cons_succ, List.getElem?_cons_zero]; rfl)
  rw [if_pos (by rfl)]
  go_simp
  have hr10 : (w9.alloc (.cells #[.int .u64 pz, .int .u64 j.ver] 22)).heap[w.heap.size]? = some (jobj j) := (((Below.refl w9.heap.size w9).alloc (Nat.le_refl _) _).block _ (Nat.lt_trans hbp HP9.out.lt)).trans HR9.out
  refine hK.out _ _ hr10 (fun hHeld => ?_)
  clear hK K
  try simp only [Act.put]
  try simp only [List.setIfInBounds_toArray]
  try simp only [List.set_cons_succ]
  try simp only [List.set_cons_zero]
  clear hr10
  refine wpAnyH_ready (rs := [6]) (by kernel_rfl) (by simp) ?_
  refine AllReadyH.cons (o := ?_) ?_ (fun K hK => ?_) AllReadyH.nil
  rotate_left
  focus (simp only [List.getElem?_toArray, List.getElem?_cons_succ, List.getElem?_cons_zero]; rfl)
  rw [if_pos (by rfl)]
  go_simp
  with_reducible refine (lit_step HP9.out (by omega) [pz, j.ver] #[.int .u64 pz, .int .u64 j.ver] rfl (fun x hx => by simp at hx; rcases hx with rfl | rfl; exact HUP.out; exact HU2.out) (by simp) 2 rfl _ rfl).mono ?_
  rintro e w11 ⟨rfl, v11, hp11, hb11⟩
  have hr11 := (hb11.block _ hbp).trans HR9.out
  have HP11 := Lib.hid hp11
  have HR11 := Lib.hid hr11
  have HB11 := Lib.hid (HB9.out.trans (hb11.mono (Nat.le_of_lt hbp)))
  clear hp11 hb11
  go_wp2_with fail
  refine hK.out _ _ hr11 (fun hHeld => ?_)
  clear hK K
  try simp only [Act.put]
  try simp only [List.setIfInBounds_toArray]
  try simp only [List.set_cons_succ]
  try simp only [List.set_cons_zero]
  clear hr11
  refine wpAnyH_done (by kernel_rfl) ?_ _
  go_wp2_with fail
  obtain ⟨a11, m11, q11, hv11⟩ := slice_of HP11.out.row
  subst hv11
  refine wp_region_held_drew (S := fun W => W.heap[w.heap.size]? = some (jobj j) ∧ W.cell? ⟨p, 0, none⟩ = some (.slice a11 m11 q11)) (by kernel_rfl) ⟨HR11.out, HP11.out.at⟩ (fun hHeld => ?_)
  obtain ⟨u1, hu1⟩ : ∃ u, u = w11.drew := ⟨_, rfl⟩
  have hp0 : Pn u1 p (Z ++ putAll [pz, j.ver]) (.slice a11 m11 q11) := by rw [hu1]; exact HP11.out.below (Below.refl _ _).drew
  have hr0 : u1.heap[w.heap.size]? = some (jobj j) := by rw [hu1]; exact HR11.out
  have hb0 : Below w.heap.size w u1 := by rw [hu1]; exact HB11.out.drew
  rw [← hu1]
  have HP12 := Lib.hid hp0
  have HR12 := Lib.hid hr0
  have HB12 := Lib.hid hb0
  clear hp0 hr0 hb0 hu1 HP11 HR11 HB11 hHeld
  have hH : u1.heap[w.heap.size]? = some (jobj j) ∧ u1.cell? ⟨p, 0, none⟩ = some (.slice a11 m11 q11) := ⟨HR12.out, HP12.out.at⟩
  refine wpAnyH_take (i := 0) (oi := ?_) (v := ?_) ?_ (by kernel_rfl) (by kernel_rfl) (by kernel_rfl) ?_ (Or.inl ⟨?_, ?_⟩) (by assumption) ?_
  rotate_left 2
  focus (simp only [List.getElem?_toArray, List.getElem?_cons_zero]; rfl)
  focus exact fun _ _ _ h => h
  focus rfl
  focus (intro W hS; (try dsimp only at hS); obtain ⟨⟨⟨k0, k1, k2, k3, k4, k5⟩, k6, k7, k8, k9, k10, k11⟩, kp⟩ := (⟨jobj_cells hS.1, hS.2⟩ : _ ∧ _); go_simp; (try with_reducible rfl))
  try simp only [Act.put]
  try simp only [List.setIfInBounds_toArray]
  try simp only [List.set_cons_succ]
  try simp only [List.set_cons_zero]
  refine wpAnyH_take (i := 1) (oi := ?_) (v := ?_) ?_ (by kernel_rfl) (by kernel_rfl) (by kernel_rfl) ?_ (Or.inl ⟨?_, ?_⟩) (by assumption) ?_
  rotate_left 2
  focus (simp only [List.getElem?_toArray, List.getElem?_cons_succ, List.getElem?_cons_zero]; rfl)
  focus exact fun _ _ _ h => h
  focus rfl
  focus (intro W hS; (try dsimp only at hS); obtain ⟨⟨⟨k0, k1, k2, k3, k4, k5⟩, k6, k7, k8, k9, k10, k11⟩, kp⟩ := (⟨jobj_cells hS.1, hS.2⟩ : _ ∧ _); go_simp; (try with_reducible rfl))
  try simp only [Act.put]
  try simp only [List.setIfInBounds_toArray]
  try simp only [List.set_cons_succ]
  try simp only [List.set_cons_zero]
  refine wpAnyH_take (i := 2) (oi := ?_) (v := ?_) ?_ (by kernel_rfl) (by kernel_rfl) (by kernel_rfl) ?_ (Or.inl ⟨?_, ?_⟩) (by assumption) ?_
  rotate_left 2
  focus (simp only [List.getElem?_toArray, List.getElem?_cons_succ, List.getElem?_cons_zero]; rfl)
  focus exact fun _ _ _ h => h
  focus rfl
  focus (intro W hS; (try dsimp only at hS); obtain ⟨⟨⟨k0, k1, k2, k3, k4, k5⟩, k6, k7, k8, k9, k10, k11⟩, kp⟩ := (⟨jobj_cells hS.1, hS.2⟩ : _ ∧ _); go_simp; (try with_reducible rfl))
  try simp only [Act.put]
  try simp only [List.setIfInBounds_toArray]
  try simp only [List.set_cons_succ]
  try simp only [List.set_cons_zero]
  refine wpAnyH_ready (rs := [3]) (by kernel_rfl) (by simp) ?_
  refine AllReadyH.cons (o := ?_) ?_ (fun K hK => ?_) AllReadyH.nil
  rotate_left
  focus (simp only [List.getElem?_toArray, List.getElem?_cons_succ, List.getElem?_cons_zero]; rfl)
  rw [if_pos (by rfl)]
  go_simp
  with_reducible refine (HSEEN.out u1).mono ?_
  rintro e w13 ⟨b13, rfl, hr13, hb13⟩
  have HP13 := Lib.hid (HP12.out.below hb13)
  have h13 := (hb13.block _ (Nat.lt_trans hbp HP12.out.lt)).trans HR12.out
  have HR13 := Lib.hid h13
  have HB13 := Lib.hid (HB12.out.trans (hb13.mono HB12.out.size))
  have HROWB := Lib.hid hr13
  clear hr13 hb13
  go_wp2_with fail
  refine hK.out _ _ ⟨h13, HP13.out.at⟩ (fun hHeld => ?_)
  clear hK K
  try simp only [Act.put]
  try simp only [List.setIfInBounds_toArray]
  try simp only [List.set_cons_succ]
  try simp only [List.set_cons_zero]
  clear h13
  refine wpAnyH_ready (rs := [4]) (by kernel_rfl) (by simp) ?_
  refine AllReadyH.cons (o := ?_) ?_ (fun K hK => ?_) AllReadyH.nil
  rotate_left
  focus (simp only [List.getElem?_toArray, List.getElem?_cons_succ, List.getElem?_cons_zero]; rfl)
  rw [if_pos (by rfl)]
  obtain ⟨v14, u14, hrun, hr14, hg14, ho14⟩ := app_bytes HP13.out.row HROWB.out (by have := HP13.out.lt; omega) (by have := putAll_len [pz, j.ver]; have h2 := (Num.put_len (Num.zig j.seen)).2; simp only [List.length_append, List.length_cons, List.length_nil] at this ⊢; omega)
  refine wp_append_runR rfl rfl rfl hrun ?_
  have h14 : u14.heap[w.heap.size]? = some (jobj j) := (hg14.block _ (Nat.lt_trans hbp HP13.out.lt) (fun e => by have := (HP13.out.row.lt _ e.symm).1; omega)).trans HR13.out
  have hp14 : u14.cell? ⟨p, 0, none⟩ = some (.slice a11 m11 q11) := cell_of_one ((hg14.block _ HP13.out.lt (fun e => by have := (HP13.out.row.lt _ e.symm).1; omega)).trans HP13.out.cell)
  have HB14 := Lib.hid (HB13.out.grown hg14 HB13.out.size (fun k e => by have := (HP13.out.row.lt k e).1; omega))
  have HR14 := Lib.hid (hr14.less (B' := w.heap.size) (by omega))
  clear hrun hr14 hg14 ho14
  refine hK.out _ _ ⟨h14, hp14⟩ (fun hHeld => ?_)
  clear hK K
  try simp only [Act.put]
  try simp only [List.setIfInBounds_toArray]
  try simp only [List.set_cons_succ]
  try simp only [List.set_cons_zero]
  clear h14 hp14
  refine wpAnyH_take (i := 5) (oi := ?_) (v := ?_) ?_ (by kernel_rfl) (by kernel_rfl) (by kernel_rfl) ?_ (Or.inl ⟨?_, ?_⟩) (by assumption) ?_
  rotate_left 2
  focus (simp only [List.getElem?_toArray, List.getElem?_cons_succ, List.getElem?_cons_zero]; rfl)
  focus exact fun _ _ _ h => h
  focus rfl
  focus (intro W hS; (try dsimp only at hS); go_simp; (try with_reducible rfl))
  try simp only [Act.put]
  try simp only [List.setIfInBounds_toArray]
  try simp only [List.set_cons_succ]
  try simp only [List.set_cons_zero]
  refine wpAnyH_take (i := 6) (oi := ?_) (v := ?_) ?_ (by kernel_rfl) (by kernel_rfl) (by kernel_rfl) ?_ (Or.inl ⟨?_, ?_⟩) (by assumption) ?_
  rotate_left 2
  focus (simp only [List.getElem?_toArray, List.getElem?_cons_succ, List.getElem?_cons_zero]; rfl)
  focus exact fun _ _ _ h => h
  focus rfl
  focus (intro W hS; (try dsimp only at hS); go_simp; (try with_reducible rfl))
  try simp only [Act.put]
  try simp only [List.setIfInBounds_toArray]
  try simp only [List.set_cons_succ]
  try simp only [List.set_cons_zero]
  refine wpAnyH_done (by kernel_rfl) ?_ _
  go_wp2_with fail
  go_ret2
  refine ⟨_, rfl, ?_, HB14.out⟩
  have hby : j.bytes = Z ++ putAll [pz, j.ver] ++ Num.put (Num.zig j.seen) := by rw [HZB.out, HPZ.out]; rfl
  rw [hby]
  exact HR14.out
end Go.Proofs.YtoghalmjbbkjhaaGreatDoor.Job
