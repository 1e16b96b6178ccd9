/- The closures of job.Put, by their contracts: numbers, and a text, as bytes behind those that are there. -/
import Derived.Test.YtoghalmjbbkjhaaGreatDoorMag
import Derived.Test.YtoghalmjbbkjhaaGreatDoorMai
import Derived.Deep.RegionHeld3
namespace Go.Proofs.YtoghalmjbbkjhaaGreatDoor.Job
open Go.RowKit

/-- append in a region, whose run is known -/
theorem wp_append_runR {P : Program} {o : Oper} {a : Act} {w w' : World} {v v' x : Value} {s y : Operand} {t : TypeId} {K : Act → World → Prop} {Q : Exit → Act → World → Prop}
    (ho : o.op = .call { callee := .builtin .append, args := #[s, y], argTypes := #[t, t] }) (hs : a.eval s = v) (hx : a.eval y = x) (hr : (Builtin.append_ #[t, t] o.type #[v, x]).run P w = .ok v' w') (hk : K (a.put o.dst v') w') : o.wp P a w K Q := by
  unfold Oper.wp execOp
  simp only [ho, resolve, invoke, builtin, Sem.run_bind, Sem.run_pure, Result.andThen_ok, List.map_toArray, List.map_cons, List.map_nil, hs, hx, hr]
  exact hk

theorem infoU8 : (Tryz.prog.info? 5).map (fun i => (i.zero, i.size, i.bytes)) = some (some (.int .u8 0), 1, 1) := by kernel_rfl
theorem one_b (xs : List Int) : ∀ u ∈ xs.map (Value.int .u8), u.oneCell' = true := fun u hu => by
  obtain ⟨x, _, rfl⟩ := List.mem_map.1 hu
  rfl
/-- append of bytes to bytes of the call's own -/
theorem app_bytes {W : World} {B B' : Nat} {v u : Value} {xs ys : List Int} (h : Pk.Row W B xs v) (hu : Pk.Row W B' ys u) (hB : B ≤ W.heap.size) (hl : xs.length + ys.length ≤ 1000000) :
    ∃ v' W', (Builtin.append_ #[32, 32] 32 #[v, u]).run Tryz.prog W = .ok v' W' ∧ Pk.Row W' B (xs ++ ys) v' ∧ W.grownBy W' v.ownBlock ∧ (v'.ownBlock = v.ownBlock ∨ v'.ownBlock = some W.heap.size) := by
  obtain ⟨a, c, rfl, hn, _, _, hv, hvl⟩ := own_shape hu
  obtain ⟨v', W', h1, h2, h3, h4⟩ := run_app (bytes := 1) (m := ys.length) Tryz.underlying32 infoU8 rfl (by omega) h hB hv (by simp) hn (one_b ys) (by omega)
  exact ⟨v', W', h1, by unfold Pk.Row; rw [List.length_append, List.map_append]; exact h2, h3, h4⟩

/-- the cell p holds the slice v of the bytes zs, which lie behind it -/
structure Pn (w : World) (p : Nat) (zs : List Int) (v : Value) : Prop where
  cell : w.heap[p]? = some (.cells #[v] 32 (0, 0))
  row : Pk.Row w (p + 1) zs v
theorem Pn.below {w w' : World} {p : Nat} {zs : List Int} {v : Value} (h : Pn w p zs v) (hb : Below w.heap.size w w') : Pn w' p zs v :=
  ⟨(hb.block p (Array.getElem?_eq_some_iff.1 h.cell).1).trans h.cell, h.row.below hb⟩
theorem Pn.lt {w : World} {p : Nat} {zs : List Int} {v : Value} (h : Pn w p zs v) : p < w.heap.size := (Array.getElem?_eq_some_iff.1 h.cell).1
theorem Pn.at {w : World} {p : Nat} {zs : List Int} {v : Value} (h : Pn w p zs v) : w.cell? ⟨p, 0, none⟩ = some v := cell_of_one h.cell
/-- behind an append and its store -/
theorem Pn.put {w u : World} {p : Nat} {zs ys : List Int} {v v2 : Value} (h : Pn w p zs v) (hg : w.grownBy u v.ownBlock) (hr : Pk.Row u (p + 1) ys v2) : Pn (u.setCell ⟨p, 0, none⟩ v2) p ys v2 ∧ Below p w (u.setCell ⟨p, 0, none⟩ v2) := by
  have hlt := h.row.lt
  have hc : u.heap[p]? = some (.cells #[v] 32 (0, 0)) := (hg.block p h.lt (fun e => by have := (hlt p e.symm).1; omega)).trans h.cell
  refine ⟨⟨one_setCell hc, ownsRow_setCell_other hr (fun e => by have := (World.ownsRow.lt hr p e).1; omega) v2⟩, ?_⟩
  have hb : Below p w u := (Below.refl p w).grown hg (Nat.le_of_lt h.lt) (fun k e => by have := (hlt k e).1; omega)
  exact hb.setCell (p := ⟨p, 0, none⟩) (Nat.le_refl _) v2

theorem slice_of {w : World} {B : Nat} {zs : List Int} {v : Value} (h : Pk.Row w B zs v) : ∃ a n c, v = .slice a n c := by
  obtain ⟨a, c, rfl, _⟩ := own_shape h
  exact ⟨_, _, _, rfl⟩

theorem putI_any (x : Int) (hx : U64 x) (w : World) : Calls Tryz.prog 24 #[.int .u64 x] w fun e w' => ∃ v, e = .returned v ∧ Pk.Row w' w.heap.size (Num.put x.toNat) v ∧ Below w.heap.size w w' := by
  have h := Pk.put_any x.toNat (by have := hx; unfold U64 at this; omega) w
  rwa [show ((x.toNat : Nat) : Int) = x by have := hx.1; omega] at h

set_option maxRecDepth 100000 in
set_option maxHeartbeats 1000000 in
/-- a text behind the bytes that are there -/
theorem putT_any (p : Nat) (zs : List Int) (v : Value) (s : ByteArray) (hs : s.size ≤ 4096) (hz : zs.length ≤ 100000) (w : World) (h : Pn w p zs v) :
    Calls Tryz.prog 25 #[.string s, .pointer (some ⟨p, 0, none⟩)] w fun e w' => e = .returned (.tuple #[]) ∧ ∃ v', Pn w' p (zs ++ txt s) v' ∧ Below p w w' := by
  have HP := Lib.hid (Pk.putText_any s hs w)
  have H := Lib.hid h
  have hl := txt_len s
  clear h
  go_enter Tryz.func25, Tryz.ntmps25
  go_wp2_with fail
  refine HP.out.mono ?_
  rintro e w1 ⟨b, rfl, hr, hb⟩
  have H1 := Lib.hid (H.out.below hb)
  have c1 := H1.out.at
  have hlt := H1.out.lt
  obtain ⟨v2, u, hrun, hr2, hg, _⟩ := app_bytes H1.out.row hr (by omega) (by have : (Num.put s.size ++ Pk.bl s) = txt s := rfl; rw [this]; omega)
  obtain ⟨a2, m2, c2, rfl⟩ := slice_of hr2
  obtain ⟨n1, n2⟩ := H1.out.put hg hr2
  have N1 := Lib.hid n1
  have N2 := Lib.hid ((hb.mono (Nat.le_of_lt H.out.lt)).trans n2)
  have hf : u.frozen? ⟨p, 0, none⟩ = false := by
    have := (hg.block p hlt (fun e => by have := (H1.out.row.lt p e.symm).1; omega)).trans H1.out.cell
    exact free_of_one this
  have hcu : u.cell? ⟨p, 0, none⟩ = some v := by
    have := (hg.block p hlt (fun e => by have := (H1.out.row.lt p e.symm).1; omega)).trans H1.out.cell
    exact cell_of_one this
  clear n1 n2 hb hr hr2 hg HP hl
  go_wp2_with (at_builtin; go_loud (refine Lib.wpList_append_run _ rfl _ _ _ _ rfl _ _ rfl rfl _ _ hrun ?_))
  go_end0
  exact ⟨rfl, _, N1.out, N2.out⟩

set_option maxRecDepth 100000 in
set_option maxHeartbeats 2000000 in
/-- numbers behind the bytes that are there -/
theorem putN_any (p : Nat) (zs : List Int) (v : Value) (ns : List Int) (a : Option Addr) (c : Nat) (hns : ∀ x ∈ ns, U64 x) (hl : ns.length ≤ 1000) (hz : zs.length ≤ 50000) (w : World) (h : Pn w p zs v)
    (hv : Vals w a (ns.map uv)) (hsep : ∀ x, a = some x → x.block ≠ p ∧ v.ownBlock ≠ some x.block) :
    Calls Tryz.prog 23 #[.slice a ns.length c, .pointer (some ⟨p, 0, none⟩)] w fun e w' => e = .returned (.tuple #[]) ∧ ∃ v', Pn w' p (zs ++ putAll ns) v' ∧ Below p w w' := by
  obtain ⟨L, hL⟩ : ∃ L, L = ns.length := ⟨_, rfl⟩
  rw [← hL]
  have hLb : L ≤ 1000 := by omega
  have H := Lib.hid h
  have HV := Lib.hid hv
  have HS := Lib.hid hsep
  have HL := Lib.hid hL
  have HF := Lib.hid hns
  have HZ := Lib.hid hz
  have HA0 := Lib.hid (fun (x : Addr) (hx : a = some x) {i : Nat} (hi : i < ns.length) => (show x.block < w.heap.size from by
    obtain ⟨g, q, h1, h2⟩ := hv
    have hne : ns.map uv ≠ [] := fun e => by have := congrArg List.length e; simp at this; subst this; simp at hi
    have e := (h1 hne).symm.trans hx
    cases e
    exact (h2 i (by simpa using hi)).1))
  clear h hv hsep hL hns hl hz
  go_enter Tryz.func23, Tryz.ntmps23
  go_wp2
  go_loopw [7] (fun s wr => ∃ (i : Nat) (vi : Value), s = .int .i64 (i : Int) ∧ i ≤ L ∧ Hid (Pn wr p (zs ++ putAll (ns.take i)) vi) ∧ Hid (∀ x, a = some x → x.block < w.heap.size → x.block ≠ p ∧ vi.ownBlock ≠ some x.block) ∧ Hid (Below p w wr) ∧ Hid (Vals wr a (ns.map uv))) (fun s _ => L - (intOf s).toNat)
  case atStart => exact ⟨0, v, rfl, Nat.zero_le _, Lib.hid (by simpa [putAll] using H.out), Lib.hid (fun x hx _ => HS.out x hx), Lib.hid (Below.refl _ _), HV⟩
  case round =>
    obtain ⟨i, vi, rfl, hi, HN, HSEP, HB, HVAL⟩ := hrel
    by_cases hlt : i < L
    · have h1 : i < ns.length := by have := HL.out; omega
      obtain ⟨x, hx⟩ : ∃ x, ns[i] = x := ⟨_, rfl⟩
      have hxu : U64 x := by rw [← hx]; exact HF.out _ (List.getElem_mem h1)
      obtain ⟨g, q, ha, hcA⟩ := HVAL.out
      obtain ⟨hg, hc⟩ := hcA i (by simpa using h1)
      clear hcA
      have ea := ha (by intro e; have := congrArg List.length e; simp at this; subst this; simp at h1)
      cases ea
      rw [List.getElem_map, hx] at hc
      unfold uv at hc
      have HPUT := Lib.hid (putI_any x hxu)
      have HTK := Lib.hid (show putAll (ns.take (i + 1)) = putAll (ns.take i) ++ Num.put x.toNat by
        rw [List.take_succ_eq_append_getElem h1, hx, putAll_append]; simp [putAll])
      have HZB := Lib.hid (show (zs ++ putAll (ns.take i)).length ≤ 70000 by
        have h2 := putAll_len (ns.take i)
        have h3 : (ns.take i).length ≤ i := by rw [List.length_take]; omega
        have h4 := HZ.out
        rw [List.length_append]; omega)
      have hd : decide ((i : Int) < (L : Int)) = true := by simp; omega
      have HX := Lib.hid hx
      have HGW := Lib.hid (show g < w.heap.size from HA0.out _ rfl h1)
      clear ha hx hxu
      go_wp2_with fail
      refine wp_region_held_drew (S := fun _ => True) (by kernel_rfl) trivial (fun hHeld => ?_)
      obtain ⟨u0, hu0⟩ : ∃ u, u = wr.drew := ⟨_, rfl⟩
      have hn0 : Pn u0 p (zs ++ putAll (ns.take i)) vi := by rw [hu0]; exact HN.out.below (Below.refl _ _).drew
      have hb0 : Below p w u0 := by rw [hu0]; exact HB.out.drew
      have hv0 : Vals u0 (some ⟨g, q, none⟩) (ns.map uv) := by rw [hu0]; exact HVAL.out.below (Below.refl _ _).drew
      have hsz0 : u0.heap.size = wr.heap.size := by rw [hu0]; rfl
      rw [← hu0]
      clear HN HB HVAL hu0
      have HN := Lib.hid hn0
      have HB := Lib.hid hb0
      have HVAL := Lib.hid hv0
      have HSZ := Lib.hid hsz0
      have HC := Lib.hid (fun W (hW : Below u0.heap.size u0 W) => stays hW hn0.at)
      have HUu0 := Lib.hid (Below.refl u0.heap.size u0)
      clear hn0 hb0 hv0 hsz0 hc
      refine wpAnyH_take (i := 1) (oi := ?_) (v := ?_) ?_ (by kernel_rfl) (by kernel_rfl) (by kernel_rfl) ?_ (Or.inl ⟨?_, ?_⟩) (by assumption) ?_
      rotate_left 2
      focus (simp only [List.getElem?_toArray, List.getElem?_cons_succ, List.getElem?_cons_zero]; rfl)
      focus exact fun _ _ _ h => h
      focus rfl
      focus (intro W hS; (try dsimp only at hS); go_simp; (try with_reducible rfl))
      try simp only [Act.put]
      try simp only [List.setIfInBounds_toArray]
      try simp only [List.set_cons_succ]
      try simp only [List.set_cons_zero]
      refine wpAnyH_ready (rs := [0, 2]) (by kernel_rfl) (by simp) ?_
      refine AllReadyH.cons (o := ?_) ?_ (fun K hK => ?_) ?_
      rotate_left
      focus (simp only [List.getElem?_toArray, List.getElem?_cons_zero]; rfl)
      rw [if_pos (by rfl)]
      · have hx := HC.out _ HUu0.out
        go_simp
        clear hx
        refine hK.out _ _ trivial (fun hHeld => ?_)
        clear hK K
        try simp only [Act.put]
        try simp only [List.setIfInBounds_toArray]
        try simp only [List.set_cons_succ]
        try simp only [List.set_cons_zero]
        refine wpAnyH_ready (rs := [2]) (by kernel_rfl) (by simp) ?_
        refine AllReadyH.cons (o := ?_) ?_ (fun K hK => ?_) AllReadyH.nil
        rotate_left
        focus (simp only [List.getElem?_toArray, List.getElem?_cons_succ, List.getElem?_cons_zero]; rfl)
        rw [if_pos (by rfl)]
        go_simp
        with_reducible refine (HPUT.out u0).mono ?_
        rintro e w4 ⟨b, rfl, hr4, hb4⟩
        have HB4 := Lib.hid hr4
        have HUw4 := Lib.hid (HUu0.out.trans (hb4.mono HUu0.out.size))
        clear hr4 hb4
        go_wp2_with fail
        refine hK.out _ _ trivial (fun hHeld => ?_)
        clear hK K
        try simp only [Act.put]
        try simp only [List.setIfInBounds_toArray]
        try simp only [List.set_cons_succ]
        try simp only [List.set_cons_zero]
        refine wpAnyH_ready (rs := [3]) (by kernel_rfl) (by simp) ?_
        refine AllReadyH.cons (o := ?_) ?_ (fun K hK => ?_) AllReadyH.nil
        rotate_left
        focus (simp only [List.getElem?_toArray, List.getElem?_cons_succ, List.getElem?_cons_zero]; rfl)
        rw [if_pos (by rfl)]
        have HN4 := Lib.hid (HN.out.below HUw4.out)
        obtain ⟨v2, u5, hrun, hr5, hg5, ho5⟩ := app_bytes HN4.out.row HB4.out (by have := HN4.out.lt; omega) (by have := HZB.out; have := (Num.put_len x.toNat).2; omega)
        refine wp_append_runR rfl rfl rfl hrun ?_
        have HR5 := Lib.hid hr5
        have HG5 := Lib.hid hg5
        have HO5 := Lib.hid ho5
        clear hrun hr5 hg5 ho5
        refine hK.out _ _ trivial (fun hHeld => ?_)
        clear hK K
        try simp only [Act.put]
        try simp only [List.setIfInBounds_toArray]
        try simp only [List.set_cons_succ]
        try simp only [List.set_cons_zero]
        refine wpAnyH_ready (rs := [4]) (by kernel_rfl) (by simp) ?_
        refine AllReadyH.cons (o := ?_) ?_ (fun K hK => ?_) AllReadyH.nil
        rotate_left
        focus (simp only [List.getElem?_toArray, List.getElem?_cons_succ, List.getElem?_cons_zero]; rfl)
        rw [if_pos (by rfl)]
        have hcu := (HG5.out.block p HN4.out.lt (fun e => by have := (HN4.out.row.lt p e.symm).1; omega)).trans HN4.out.cell
        have hf := free_of_one hcu
        have hcc := cell_of_one hcu
        obtain ⟨a2, m2, c2, hv2⟩ := slice_of HR5.out
        subst hv2
        go_simp
        refine hK.out _ _ trivial (fun hHeld => ?_)
        clear hK K
        try simp only [Act.put]
        try simp only [List.setIfInBounds_toArray]
        try simp only [List.set_cons_succ]
        try simp only [List.set_cons_zero]
        refine wpAnyH_done (by kernel_rfl) ?_ _
        obtain ⟨n1, n2⟩ := HN4.out.put HG5.out HR5.out
        have hbz := HUw4.out.size
        have hsep2 : ∀ x : Addr, (some (⟨g, q, none⟩ : Addr)) = some x → x.block < w.heap.size → x.block ≠ p ∧ (Value.slice a2 m2 c2).ownBlock ≠ some x.block := fun x hx hw => by
          obtain ⟨s1, s2⟩ := HSEP.out x hx hw
          refine ⟨s1, fun e => ?_⟩
          rcases HO5.out with e2 | e2
          · exact s2 (by rw [← e2]; exact e)
          · rw [e2] at e
            have := Option.some.inj e
            have := HB.out.size
            omega
        have hval2 : Vals (u5.setCell ⟨p, 0, none⟩ (.slice a2 m2 c2)) (some ⟨g, q, none⟩) (ns.map uv) := by
          refine HVAL.out.kept (Nat.le_trans hbz (Nat.le_trans HG5.out.size (Nat.le_of_eq (by simp [World.setCell])))) fun x hx hw => ?_
          cases hx
          obtain ⟨s1, s2⟩ := HSEP.out _ rfl HGW.out
          have k1 := (HG5.out.block g (Nat.lt_of_lt_of_le hw hbz) (fun e => s2 e.symm)).trans (HUw4.out.block g hw)
          rw [← k1]
          exact Below.heap_setCell _ _ _ _ s1
        have HVAL2 := Lib.hid hval2
        have HSEP2 := Lib.hid hsep2
        have HN1 := Lib.hid n1
        have HBN := Lib.hid (HB.out.trans ((HUw4.out.mono (Nat.le_of_lt HN.out.lt)).trans n2))
        clear n1 n2 hval2 hsep2
        go_wp2
        go_roundw
        case rel =>
          refine ⟨i + 1, _, by go_num, by omega, Lib.hid ?_, HSEP2, HBN, HVAL2⟩
          rw [HTK.out, ← List.append_assoc]
          exact HN1.out
        case measure => simp [intOf]; omega
      refine AllReadyH.cons (o := ?_) ?_ (fun K hK => ?_) AllReadyH.nil
      rotate_left
      focus (simp only [List.getElem?_toArray, List.getElem?_cons_succ, List.getElem?_cons_zero]; rfl)
      rw [if_pos (by rfl)]
      go_simp
      with_reducible refine (HPUT.out u0).mono ?_
      rintro e w4 ⟨b, rfl, hr4, hb4⟩
      have HB4 := Lib.hid hr4
      have HUw4 := Lib.hid (HUu0.out.trans (hb4.mono HUu0.out.size))
      clear hr4 hb4
      go_wp2_with fail
      refine hK.out _ _ trivial (fun hHeld => ?_)
      clear hK K
      try simp only [Act.put]
      try simp only [List.setIfInBounds_toArray]
      try simp only [List.set_cons_succ]
      try simp only [List.set_cons_zero]
      refine wpAnyH_ready (rs := [0]) (by kernel_rfl) (by simp) ?_
      refine AllReadyH.cons (o := ?_) ?_ (fun K hK => ?_) AllReadyH.nil
      rotate_left
      focus (simp only [List.getElem?_toArray, List.getElem?_cons_zero]; rfl)
      rw [if_pos (by rfl)]
      have hx := HC.out _ HUw4.out
      go_simp
      clear hx
      refine hK.out _ _ trivial (fun hHeld => ?_)
      clear hK K
      try simp only [Act.put]
      try simp only [List.setIfInBounds_toArray]
      try simp only [List.set_cons_succ]
      try simp only [List.set_cons_zero]
      refine wpAnyH_ready (rs := [3]) (by kernel_rfl) (by simp) ?_
      refine AllReadyH.cons (o := ?_) ?_ (fun K hK => ?_) AllReadyH.nil
      rotate_left
      focus (simp only [List.getElem?_toArray, List.getElem?_cons_succ, List.getElem?_cons_zero]; rfl)
      rw [if_pos (by rfl)]
      have HN4 := Lib.hid (HN.out.below HUw4.out)
      obtain ⟨v2, u5, hrun, hr5, hg5, ho5⟩ := app_bytes HN4.out.row HB4.out (by have := HN4.out.lt; omega) (by have := HZB.out; have := (Num.put_len x.toNat).2; omega)
      refine wp_append_runR rfl rfl rfl hrun ?_
      have HR5 := Lib.hid hr5
      have HG5 := Lib.hid hg5
      have HO5 := Lib.hid ho5
      clear hrun hr5 hg5 ho5
      refine hK.out _ _ trivial (fun hHeld => ?_)
      clear hK K
      try simp only [Act.put]
      try simp only [List.setIfInBounds_toArray]
      try simp only [List.set_cons_succ]
      try simp only [List.set_cons_zero]
      refine wpAnyH_ready (rs := [4]) (by kernel_rfl) (by simp) ?_
      refine AllReadyH.cons (o := ?_) ?_ (fun K hK => ?_) AllReadyH.nil
      rotate_left
      focus (simp only [List.getElem?_toArray, List.getElem?_cons_succ, List.getElem?_cons_zero]; rfl)
      rw [if_pos (by rfl)]
      have hcu := (HG5.out.block p HN4.out.lt (fun e => by have := (HN4.out.row.lt p e.symm).1; omega)).trans HN4.out.cell
      have hf := free_of_one hcu
      have hcc := cell_of_one hcu
      obtain ⟨a2, m2, c2, hv2⟩ := slice_of HR5.out
      subst hv2
      go_simp
      refine hK.out _ _ trivial (fun hHeld => ?_)
      clear hK K
      try simp only [Act.put]
      try simp only [List.setIfInBounds_toArray]
      try simp only [List.set_cons_succ]
      try simp only [List.set_cons_zero]
      refine wpAnyH_done (by kernel_rfl) ?_ _
      obtain ⟨n1, n2⟩ := HN4.out.put HG5.out HR5.out
      have hbz := HUw4.out.size
      have hsep2 : ∀ x : Addr, (some (⟨g, q, none⟩ : Addr)) = some x → x.block < w.heap.size → x.block ≠ p ∧ (Value.slice a2 m2 c2).ownBlock ≠ some x.block := fun x hx hw => by
        obtain ⟨s1, s2⟩ := HSEP.out x hx hw
        refine ⟨s1, fun e => ?_⟩
        rcases HO5.out with e2 | e2
        · exact s2 (by rw [← e2]; exact e)
        · rw [e2] at e
          have := Option.some.inj e
          have := HB.out.size
          omega
      have hval2 : Vals (u5.setCell ⟨p, 0, none⟩ (.slice a2 m2 c2)) (some ⟨g, q, none⟩) (ns.map uv) := by
        refine HVAL.out.kept (Nat.le_trans hbz (Nat.le_trans HG5.out.size (Nat.le_of_eq (by simp [World.setCell])))) fun x hx hw => ?_
        cases hx
        obtain ⟨s1, s2⟩ := HSEP.out _ rfl HGW.out
        have k1 := (HG5.out.block g (Nat.lt_of_lt_of_le hw hbz) (fun e => s2 e.symm)).trans (HUw4.out.block g hw)
        rw [← k1]
        exact Below.heap_setCell _ _ _ _ s1
      have HVAL2 := Lib.hid hval2
      have HSEP2 := Lib.hid hsep2
      have HN1 := Lib.hid n1
      have HBN := Lib.hid (HB.out.trans ((HUw4.out.mono (Nat.le_of_lt HN.out.lt)).trans n2))
      clear n1 n2 hval2 hsep2
      go_wp2
      go_roundw
      case rel =>
        refine ⟨i + 1, _, by go_num, by omega, Lib.hid ?_, HSEP2, HBN, HVAL2⟩
        rw [HTK.out, ← List.append_assoc]
        exact HN1.out
      case measure => simp [intOf]; omega
    · obtain rfl : i = L := by omega
      have hd : decide ((i : Int) < (i : Int)) = false := by simp
      go_wp2
      go_end0
      refine ⟨rfl, vi, ?_, HB.out⟩
      have := HN.out
      rwa [HL.out, List.take_length] at this
end Go.Proofs.YtoghalmjbbkjhaaGreatDoor.Job
