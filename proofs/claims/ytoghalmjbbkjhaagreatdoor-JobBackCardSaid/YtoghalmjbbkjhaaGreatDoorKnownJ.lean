/- The law's own examples: 'known' answers true. -/
import Derived.Test.YtoghalmjbbkjhaaGreatDoorFiresJ
import Derived.Test.YtoghalmjbbkjhaaGreatDoorMaq
import Derived.Test.YtoghalmjbbkjhaaGreatDoorTakeJ
import Derived.Test.YtoghalmjbbkjhaaGreatDoorPutC
namespace Go.Proofs.YtoghalmjbbkjhaaGreatDoor.Job
open Go.RowKit

def kA : J := ⟨0, ByteArray.mk #[97], ByteArray.mk #[64, 100, 97, 105, 108, 121], 1, 0, 1, 0, 1, none, 0, [], false, 0, 0⟩
def kX : J := { kA with name := ByteArray.mk #[] }
def kY : J := { kA with expr := ByteArray.mk #[120] }
theorem kA_err : kA.err = 0 := by decide +kernel
theorem kX_err : kX.err = 140 := by decide +kernel
theorem kY_err : kY.err = 70 := by decide +kernel
theorem kA_may : kA.May := J.may_iff.1 kA_err
/-- three jobs in three blocks -/
structure K3 (w W : World) (A X Y : Nat) (a x y : J) : Prop where
  bel : Below w.heap.size w W
  a : W.heap[A]? = some (jobj a)
  x : W.heap[X]? = some (jobj x)
  y : W.heap[Y]? = some (jobj y)
theorem K3.below {w W W' : World} {A X Y : Nat} {a x y : J} (h : K3 w W A X Y a x y) (hb : Below W.heap.size W W') : K3 w W' A X Y a x y :=
  ⟨h.bel.trans (hb.mono h.bel.size), (hb.block A (Array.getElem?_eq_some_iff.1 h.a).1).trans h.a, (hb.block X (Array.getElem?_eq_some_iff.1 h.x).1).trans h.x, (hb.block Y (Array.getElem?_eq_some_iff.1 h.y).1).trans h.y⟩
set_option maxRecDepth 100000 in
set_option maxHeartbeats 8000000 in
theorem known14_any (w : World) (hw : World7 w) (hnm : NamesOn w) : Calls Tryz.prog 5 #[] w fun e w' => e = .returned (.bool true) ∧ Below w.heap.size w w' := by
  have HMA := Lib.hid (fun W (hW : Below w.heap.size w W) => mayJ_any kA W (hw.tabs.next hW) (hnm.next hW))
  have HMX := Lib.hid (fun W (hW : Below w.heap.size w W) => mayJ_any kX W (hw.tabs.next hW) (hnm.next hW))
  have HMY := Lib.hid (fun W (hW : Below w.heap.size w W) => mayJ_any kY W (hw.tabs.next hW) (hnm.next hW))
  rw [kA_err] at HMA
  rw [kX_err] at HMX
  rw [kY_err] at HMY
  have hF : ∀ (n : Nat) (W : World), n ≤ 1000 → Below w.heap.size w W → Calls Tryz.prog 8 #[kA.val, .int .i64 (-1), .int .i64 172800, .int .i64 (n : Int)] W fun e w' => ∃ v, e = .returned v ∧ RowI w' W.heap.size (told14 (Cron.pB lDay) (Cron.pS lDay) (-1) 172800 n) v ∧ Below W.heap.size W w' :=
    fun n W hn hW => fires_any kA kA_may (-1) 172800 n (by omega) (by omega) hn W (hw.next hW) (hnm.next hW) (fun k hk => Cron.pB_lt _ k hk) (Cron.p_may kA_may.expr)
  have HF9 := Lib.hid (fun W hW => hF 9 W (by omega) hW)
  have HF2 := Lib.hid (fun W hW => hF 2 W (by omega) hW)
  rw [day_nine] at HF9
  rw [day_two] at HF2
  clear hF hw hnm
  unfold J.val J.cells jcells at HMA HMX HMY HF9 HF2
  go_enter Tryz.func5, Tryz.ntmps5
  go_wp2_with fail
  obtain ⟨w1, hw1⟩ : ∃ W, W = w.alloc (.cells #[.int .u64 0, .string (ByteArray.mk #[97]), .string (ByteArray.mk #[64, 100, 97, 105, 108, 121]), .int .i64 1, .int .i64 0, .int .i64 1, .int .i64 0, .int .i64 1, .slice none 0 0, .bool false, .int .u64 0, .int .i64 0] 25) := ⟨_, rfl⟩
  obtain ⟨A, hA⟩ : ∃ A, A = w.heap.size := ⟨_, rfl⟩
  have ha1 : w1.heap[A]? = some (jobj kA) := by rw [hw1, hA]; exact heap_alloc_new w _
  have hb1 : Below w.heap.size w w1 := by rw [hw1]; exact (Below.refl _ _).alloc (Nat.le_refl _) _
  rw [← hw1]
  try rw [show (Value.pointer (some ⟨w.heap.size, 0, none⟩)) = .pointer (some ⟨A, 0, none⟩) by rw [hA]]
  have HA := Lib.hid hA
  clear hw1 hA
  obtain ⟨ja, hja⟩ : ∃ j, j = kA := ⟨_, rfl⟩
  have hX : kX = { ja with name := ByteArray.mk #[] } := by rw [hja]; rfl
  have hY : kY = { ja with expr := ByteArray.mk #[120] } := by rw [hja]; rfl
  rw [← hja] at ha1 HMA HF9 HF2
  obtain ⟨jx, hjx⟩ : ∃ j, j = kX := ⟨_, rfl⟩
  obtain ⟨jy, hjy⟩ : ∃ j, j = kY := ⟨_, rfl⟩
  rw [← hjx] at hX HMX
  rw [← hjy] at hY HMY
  have HXE := Lib.hid hX
  have HYE := Lib.hid hY
  clear hja hX hY hjx hjy
  refine wp_region_held_drew (S := fun W => W.heap[A]? = some (jobj ja)) (by kernel_rfl) ha1 (fun hHeld => ?_)
  obtain ⟨u0, hu0⟩ : ∃ u, u = w1.drew := ⟨_, rfl⟩
  have hau0 : u0.heap[A]? = some (jobj ja) := by rw [hu0]; exact ha1
  have hbu0 : Below w.heap.size w u0 := by rw [hu0]; exact hb1.drew
  rw [← hu0]
  have HAu0 := Lib.hid hau0
  have HBu0 := Lib.hid hbu0
  clear ha1 hb1 hu0 hHeld hbu0
  refine wpAnyH_take (i := 0) (oi := ?_) (v := ?_) ?_ (by kernel_rfl) (by kernel_rfl) (by kernel_rfl) ?_ (Or.inl ⟨?_, ?_⟩) (by assumption) ?_
  rotate_left 2
  focus (simp only [List.getElem?_toArray, List.getElem?_cons_zero]; rfl)
  focus exact fun _ _ _ h => h
  focus rfl
  focus (intro W hS; (try dsimp only at hS); obtain ⟨⟨k0, k1, k2, k3, k4, k5⟩, k6, k7, k8, k9, k10, k11⟩ := jobj_cells hS; go_simp; (try with_reducible rfl))
  try simp only [Act.put]
  try simp only [List.setIfInBounds_toArray]
  try simp only [List.set_cons_succ]
  try simp only [List.set_cons_zero]
  refine wpAnyH_take (i := 1) (oi := ?_) (v := ?_) ?_ (by kernel_rfl) (by kernel_rfl) (by kernel_rfl) ?_ (Or.inl ⟨?_, ?_⟩) (by assumption) ?_
  rotate_left 2
  focus (simp only [List.getElem?_toArray, List.getElem?_cons_succ, List.getElem?_cons_zero]; rfl)
  focus exact fun _ _ _ h => h
  focus rfl
  focus (intro W hS; (try dsimp only at hS); obtain ⟨⟨k0, k1, k2, k3, k4, k5⟩, k6, k7, k8, k9, k10, k11⟩ := jobj_cells hS; go_simp; (try with_reducible rfl))
  try simp only [Act.put]
  try simp only [List.setIfInBounds_toArray]
  try simp only [List.set_cons_succ]
  try simp only [List.set_cons_zero]
  refine wpAnyH_ready (rs := [2, 3]) (by kernel_rfl) (by simp) ?_
  refine AllReadyH.cons (o := ?_) ?_ (fun K hK => ?_) ?_
  rotate_left
  focus (simp only [List.getElem?_toArray, List.getElem?_cons_succ, List.getElem?_cons_zero]; rfl)
  rw [if_pos (by rfl)]
  · go_simp
    obtain ⟨u0x, hu0x⟩ : ∃ W, W = u0.alloc (.cells #[.int .u64 0, .string (ByteArray.mk #[]), .string (ByteArray.mk #[]), .int .i64 0, .int .i64 0, .int .i64 0, .int .i64 0, .int .i64 0, .slice none 0 0, .bool false, .int .u64 0, .int .i64 0] 25) := ⟨_, rfl⟩
    obtain ⟨X, hV⟩ : ∃ n, n = u0.heap.size := ⟨_, rfl⟩
    have hb : Below u0.heap.size u0 u0x := by rw [hu0x]; exact (Below.refl _ _).alloc (Nat.le_refl _) _
    have hv : u0x.heap[X]? = some (jobj zeroJ) := by rw [hu0x, hV]; exact heap_alloc_new u0 _
    have hau0x := (hb.block A (Array.getElem?_eq_some_iff.1 HAu0.out).1).trans HAu0.out
    have hneX : A ≠ X := by have := (Array.getElem?_eq_some_iff.1 HAu0.out).1; omega
    have hgeX : w.heap.size ≤ X := by have := HBu0.out.size; omega
    have HXu0x := Lib.hid hv
    have HAu0x := Lib.hid hau0x
    have HBu0x := Lib.hid (HBu0.out.trans (hb.mono HBu0.out.size))
    rw [← hu0x, ← hV]
    clear hu0x hV hb hv
    refine hK.out _ _ hau0x (fun hHeld => ?_)
    clear hK K
    try simp only [Act.put]
    try simp only [List.setIfInBounds_toArray]
    try simp only [List.set_cons_succ]
    try simp only [List.set_cons_zero]
    refine wpAnyH_ready (rs := [3]) (by kernel_rfl) (by simp) ?_
    refine AllReadyH.cons (o := ?_) ?_ (fun K hK => ?_) AllReadyH.nil
    rotate_left
    focus (simp only [List.getElem?_toArray, List.getElem?_cons_succ, List.getElem?_cons_zero]; rfl)
    rw [if_pos (by rfl)]
    go_simp
    obtain ⟨u0xy, hu0xy⟩ : ∃ W, W = u0x.alloc (.cells #[.int .u64 0, .string (ByteArray.mk #[]), .string (ByteArray.mk #[]), .int .i64 0, .int .i64 0, .int .i64 0, .int .i64 0, .int .i64 0, .slice none 0 0, .bool false, .int .u64 0, .int .i64 0] 25) := ⟨_, rfl⟩
    obtain ⟨Y, hV⟩ : ∃ n, n = u0x.heap.size := ⟨_, rfl⟩
    have hb : Below u0x.heap.size u0x u0xy := by rw [hu0xy]; exact (Below.refl _ _).alloc (Nat.le_refl _) _
    have hv : u0xy.heap[Y]? = some (jobj zeroJ) := by rw [hu0xy, hV]; exact heap_alloc_new u0x _
    have hau0xy := (hb.block A (Array.getElem?_eq_some_iff.1 HAu0x.out).1).trans HAu0x.out
    have hneY : A ≠ Y := by have := (Array.getElem?_eq_some_iff.1 HAu0x.out).1; omega
    have hgeY : w.heap.size ≤ Y := by have := HBu0x.out.size; omega
    have hXold := (hb.block X (Array.getElem?_eq_some_iff.1 HXu0x.out).1).trans HXu0x.out
    have hXY : X ≠ Y := by have := (Array.getElem?_eq_some_iff.1 HXu0x.out).1; omega
    have HXu0xy := Lib.hid hXold
    clear hXold
    have HYu0xy := Lib.hid hv
    have HAu0xy := Lib.hid hau0xy
    have HBu0xy := Lib.hid (HBu0x.out.trans (hb.mono HBu0x.out.size))
    rw [← hu0xy, ← hV]
    clear hu0xy hV hb hv
    refine hK.out _ _ hau0xy (fun hHeld => ?_)
    clear hK K
    try simp only [Act.put]
    try simp only [List.setIfInBounds_toArray]
    try simp only [List.set_cons_succ]
    try simp only [List.set_cons_zero]
    refine wpAnyH_ready (rs := [4]) (by kernel_rfl) (by simp) ?_
    refine AllReadyH.cons (o := ?_) ?_ (fun K hK => ?_) AllReadyH.nil
    rotate_left
    focus (simp only [List.getElem?_toArray, List.getElem?_cons_succ, List.getElem?_cons_zero]; rfl)
    rw [if_pos (by rfl)]
    refine wp_store_row 25 _ _ rfl X #[.int .u64 ja.id, .string ja.name, .string ja.expr, .int .i64 ja.pol, .int .i64 ja.gra, .int .i64 ja.lim, .int .i64 ja.ret, .int .i64 ja.tim, .slice ja.da ja.deps.length ja.dc, .bool ja.pau, .int .u64 ja.ver, .int .i64 ja.seen] rfl rfl 25 zeroJ.cells HXu0xy.out (by kernel_rfl) rfl (by kernel_rfl) ?_
    obtain ⟨u0xyp, hu0xyp⟩ : ∃ W, W = u0xy.setRow X #[.int .u64 ja.id, .string ja.name, .string ja.expr, .int .i64 ja.pol, .int .i64 ja.gra, .int .i64 ja.lim, .int .i64 ja.ret, .int .i64 ja.tim, .slice ja.da ja.deps.length ja.dc, .bool ja.pau, .int .u64 ja.ver, .int .i64 ja.seen] := ⟨_, rfl⟩
    have hx2 : u0xyp.heap[X]? = some (jobj ja) := by rw [hu0xyp]; exact setRow_heap _ _ _ _ _ _ HXu0xy.out
    have hy2 : u0xyp.heap[Y]? = some (jobj zeroJ) := by rw [hu0xyp]; exact (setRow_other _ _ _ _ (Ne.symm hXY)).trans HYu0xy.out
    have hau0xyp : u0xyp.heap[A]? = some (jobj ja) := by rw [hu0xyp]; exact (setRow_other _ _ _ _ hneX).trans HAu0xy.out
    have hb2 : Below w.heap.size w u0xyp := by rw [hu0xyp]; exact HBu0xy.out.trans ⟨rfl, rfl, rfl, by rw [setRow_size]; exact Nat.le_refl _, fun k hk => setRow_other _ _ _ _ (by omega)⟩
    rw [← hu0xyp]
    have HXu0xyp := Lib.hid hx2
    have HYu0xyp := Lib.hid hy2
    have HAu0xyp := Lib.hid hau0xyp
    have HBu0xyp := Lib.hid hb2
    clear hu0xyp hx2 hy2 hb2
    refine hK.out _ _ hau0xyp (fun hHeld => ?_)
    clear hK K
    try simp only [Act.put]
    try simp only [List.setIfInBounds_toArray]
    try simp only [List.set_cons_succ]
    try simp only [List.set_cons_zero]
    refine wpAnyH_ready (rs := [5]) (by kernel_rfl) (by simp) ?_
    refine AllReadyH.cons (o := ?_) ?_ (fun K hK => ?_) AllReadyH.nil
    rotate_left
    focus (simp only [List.getElem?_toArray, List.getElem?_cons_succ, List.getElem?_cons_zero]; rfl)
    rw [if_pos (by rfl)]
    refine wp_store_row 25 _ _ rfl Y #[.int .u64 ja.id, .string ja.name, .string ja.expr, .int .i64 ja.pol, .int .i64 ja.gra, .int .i64 ja.lim, .int .i64 ja.ret, .int .i64 ja.tim, .slice ja.da ja.deps.length ja.dc, .bool ja.pau, .int .u64 ja.ver, .int .i64 ja.seen] rfl rfl 25 zeroJ.cells HYu0xyp.out (by kernel_rfl) rfl (by kernel_rfl) ?_
    obtain ⟨u0xypq, hu0xypq⟩ : ∃ W, W = u0xyp.setRow Y #[.int .u64 ja.id, .string ja.name, .string ja.expr, .int .i64 ja.pol, .int .i64 ja.gra, .int .i64 ja.lim, .int .i64 ja.ret, .int .i64 ja.tim, .slice ja.da ja.deps.length ja.dc, .bool ja.pau, .int .u64 ja.ver, .int .i64 ja.seen] := ⟨_, rfl⟩
    have hy2 : u0xypq.heap[Y]? = some (jobj ja) := by rw [hu0xypq]; exact setRow_heap _ _ _ _ _ _ HYu0xyp.out
    have hx2 : u0xypq.heap[X]? = some (jobj ja) := by rw [hu0xypq]; exact (setRow_other _ _ _ _ hXY).trans HXu0xyp.out
    have hau0xypq : u0xypq.heap[A]? = some (jobj ja) := by rw [hu0xypq]; exact (setRow_other _ _ _ _ hneY).trans HAu0xyp.out
    have hb2 : Below w.heap.size w u0xypq := by rw [hu0xypq]; exact HBu0xyp.out.trans ⟨rfl, rfl, rfl, by rw [setRow_size]; exact Nat.le_refl _, fun k hk => setRow_other _ _ _ _ (by omega)⟩
    rw [← hu0xypq]
    have HXu0xypq := Lib.hid hx2
    have HYu0xypq := Lib.hid hy2
    have HAu0xypq := Lib.hid hau0xypq
    have HBu0xypq := Lib.hid hb2
    clear hu0xypq hx2 hy2 hb2
    refine hK.out _ _ hau0xypq (fun hHeld => ?_)
    clear hK K
    try simp only [Act.put]
    try simp only [List.setIfInBounds_toArray]
    try simp only [List.set_cons_succ]
    try simp only [List.set_cons_zero]
    refine wpAnyH_done (by kernel_rfl) ?_ _
    clear hHeld
    obtain ⟨U, hU⟩ : ∃ U, U = u0xypq := ⟨_, rfl⟩
    rw [← hU] at HXu0xypq HYu0xypq HAu0xypq HBu0xypq ⊢
    clear hU
    have hx1 := jset_name HXu0xypq.out (ByteArray.mk #[])
    rw [← HXE.out] at hx1
    have hy1 : (U.setCell ⟨X, 1, none⟩ (.string (ByteArray.mk #[]))).heap[Y]? = some (jobj ja) := (Below.heap_setCell _ _ _ _ (Ne.symm hXY)).trans HYu0xypq.out
    have ha1 : (U.setCell ⟨X, 1, none⟩ (.string (ByteArray.mk #[]))).heap[A]? = some (jobj ja) := (Below.heap_setCell _ _ _ _ hneX).trans HAu0xypq.out
    have hy2 := jset_expr hy1 (ByteArray.mk #[120])
    rw [← HYE.out] at hy2
    have hx2 := (Below.heap_setCell (U.setCell ⟨X, 1, none⟩ (.string (ByteArray.mk #[]))) ⟨Y, 2, none⟩ (.string (ByteArray.mk #[120])) X hXY).trans hx1
    have ha2 := (Below.heap_setCell (U.setCell ⟨X, 1, none⟩ (.string (ByteArray.mk #[]))) ⟨Y, 2, none⟩ (.string (ByteArray.mk #[120])) A hneY).trans ha1
    have hb2 := (HBu0xypq.out.setCell (p := ⟨X, 1, none⟩) hgeX (.string (ByteArray.mk #[]))).setCell (p := ⟨Y, 2, none⟩) hgeY (.string (ByteArray.mk #[120]))
    have K0 := Lib.hid (show K3 w ((U.setCell ⟨X, 1, none⟩ (.string (ByteArray.mk #[]))).setCell ⟨Y, 2, none⟩ (.string (ByteArray.mk #[120]))) A X Y ja jx jy from ⟨hb2, ha2, hx2, hy2⟩)
    obtain ⟨⟨-, g1, -, -, -, -⟩, -⟩ := jobj_cells HXu0xypq.out
    have f1 := jfree HXu0xypq.out 1
    obtain ⟨⟨-, -, g2, -, -, -⟩, -⟩ := jobj_cells hy1
    have f2 := jfree hy1 2
    obtain ⟨⟨c0, c1, c2, c3, c4, c5⟩, c6, c7, c8, c9, c10, c11⟩ := jobj_cells ha2
    clear hx1 hy1 ha1 hy2 hx2 ha2 hb2
    go_wp2_with fail
    obtain ⟨x0, hx0⟩ : ∃ W, W = (U.setCell ⟨X, 1, none⟩ (.string (ByteArray.mk #[]))).setCell ⟨Y, 2, none⟩ (.string (ByteArray.mk #[120])) := ⟨_, rfl⟩
    rw [← hx0] at K0 ⊢
    clear hx0 g1 f1 g2 f2
    clear c0 c1 c2 c3 c4 c5 c6 c7 c8 c9 c10 c11
    refine (HMA.out _ K0.out.bel).mono ?_
    rintro e x1 ⟨rfl, hb⟩
    have K1 := Lib.hid (K0.out.below hb)
    clear hb
    obtain ⟨⟨c0, c1, c2, c3, c4, c5⟩, c6, c7, c8, c9, c10, c11⟩ := jobj_cells K1.out.x
    go_wp2_with fail
    refine (HMX.out _ K1.out.bel).mono ?_
    rintro e x2 ⟨rfl, hb⟩
    have K2 := Lib.hid (K1.out.below hb)
    clear hb
    clear c0 c1 c2 c3 c4 c5 c6 c7 c8 c9 c10 c11
    obtain ⟨⟨c0, c1, c2, c3, c4, c5⟩, c6, c7, c8, c9, c10, c11⟩ := jobj_cells K2.out.y
    go_wp2_with fail
    refine (HMY.out _ K2.out.bel).mono ?_
    rintro e x3 ⟨rfl, hb⟩
    have K3' := Lib.hid (K2.out.below hb)
    clear hb
    clear c0 c1 c2 c3 c4 c5 c6 c7 c8 c9 c10 c11
    obtain ⟨⟨c0, c1, c2, c3, c4, c5⟩, c6, c7, c8, c9, c10, c11⟩ := jobj_cells K3'.out.a
    go_wp2_with fail
    refine (HF9.out _ K3'.out.bel).mono ?_
    rintro e x4 ⟨v, rfl, hrow, hb⟩
    have K4 := Lib.hid (K3'.out.below hb)
    obtain ⟨va, vc, rfl, -, -, -, hvv, -⟩ := own_shape hrow
    clear hb hrow
    clear c0 c1 c2 c3 c4 c5 c6 c7 c8 c9 c10 c11
    go_wp2_with fail
    have hb5 : Below x4.heap.size x4 (x4.alloc (.cells #[.int .i64 0, .int .i64 86400, .int .i64 172800] 2)) := (Below.refl _ _).alloc (Nat.le_refl _) _
    refine (moments_any (xs := [0, 86400, 172800]) (ys := [0, 86400, 172800]) (d := 3) (hvv.below hb5) (vals_row [.int .i64 0, .int .i64 86400, .int .i64 172800] (heap_alloc_new x4 _) (fun i hi => by match i, hi with | 0, _ => rfl | 1, _ => rfl | 2, _ => rfl)) (by decide)).mono ?_
    rintro e x5 ⟨rfl, hd⟩
    have K5 := Lib.hid ((K4.out.below hb5).below hd.bel)
    have hdt : decide (([0, 86400, 172800] : List Int) = [0, 86400, 172800]) = true := by decide
    clear hb5 hd hvv
    obtain ⟨⟨c0, c1, c2, c3, c4, c5⟩, c6, c7, c8, c9, c10, c11⟩ := jobj_cells K5.out.a
    go_wp2_with fail
    refine (HF2.out _ K5.out.bel).mono ?_
    rintro e x6 ⟨v, rfl, hrow, hb⟩
    have K6 := Lib.hid (K5.out.below hb)
    obtain ⟨va2, vc2, rfl, -, -, -, hvv, -⟩ := own_shape hrow
    clear hb hrow
    clear c0 c1 c2 c3 c4 c5 c6 c7 c8 c9 c10 c11
    go_wp2_with fail
    have hb7 : Below x6.heap.size x6 (x6.alloc (.cells #[.int .i64 86400, .int .i64 172800] 2)) := (Below.refl _ _).alloc (Nat.le_refl _) _
    refine (moments_any (xs := [86400, 172800]) (ys := [86400, 172800]) (d := 2) (hvv.below hb7) (vals_row [.int .i64 86400, .int .i64 172800] (heap_alloc_new x6 _) (fun i hi => by match i, hi with | 0, _ => rfl | 1, _ => rfl)) (by decide)).mono ?_
    rintro e x7 ⟨rfl, hd⟩
    have K7 := Lib.hid ((K6.out.below hb7).below hd.bel)
    have hdt2 : decide (([86400, 172800] : List Int) = [86400, 172800]) = true := by decide
    clear hb7 hd hvv
    go_wp2_with fail
    go_ret
    exact ⟨by first | rfl | simp, K7.out.bel⟩
  refine AllReadyH.cons (o := ?_) ?_ (fun K hK => ?_) AllReadyH.nil
  rotate_left
  focus (simp only [List.getElem?_toArray, List.getElem?_cons_succ, List.getElem?_cons_zero]; rfl)
  rw [if_pos (by rfl)]
  go_simp
  obtain ⟨u0y, hu0y⟩ : ∃ W, W = u0.alloc (.cells #[.int .u64 0, .string (ByteArray.mk #[]), .string (ByteArray.mk #[]), .int .i64 0, .int .i64 0, .int .i64 0, .int .i64 0, .int .i64 0, .slice none 0 0, .bool false, .int .u64 0, .int .i64 0] 25) := ⟨_, rfl⟩
  obtain ⟨Y, hV⟩ : ∃ n, n = u0.heap.size := ⟨_, rfl⟩
  have hb : Below u0.heap.size u0 u0y := by rw [hu0y]; exact (Below.refl _ _).alloc (Nat.le_refl _) _
  have hv : u0y.heap[Y]? = some (jobj zeroJ) := by rw [hu0y, hV]; exact heap_alloc_new u0 _
  have hau0y := (hb.block A (Array.getElem?_eq_some_iff.1 HAu0.out).1).trans HAu0.out
  have hneY : A ≠ Y := by have := (Array.getElem?_eq_some_iff.1 HAu0.out).1; omega
  have hgeY : w.heap.size ≤ Y := by have := HBu0.out.size; omega
  have HYu0y := Lib.hid hv
  have HAu0y := Lib.hid hau0y
  have HBu0y := Lib.hid (HBu0.out.trans (hb.mono HBu0.out.size))
  rw [← hu0y, ← hV]
  clear hu0y hV hb hv
  refine hK.out _ _ hau0y (fun hHeld => ?_)
  clear hK K
  try simp only [Act.put]
  try simp only [List.setIfInBounds_toArray]
  try simp only [List.set_cons_succ]
  try simp only [List.set_cons_zero]
  refine wpAnyH_ready (rs := [2]) (by kernel_rfl) (by simp) ?_
  refine AllReadyH.cons (o := ?_) ?_ (fun K hK => ?_) AllReadyH.nil
  rotate_left
  focus (simp only [List.getElem?_toArray, List.getElem?_cons_succ, List.getElem?_cons_zero]; rfl)
  rw [if_pos (by rfl)]
  go_simp
  obtain ⟨u0yx, hu0yx⟩ : ∃ W, W = u0y.alloc (.cells #[.int .u64 0, .string (ByteArray.mk #[]), .string (ByteArray.mk #[]), .int .i64 0, .int .i64 0, .int .i64 0, .int .i64 0, .int .i64 0, .slice none 0 0, .bool false, .int .u64 0, .int .i64 0] 25) := ⟨_, rfl⟩
  obtain ⟨X, hV⟩ : ∃ n, n = u0y.heap.size := ⟨_, rfl⟩
  have hb : Below u0y.heap.size u0y u0yx := by rw [hu0yx]; exact (Below.refl _ _).alloc (Nat.le_refl _) _
  have hv : u0yx.heap[X]? = some (jobj zeroJ) := by rw [hu0yx, hV]; exact heap_alloc_new u0y _
  have hau0yx := (hb.block A (Array.getElem?_eq_some_iff.1 HAu0y.out).1).trans HAu0y.out
  have hneX : A ≠ X := by have := (Array.getElem?_eq_some_iff.1 HAu0y.out).1; omega
  have hgeX : w.heap.size ≤ X := by have := HBu0y.out.size; omega
  have hYold := (hb.block Y (Array.getElem?_eq_some_iff.1 HYu0y.out).1).trans HYu0y.out
  have hXY : X ≠ Y := by have := (Array.getElem?_eq_some_iff.1 HYu0y.out).1; omega
  have HYu0yx := Lib.hid hYold
  clear hYold
  have HXu0yx := Lib.hid hv
  have HAu0yx := Lib.hid hau0yx
  have HBu0yx := Lib.hid (HBu0y.out.trans (hb.mono HBu0y.out.size))
  rw [← hu0yx, ← hV]
  clear hu0yx hV hb hv
  refine hK.out _ _ hau0yx (fun hHeld => ?_)
  clear hK K
  try simp only [Act.put]
  try simp only [List.setIfInBounds_toArray]
  try simp only [List.set_cons_succ]
  try simp only [List.set_cons_zero]
  refine wpAnyH_ready (rs := [4]) (by kernel_rfl) (by simp) ?_
  refine AllReadyH.cons (o := ?_) ?_ (fun K hK => ?_) AllReadyH.nil
  rotate_left
  focus (simp only [List.getElem?_toArray, List.getElem?_cons_succ, List.getElem?_cons_zero]; rfl)
  rw [if_pos (by rfl)]
  refine wp_store_row 25 _ _ rfl X #[.int .u64 ja.id, .string ja.name, .string ja.expr, .int .i64 ja.pol, .int .i64 ja.gra, .int .i64 ja.lim, .int .i64 ja.ret, .int .i64 ja.tim, .slice ja.da ja.deps.length ja.dc, .bool ja.pau, .int .u64 ja.ver, .int .i64 ja.seen] rfl rfl 25 zeroJ.cells HXu0yx.out (by kernel_rfl) rfl (by kernel_rfl) ?_
  obtain ⟨u0yxp, hu0yxp⟩ : ∃ W, W = u0yx.setRow X #[.int .u64 ja.id, .string ja.name, .string ja.expr, .int .i64 ja.pol, .int .i64 ja.gra, .int .i64 ja.lim, .int .i64 ja.ret, .int .i64 ja.tim, .slice ja.da ja.deps.length ja.dc, .bool ja.pau, .int .u64 ja.ver, .int .i64 ja.seen] := ⟨_, rfl⟩
  have hx2 : u0yxp.heap[X]? = some (jobj ja) := by rw [hu0yxp]; exact setRow_heap _ _ _ _ _ _ HXu0yx.out
  have hy2 : u0yxp.heap[Y]? = some (jobj zeroJ) := by rw [hu0yxp]; exact (setRow_other _ _ _ _ (Ne.symm hXY)).trans HYu0yx.out
  have hau0yxp : u0yxp.heap[A]? = some (jobj ja) := by rw [hu0yxp]; exact (setRow_other _ _ _ _ hneX).trans HAu0yx.out
  have hb2 : Below w.heap.size w u0yxp := by rw [hu0yxp]; exact HBu0yx.out.trans ⟨rfl, rfl, rfl, by rw [setRow_size]; exact Nat.le_refl _, fun k hk => setRow_other _ _ _ _ (by omega)⟩
  rw [← hu0yxp]
  have HXu0yxp := Lib.hid hx2
  have HYu0yxp := Lib.hid hy2
  have HAu0yxp := Lib.hid hau0yxp
  have HBu0yxp := Lib.hid hb2
  clear hu0yxp hx2 hy2 hb2
  refine hK.out _ _ hau0yxp (fun hHeld => ?_)
  clear hK K
  try simp only [Act.put]
  try simp only [List.setIfInBounds_toArray]
  try simp only [List.set_cons_succ]
  try simp only [List.set_cons_zero]
  refine wpAnyH_ready (rs := [5]) (by kernel_rfl) (by simp) ?_
  refine AllReadyH.cons (o := ?_) ?_ (fun K hK => ?_) AllReadyH.nil
  rotate_left
  focus (simp only [List.getElem?_toArray, List.getElem?_cons_succ, List.getElem?_cons_zero]; rfl)
  rw [if_pos (by rfl)]
  refine wp_store_row 25 _ _ rfl Y #[.int .u64 ja.id, .string ja.name, .string ja.expr, .int .i64 ja.pol, .int .i64 ja.gra, .int .i64 ja.lim, .int .i64 ja.ret, .int .i64 ja.tim, .slice ja.da ja.deps.length ja.dc, .bool ja.pau, .int .u64 ja.ver, .int .i64 ja.seen] rfl rfl 25 zeroJ.cells HYu0yxp.out (by kernel_rfl) rfl (by kernel_rfl) ?_
  obtain ⟨u0yxpq, hu0yxpq⟩ : ∃ W, W = u0yxp.setRow Y #[.int .u64 ja.id, .string ja.name, .string ja.expr, .int .i64 ja.pol, .int .i64 ja.gra, .int .i64 ja.lim, .int .i64 ja.ret, .int .i64 ja.tim, .slice ja.da ja.deps.length ja.dc, .bool ja.pau, .int .u64 ja.ver, .int .i64 ja.seen] := ⟨_, rfl⟩
  have hy2 : u0yxpq.heap[Y]? = some (jobj ja) := by rw [hu0yxpq]; exact setRow_heap _ _ _ _ _ _ HYu0yxp.out
  have hx2 : u0yxpq.heap[X]? = some (jobj ja) := by rw [hu0yxpq]; exact (setRow_other _ _ _ _ hXY).trans HXu0yxp.out
  have hau0yxpq : u0yxpq.heap[A]? = some (jobj ja) := by rw [hu0yxpq]; exact (setRow_other _ _ _ _ hneY).trans HAu0yxp.out
  have hb2 : Below w.heap.size w u0yxpq := by rw [hu0yxpq]; exact HBu0yxp.out.trans ⟨rfl, rfl, rfl, by rw [setRow_size]; exact Nat.le_refl _, fun k hk => setRow_other _ _ _ _ (by omega)⟩
  rw [← hu0yxpq]
  have HXu0yxpq := Lib.hid hx2
  have HYu0yxpq := Lib.hid hy2
  have HAu0yxpq := Lib.hid hau0yxpq
  have HBu0yxpq := Lib.hid hb2
  clear hu0yxpq hx2 hy2 hb2
  refine hK.out _ _ hau0yxpq (fun hHeld => ?_)
  clear hK K
  try simp only [Act.put]
  try simp only [List.setIfInBounds_toArray]
  try simp only [List.set_cons_succ]
  try simp only [List.set_cons_zero]
  refine wpAnyH_done (by kernel_rfl) ?_ _
  clear hHeld
  obtain ⟨U, hU⟩ : ∃ U, U = u0yxpq := ⟨_, rfl⟩
  rw [← hU] at HXu0yxpq HYu0yxpq HAu0yxpq HBu0yxpq ⊢
  clear hU
  have hx1 := jset_name HXu0yxpq.out (ByteArray.mk #[])
  rw [← HXE.out] at hx1
  have hy1 : (U.setCell ⟨X, 1, none⟩ (.string (ByteArray.mk #[]))).heap[Y]? = some (jobj ja) := (Below.heap_setCell _ _ _ _ (Ne.symm hXY)).trans HYu0yxpq.out
  have ha1 : (U.setCell ⟨X, 1, none⟩ (.string (ByteArray.mk #[]))).heap[A]? = some (jobj ja) := (Below.heap_setCell _ _ _ _ hneX).trans HAu0yxpq.out
  have hy2 := jset_expr hy1 (ByteArray.mk #[120])
  rw [← HYE.out] at hy2
  have hx2 := (Below.heap_setCell (U.setCell ⟨X, 1, none⟩ (.string (ByteArray.mk #[]))) ⟨Y, 2, none⟩ (.string (ByteArray.mk #[120])) X hXY).trans hx1
  have ha2 := (Below.heap_setCell (U.setCell ⟨X, 1, none⟩ (.string (ByteArray.mk #[]))) ⟨Y, 2, none⟩ (.string (ByteArray.mk #[120])) A hneY).trans ha1
  have hb2 := (HBu0yxpq.out.setCell (p := ⟨X, 1, none⟩) hgeX (.string (ByteArray.mk #[]))).setCell (p := ⟨Y, 2, none⟩) hgeY (.string (ByteArray.mk #[120]))
  have K0 := Lib.hid (show K3 w ((U.setCell ⟨X, 1, none⟩ (.string (ByteArray.mk #[]))).setCell ⟨Y, 2, none⟩ (.string (ByteArray.mk #[120]))) A X Y ja jx jy from ⟨hb2, ha2, hx2, hy2⟩)
  obtain ⟨⟨-, g1, -, -, -, -⟩, -⟩ := jobj_cells HXu0yxpq.out
  have f1 := jfree HXu0yxpq.out 1
  obtain ⟨⟨-, -, g2, -, -, -⟩, -⟩ := jobj_cells hy1
  have f2 := jfree hy1 2
  obtain ⟨⟨c0, c1, c2, c3, c4, c5⟩, c6, c7, c8, c9, c10, c11⟩ := jobj_cells ha2
  clear hx1 hy1 ha1 hy2 hx2 ha2 hb2
  go_wp2_with fail
  obtain ⟨x0, hx0⟩ : ∃ W, W = (U.setCell ⟨X, 1, none⟩ (.string (ByteArray.mk #[]))).setCell ⟨Y, 2, none⟩ (.string (ByteArray.mk #[120])) := ⟨_, rfl⟩
  rw [← hx0] at K0 ⊢
  clear hx0 g1 f1 g2 f2
  clear c0 c1 c2 c3 c4 c5 c6 c7 c8 c9 c10 c11
  refine (HMA.out _ K0.out.bel).mono ?_
  rintro e x1 ⟨rfl, hb⟩
  have K1 := Lib.hid (K0.out.below hb)
  clear hb
  obtain ⟨⟨c0, c1, c2, c3, c4, c5⟩, c6, c7, c8, c9, c10, c11⟩ := jobj_cells K1.out.x
  go_wp2_with fail
  refine (HMX.out _ K1.out.bel).mono ?_
  rintro e x2 ⟨rfl, hb⟩
  have K2 := Lib.hid (K1.out.below hb)
  clear hb
  clear c0 c1 c2 c3 c4 c5 c6 c7 c8 c9 c10 c11
  obtain ⟨⟨c0, c1, c2, c3, c4, c5⟩, c6, c7, c8, c9, c10, c11⟩ := jobj_cells K2.out.y
  go_wp2_with fail
  refine (HMY.out _ K2.out.bel).mono ?_
  rintro e x3 ⟨rfl, hb⟩
  have K3' := Lib.hid (K2.out.below hb)
  clear hb
  clear c0 c1 c2 c3 c4 c5 c6 c7 c8 c9 c10 c11
  obtain ⟨⟨c0, c1, c2, c3, c4, c5⟩, c6, c7, c8, c9, c10, c11⟩ := jobj_cells K3'.out.a
  go_wp2_with fail
  refine (HF9.out _ K3'.out.bel).mono ?_
  rintro e x4 ⟨v, rfl, hrow, hb⟩
  have K4 := Lib.hid (K3'.out.below hb)
  obtain ⟨va, vc, rfl, -, -, -, hvv, -⟩ := own_shape hrow
  clear hb hrow
  clear c0 c1 c2 c3 c4 c5 c6 c7 c8 c9 c10 c11
  go_wp2_with fail
  have hb5 : Below x4.heap.size x4 (x4.alloc (.cells #[.int .i64 0, .int .i64 86400, .int .i64 172800] 2)) := (Below.refl _ _).alloc (Nat.le_refl _) _
  refine (moments_any (xs := [0, 86400, 172800]) (ys := [0, 86400, 172800]) (d := 3) (hvv.below hb5) (vals_row [.int .i64 0, .int .i64 86400, .int .i64 172800] (heap_alloc_new x4 _) (fun i hi => by match i, hi with | 0, _ => rfl | 1, _ => rfl | 2, _ => rfl)) (by decide)).mono ?_
  rintro e x5 ⟨rfl, hd⟩
  have K5 := Lib.hid ((K4.out.below hb5).below hd.bel)
  have hdt : decide (([0, 86400, 172800] : List Int) = [0, 86400, 172800]) = true := by decide
  clear hb5 hd hvv
  obtain ⟨⟨c0, c1, c2, c3, c4, c5⟩, c6, c7, c8, c9, c10, c11⟩ := jobj_cells K5.out.a
  go_wp2_with fail
  refine (HF2.out _ K5.out.bel).mono ?_
  rintro e x6 ⟨v, rfl, hrow, hb⟩
  have K6 := Lib.hid (K5.out.below hb)
  obtain ⟨va2, vc2, rfl, -, -, -, hvv, -⟩ := own_shape hrow
  clear hb hrow
  clear c0 c1 c2 c3 c4 c5 c6 c7 c8 c9 c10 c11
  go_wp2_with fail
  have hb7 : Below x6.heap.size x6 (x6.alloc (.cells #[.int .i64 86400, .int .i64 172800] 2)) := (Below.refl _ _).alloc (Nat.le_refl _) _
  refine (moments_any (xs := [86400, 172800]) (ys := [86400, 172800]) (d := 2) (hvv.below hb7) (vals_row [.int .i64 86400, .int .i64 172800] (heap_alloc_new x6 _) (fun i hi => by match i, hi with | 0, _ => rfl | 1, _ => rfl)) (by decide)).mono ?_
  rintro e x7 ⟨rfl, hd⟩
  have K7 := Lib.hid ((K6.out.below hb7).below hd.bel)
  have hdt2 : decide (([86400, 172800] : List Int) = [86400, 172800]) = true := by decide
  clear hb7 hd hvv
  go_wp2_with fail
  go_ret
  exact ⟨by first | rfl | simp, K7.out.bel⟩
end Go.Proofs.YtoghalmjbbkjhaaGreatDoor.Job
