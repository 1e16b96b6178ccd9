/- vote.Get, by its contract. vote.join, by its contract: the parts that come next, and whether they are an image's. -/
import Derived.Test.YtaljfpkgancidaaReadV
import Derived.Test.YtaljfpkgancidaaBears
namespace Go.Proofs.Ytaljfpkgancidaa
open Go.RowKit Go.Maps Go.Sort Dsk

def getV : Option (Nat × Nat) → Value
  | some (t, v) => .tuple #[.agg #[.int .u64 (t : Int), .int .u64 (v : Int)], .int .i64 0]
  | none => .tuple #[.agg #[.int .u64 0, .int .u64 0], .int .i64 4]

abbrev zeroP : Obj := .cells #[.int .u64 0, .int .u64 0] 24

theorem two_cells {W : World} {b : Nat} {T : TypeId} {x y : Value} (h : W.heap[b]? = some (.cells #[x, y] T (0, 0))) (u v : Value) : ((W.setCell ⟨b, 0, none⟩ u).setCell ⟨b, 1, none⟩ v).heap[b]? = some (.cells #[u, v] T (0, 0)) := by
  have := cells_set (cells_set h 0 u) 1 v
  simpa using this
theorem two_at {W : World} {b : Nat} {T : TypeId} {x y : Value} (h : W.heap[b]? = some (.cells #[x, y] T (0, 0))) : W.cell? ⟨b, 0, none⟩ = some x ∧ W.cell? ⟨b, 1, none⟩ = some y :=
  ⟨by rw [cell_of_row _ _ 0 _ _ _ h]; rfl, by rw [cell_of_row _ _ 1 _ _ _ h]; rfl⟩
theorem two_below {W : World} {B b : Nat} (hb : B ≤ b) (u v : Value) {w : World} (h : Below B w W) : Below B w ((W.setCell ⟨b, 0, none⟩ u).setCell ⟨b, 1, none⟩ v) :=
  (h.setCell (p := ⟨b, 0, none⟩) hb u).setCell (p := ⟨b, 1, none⟩) hb v

set_option maxRecDepth 100000 in
set_option maxHeartbeats 1000000 in
theorem get_none (g B N : Nat) (o : Tags) (M : Files) (w : World) (hl : Liv w B o g M N) (ht : (M.at voteN).now.there = false) :
    Calls Try.prog 14 #[.pointer (some ⟨g, 0, none⟩)] w fun e w' => Below w.heap.size w w' ∧ e = .returned (.tuple #[.agg #[.int .u64 0, .int .u64 0], .int .i64 5]) := by
  have hb1 : Below w.heap.size w (w.alloc zeroP) := (Below.refl _ _).alloc (Nat.le_refl _) _
  have HRD := Lib.hid (voteread_none g B N o M voteN _ (hl.below hb1) (by decide) ht)
  have HB1 := Lib.hid hb1
  have hbk : (w.alloc zeroP).heap[w.heap.size]? = some zeroP := heap_alloc_new w _
  have HBK := Lib.hid hbk
  clear hl hb1 hbk
  go_enter Try.func14, Try.ntmps14
  go_wp2_with fail
  refine HRD.out.mono ?_
  rintro e w1 ⟨hb2, rfl⟩
  have hbk1 := (hb2.block w.heap.size (by simp)).trans HBK.out
  obtain ⟨c0, c1⟩ := two_at hbk1
  have f0 : w1.frozen? ⟨w.heap.size, 0, none⟩ = false := frozen_row hbk1
  have f1 : w1.frozen? ⟨w.heap.size, 1, none⟩ = false := frozen_row hbk1
  have HBK1 := Lib.hid hbk1
  have HB2 := Lib.hid (HB1.out.trans (hb2.mono HB1.out.size))
  clear hb2 hbk1
  go_wp2_with fail
  obtain ⟨d0, d1⟩ := two_at (two_cells HBK1.out (.int .u64 0) (.int .u64 0))
  exact bodyPost_ret (v := .tuple #[.agg #[.int .u64 0, .int .u64 0], .int .i64 5]) (by simp [results, Try.results14, go_sem, d0, d1]) rfl ⟨two_below (Nat.le_refl _) _ _ HB2.out, rfl⟩

set_option maxRecDepth 100000 in
set_option maxHeartbeats 1000000 in
theorem get_no (x : Value) (w : World) (hl : NoDisk w x) :
    Calls Try.prog 14 #[x] w fun e w' => Below w.heap.size w w' ∧ e = .returned (.tuple #[.agg #[.int .u64 0, .int .u64 0], .int .i64 1]) := by
  have hb1 : Below w.heap.size w (w.alloc zeroP) := (Below.refl _ _).alloc (Nat.le_refl _) _
  have HRD := Lib.hid (voteread_no x (.string ⟨voteN.toArray⟩) _ (hl.below hb1))
  have HB1 := Lib.hid hb1
  have hbk : (w.alloc zeroP).heap[w.heap.size]? = some zeroP := heap_alloc_new w _
  have HBK := Lib.hid hbk
  clear hl hb1 hbk
  go_enter Try.func14, Try.ntmps14
  go_wp2_with fail
  refine HRD.out.mono ?_
  rintro e w1 ⟨hb2, rfl⟩
  have hbk1 := (hb2.block w.heap.size (by simp)).trans HBK.out
  obtain ⟨c0, c1⟩ := two_at hbk1
  have f0 : w1.frozen? ⟨w.heap.size, 0, none⟩ = false := frozen_row hbk1
  have f1 : w1.frozen? ⟨w.heap.size, 1, none⟩ = false := frozen_row hbk1
  have HBK1 := Lib.hid hbk1
  have HB2 := Lib.hid (HB1.out.trans (hb2.mono HB1.out.size))
  clear hb2 hbk1
  go_wp2_with fail
  obtain ⟨d0, d1⟩ := two_at (two_cells HBK1.out (.int .u64 0) (.int .u64 0))
  exact bodyPost_ret (v := .tuple #[.agg #[.int .u64 0, .int .u64 0], .int .i64 1]) (by simp [results, Try.results14, go_sem, d0, d1]) rfl ⟨two_below (Nat.le_refl _) _ _ HB2.out, rfl⟩

set_option maxRecDepth 100000 in
set_option maxHeartbeats 2000000 in
theorem get_there (g B N : Nat) (o : Tags) (M : Files) (w : World) (hl : Liv w B o g M N) (ht : (M.at voteN).now.there = true) (hlen : (M.at voteN).now.bs.length ≤ 900000) :
    Calls Try.prog 14 #[.pointer (some ⟨g, 0, none⟩)] w fun e w' => Below w.heap.size w w' ∧ ∃ r, Vt.GetIs (M.at voteN).now.bs r ∧ e = .returned (getV r) := by
  have hb1 : Below w.heap.size w (w.alloc zeroP) := (Below.refl _ _).alloc (Nat.le_refl _) _
  have HRD := Lib.hid (voteread_any g B N o M voteN _ (hl.below hb1) (by decide) ht hlen)
  have HRNG := Lib.hid (Fil.now_ok (hl.ok voteN)).2.2
  obtain ⟨bs, hbs⟩ : ∃ bs, bs = (M.at voteN).now.bs := ⟨_, rfl⟩
  rw [← hbs] at HRD HRNG hlen ⊢
  have HB1 := Lib.hid hb1
  have hbk : (w.alloc zeroP).heap[w.heap.size]? = some zeroP := heap_alloc_new w _
  have HBK := Lib.hid hbk
  clear hl hb1 hbk hbs ht
  go_enter Try.func14, Try.ntmps14
  go_wp2_with fail
  refine HRD.out.mono ?_
  rintro e w1 ⟨hb2, ls, k, hsc, hk⟩
  have hbk1 := (hb2.block w.heap.size (by simp)).trans HBK.out
  have HBK1 := Lib.hid hbk1
  have HB2 := Lib.hid (HB1.out.trans (hb2.mono HB1.out.size))
  have HSC := Lib.hid hsc
  clear HRD hsc
  rcases hk with ⟨hk, rfl⟩ | ⟨hk, w0, R, rfl, hnx, hsz0, hbw0⟩
  · obtain ⟨c0, c1⟩ := two_at hbk1
    have f0 : w1.frozen? ⟨w.heap.size, 0, none⟩ = false := frozen_row hbk1
    have f1 : w1.frozen? ⟨w.heap.size, 1, none⟩ = false := frozen_row hbk1
    clear hb2 hbk1
    go_wp2_with fail
    obtain ⟨d0, d1⟩ := two_at (two_cells HBK1.out (.int .u64 0) (.int .u64 0))
    exact bodyPost_ret (v := .tuple #[.agg #[.int .u64 0, .int .u64 0], .int .i64 4]) (by simp [results, Try.results14, go_sem, d0, d1]) rfl ⟨two_below (Nat.le_refl _) _ _ HB2.out, none, Vt.get_not HSC.out (fun _ _ _ _ h => absurd h hk), rfl⟩
  · subst hk
    have hR1 := hnx.up
    obtain ⟨_, _, hRb, _⟩ := hnx.box
    have hR2 := hRb.lt
    simp only [World.size_alloc] at hsz0
    have hal : Below w1.heap.size w1 (w1.alloc zeroP) := (Below.refl _ _).alloc (Nat.le_refl _) _
    have hnx1 := hnx.keep hal
    have hb6 : (w1.alloc zeroP).heap[w1.heap.size]? = some zeroP := heap_alloc_new w1 _
    have hbk2 := (hal.block w.heap.size (lt_of_block hbk1)).trans hbk1
    have HB3 := Lib.hid (HB2.out.trans (hal.mono HB2.out.size))
    have HNX := Lib.hid hnx1
    have HB6 := Lib.hid hb6
    have HBK2 := Lib.hid hbk2
    have HBS := Lib.hid (Vt.Scans.full HRNG.out HSC.out rfl)
    clear hb2 hbk1 hnx hRb hal hnx1 hb6 hbk2 hbw0
    have hll : ls.length ≤ 1000000 := by
      have h6 := (HSC.out.le HRNG.out).2
      omega
    have HN1 := Lib.hid (next_any w0 _ R ls HNX.out hll)
    go_wp2_with fail
    refine HN1.out.mono ?_
    rintro e w2 ⟨A, C, rfl, hra, hnx2, ho2⟩
    obtain ⟨r, hr⟩ : ∃ r, r = ls.headD [] := ⟨_, rfl⟩
    rw [← hr] at hra ⊢
    have HR := Lib.hid hr
    clear hr
    obtain ⟨some1, hsome1⟩ : ∃ x, x = !ls.isEmpty := ⟨_, rfl⟩
    rw [← hsome1]
    clear hsome1
    have hb6 := (ho2.block w1.heap.size (by omega)).trans HB6.out
    have hbk3 := (ho2.block w.heap.size (by omega)).trans HBK2.out
    have HB4 := Lib.hid (HB3.out.trans (ho2.below (by omega)))
    have hs2 : w1.heap.size + 1 ≤ w2.heap.size := by have := ho2.size; simp only [World.size_alloc] at this; omega
    have HN2 := Lib.hid (next_any w0 w2 R ls.tail hnx2 (by rw [List.length_tail]; omega))
    clear hnx2 ho2 HN1
    go_wp2_with fail
    refine HN2.out.mono ?_
    rintro e w3 ⟨A3, C3, rfl, hra3, hnx3, ho3⟩
    obtain ⟨n3, hn3⟩ : ∃ x, x = (ls.tail.headD []).length := ⟨_, rfl⟩
    rw [← hn3]
    clear hn3
    have hb7 := (ho3.block w1.heap.size (by omega)).trans hb6
    have hbk4 := (ho3.block w.heap.size (by omega)).trans hbk3
    have HB5 := Lib.hid (HB4.out.trans (ho3.below (by omega)))
    have hs3 : w1.heap.size + 1 ≤ w3.heap.size := by have := ho3.size; omega
    have HBW0 := Lib.hid hnx3.bel
    clear hnx3 ho3 HN2 hra3 hb6 hbk3 HB4
    by_cases hm : ls.tail = []
    · rw [hm]
      simp only [List.isEmpty_nil, Bool.not_true]
      have hal : Below w3.heap.size w3 (w3.alloc (.cells #[.pointer (some ⟨w1.heap.size, 0, none⟩), .pointer (some ⟨w1.heap.size, 1, none⟩)] 85)) := (Below.refl _ _).alloc (Nat.le_refl _) _
      have hgb : (w3.alloc (.cells #[.pointer (some ⟨w1.heap.size, 0, none⟩), .pointer (some ⟨w1.heap.size, 1, none⟩)] 85)).heap[w3.heap.size]? = some (.cells #[.pointer (some ⟨w1.heap.size, 0, none⟩), .pointer (some ⟨w1.heap.size, 1, none⟩)] 85 (0, 0)) := heap_alloc_new _ _
      have hb8 := (hal.block _ (lt_of_block hb7)).trans hb7
      have HBE := Lib.hid (bears_any w0 A C r w3.heap.size 2 [(w1.heap.size, 0), (w1.heap.size, 1)] _ hra (HBW0.out.trans (hal.mono HBW0.out.size)) (by
          cases ls with
          | nil => rw [HR.out]; simp
          | cons r' ls' =>
            have h6 := (Vt.Scans.is HSC.out HRNG.out).2.1 r' (by simp)
            rw [HR.out]
            simp
            omega) (by simp) (fun i p hp => by
          rw [cell_of_row _ _ i _ _ _ hgb]
          match i, hp with
          | 0, hp => simp at hp; subst hp; rfl
          | 1, hp => simp at hp; subst hp; rfl
          | i + 2, hp => simp at hp) (fun p hp => by
          have : p.1 = w1.heap.size ∧ p.2 < 2 := by
            simp only [List.mem_cons, List.not_mem_nil, or_false] at hp
            rcases hp with rfl | rfl <;> exact ⟨rfl, by simp⟩
          rw [this.1]
          exact ⟨by omega, by omega, _, _, hb8, this.2⟩))
      have HB8 := Lib.hid hb8
      have HBK5 := Lib.hid ((hal.block _ (lt_of_block hbk4)).trans hbk4)
      have HB9 := Lib.hid (HB5.out.trans (hal.mono HB5.out.size))
      have HM := Lib.hid hm
      clear hal hgb hb8 hb7 hbk4 hm hra HBW0
      go_wp2_with fail
      refine HBE.out.mono ?_
      rintro e w4 (⟨ns, hn2, hrn, hsm, rfl, hp4⟩ | ⟨hno, rfl, l4, hl4, hp4⟩)
      · obtain ⟨t, v, rfl⟩ : ∃ t v, ns = [t, v] := by
          match ns, hn2 with
          | [t, v], _ => exact ⟨t, v, rfl⟩
        have e6 := hp4.cells HB8.out
        have e7 : (wl [(w1.heap.size, 0), (w1.heap.size, 1)] [t, v]).foldl (put1 w1.heap.size) #[.int .u64 0, .int .u64 0] = #[.int .u64 (t : Int), .int .u64 (v : Int)] := by
          simp [wl, put1]
        rw [e7] at e6
        have e2 := (hp4.other (lt_of_block HBK5.out) (fun x hx => by
          have := wl_mem _ _ _ hx
          simp only [List.mem_cons, List.not_mem_nil, or_false] at this
          rcases this with h | h <;> rw [h] <;> show w1.heap.size ≠ w.heap.size <;> omega)).trans HBK5.out
        obtain ⟨g0, g1⟩ := two_at e6
        obtain ⟨c0, c1⟩ := two_at e2
        have f0 : w4.frozen? ⟨w.heap.size, 0, none⟩ = false := frozen_row e2
        have f1 : w4.frozen? ⟨w.heap.size, 1, none⟩ = false := frozen_row e2
        have HE2 := Lib.hid e2
        have HB10 := Lib.hid (HB9.out.trans (hp4.under (B := w.heap.size) (Nat.le_trans (by omega) HB9.out.size) (fun x hx => by
          have := wl_mem _ _ _ hx
          simp only [List.mem_cons, List.not_mem_nil, or_false] at this
          rcases this with h | h <;> rw [h] <;> show w.heap.size ≤ w1.heap.size <;> omega)))
        have HRN := Lib.hid hrn
        have HSM := Lib.hid hsm
        clear hp4 e6 e7 e2 hrn hsm hn2
        go_wp2_with fail
        obtain ⟨d0, d1⟩ := two_at (two_cells HE2.out (.int .u64 (t : Int)) (.int .u64 (v : Int)))
        refine bodyPost_ret (v := .tuple #[.agg #[.int .u64 (t : Int), .int .u64 (v : Int)], .int .i64 0]) (by simp [results, Try.results14, go_sem, d0, d1]) rfl ⟨two_below (Nat.le_refl _) _ _ HB10.out, some (t, v), ?_, rfl⟩
        have hls : ls = [r] := by
          cases ls with
          | nil =>
            have h1 := HR.out
            have h2 := (Vt.recOf_len [t, v]).1
            rw [← HRN.out, h1] at h2
            simp at h2
          | cons r' ls' =>
            have h1 := HR.out
            have h2 := HM.out
            simp at h1 h2
            rw [h1, h2]
        exact Vt.get_row (r := r) (by rw [HBS.out, hls]) HRN.out (HSM.out t (by simp)) (HSM.out v (by simp))
      · have hin : ∀ x ∈ l4, x.1.1 = w1.heap.size := fun x hx => by
          have := hl4 x hx
          simp only [List.mem_cons, List.not_mem_nil, or_false] at this
          rcases this with h | h <;> rw [h]
        have e2 := (hp4.other (lt_of_block HBK5.out) (fun x hx => by rw [hin x hx]; omega)).trans HBK5.out
        obtain ⟨c0, c1⟩ := two_at e2
        have f0 : w4.frozen? ⟨w.heap.size, 0, none⟩ = false := frozen_row e2
        have f1 : w4.frozen? ⟨w.heap.size, 1, none⟩ = false := frozen_row e2
        have HE2 := Lib.hid e2
        have HB10 := Lib.hid (HB9.out.trans (hp4.under (B := w.heap.size) (Nat.le_trans (by omega) HB9.out.size) (fun x hx => by rw [hin x hx]; omega)))
        have HNO := Lib.hid hno
        clear hp4 e2 hno hl4 hin
        go_wp2_with fail
        obtain ⟨d0, d1⟩ := two_at (two_cells HE2.out (.int .u64 0) (.int .u64 0))
        refine bodyPost_ret (v := .tuple #[.agg #[.int .u64 0, .int .u64 0], .int .i64 4]) (by simp [results, Try.results14, go_sem, d0, d1]) rfl ⟨two_below (Nat.le_refl _) _ _ HB10.out, none, ?_, rfl⟩
        refine Vt.get_not HSC.out fun t v ht hv _ hls => HNO.out [t, v] rfl (Vt.small2 ht hv) ?_
        rw [HR.out, hls]
        rfl
    · have hme : (!ls.tail.isEmpty) = true := by
        cases hlt : ls.tail with
        | nil => exact absurd hlt hm
        | cons _ _ => rfl
      rw [hme]
      obtain ⟨c0, c1⟩ := two_at hbk4
      have f0 : w3.frozen? ⟨w.heap.size, 0, none⟩ = false := frozen_row hbk4
      have f1 : w3.frozen? ⟨w.heap.size, 1, none⟩ = false := frozen_row hbk4
      have HE2 := Lib.hid hbk4
      have HM := Lib.hid hm
      clear hbk4 hb7 hm hme hra HBW0
      go_wp2_with fail
      obtain ⟨d0, d1⟩ := two_at (two_cells HE2.out (.int .u64 0) (.int .u64 0))
      refine bodyPost_ret (v := .tuple #[.agg #[.int .u64 0, .int .u64 0], .int .i64 4]) (by simp [results, Try.results14, go_sem, d0, d1]) rfl ⟨two_below (Nat.le_refl _) _ _ HB5.out, none, ?_, rfl⟩
      refine Vt.get_not HSC.out fun t v ht hv _ hls => HM.out ?_
      rw [hls]
      rfl

end Go.Proofs.Ytaljfpkgancidaa

namespace Go.Proofs.Ytaljfpkgancidaa
open Go.RowKit Go.Maps Go.Sort Dsk

/-- nothing but the closure's cell has turned; memory was made -/
structure LeftR (R : Nat) (W W' : World) : Prop where
  os : W'.os = W.os
  tape : W'.tape = W.tape
  output : W'.output = W.output
  size : W.heap.size ≤ W'.heap.size
  block : ∀ j, j < W.heap.size → j ≠ R → W'.heap[j]? = W.heap[j]?
theorem LeftR.below {R B : Nat} {W W' : World} (h : LeftR R W W') (hB : B ≤ R) (hW : B ≤ W.heap.size) : Below B W W' := ⟨h.os, h.tape, h.output, h.size, fun k hk => h.block k (by omega) (by omega)⟩
theorem LeftR.refl (R : Nat) (W : World) : LeftR R W W := ⟨rfl, rfl, rfl, Nat.le_refl _, fun _ _ _ => rfl⟩
theorem LeftR.only {R : Nat} {W W1 W2 : World} (h : LeftR R W W1) (k : OnlyR R W1 W2) : LeftR R W W2 :=
  ⟨k.os.trans h.os, k.tape.trans h.tape, k.output.trans h.output, by have := h.size; have := k.size; omega, fun j hj hR => (k.block j hR).trans (h.block j hj hR)⟩
theorem LeftR.grown {R : Nat} {W W1 W2 : World} {row : Option Nat} (h : LeftR R W W1) (k : W1.grownBy W2 row) (hr : ∀ j, row = some j → W.heap.size ≤ j) : LeftR R W W2 :=
  ⟨k.os.trans h.os, k.tape.trans h.tape, k.output.trans h.output, Nat.le_trans h.size k.size, fun j hj hR => (k.block j (Nat.lt_of_lt_of_le hj h.size) (fun e => by have := hr j e.symm; omega)).trans (h.block j hj hR)⟩

def sliceLen : Value → Nat
  | .slice _ n _ => n
  | _ => 0

set_option maxRecDepth 100000 in
set_option maxHeartbeats 2000000 in
theorem votejoin_any (w0 w : World) (R long : Nat) (all : List (List Int)) (hnx : Nexts w0 w R all) (hlong : long ≤ 262144) (hall : all.length ≤ 100000) :
    Calls Try.prog 40 #[.func (.func 54) #[] #[.pointer (some ⟨R, 0, none⟩)], .int .i64 (long : Int)] w fun e w' => LeftR R w w' ∧
      ((∃ img v, img.length = long ∧ all = Vt.parts img ∧ (∀ x ∈ img, 0 ≤ x ∧ x ≤ 255) ∧ e = .returned (.tuple #[v, .bool true]) ∧ Row w' w.heap.size img v) ∨
       ((∀ img : List Int, img.length = long → all ≠ Vt.parts img) ∧ ∃ v, e = .returned (.tuple #[v, .bool false]))) := by
  obtain ⟨i0, hi, hz0, hz1, hz2⟩ := info_parts info5
  have hRw : R < w.heap.size := by
    obtain ⟨_, _, hb, _⟩ := hnx.box
    exact hb.lt
  have hw0R := hnx.up
  have HN1 := Lib.hid (next_any w0 w R all hnx (by omega))
  clear hnx
  go_enter Try.func40, Try.ntmps40
  go_wp2_with fail
  refine HN1.out.mono ?_
  rintro e w1 ⟨A, C, rfl, hra, hnx1, ho1⟩
  have hl1 := Lib.hid ((LeftR.refl R w).only ho1)
  have HNX1 := Lib.hid hnx1
  have HRA := Lib.hid hra
  clear ho1 hnx1 hra HN1
  obtain ⟨r1, hr1⟩ : ∃ r1, r1 = all.headD [] := ⟨_, rfl⟩
  rw [← hr1] at HRA ⊢
  obtain ⟨ok1, hok1⟩ : ∃ ok1, ok1 = !all.isEmpty := ⟨_, rfl⟩
  rw [← hok1]
  have HR1 := Lib.hid hr1
  have HOK1 := Lib.hid hok1
  clear hr1 hok1
  go_wp2_with fail
  go_loopw [6, 7, 8] (fun iv pv ov wr => ∃ (rs rest : List (List Int)) (im r : List Int) (A : Option Addr) (C : Nat) (ok : Bool), all = rs ++ rest ∧ Vt.Joins long rs im ∧ (∀ x ∈ im, 0 ≤ x ∧ x ≤ 255) ∧ Row wr w.heap.size im iv ∧
      pv = .slice A r.length C ∧ r = rest.headD [] ∧ Reads w0 A r ∧ ov = .bool ok ∧ ok = !rest.isEmpty ∧ Nexts w0 wr R rest.tail ∧ LeftR R w wr) (fun iv _ _ _ => long - sliceLen iv)
  case atStart => exact ⟨[], all, [], r1, A, C, ok1, rfl, .start, (fun x hx => by cases hx), World.ownsRow_nil _ _ _ _, rfl, HR1.out, HRA.out, rfl, HOK1.out, HNX1.out, hl1.out⟩
  case round =>
    clear HRA HNX1 HR1 HOK1 hl1
    obtain ⟨rs, rest, im, r, A, C, ok, hsplit, hj, him, hrow, rfl, hr, hra, rfl, hok, hnx, hlr⟩ := hrel
    obtain ⟨ia, ic, rfl⟩ := hrow.shape
    have himl : im.length ≤ long := by have := hj.is.1; omega
    have HSP := Lib.hid hsplit
    have HJ := Lib.hid hj
    have HIM := Lib.hid him
    have HROW := Lib.hid hrow
    have HR := Lib.hid hr
    have HRA := Lib.hid hra
    have HOK := Lib.hid hok
    have HNX := Lib.hid hnx
    have HLR := Lib.hid hlr
    clear hsplit hj him hrow hr hra hnx hlr
    cases ok with
    | false =>
      have hre : rest = [] := by
        cases rest with
        | nil => rfl
        | cons _ _ => simp at hok
      clear hok HOK
      obtain ⟨il, hil⟩ : ∃ il, il = im.length := ⟨_, rfl⟩
      rw [← hil] at himl ⊢
      have HIL := Lib.hid hil
      clear hil
      go_wp2_with fail
      go_ret2
      have hall2 : all = rs := by rw [HSP.out, hre, List.append_nil]
      refine ⟨HLR.out, ?_⟩
      by_cases hll : il = long
      · have e := HIL.out
        have hj := HJ.out
        rw [← hll, e] at hj
        refine .inl ⟨im, _, by omega, by rw [hall2]; exact hj.whole, HIM.out, ?_, HROW.out⟩
        rw [HIL.out]
        simp
        omega
      · refine .inr ⟨fun img hlen he => hll ?_, .slice ia il ic, ?_⟩
        · have hj := HJ.out
          rw [← hlen] at hj
          have := hj.of (k := Vt.count img.length) (by rw [← hall2, he, ← Vt.parts_len, List.take_length]) (Nat.le_refl _)
          rw [HIL.out, this, List.length_take]
          unfold Vt.count
          omega
        · simp
          omega
    | true =>
      obtain ⟨rest', hre⟩ : ∃ rest', rest = r :: rest' := by
        cases rest with
        | nil => simp at hok
        | cons r' rest' =>
          have := HR.out
          simp at this
          exact ⟨rest', by rw [this]⟩
      have HRE := Lib.hid hre
      clear hok HOK hre
      have hrest : rest.tail.length ≤ 1000000 := by
        have := HSP.out
        have h1 := congrArg List.length this
        rw [List.length_append] at h1
        rw [List.length_tail]
        omega
      by_cases hbad : r.length = 0 ∨ r.length ≠ min (long - im.length) 4000
      · have fin : ∀ img : List Int, img.length = long → all ≠ Vt.parts img := fun img hlen he => by
          have hj := HJ.out
          rw [← hlen] at hj
          have e0 : Vt.parts img = rs ++ r :: rest' := by rw [← he, HSP.out, HRE.out]
          have e1 : rs = (Vt.parts img).take rs.length := by rw [e0, List.take_left]
          have e2 : rs.length < Vt.count img.length := by
            rw [← Vt.parts_len, e0]
            simp
          obtain ⟨f1, f2⟩ := hj.fit (k := rs.length) (r := r) e1 e2 (by rw [e0]; simp)
          rw [hlen] at f2
          rcases hbad with h | h
          · exact f1 h
          · exact h f2
        have FIN := Lib.hid fin
        clear fin
        obtain ⟨il, hil⟩ : ∃ il, il = im.length := ⟨_, rfl⟩
        obtain ⟨rl, hrl⟩ : ∃ rl, rl = r.length := ⟨_, rfl⟩
        rw [← hil] at himl ⊢
        rw [← hil, ← hrl] at hbad
        rw [← hrl]
        clear hil hrl
        by_cases h0 : rl = 0
        · subst h0
          clear hbad
          go_wp2_with fail
          go_ret2
          exact ⟨HLR.out, .inr ⟨FIN.out, _, rfl⟩⟩
        · have hb2 : rl ≠ min (long - il) 4000 := by
            rcases hbad with h | h
            · exact absurd h h0
            · exact h
          have hg1 : ((rl : Int) == 0) = false := by simp; omega
          have hg2 : ((rl : Int) != min ((long : Int) - (il : Int)) 4000) = true := by simp; omega
          clear hbad hb2
          go_wp2_with fail
          go_ret2
          exact ⟨HLR.out, .inr ⟨FIN.out, _, rfl⟩⟩
      · have hb0 : r.length ≠ 0 ∧ r.length = min (long - im.length) 4000 := by omega
        have hj2 := Lib.hid (Vt.Joins.next HJ.out hb0.1 hb0.2)
        obtain ⟨ax, rfl⟩ := HRA.out.there (by omega)
        have hrw : Reads _ _ _ := HRA.out.below HNX.out.bel
        have HNW := Lib.hid (reads_news hrw)
        have HHR := Lib.hid hrw.hr
        obtain ⟨il, hil⟩ : ∃ il, il = im.length := ⟨_, rfl⟩
        obtain ⟨rl, hrl⟩ : ∃ rl, rl = r.length := ⟨_, rfl⟩
        rw [← hil] at himl hb0 ⊢
        rw [← hrl] at hb0 ⊢
        have HIL := Lib.hid hil
        have HRL := Lib.hid hrl
        have hg1 : ((rl : Int) == 0) = false := by simp; omega
        have hg2 : ((rl : Int) != min ((long : Int) - (il : Int)) 4000) = false := by simp; omega
        have hb5 : 0 < rl ∧ rl + il ≤ long := by omega
        clear hil hrl hrw hbad hb0
        have hrow2 : Row _ _ _ _ := HROW.out
        unfold Row at hrow2
        rw [← HIL.out] at hrow2
        have hwr := HLR.out.size
        go_wp2_with (at_builtin; go_loud (refine wpList_append_any _ rfl _ _ 25 rfl w.heap.size 5 i0 (.int .u8 0) 1 Try.underlying25 hi hz0 hz1 hz2 rfl _ _ _ rfl hrow2 (some ax) rl C (r.map (Value.int .u8)) rfl (by rw [List.length_map, HRL.out]) (fun e => by cases e) HNW.out (ints_oneCell .u8 _) (by unfold maxLen; omega) (by omega) hwr ?_))
        intro v' w2 hown hg
        have hown2 : Row w2 w.heap.size (im ++ r) v' := by
          unfold Row
          rw [List.length_append, List.map_append, ← HIL.out, ← HRL.out]
          exact hown
        have hob : ∀ j, (Value.slice ia il ic).ownBlock = some j → w.heap.size ≤ j := fun j e => (World.ownsRow.lt hrow2 j e).1
        have hR2 : w2.heap[R]? = wr.heap[R]? := hg.block R (Nat.lt_of_lt_of_le hRw hwr) (fun e => by have := hob R e.symm; omega)
        have hb2 : Below w0.heap.size wr w2 := (Below.refl _ _).grown hg (Nat.le_trans (Nat.le_of_lt (Nat.lt_of_le_of_lt hw0R hRw)) hwr) (fun j e => by have := hob j e; omega)
        have hnx2 := HNX.out.other hb2 hR2
        have hlr2 := HLR.out.grown hg hob
        have HN2 := Lib.hid (next_any w0 w2 R rest.tail hnx2 hrest)
        have HOW2 := Lib.hid hown2
        have HLR2 := Lib.hid hlr2
        clear hown hown2 hg hob hR2 hb2 hnx2 hlr2 hrow2 hg1 hg2
        go_wp2_with fail
        refine HN2.out.mono ?_
        rintro e w3 ⟨A3, C3, rfl, hra3, hnx3, ho3⟩
        obtain ⟨r3, hr3⟩ : ∃ r3, r3 = rest.tail.headD [] := ⟨_, rfl⟩
        rw [← hr3] at hra3 ⊢
        obtain ⟨ok3, hok3⟩ : ∃ ok3, ok3 = !rest.tail.isEmpty := ⟨_, rfl⟩
        rw [← hok3]
        have HR3 := Lib.hid hr3
        have HOK3 := Lib.hid hok3
        have HRA3 := Lib.hid hra3
        have HNX3 := Lib.hid hnx3
        have HLR3 := Lib.hid (HLR2.out.only ho3)
        have HOW3 := Lib.hid (HOW2.out.keep (w' := w3) (fun j e => ho3.block j (by have := (World.ownsRow.lt HOW2.out j e).1; omega)))
        clear hr3 hok3 hra3 hnx3 ho3 HN2
        go_wp2_with fail
        go_roundw
        case rel =>
          refine ⟨rs ++ [r], rest', im ++ r, r3, A3, C3, ok3, by rw [HSP.out, HRE.out]; simp, hj2.out, fun x hx => ?_, HOW3.out, rfl, by rw [HR3.out, HRE.out]; rfl, HRA3.out, rfl, by rw [HOK3.out, HRE.out]; rfl, by rw [HRE.out] at HNX3; exact HNX3.out, HLR3.out⟩
          rcases List.mem_append.1 hx with hx | hx
          · exact HIM.out x hx
          · exact HHR.out x hx
        case measure =>
          obtain ⟨a3, c3, he⟩ := HOW3.out.shape
          rw [he]
          simp only [sliceLen, List.length_append, ← HIL.out, ← HRL.out]
          omega

end Go.Proofs.Ytaljfpkgancidaa
