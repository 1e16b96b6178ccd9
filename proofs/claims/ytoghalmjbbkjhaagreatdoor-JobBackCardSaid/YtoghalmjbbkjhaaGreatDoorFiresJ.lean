/- job.Fires, by its contract: of a job that may be. -/
import Derived.Test.YtoghalmjbbkjhaaGreatDoorMap
import Derived.Test.YtoghalmjbbkjhaaGreatDoorMayJ
namespace Go.Proofs.YtoghalmjbbkjhaaGreatDoor.Job
open Go.RowKit

/-- Last's answer -/
theorem lastT_cases {b : Nat → Nat} {s : Nat → Bool} {t : Int} {p : Int × Int} (hm : Cron.may b = true) (ht : t < 13569465600) (h : Fire.LastT b s t p) (f : Int) (hf : -1 ≤ f) :
    (p.2 = 0 ∧ f < p.1 ∧ p.1 ≤ t ∧ R b s f t = p.1 :: R b s f (p.1 - 1)) ∨ ((p.2 ≠ 0 ∨ p.1 ≤ f) ∧ R b s f t = []) := by
  unfold Fire.LastT at h
  rw [if_neg (by rw [hm]; simp)] at h
  split at h
  · rename_i hr
    subst h
    exact .inr ⟨.inl (by simp), R_none (by omega)⟩
  · rcases h with ⟨r, rfl, h⟩ | ⟨rfl, h⟩
    · rcases (by omega : f < r ∨ r ≤ f) with h1 | h1
      · exact .inl ⟨rfl, h1, h.2.1, R_last h h1⟩
      · exact .inr ⟨.inr h1, R_over h h1⟩
    · exact .inr ⟨.inl (by simp), R_no h⟩

/-- how long a slice is -/
def slen : Value → Nat
  | .slice _ k _ => k
  | _ => 0
/-- what was found is all, or as many as are asked for -/
theorem told_done {b : Nat → Nat} {s : Nat → Bool} {f t u : Int} {n : Nat} {out : List Int} (h : R b s f t = out ++ R b s f u) (hl : out.length ≤ n) (hd : out.length = n ∨ R b s f u = []) : ((R b s f t).take n).reverse = out.reverse := by
  congr 1
  rw [h]
  rcases hd with hd | hd
  · rw [← hd, List.take_left]
  · rw [hd, List.append_nil, List.take_of_length_le hl]

set_option maxRecDepth 100000 in
set_option maxHeartbeats 4000000 in
/-- Fires of a job that may be; b, s: its expression -/
theorem fires_any (j : J) (hm : j.May) (f t : Int) (n : Nat) (hf : -1 ≤ f ∧ f ≤ 9223372036854775807) (ht : -9223372036854775807 ≤ t ∧ t < 13569465600) (hn : n ≤ 1000) (w : World) (hw : World7 w) (hnm : NamesOn w)
    (hb : ∀ k, k < 5 → Cron.pB j.expr.data.toList k < 2 ^ 64) (hmay : Cron.may (Cron.pB j.expr.data.toList) = true) :
    Calls Tryz.prog 8 #[j.val, .int .i64 f, .int .i64 t, .int .i64 (n : Int)] w fun e w' => ∃ v, e = .returned v ∧ RowI w' w.heap.size (told14 (Cron.pB j.expr.data.toList) (Cron.pS j.expr.data.toList) f t n) v ∧ Below w.heap.size w w' := by
  have HMAY := Lib.hid (fun W hW => mayJ_any j W (hw.tabs.next hW) (hnm.next hW))
  rw [J.may_iff.2 hm] at HMAY
  have HPX := Lib.hid (fun W hW => parseX_any j.expr W (hw.tabs.next hW) (hnm.next hW))
  have HLAST := Lib.hid (fun (u : Int) W hW => last_any (Cron.pB j.expr.data.toList) (Cron.pS j.expr.data.toList) hb u W (hw.next hW))
  have HCASE := Lib.hid (fun (u : Int) (p : Int × Int) (hu : u < 13569465600) h => lastT_cases (b := Cron.pB j.expr.data.toList) (s := Cron.pS j.expr.data.toList) (t := u) (p := p) hmay hu h f hf.1)
  rw [hm.expr] at HPX
  have HBX := Lib.hid (box_new w j)
  unfold told14
  generalize Cron.pB j.expr.data.toList = b at *
  generalize Cron.pS j.expr.data.toList = s at *
  unfold pres7 xval xcells at HPX
  unfold xval xcells at HLAST
  unfold J.val J.cells jcells at *
  have hf0 : -1 ≤ f := hf.1
  have hdf : decide (f < -1) = false := by simp; omega
  clear hm hb hmay hw hnm hf
  go_enter Tryz.func8, Tryz.ntmps8
  go_wp2_with fail
  refine (HMAY.out _ ((Below.refl _ _).alloc (Nat.le_refl _) _)).mono ?_
  rintro e w1 ⟨rfl, hb1⟩
  have hs1 := hb1.size
  have hbel1 : Below w.heap.size w w1 := ((Below.refl _ _).alloc (Nat.le_refl _) _).trans (hb1.mono (by simp))
  have hrow1 : w1.heap[w.heap.size]? = some (jobj j) := (hb1.block _ (by simp)).trans HBX.out
  have hlt1 : w.heap.size < w1.heap.size := by simp at hs1; omega
  obtain ⟨⟨c0, c1, c2, c3, c4, c5⟩, c6, c7, c8, c9, c10, c11⟩ := jobj_cells hrow1
  have HB1 := Lib.hid hbel1
  clear hb1 hs1 hbel1 HBX HMAY c0 c1 c3 c4 c5 c6 c7 c8 c9 c10 c11 hrow1
  go_wp2_with fail
  refine (HPX.out _ HB1.out).mono ?_
  rintro e w2 ⟨rfl, hb2⟩
  have HB2 := Lib.hid (HB1.out.trans (hb2.mono HB1.out.size))
  have hX : w2.heap.size = w2.heap.size := rfl
  obtain ⟨X, hXe⟩ : ∃ X, X = w2.heap.size := ⟨_, rfl⟩
  obtain ⟨w3, hw3⟩ : ∃ W, W = w2.alloc (.cells #[.int .u64 ((b 0 : Nat) : Int), .bool (s 0), .int .u64 ((b 1 : Nat) : Int), .bool (s 1), .int .u64 ((b 2 : Nat) : Int), .bool (s 2), .int .u64 ((b 3 : Nat) : Int), .bool (s 3), .int .u64 ((b 4 : Nat) : Int), .bool (s 4)] 43) := ⟨_, rfl⟩
  have hx3 : w3.heap[X]? = some (xobj b s) := by rw [hw3, hXe]; exact heap_alloc_new w2 _
  have hb3 : Below w.heap.size w w3 := by rw [hw3]; exact HB2.out.alloc HB2.out.size _
  have hs3 : w3.heap.size = X + 1 := by rw [hw3, hXe]; simp
  have hwX : w.heap.size < X := by have := hb2.size; omega
  have HX3 := Lib.hid hx3
  have HB3 := Lib.hid hb3
  have HS3 := Lib.hid hs3
  clear hb2 hX c2 hx3 hb3 hs3 HPX
  go_wp2_with fail
  rw [← hw3]
  try rw [← hXe]
  clear hw3 hXe
  go_loopw [11, 2] (fun sl st wr => ∃ (ac : Option Addr) (cc : Nat) (out : List Int) (u : Int), sl = .slice ac out.length cc ∧ st = .int .i64 u ∧ out.length ≤ n ∧ (-9223372036854775807 ≤ u ∧ u < 13569465600) ∧ Hid (RowI wr (X + 1) out (.slice ac out.length cc)) ∧ Hid (Below w.heap.size w wr) ∧ Hid (wr.heap[X]? = some (xobj b s)) ∧ Hid (R b s f t = out ++ R b s f u))
    (fun sl _ _ => n - slen sl)
  case atStart => exact ⟨none, 0, [], t, rfl, rfl, Nat.zero_le _, ht, Lib.hid (World.ownsRow_nil _ _ _ _), HB3, HX3, Lib.hid rfl⟩
  case round =>
    obtain ⟨ac, cc, out, u, rfl, rfl, hlen, hu, HROW, HB, HX, HR⟩ := hrel
    obtain ⟨L, hL⟩ : ∃ L, L = out.length := ⟨_, rfl⟩
    have hLn : L ≤ n := by omega
    rw [← hL] at HROW ⊢
    have HL := Lib.hid hL
    clear hL
    by_cases hlt : L < n
    · have hd : decide ((L : Int) < (n : Int)) = true := by simp; omega
      obtain ⟨c0, c1, c2, c3, c4, c5, c6, c7, c8, c9⟩ := xobj_cells HX.out
      go_wp2_with fail
      refine (HLAST.out u _ HB.out).mono ?_
      rintro e w4 ⟨⟨r, er⟩, hT, rfl, hb4⟩
      have hcs := HCASE.out u (r, er) hu.2 hT
      dsimp only at hcs
      have HB4 := Lib.hid (HB.out.trans (hb4.mono HB.out.size))
      have HX4 := Lib.hid ((hb4.block X (Array.getElem?_eq_some_iff.1 HX.out).1).trans HX.out)
      have HR4 := Lib.hid (own_below HROW.out hb4)
      clear hT hb4 HROW HB HX c0 c1 c2 c3 c4 c5 c6 c7 c8 c9
      unfold Fire.told
      dsimp only
      rcases hcs with ⟨rfl, h1, h2, h3⟩ | ⟨ho, h3⟩
      · have hdr : decide (r ≤ f) = false := by simp; omega
        have hwr : IntKind.i64.wrap (r - 1) = r - 1 := by rw [IntKind.wrap_i64]; omega
        have HH3 := Lib.hid h3
        have hsz := HB4.out.size
        have hX4 : X < w4.heap.size := (Array.getElem?_eq_some_iff.1 HX4.out).1
        have hb5 : Below w4.heap.size w4 (w4.alloc (.cells #[.int .i64 r] 2)) := (Below.refl _ _).alloc (Nat.le_refl _) _
        obtain ⟨v6, u6, hrun, hr6, hg6, ho6⟩ := run_app (B := X + 1) (bytes := 8) (m := 1) (c := 1) (ao := some ⟨w4.heap.size, 0, none⟩) (zs := [iv r]) Tryz.underlying29 infoI64 rfl (by omega) (own_below HR4.out hb5) (by have := hb5.size; omega) (vals_row _ (heap_alloc_new w4 _) fun i hi => by simp at hi; subst hi; rfl) rfl (fun e => by cases e) (fun x hx => by simp at hx; subst hx; rfl) (by have := HL.out; omega)
        have hr6' : RowI u6 (X + 1) (out ++ [r]) v6 := by
          unfold RowI
          rw [List.length_append, List.map_append]
          exact hr6
        obtain ⟨a6, c6, rfl, _⟩ := own_shape hr6'
        have hx6 : u6.heap[X]? = some (xobj b s) := (hg6.block X (Nat.lt_of_lt_of_le hX4 hb5.size) (fun e => by have := (World.ownsRow.lt (own_below HR4.out hb5) X e.symm).1; omega)).trans ((hb5.block X hX4).trans HX4.out)
        have hb6 : Below w.heap.size w u6 := (HB4.out.trans (hb5.mono hsz)).grown hg6 (Nat.le_trans hsz hb5.size) (fun k e => by have := (World.ownsRow.lt (own_below HR4.out hb5) k e).1; omega)
        have HR6 := Lib.hid hr6'
        have HX6 := Lib.hid hx6
        have HB6 := Lib.hid hb6
        clear hr6 hr6' hx6 hb6 hg6 ho6 hb5
        obtain ⟨L2, hL2⟩ : ∃ L2, L2 = (out ++ [r]).length := ⟨_, rfl⟩
        rw [← hL2] at hrun HR6
        have hLL : L2 = L + 1 := by rw [hL2, List.length_append, HL.out]; rfl
        have HL2 := Lib.hid hL2
        have HLL := Lib.hid hLL
        clear hL2 hLL h3
        go_wp2_with (at_builtin; go_loud (refine Lib.wpList_append_run _ rfl _ _ _ _ rfl _ _ rfl rfl _ _ hrun ?_))
        go_roundw
        case rel =>
          refine ⟨a6, c6, out ++ [r], r - 1, by rw [HL2.out], rfl, by have := HL2.out; have := HLL.out; omega, by omega, Lib.hid ?_, HB6, HX6, Lib.hid ?_⟩
          · rw [← HL2.out]; exact HR6.out
          · rw [HR.out, HH3.out, List.append_assoc]; rfl
        case measure =>
          have := HLL.out
          simp only [slen]
          omega
      · have hlen : out.length ≤ n := hlen
        by_cases her : er = 0
        · have hrf : r ≤ f := by rcases ho with ho | ho; exact absurd her ho; exact ho
          have hdr : decide (r ≤ f) = true := by simp; omega
          subst her
          clear ho
          go_wp2_with fail
          refine (rev_own (v := .slice ac L cc) (by have := HR4.out; exact this) (by have := HL.out; omega)).mono ?_
          rintro e w9 ⟨rfl, hr9, hg9⟩
          have HR9 := Lib.hid (own_less hr9 (B' := w.heap.size) (by omega))
          have HB9 := Lib.hid ((HB4.out).grown hg9 (HB4.out).size (fun k e => by have := (World.ownsRow.lt HR4.out k e).1; omega))
          have HTD := Lib.hid (told_done HR.out hlen (.inr h3))
          clear hr9 hg9
          go_wp2
          go_ret
          refine ⟨_, rfl, ?_, HB9.out⟩
          rw [HTD.out]
          exact HR9.out
        · have hde : decide (er = 0) = false := by simp; omega
          clear ho
          go_wp2_with fail
          refine (rev_own (v := .slice ac L cc) (by have := HR4.out; exact this) (by have := HL.out; omega)).mono ?_
          rintro e w9 ⟨rfl, hr9, hg9⟩
          have HR9 := Lib.hid (own_less hr9 (B' := w.heap.size) (by omega))
          have HB9 := Lib.hid ((HB4.out).grown hg9 (HB4.out).size (fun k e => by have := (World.ownsRow.lt HR4.out k e).1; omega))
          have HTD := Lib.hid (told_done HR.out hlen (.inr h3))
          clear hr9 hg9
          go_wp2
          go_ret
          refine ⟨_, rfl, ?_, HB9.out⟩
          rw [HTD.out]
          exact HR9.out
    · have hd : decide ((L : Int) < (n : Int)) = false := by simp; omega
      go_wp2_with fail
      refine (rev_own (v := .slice ac L cc) (by have := HROW.out; exact this) (by have := HL.out; omega)).mono ?_
      rintro e w9 ⟨rfl, hr9, hg9⟩
      have HR9 := Lib.hid (own_less hr9 (B' := w.heap.size) (by omega))
      have HB9 := Lib.hid ((HB.out).grown hg9 (HB.out).size (fun k e => by have := (World.ownsRow.lt HROW.out k e).1; omega))
      have HTD := Lib.hid (told_done HR.out hlen (.inl (by have := HL.out; omega)))
      clear hr9 hg9
      go_wp2
      go_ret
      refine ⟨_, rfl, ?_, HB9.out⟩
      rw [HTD.out]
      exact HR9.out
end Go.Proofs.YtoghalmjbbkjhaaGreatDoor.Job
