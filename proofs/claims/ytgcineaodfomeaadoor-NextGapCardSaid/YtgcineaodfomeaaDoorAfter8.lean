/- next.After, by its contract: the first firing behind a moment. -/
import Derived.Test.YtgcineaodfomeaaDoorAll8
namespace Go.Proofs.YtgcineaodfomeaaDoor
open Go.RowKit Go.Shelf
attribute [local go_sem] Oper.semAt_some

theorem tables_low {w : World} (h : World7 w) : 0 < w.heap.size ∧ 1 < w.heap.size :=
  ⟨(h.mon.on (Below.refl _ _)).1, lt_of_cell (h.tabs.here.low 0 (by decide)).1⟩
theorem refused_one {m : Bool} {t : Int} : (m = false ∧ refusedOf m [t] = 2) ∨ (m = true ∧ (t < 0 ∨ 13569465600 ≤ t) ∧ refusedOf m [t] = 50) ∨ (m = true ∧ (0 ≤ t ∧ t < 13569465600) ∧ refusedOf m [t] = 0) := by
  cases m
  · exact .inl ⟨rfl, rfl⟩
  · by_cases h : 0 ≤ t ∧ t < 13569465600
    · refine .inr (.inr ⟨rfl, h, refused_ok fun i u hu => ?_⟩)
      match i with
      | 0 => simp at hu; subst hu; exact farOut_in h
      | i + 1 => simp at hu
    · refine .inr (.inl ⟨rfl, by omega, refused_out (i := 0) rfl ?_⟩)
      unfold farOut; simp; omega
theorem afterT_bad {b : Nat → Nat} {s : Nat → Bool} {t : Int} (h : Cron.may b = false) : Fire.AfterT b s t (0, 2) := by unfold Fire.AfterT; rw [if_pos h]
theorem afterT_out {b : Nat → Nat} {s : Nat → Bool} {t : Int} (h : Cron.may b = true) (ht : t < 0 ∨ 13569465600 ≤ t) : Fire.AfterT b s t (0, 50) := by unfold Fire.AfterT; rw [if_neg (by rw [h]; decide), if_pos ht]
theorem afterT_in {b : Nat → Nat} {s : Nat → Bool} {t : Int} {p : Int × Int} (h : Cron.may b = true) (ht : 0 ≤ t ∧ t < 13569465600) (hp : (∃ r, p = (r, 0) ∧ Fire.AfterIs b s t r) ∨ (p = (0, 5) ∧ Fire.NoAfter b s t)) : Fire.AfterT b s t p := by
  unfold Fire.AfterT; rw [if_neg (by rw [h]; decide), if_neg (by omega)]; exact hp
theorem lastT_bad {b : Nat → Nat} {s : Nat → Bool} {t : Int} (h : Cron.may b = false) : Fire.LastT b s t (0, 2) := by unfold Fire.LastT; rw [if_pos h]
theorem lastT_out {b : Nat → Nat} {s : Nat → Bool} {t : Int} (h : Cron.may b = true) (ht : t < 0 ∨ 13569465600 ≤ t) : Fire.LastT b s t (0, 50) := by unfold Fire.LastT; rw [if_neg (by rw [h]; decide), if_pos ht]
theorem lastT_in {b : Nat → Nat} {s : Nat → Bool} {t : Int} {p : Int × Int} (h : Cron.may b = true) (ht : 0 ≤ t ∧ t < 13569465600) (hp : (∃ r, p = (r, 0) ∧ Fire.LastIs b s t r) ∨ (p = (0, 5) ∧ Fire.NoLast b s t)) : Fire.LastT b s t p := by
  unfold Fire.LastT; rw [if_neg (by rw [h]; decide), if_neg (by omega)]; exact hp
/-- an expression, and two cells for the results -/
structure Two8 (w : World) (b : Nat → Nat) (s : Nat → Bool) (r e : Int) (W : World) : Prop where
  bel : Below w.heap.size w W
  x : W.heap[w.heap.size]? = some (xobj b s)
  r : Boxed W (w.heap.size + 1) 2 (.int .i64 r)
  e : Boxed W (w.heap.size + 2) 28 (.int .i64 e)
theorem Two8.below {w : World} {b : Nat → Nat} {s : Nat → Bool} {r e : Int} {W W' : World} (h : Two8 w b s r e W) (hb : Below W.heap.size W W') : Two8 w b s r e W' :=
  ⟨h.bel.trans (hb.mono h.bel.size), (hb.block _ (lt_of_block h.x)).trans h.x, (hb.block _ (lt_of_block h.r)).trans h.r, (hb.block _ (lt_of_block h.e)).trans h.e⟩
theorem Two8.start (w : World) (b : Nat → Nat) (s : Nat → Bool) : Two8 w b s 0 0
    (((w.alloc (.cells #[.int .u64 ((b 0 : Nat) : Int), .bool (s 0), .int .u64 ((b 1 : Nat) : Int), .bool (s 1), .int .u64 ((b 2 : Nat) : Int), .bool (s 2), .int .u64 ((b 3 : Nat) : Int), .bool (s 3), .int .u64 ((b 4 : Nat) : Int), .bool (s 4)] 26)).alloc (.cells #[.int .i64 0] 2)).alloc (.cells #[.int .i64 0] 28)) := by
  have o := OwnX.new w b s
  have s1 : (w.alloc (.cells #[.int .u64 ((b 0 : Nat) : Int), .bool (s 0), .int .u64 ((b 1 : Nat) : Int), .bool (s 1), .int .u64 ((b 2 : Nat) : Int), .bool (s 2), .int .u64 ((b 3 : Nat) : Int), .bool (s 3), .int .u64 ((b 4 : Nat) : Int), .bool (s 4)] 26)).heap.size = w.heap.size + 1 := by simp
  generalize w.alloc (.cells #[.int .u64 ((b 0 : Nat) : Int), .bool (s 0), .int .u64 ((b 1 : Nat) : Int), .bool (s 1), .int .u64 ((b 2 : Nat) : Int), .bool (s 2), .int .u64 ((b 3 : Nat) : Int), .bool (s 3), .int .u64 ((b 4 : Nat) : Int), .bool (s 4)] 26) = W1 at *
  have h2 := heap_alloc_new W1 (.cells #[.int .i64 0] 2)
  rw [s1] at h2
  have o2 := o.alloc (.cells #[.int .i64 0] 2)
  have s2 : (W1.alloc (.cells #[.int .i64 0] 2)).heap.size = w.heap.size + 2 := by simp [s1]
  generalize W1.alloc (.cells #[.int .i64 0] 2) = W2 at *
  have h3 := heap_alloc_new W2 (.cells #[.int .i64 0] 28)
  rw [s2] at h3
  have o3 := o2.alloc (.cells #[.int .i64 0] 28)
  have b3 : Below W2.heap.size W2 (W2.alloc (.cells #[.int .i64 0] 28)) := (Below.refl _ _).alloc (Nat.le_refl _) _
  exact ⟨o3.bel, o3.row, (b3.block _ (by omega)).trans h2, h3⟩

theorem Two8.put {w : World} {b : Nat → Nat} {s : Nat → Bool} {r e : Int} {W : World} (h : Two8 w b s r e W) (r' e' : Int) :
    Two8 w b s r' e' ((W.setCell ⟨w.heap.size + 1, 0, none⟩ (.int .i64 r')).setCell ⟨w.heap.size + 1 + 1, 0, none⟩ (.int .i64 e')) :=
  ⟨(h.bel.setCell (p := ⟨w.heap.size + 1, 0, none⟩) (by show w.heap.size ≤ w.heap.size + 1; omega) _).setCell (p := ⟨w.heap.size + 1 + 1, 0, none⟩) (by show w.heap.size ≤ w.heap.size + 1 + 1; omega) _,
   (set_else (by omega)).trans ((set_else (by omega)).trans h.x),
   (set_else (by omega)).trans (h.r.set (.int .i64 r')),
   Boxed.set (.int .i64 e') (show Boxed (W.setCell ⟨w.heap.size + 1, 0, none⟩ (.int .i64 r')) (w.heap.size + 1 + 1) 28 (.int .i64 e) from (set_else (by omega)).trans h.e)⟩

theorem Two8.grown {w : World} {b : Nat → Nat} {s : Nat → Bool} {r e : Int} {A W : World} {row : Option Nat} {B : Nat} (h : Two8 w b s r e A) (hB : w.heap.size ≤ B) (hg : A.grownBy W row) (hr : ∀ r, row = some r → B ≤ r ∧ ∃ o : Obj, A.heap[r]? = some o ∧ o.isCells = false) : Two8 w b s r e W :=
  ⟨h.bel.grown hg h.bel.size (fun k e => by have := (hr k e).1; omega), (grownBy_keeps_cells hg (fun r e => (hr r e).2) h.x rfl).trans h.x, (grownBy_keeps_cells hg (fun r e => (hr r e).2) h.r rfl).trans h.r, (grownBy_keeps_cells hg (fun r e => (hr r e).2) h.e rfl).trans h.e⟩
theorem Two8.over {w : World} {b : Nat → Nat} {s : Nat → Bool} {r e : Int} {W : World} {D : Nat} (h : Two8 w b s r e W) (hD : w.heap.size ≤ D) (hK : W.heap[D]? = some (.deferred (some []))) : Two8 w b s r e (W.putObj D (.deferred none)) :=
  h.grown hD (grownBy_putObj' _ D (.deferred none)) (fun j e => by cases e; exact ⟨Nat.le_refl _, _, hK, rfl⟩)
theorem chain_first {b : Nat → Nat} {s : Nat → Bool} {f t x m : Int} (h : Fire.Chain b s f t ([] ++ [x]) m) : Fire.AfterIs b s f x := by
  generalize hl : ([] : List Int) ++ [x] = l at h
  cases h with
  | start => simp at hl
  | @next pre m x' h0 h1 h2 =>
    obtain ⟨rfl, hx⟩ := List.append_inj' hl rfl
    simp only [List.cons.injEq, and_true] at hx
    subst hx
    have : m = f := h0.last
    subst this
    exact h1

set_option maxRecDepth 100000 in
set_option maxHeartbeats 4000000 in
theorem after_no (b : Nat → Nat) (s : Nat → Bool) (hb : ∀ k, k < 5 → b k < 2 ^ 64) (t r : Int) (hr : refusedOf (Cron.may b) [t] = r) (hr0 : r ≠ 0) (w : World) (hw : TabsOn w) :
    Calls Tryd.prog 6 #[xval b s, .int .i64 t] w fun e w' => e = .returned (Fire.told 0 r) ∧ Below w.heap.size w w' := by
  have h0 := Two8.start w b s
  have hR := fun g W hW hg hc => refusal_any b s hb g 1 [t] (by simp) W hW hg hc
  rw [hr] at hR
  simp only [List.length_cons, List.length_nil, Nat.zero_add] at hR
  have HW := Lib.hid hw
  have H0 := Lib.hid h0
  have HR := Lib.hid hR
  have hne : (r == 0) = false := by simp [hr0]
  clear hR hb hr hw h0
  have o0 := H0.out.x
  obtain ⟨x0, x1, x2, x3, x4, x5, x6, x7, x8, x9⟩ := xobj_cells o0
  unfold xval xcells at *
  clear o0
  go_enter Tryd.func6, Tryd.ntmps6
  go_wp2_with fail
  have h1 := H0.out.below ((Below.refl _ _).alloc (Nat.le_refl _) (.cells #[.int .i64 t] 2))
  have H1 := Lib.hid h1
  clear H0 h1
  with_reducible refine (HR.out (w.heap.size + 1 + 1 + 1) _ (HW.out.next H1.out.bel) (row_one _ _ (by simp) t).1 (row_one _ _ (by simp) t).2).mono ?_
  rintro e w1 ⟨rfl, hb1⟩
  have H2 := Lib.hid (H1.out.below hb1)
  clear hb1 H1 HR x0 x1 x2 x3 x4 x5 x6 x7 x8 x9
  have c1 := H2.out.r.cell
  have f1 := H2.out.r.frozen
  have c2 := H2.out.e.cell
  have f2 := H2.out.e.frozen
  go_wp2_with fail
  have h3 := H2.out.put 0 r
  have d1 := h3.r.cell
  have d2 := h3.e.cell
  exact bodyPost_ret (v := Fire.told 0 r) (by simp [results, Tryd.results6, go_sem, d1, d2, Fire.told]) rfl ⟨rfl, h3.bel⟩

set_option maxRecDepth 100000 in
set_option maxHeartbeats 4000000 in
theorem after_yes (b : Nat → Nat) (s : Nat → Bool) (hb : ∀ k, k < 5 → b k < 2 ^ 64) (hm : Cron.may b = true) (t : Int) (ht : 0 ≤ t ∧ t < 13569465600) (w : World) (hw : World7 w) :
    Calls Tryd.prog 6 #[xval b s, .int .i64 t] w fun e w' => ∃ p : Int × Int, ((∃ r, p = (r, 0) ∧ Fire.AfterIs b s t r) ∨ (p = (0, 5) ∧ Fire.NoAfter b s t)) ∧ e = .returned (Fire.told p.1 p.2) ∧ Below w.heap.size w w' := by
  have h0 := Two8.start w b s
  have hok : refusedOf (Cron.may b) [t] = 0 := by
    rcases @refused_one (Cron.may b) t with ⟨h, _⟩ | ⟨_, h, _⟩ | ⟨_, _, h⟩
    · rw [hm] at h; cases h
    · omega
    · exact h
  have hR := fun g W hW hg hc => refusal_any b s hb g 1 [t] (by simp) W hW hg hc
  rw [hok] at hR
  simp only [List.length_cons, List.length_nil, Nat.zero_add] at hR
  have hA := fun W hW => all8_any b s hb hm t 13569465599 ht (by decide) W hW
  have hI := fun l X G H Bn J Jx W => all2_in (3 - 1) (by decide) l X G H Bn b s hb hm t 13569465599 ht (by decide) J Jx W
  have HW := Lib.hid hw
  have H0 := Lib.hid h0
  have HR := Lib.hid hR
  have HA := Lib.hid hA
  have HI := Lib.hid hI
  clear hR hb hok hw h0 hA hI hm
  have o0 := H0.out.x
  obtain ⟨x0, x1, x2, x3, x4, x5, x6, x7, x8, x9⟩ := xobj_cells o0
  unfold xval xcells at *
  clear o0
  refine (callsIn_wide (n := 3)).1 ?_
  refine callsIn_of_wp_marks Tryd.func6 rfl trivial ?_ rfl
  simp only [Tryd.ntmps6, List.size_toArray, List.length_cons, List.length_nil, Nat.reduceAdd, Nat.reduceSub, Array.replicate_succ, Array.replicate_zero, List.push_toArray, List.append_toArray, List.nil_append, List.cons_append]
  gi_wp2_with fail
  have h1 := H0.out.below ((Below.refl _ _).alloc (Nat.le_refl _) (.cells #[.int .i64 t] 2))
  have H1 := Lib.hid h1
  clear H0 h1
  refine ⟨trivial, ?_⟩
  with_reducible refine (callsIn_wide.2 (HR.out (w.heap.size + 1 + 1 + 1) _ (HW.out.tabs.next H1.out.bel) (row_one _ _ (by simp) t).1 (row_one _ _ (by simp) t).2)).mono ?_
  rintro e w1 ⟨rfl, hb1⟩
  have H2 := Lib.hid (H1.out.below hb1)
  clear hb1 H1 HR x0 x1 x2 x3 x4 x5 x6 x7 x8 x9
  obtain ⟨x0, x1, x2, x3, x4, x5, x6, x7, x8, x9⟩ := xobj_cells H2.out.x
  gi_wp2_with fail
  refine ⟨trivial, (callsIn_wide.2 (HA.out _ (HW.out.tabs.next H2.out.bel))).mono ?_⟩
  rintro e w2 ⟨X, G, H, rfl, hh⟩
  have H3 := Lib.hid (H2.out.below hh.bel)
  have hlow := tables_low HW.out
  have hX := hh.at_
  have hs1 := lt_of_block H2.out.e
  have HH := Lib.hid hh
  clear HA H2 hh x0 x1 x2 x3 x4 x5 x6 x7 x8 x9
  gi_wp2_with fail
  refine range_told (by omega) (gf := 34) (lb := #[.pointer (some ⟨G, 0, none⟩), .pointer (some ⟨H, 0, none⟩), .pointer (some ⟨X, 0, none⟩)]) rfl (enters_of Tryd.func34 (by kernel_rfl) rfl)
    (encs := fun x : Int => #[.int .i64 x]) (Kp := KeepX (w.heap.size + 1)) (T := fun pre _ => ∃ m, Fire.Chain b s t 13569465599 pre m) (S := Fire.AllTold b s t 13569465599) (N := 13569465600) (w0 := w2)
    (fun l J Jx W hW hJ hJx hY h0 => (HI.out l X G H (w.heap.size + 1) J Jx W hJ hY (by omega) (HW.out.next (H3.out.bel.trans (hW.mono H3.out.bel.size))) ((hW.block _ (lt_of_block HH.out.x)).trans HH.out.x) ((hW.block _ (lt_of_block HH.out.fr)).trans HH.out.fr) ((hW.block _ (lt_of_block HH.out.to)).trans HH.out.to) h0).mono fun e W' ⟨hv, ho⟩ => ⟨hv, match ho with | .inl ⟨xs, ⟨m, hc, hcl⟩, hj⟩ => .inl ⟨xs, ⟨m, hc, hcl⟩, ⟨m, hc⟩, hj⟩ | .inr hx => .inr hx⟩)
    (fun h k => h.trans k) (fun W l o o' _ h ho => KeepX.other W l o o' h ho) (fun _ _ _ _ h _ _ => h) (Below.refl _ _) (fun _ => rfl)
    (fun pre W => pre = [] ∧ Two8 w b s 0 0 W) (fun c pre W => c = .ret ∧ ∃ r, Fire.AfterIs b s t r ∧ Two8 w b s r 0 W)
    ?own ?ownx ⟨rfl, H3.out⟩
    (fun x => { tmps := #[.agg #[.int .u64 ((b 0 : Nat) : Int), .bool (s 0), .int .u64 ((b 1 : Nat) : Int), .bool (s 1), .int .u64 ((b 2 : Nat) : Int), .bool (s 2), .int .u64 ((b 3 : Nat) : Int), .bool (s 3), .int .u64 ((b 4 : Nat) : Int), .bool (s 4)], .int .i64 t, .pointer (some ⟨w.heap.size, 0, none⟩), undef, .pointer (some ⟨w.heap.size + 1, 0, none⟩), .pointer (some ⟨w.heap.size + 1 + 1, 0, none⟩), .int .i64 0, .int .i64 x, .agg #[.int .u64 ((b 0 : Nat) : Int), .bool (s 0), .int .u64 ((b 1 : Nat) : Int), .bool (s 1), .int .u64 ((b 2 : Nat) : Int), .bool (s 2), .int .u64 ((b 3 : Nat) : Int), .bool (s 3), .int .u64 ((b 4 : Nat) : Int), .bool (s 4)], .int .i64 t, .slice (some ⟨w.heap.size + 1 + 1 + 1, 0, none⟩) 1 1, .int .i64 0, .int .i64 0, .bool false, undef, .agg #[.int .u64 ((b 0 : Nat) : Int), .bool (s 0), .int .u64 ((b 1 : Nat) : Int), .bool (s 1), .int .u64 ((b 2 : Nat) : Int), .bool (s 2), .int .u64 ((b 3 : Nat) : Int), .bool (s 3), .int .u64 ((b 4 : Nat) : Int), .bool (s 4)], .int .i64 t, .func (.func 34) #[] #[.pointer (some ⟨G, 0, none⟩), .pointer (some ⟨H, 0, none⟩), .pointer (some ⟨X, 0, none⟩)], .int .i64 x, undef], defers := [] }) ?assign ?body ?done ?stop
  case assign =>
    intro l x W K hK
    gi_wp2
    exact hK
  case own =>
    rintro q A W row ⟨rfl, h⟩ hg hr
    exact ⟨rfl, h.grown (Nat.le_trans (by omega) H3.out.bel.size) hg hr⟩
  case ownx =>
    rintro c q A W row ⟨rfl, r, ha, h⟩ hg hr
    exact ⟨rfl, r, ha, h.grown (Nat.le_trans (by omega) H3.out.bel.size) hg hr⟩
  case body =>
    rintro l pre x W ⟨rfl, h⟩ ⟨m, hch⟩ _
    have hx := Lib.hid (chain_first hch)
    have h' := Lib.hid h
    have c1 := h.r.cell
    have f1 := h.r.frozen
    have c2 := h.e.cell
    have f2 := h.e.frozen
    clear hch h
    gi_wp2_with fail
    exact ⟨((KeepsOthers.setCell _ _ _).trans (KeepsOthers.setCell _ _ _)).from _, rfl, x, hx.out, h'.out.put x 0⟩
  case stop =>
    rintro D c pre W hD ⟨rfl, r, ha, h⟩ hK
    have h2 := h.over (Nat.le_trans H3.out.bel.size hD) hK
    have c1 := h2.r.cell
    have c2 := h2.e.cell
    gi_wp2_with fail
    refine ⟨by simp, .inl ⟨_, _, rfl, run_takeDeferred hK, ?_⟩⟩
    exact ⟨Fire.told r 0, by simp [results, Tryd.results6, go_sem, c1, c2, Fire.told], (r, 0), .inl ⟨r, rfl, ha⟩, rfl, h2.bel⟩
  case done =>
    rintro D xs W hD hall _ ⟨rfl, h⟩ hK
    have hno : Fire.NoAfter b s t := fun u hu hf => by
      obtain ⟨m, hc, hcl⟩ := hall
      have : m = t := hc.last
      subst this
      exact hcl u hu (by have := hf.2.1; omega) hf
    have hn := Lib.hid hno
    have h' := Lib.hid h
    have c1 := h.r.cell
    have f1 := h.r.frozen
    have c2 := h.e.cell
    have f2 := h.e.frozen
    have HK := Lib.hid hK
    clear hall hno h hK
    gi_wp2_with fail
    have hsD : w.heap.size + 1 + 1 < D := by have := lt_of_block H3.out.e; omega
    have hKd : ((W.setCell ⟨w.heap.size + 1, 0, none⟩ (.int .i64 0)).setCell ⟨w.heap.size + 1 + 1, 0, none⟩ (.int .i64 5)).heap[D]? = some (.deferred (some [])) := (set_else (by omega)).trans ((set_else (by omega)).trans HK.out)
    have h2 := (h'.out.put 0 5).over (by omega) hKd
    have d1 := h2.r.cell
    have d2 := h2.e.cell
    refine ⟨by simp, .inl ⟨_, _, rfl, run_takeDeferred hKd, ?_⟩⟩
    exact ⟨Fire.told 0 5, by simp [results, Tryd.results6, go_sem, d1, d2, Fire.told], (0, 5), .inr ⟨rfl, hn.out⟩, rfl, h2.bel⟩

theorem after_any (b : Nat → Nat) (s : Nat → Bool) (hb : ∀ k, k < 5 → b k < 2 ^ 64) (t : Int) (w : World) (hw : World7 w) :
    Calls Tryd.prog 6 #[xval b s, .int .i64 t] w fun e w' => ∃ p : Int × Int, Fire.AfterT b s t p ∧ e = .returned (Fire.told p.1 p.2) ∧ Below w.heap.size w w' := by
  rcases @refused_one (Cron.may b) t with ⟨hm, h⟩ | ⟨hm, ht, h⟩ | ⟨hm, ht, _⟩
  · exact (after_no b s hb t 2 h (by decide) w hw.tabs).mono fun e w' ⟨h1, h2⟩ => ⟨(0, 2), afterT_bad hm, h1, h2⟩
  · exact (after_no b s hb t 50 h (by decide) w hw.tabs).mono fun e w' ⟨h1, h2⟩ => ⟨(0, 50), afterT_out hm ht, h1, h2⟩
  · exact (after_yes b s hb hm t ht w hw).mono fun e w' ⟨p, h1, h2, h3⟩ => ⟨p, afterT_in hm ht h1, h2, h3⟩
end Go.Proofs.YtgcineaodfomeaaDoor
