/- now, Read, Sure, by their contracts. -/
import Derived.Test.YtjpbniajhkindaaTorn9
import Derived.Deep.RegionHeld3
namespace Go.Proofs.Ytjpbniajhkindaa
open Go.RowKit Go.Maps Dsk

theorem stays {w w' : World} {p : Addr} {v : Value} (hb : Below w.heap.size w w') (h : w.cell? p = some v) : w'.cell? p = some v := (hb.cell (World.block_lt_of_cell? w p h)).trans h

/-- a box that holds a file -/
def Held (W : World) (fb : Nat) (c : FV) : Prop := W.heap[fb]? = some (.cells #[.bool c.t, .slice c.sa c.sn c.sc, .int .i64 c.wh, .slice c.la c.ln c.lc, .bool c.ls] 64 (0, 0))

theorem Held.cells {W : World} {fb : Nat} {c : FV} (h : Held W fb c) : W.cell? ⟨fb, 0, none⟩ = some (.bool c.t) ∧ W.cell? ⟨fb, 1, none⟩ = some (.slice c.sa c.sn c.sc) ∧ W.cell? ⟨fb, 2, none⟩ = some (.int .i64 c.wh) ∧ W.cell? ⟨fb, 3, none⟩ = some (.slice c.la c.ln c.lc) ∧ W.cell? ⟨fb, 4, none⟩ = some (.bool c.ls) := by
  unfold Held at h
  refine ⟨?_, ?_, ?_, ?_, ?_⟩
  · rw [cell_of_row _ _ 0 _ _ _ h]; rfl
  · rw [cell_of_row _ _ 1 _ _ _ h]; rfl
  · rw [cell_of_row _ _ 2 _ _ _ h]; rfl
  · rw [cell_of_row _ _ 3 _ _ _ h]; rfl
  · rw [cell_of_row _ _ 4 _ _ _ h]; rfl

theorem FileAt.ln {w : World} {B : Nat} {o : Tags} {n : Name} {c : FV} {f : Fil} (h : FileAt w B o n c f) : c.ln = f.later.length := by
  obtain ⟨ss, h1, h2, _⟩ := h.lt
  obtain ⟨_, _, e, _⟩ := slice_shape h2
  simp only [FV.lt, Value.slice.injEq] at e
  exact e.2.1
theorem FileAt.sn {w : World} {B : Nat} {o : Tags} {n : Name} {c : FV} {f : Fil} (h : FileAt w B o n c f) : c.sn = f.sure.bs.length := by
  obtain ⟨_, _, e⟩ := h.sb.1.shape
  simp only [FV.sb, Value.slice.injEq] at e
  exact e.2.1

/-- the last version, where it lies -/
theorem now_any {W : World} {B : Nat} {o : Tags} {l : Name} {c : FV} {f : Fil} {fb : Nat} (hh : Held W fb c) (hf : FileAt W B o l c f) (hn : f.later.length < 1000000000) :
    ∃ P q a cp j, (Calls Try.prog 27 #[.pointer (some ⟨fb, 0, none⟩)] W fun e w' => e = .returned (.pointer (some ⟨P, q, none⟩)) ∧ W = w') ∧
      W.cell? ⟨P, q, none⟩ = some (.bool f.now.there) ∧ W.cell? ⟨P, q + 1, none⟩ = some (.slice a f.now.bs.length cp) ∧ W.cell? ⟨P, q + 2, none⟩ = some (.int .i64 f.now.whole) ∧ BytesAt W B o (.file l j) f.now.bs (.slice a f.now.bs.length cp) := by
  obtain ⟨c0, c1, c2, c3, c4⟩ := hh.cells
  rcases List.eq_nil_or_concat f.later with hl | ⟨r, v, hl⟩
  · have hz : c.ln = 0 := by rw [hf.ln, hl]; rfl
    rw [hz] at c3
    refine ⟨fb, 0, c.sa, c.sc, 0, now_sure fb c.la c.lc W c3, ?_, ?_, ?_, ?_⟩
    · rw [Fil.now_nil hl, c0, hf.t]
    · rw [Fil.now_nil hl, Nat.zero_add, c1, hf.sn]
    · rw [Fil.now_nil hl, Nat.zero_add, c2, hf.wh]
    · have := hf.sb
      rw [Fil.now_nil hl, ← hf.sn]
      exact this
  · rw [List.concat_eq_append] at hl
    have hlen : f.later.length = r.length + 1 := by rw [hl]; simp
    obtain ⟨gl, a, cp, hla, hog, x0, x1, x2, hb⟩ := hf.at r.length (by omega)
    have hv : f.later[r.length]'(by omega) = v := by simp [hl]
    rw [hv] at x0 x1 x2 hb
    rw [hla, hf.ln, hlen] at c3
    rw [Fil.now_some hl]
    exact ⟨gl, r.length * 3, a, cp, r.length + 2, now_later fb gl r.length c.lc W (by omega) c3, x0, x1, x2, hb⟩

theorem FileAt.below {w w' : World} {B : Nat} {o : Tags} {n : Name} {c : FV} {f : Fil} (h : FileAt w B o n c f) (hb : Below w.heap.size w w') (ho : ∀ k, o k ≠ none → k < w.heap.size) : FileAt w' B o n c f :=
  h.keep (fun k j e => hb.block k (ho k (by rw [e]; simp))) (fun _ _ e => e)

/-- bytes.Clone in a world that stands on w -/
theorem clone_on {w W : World} {B : Nat} {zs : List Int} {v : Value} (h : Row w B zs v) (hr : ∀ x ∈ zs, 0 ≤ x ∧ x ≤ 255) (hl : zs.length ≤ 1048577) (hb : Below w.heap.size w W) :
    Calls Try.prog 28 #[v] W fun e w' => ∃ a c, e = .returned (.slice a zs.length c) ∧ Row w' w.heap.size zs (.slice a zs.length c) ∧ Below W.heap.size W w' := by
  refine (clone_row v zs W (h.below hb) hr hl).mono ?_
  rintro e w' ⟨v', rfl, h1, h2⟩
  obtain ⟨a, c, rfl⟩ := h1.shape
  exact ⟨a, c, rfl, h1.less hb.size, h2⟩

/-- what a call of 'file' hands over -/
def Files1 (x y : Value) (w : World) (B : Nat) (o : Tags) (l : Name) (f : Fil) : Prop :=
  Calls Try.prog 26 #[x, y] w fun e w' => ∃ c, e = .returned (mkV c) ∧ FileAt w B o l c f ∧ Below w.heap.size w w'

set_option maxRecDepth 100000 in
set_option maxHeartbeats 1000000 in
theorem read_of (x y : Value) (w : World) (B : Nat) (o : Tags) (l : Name) (f : Fil) (HF : Hid (Files1 x y w B o l f)) (ho : Hid (∀ k, o k ≠ none → k < w.heap.size)) (hn : f.later.length < 1000000000) :
    Calls Try.prog 13 #[x, y] w fun e w' => ∃ a c, e = .returned (.tuple #[.slice a f.now.bs.length c, .bool f.now.there]) ∧ Row w' w.heap.size f.now.bs (.slice a f.now.bs.length c) ∧ Below w.heap.size w w' := by
  obtain ⟨v, hv⟩ : ∃ v, v = f.now := ⟨_, rfl⟩
  rw [← hv]
  have HV := Lib.hid hv
  clear hv
  go_enter Try.func13, Try.ntmps13
  go_wp2_with fail
  refine HF.out.mono ?_
  rintro e w1 ⟨⟨t, sa, sn, sc, wh, la, ln, lc, ls⟩, rfl, hf, hb1⟩
  clear HF
  simp only [mkV]
  have hb2 : Below w.heap.size w (w1.alloc (.cells #[.bool t, .slice sa sn sc, .int .i64 wh, .slice la ln lc, .bool ls] 64)) := hb1.alloc hb1.size _
  have hH : Held (w1.alloc (.cells #[.bool t, .slice sa sn sc, .int .i64 wh, .slice la ln lc, .bool ls] 64)) w1.heap.size ⟨t, sa, sn, sc, wh, la, ln, lc, ls⟩ := heap_alloc_new _ _
  obtain ⟨P, q, a, cp, j, hnow, c0, c1, _, hby⟩ := now_any hH (hf.below hb2 ho.out) hn
  have HN := Lib.hid hnow
  have HR := Lib.hid hby.1
  have HOK := Lib.hid (Fil.now_ok hf.ok)
  have HB2 := Lib.hid hb2
  clear hb1 hf hnow hby hb2 hH
  go_wp2_with fail
  refine HN.out.mono ?_
  rintro e w2 ⟨rfl, rfl⟩
  clear HN
  go_wp2_with fail
  generalize (w1.alloc (.cells #[.bool t, .slice sa sn sc, .int .i64 wh, .slice la ln lc, .bool ls] 64)) = w2 at *
  rw [← HV.out] at c0 c1 HR HOK
  have HC := Lib.hid (fun W (h : Below w2.heap.size w2 W) => clone_on HR.out HOK.out.2.2 (by have := HOK.out.2.1; omega) h)
  go_region_held3 (fun W => W.cell? ⟨P, q, none⟩ = some (.bool v.there) ∧ W.cell? ⟨P, q + 1, none⟩ = some (.slice a v.bs.length cp) ∧ Below w2.heap.size w2 W)
    (first
      | exact ⟨c0, c1, (Below.refl _ _).drew⟩
      | go_keep
      | (go_split_ands; exact ⟨stays hb9 (by assumption), stays hb9 (by assumption), Below.trans (by assumption) (hb9.mono (Below.size (by assumption)))⟩))
    (first
      | (go_at_call 28; (try go_split_ands); with_reducible refine (HC.out _ (by assumption)).mono ?_; rintro e w9 ⟨a9, c9, rfl, hr9, hb9⟩))
  have hbb9 : Below w2.heap.size w2 w9 := by (try go_split_ands); assumption
  have HE := Lib.hid (show Row w9 w.heap.size v.bs (.slice a9 v.bs.length c9) ∧ Below w.heap.size w w9 from ⟨hr9.less HB2.out.size, HB2.out.trans (hbb9.mono HB2.out.size)⟩)
  clear hr9 hb9 hbb9 c0 c1
  go_wp2
  go_ret2
  exact ⟨a9, c9, rfl, HE.out⟩

theorem run_field_sure (w : World) (a b c d e : Value) : (Instr.field 64 (.agg #[a, b, c, d, e]) 0).run Try.prog w = .ok (.agg #[a, b, c]) w := by
  simp [Instr.field, run_underlying Try.underlying64, asAgg, part, go_sem]

end Go.Proofs.Ytjpbniajhkindaa
