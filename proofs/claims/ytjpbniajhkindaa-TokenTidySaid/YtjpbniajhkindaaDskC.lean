/- New, names, Names, Loose, by their contracts. Names, Loose, Sync, Remove, Replace, by their contracts. -/
import Derived.Test.YtjpbniajhkindaaDisk6
import Derived.Sort.OwnSorted
namespace Go.Proofs.Ytjpbniajhkindaa
open Go.RowKit Go.Maps Go.Sort Dsk

theorem info_str : (Try.prog.info? 9).map (fun i => (i.zero, i.size, i.bytes)) = some (some (.string ⟨#[]⟩), 1, 16) := by kernel_rfl

/-- v holds just the texts ks -/
def StrRow (w : World) (B : Nat) (ks : List Name) (v : Value) : Prop := w.ownsRow B 9 1 v ks.length (ks.map encStr)

theorem StrRow.below {w w' : World} {B : Nat} {ks : List Name} {v : Value} (h : StrRow w B ks v) (hb : Below w.heap.size w w') : StrRow w' B ks v :=
  ownsRow_keep h fun k e => hb.block k (World.ownsRow.lt h k e).2

set_option maxHeartbeats 400000 in
theorem new_any (w : World) :
    Calls Try.prog 6 #[] w fun e w' => e = .returned (.pointer (some ⟨w.heap.size + 1, 0, none⟩)) ∧ Below w.heap.size w w' ∧ ∃ o : Tags, DiskAt w' w.heap.size o (w.heap.size + 1) (fun _ => none) 0 ∧ ∀ k, k < w.heap.size → o k = none := by
  have hmm := @run_makeMap Try.prog
  go_enter Try.func6, Try.ntmps6
  go_wp2
  go_ret
  refine ⟨rfl, ((Below.refl _ _).alloc (Nat.le_refl _) _).alloc (by simp) _, fun k => if k = w.heap.size then some .map else if k = w.heap.size + 1 then some .disk else none, ⟨w.heap.size, .map [], ?_, by simp, by simp, ?_, Nat.le_refl _, fun k e => ?_, fun n _ => .inl ⟨rfl, rfl⟩, fun n e => by cases e⟩, fun k hk => ?_⟩
  · have := heap_alloc_new (w.alloc (.map #[] 0)) (.cells #[.map (some w.heap.size)] 47)
    simpa using this
  · exact (World.ownsMap_made w _ _ _).alloc _
  · split at e
    · subst_vars; exact ⟨Nat.le_refl _, by simp; omega⟩
    · split at e
      · subst_vars; exact ⟨by omega, by simp⟩
      · exact absurd rfl e
  · show (if k = w.heap.size then some Tag.map else if k = w.heap.size + 1 then some Tag.disk else none) = none
    rw [if_neg (by omega), if_neg (by omega)]

theorem mkV_inj {c d : FV} (h : mkV c = mkV d) : c = d := by
  cases c; cases d
  simp [mkV] at h
  simp [h]

/-- what is told of a file -/
def Asks (F : Nat) (q : Fil → Bool) : Prop := ∀ (W : World) (B : Nat) (o : Tags) (l : Name) (c : FV) (f : Fil), FileAt W B o l c f → (∀ k, o k ≠ none → k < W.heap.size) → f.later.length < 1000000000 →
  Calls Try.prog F #[mkV c] W fun e w' => e = .returned (.bool (q f)) ∧ Below W.heap.size W w'

set_option maxHeartbeats 1000000 in
theorem asks_names : Asks 58 (fun f => f.now.there) := by
  intro W B o l c f hf ho hn
  obtain ⟨t, sa, sn, sc, wh, la, ln, lc, ls⟩ := c
  simp only [mkV]
  have hb2 : Below W.heap.size W (W.alloc (.cells #[.bool t, .slice sa sn sc, .int .i64 wh, .slice la ln lc, .bool ls] 64)) := (Below.refl _ _).alloc (Nat.le_refl _) _
  have hH : Held (W.alloc (.cells #[.bool t, .slice sa sn sc, .int .i64 wh, .slice la ln lc, .bool ls] 64)) W.heap.size ⟨t, sa, sn, sc, wh, la, ln, lc, ls⟩ := heap_alloc_new _ _
  obtain ⟨P, q, a, cp, j, hnow, c0, c1, _, hby⟩ := now_any hH (hf.below hb2 ho) hn
  have HN := Lib.hid hnow
  clear hnow hf hH hby
  go_enter Try.func58, Try.ntmps58
  go_wp2_with fail
  refine HN.out.mono ?_
  rintro e w2 ⟨rfl, rfl⟩
  go_wp2
  go_ret
  exact ⟨rfl, hb2⟩

theorem asks_loose : Asks 37 (fun f => f.loose) := by
  intro W B o l c f hf ho hn
  have hls := hf.ls
  obtain ⟨t, sa, sn, sc, wh, la, ln, lc, ls⟩ := c
  dsimp only at hls
  show Calls _ _ _ _ fun e w' => e = .returned (.bool f.loose) ∧ Below W.heap.size W w'
  rw [← hls]
  clear hf hls
  simp only [mkV]
  go_enter Try.func37, Try.ntmps37
  go_wp2
  go_ret
  exact ⟨rfl, (Below.refl _ _).alloc (Nat.le_refl _) _⟩

theorem names_end {w : World} {B : Nat} {o : Tags} {g b N : Nat} {D : DataW Value} {M : Files} (hd : DiskIn w B o g b D M N none) (q : Fil → Bool) {left : Lit → Bool} {met : List Name} (hC : Collected D left met) (hl : ∀ kl, left kl = false) :
    NamesOf M q ((met.filter fun n => q (M.at n)).mergeSort leB) := by
  have tr : ∀ a b c : List UInt8, leB a b = true → leB b c = true → leB a c = true := fun a b c h1 h2 => by simp only [leB, decide_eq_true_eq] at *; exact List.le_trans h1 h2
  have tot : ∀ a b : List UInt8, (leB a b || leB b a) = true := fun a b => by simp only [leB, Bool.or_eq_true, decide_eq_true_eq]; exact List.le_total a b
  have hp := List.mergeSort_perm (met.filter fun n => q (M.at n)) leB
  refine ⟨rises (List.pairwise_mergeSort tr tot _) (hp.nodup_iff.2 (hC.1.filter _)), fun n => ?_⟩
  rw [hp.mem_iff, List.mem_filter, hC.2 n, hl]
  rcases hd.files n (by simp) with ⟨h1, h2⟩ | ⟨f, c, h1, h2, _⟩
  · simp [h1, h2]
  · simp [h1, h2, Files.at]

set_option maxRecDepth 100000 in
set_option maxHeartbeats 1000000 in
theorem names_any (F : Nat) (hE : ∀ args w, (callFunc F args).run Try.prog w = .ok (.enter F args) w) (q : Fil → Bool) (hq : Hid (Asks F q)) (g B N : Nat) (o : Tags) (M : Files) (w : World) (hd : DiskAt w B o g M N) (hN : N < 1000000000) (hn : ∀ l f, M l = some f → f.later.length < 1000000000) :
    Calls Try.prog 36 #[.pointer (some ⟨g, 0, none⟩), .func (.func F) #[] #[]] w fun e w' => ∃ ks v, e = .returned v ∧ NamesOf M q ks ∧ StrRow w' w.heap.size ks v ∧ Below w.heap.size w w' ∧ ks.length ≤ N := by
  obtain ⟨b, D, hd⟩ := hd
  obtain ⟨i0, hi, hz0, hz1, hz2⟩ := info_parts info_str
  have hcell := hd.cell
  have hown := hd.map
  have hbl := hown.lt
  have HD := Lib.hid hd
  have HNN := Lib.hid hn
  clear hd hn
  go_enter Try.func36, Try.ntmps36
  go_wp2_with (first
    | (at_range; refine wpList_range_own _ rfl _ 45 rfl 9 64 nameLaw Try.underlying45 _ b _ _ rfl hown ?_; intro w0 hrg0 hg0 hs0)
    | go_in)
  go_frame
  have HG0 := Lib.hid hg0
  clear hs0
  go_loopw [5] (fun v wr => ∃ (left : Lit → Bool) (cnt : Nat) (met : List Name) (a : Option Addr) (n c : Nat), wr.ranges Try.prog 9 fileElem b w.heap.size (Maps.size D) D left cnt ∧ met.length + cnt ≤ Maps.size D ∧ v = .slice a n c ∧
      StrRow wr w.heap.size (met.filter fun n => q (M.at n)) (.slice a n c) ∧ Collected D left met ∧ Below w.heap.size w wr)
    (fun _ wr => wr.rangeLeft b w.heap.size)
  case atStart => exact ⟨_, _, [], none, 0, 0, hrg0, by simp, rfl, World.ownsRow_nil _ _ _ _, Collected.start D, (Below.refl _ _).grown HG0.out (Nat.le_refl _) (fun j hj => by cases hj)⟩
  case round =>
    obtain ⟨left, cnt, met, a, n, c, hrg, hcs, rfl, hrow, hC, hnx⟩ := hrel
    go_wp2_with (first
      | (at_next; refine wpList_next_ranges _ rfl _ rfl 9 nameLaw fileElem encStr mkV (fun key kl hk => by obtain ⟨x, hx, _⟩ := Maps.keyOf_str Try.underlying9 hk; exact ⟨x, hx⟩) (fun v y hv => by obtain ⟨c, rfl, _⟩ := fileElem_inv hv; exact ⟨c, rfl⟩) b w.heap.size (Maps.size D) _ _ _ rfl hrg ?_ ?_)
      | go_in)
    · intro hc0 hl0
      have hend := names_end HD.out q hC hl0
      have hle : (met.filter fun n => q (M.at n)).length ≤ N := by have := List.length_filter_le (fun n => q (M.at n)) met; have := HD.out.le; omega
      have hlm : ((met.filter fun n => q (M.at n)).mergeSort leB).length = (met.filter fun n => q (M.at n)).length := by simp
      obtain ⟨ss, hss⟩ : ∃ ss, ss = met.filter fun n => q (M.at n) := ⟨_, rfl⟩
      rw [← hss] at hrow hend hle hlm
      rcases hrow.2 with ⟨hv, hn0⟩ | ⟨g1, cap, cur, hv, hbase, hb, h1, h2, h3, h4⟩
      · simp only [Value.slice.injEq] at hv
        obtain ⟨rfl, rfl, rfl⟩ := hv
        have HSO := Lib.hid (Try.slices_Sort_string_none none 0 wr)
        have HE := Lib.hid (show NamesOf M q ([] : List Name) by
          rw [List.eq_nil_of_length_eq_zero hn0, List.mergeSort_nil] at hend
          exact hend)
        have HX := Lib.hid hnx
        clear hend hle hlm hss hrow hn0 hc0 hl0 hrg hcs hC hnx hrg0 hown hbl
        go_wp2_with fail
        refine HSO.out.mono ?_
        rintro e w9 ⟨rfl, rfl⟩
        go_wp2
        go_ret
        exact ⟨[], _, rfl, HE.out, World.ownsRow_nil _ _ _ _, HX.out, Nat.zero_le _⟩
      · simp only [Value.slice.injEq] at hv
        obtain ⟨rfl, rfl, rfl⟩ := hv
        have hH : Holds encStr wr g1 0 ss.toArray := holds_of_block hb (by simpa using h4)
        have hgl : g1 < wr.heap.size := (Array.getElem?_eq_some_iff.1 hb).1
        have HSO := Lib.hid (Try.slices_Sort_string g1 0 c ss wr hH hgl (by omega))
        have HE := Lib.hid hend
        have HX := Lib.hid hnx
        have HLM := Lib.hid hlm
        have HLE := Lib.hid hle
        have HOW := Lib.hid (fun n os => ownsRow_sorted (w := wr) (n := n) (os := os) hlm hbase hb h1 h2 h3)
        have HBA := Lib.hid hbase
        clear hend hle hlm hss hrow hc0 hl0 hrg hcs hC hnx hrg0 hown hbl hH hgl hb h1 h2 h3 h4 hbase
        go_wp2_with fail
        refine HSO.out.mono ?_
        rintro e w9 ⟨rfl, nn, os, hw9⟩
        have HR9 := Lib.hid (show w9.ownsRow w.heap.size 9 1 (.slice (some ⟨g1, 0, none⟩) ss.length c) ss.length ((ss.mergeSort leB).map encStr) by rw [hw9]; exact HOW.out nn os)
        have HG9 := Lib.hid (show wr.grownBy w9 (some g1) by rw [hw9]; exact grownBy_sorted _)
        clear hw9
        go_wp2
        go_ret
        refine ⟨ss.mergeSort leB, _, rfl, HE.out, ?_, HX.out.grown HG9.out HX.out.size (fun j hj => by cases hj; exact HBA.out), by rw [HLM.out]; exact HLE.out⟩
        unfold StrRow
        rw [HLM.out]
        exact HR9.out
    · intro x cc kl yd yp w2 cnt2 hkey hlk hv hat hrg2 hlt hg2 hs2 hen
      obtain ⟨x', ex, rfl, hxl⟩ := Maps.keyOf_str Try.underlying9 hkey
      obtain rfl : x = x' := encStr_inj ex
      obtain ⟨cc', ecc, hyd⟩ := fileElem_inv hv
      obtain rfl := mkV_inj ecc
      simp only [Prod.mk.injEq] at hyd
      obtain ⟨rfl, rfl⟩ := hyd
      have hb2 : Below w.heap.size w w2 := hnx.grown hg2 hnx.size (fun j hj => by cases hj; exact Nat.le_refl _)
      obtain ⟨f, hMf, hf⟩ : ∃ f, M x = some f ∧ FileAt w B o x cc f := by
        rcases HD.out.files x (by simp) with ⟨h1, h2⟩ | ⟨f, c', h1, h2, h3, h4⟩
        · rw [has_true_of_atKey hat] at h2; cases h2
        · have := (h3 (.nil)).symm.trans (hat .nil)
          simp only [DataW.held.injEq] at this
          rw [mkV_inj this] at h4
          exact ⟨f, h1, h4⟩
      have hrow2 := ownsRow_keep hrow (w' := w2) fun k e => hg2.block k (World.ownsRow.lt hrow k e).2 fun e' => row_ne_iter hrow hrg (by rw [e, e'])
      have hf2 := hf.below hb2 (fun k e => (HD.out.own k e).2)
      have hfn := HNN.out x f hMf
      have hat' : M.at x = f := by simp [Files.at, hMf]
      have hsz2 := hb2.size
      have HB2 := Lib.hid hb2
      have HRG2 := Lib.hid hrg2
      have HLT := Lib.hid hlt
      have HC := Lib.hid (hC.step hlk hat)
      have HRG := Lib.hid hrg
      have HAT := Lib.hid hat'
      have HQ := Lib.hid (hq.out (w2.alloc (.cells #[.bool cc.t, .slice cc.sa cc.sn cc.sc, .int .i64 cc.wh, .slice cc.la cc.ln cc.lc, .bool cc.ls] 64)) B o x cc f
        (hf2.below ((Below.refl _ _).alloc (Nat.le_refl _) _) (fun k e => Nat.lt_of_lt_of_le (HD.out.own k e).2 hsz2)) (fun k e => by have := (HD.out.own k e).2; simp; omega) hfn)
      clear hs2 hb2 hrg2 hlt hC hlk hat hrg hat' hf hf2 hMf hfn hkey hv hnx hsz2 hrow
      obtain ⟨t, sa, sn, sc, wh, la, ln, lc, ls⟩ := cc
      simp only [mkV] at hen HQ ⊢
      go_wp2_with fail
      refine HQ.out.mono ?_
      rintro e w3 ⟨rfl, hb3⟩
      have hs23 : w2.heap.size + 1 ≤ w3.heap.size := by have := hb3.size; simpa using this
      have hb13 : Below w2.heap.size w2 w3 := ((Below.refl _ _).alloc (Nat.le_refl _) _).trans (hb3.mono (by simp))
      have hrow3 := ownsRow_keep hrow2 (w' := w3) fun k e => hb13.block k (World.ownsRow.lt hrow2 k e).2
      have hrg3 := HRG2.out.kept (World.grownBy_below hb13 none) (by simp) (by simp)
      have HB3 := Lib.hid (HB2.out.trans (hb13.mono HB2.out.size))
      have HRG3 := Lib.hid hrg3
      have HZ := Lib.hid (show w.heap.size ≤ w3.heap.size from HB3.out.size)
      clear hb3 hs23 hb13 hrow2 hrg3 hen
      cases hqf : q f
      · have HQF := Lib.hid hqf
        go_wp2
        go_roundw
        case rel =>
          refine ⟨_, cnt2, met ++ [x], a, n, c, HRG3.out, by have := HLT.out; simp; omega, rfl, ?_, HC.out, HB3.out⟩
          have : ((met ++ [x]).filter fun n => q (M.at n)) = met.filter fun n => q (M.at n) := by simp [List.filter_append, HAT.out, HQF.out]
          rw [this]
          exact hrow3
        case measure => rw [HRG3.out.left_eq, HRG.out.left_eq]; exact HLT.out
      · have HQF := Lib.hid hqf
        have hfl : (met.filter fun n => q (M.at n)).length ≤ met.length := List.length_filter_le _ _
        have hNle := HD.out.le
        have hlen : (met.filter fun n => q (M.at n)).length + 1 ≤ 1000000000 := by omega
        clear hqf hfl hNle
        go_wp2_with (at_builtin; go_loud (refine wpList_append_own _ rfl _ _ 57 rfl w.heap.size 9 i0 (.string ⟨#[]⟩) 1 16 Try.underlying57 hi hz0 hz1 hz2 rfl (by decide) _ _ _ rfl (hrow3.alloc _) ⟨w3.heap.size, 0, none⟩ 1 1 [encStr x] rfl rfl (cell_one_new _ _ _) (by simp [Value.oneCell', encStr]) (by unfold maxLen; omega) (by omega) (by have := HZ.out; simp; omega) ?_))
        intro v' w4 hown' hg4 hnil4
        obtain ⟨a', c', rfl, _⟩ := slice_shape hown'
        have hrg4 := (HRG3.out.alloc _).kept hg4 (row_ne_low hrow3 hbl) (row_ne_iter hrow3 HRG3.out)
        have HRG4 := Lib.hid hrg4
        have HOW4 := Lib.hid hown'
        have HB4 := Lib.hid ((HB3.out.alloc HZ.out _).grown hg4 (by have := HZ.out; simp; omega) (fun j hj => (World.ownsRow.lt hrow3 j hj).1))
        clear hrg4 hown' hg4 hnil4 hrow3
        go_wp2
        go_roundw
        case rel =>
          refine ⟨_, cnt2, met ++ [x], _, _, _, HRG4.out, by have := HLT.out; simp; omega, rfl, ?_, HC.out, HB4.out⟩
          have : ((met ++ [x]).filter fun n => q (M.at n)) = (met.filter fun n => q (M.at n)) ++ [x] := by simp [List.filter_append, HAT.out, HQF.out]
          rw [this]
          unfold StrRow
          simpa using HOW4.out
        case measure => rw [HRG4.out.left_eq, HRG.out.left_eq]; exact HLT.out

end Go.Proofs.Ytjpbniajhkindaa

namespace Go.Proofs.Ytjpbniajhkindaa
open Go.RowKit Go.Maps Dsk

theorem enter_names (args : Array Value) (w : World) : (callFunc 58 args).run Try.prog w = .ok (.enter 58 args) w := enters_of Try.func58 (by kernel_rfl) rfl args w
theorem enter_loose (args : Array Value) (w : World) : (callFunc 37 args).run Try.prog w = .ok (.enter 37 args) w := enters_of Try.func37 (by kernel_rfl) rfl args w

/-- the names that are told -/
def Told1 (M : Files) (N : Nat) (q : Fil → Bool) (w : World) (e : Ending) (w' : World) : Prop := ∃ ks a c, e = .returned (.slice a ks.length c) ∧ NamesOf M q ks ∧ StrRow w' w.heap.size ks (.slice a ks.length c) ∧ Below w.heap.size w w' ∧ ks.length ≤ N

theorem names_all (g B N : Nat) (o : Tags) (M : Files) (w : World) (hd : DiskAt w B o g M N) (hN : N < 1000000000) (hn : ∀ l f, M l = some f → f.later.length < 1000000000) : Calls Try.prog 46 #[.pointer (some ⟨g, 0, none⟩)] w (Told1 M N (fun f => f.now.there) w) := by
  have H := Lib.hid (names_any _ enter_names _ asks_names g B N o M w hd hN hn)
  clear hd hn
  go_enter Try.func46, Try.ntmps46
  go_wp2_with fail
  refine H.out.mono ?_
  rintro e w1 ⟨ks, v, rfl, h1, h2, h3, h4⟩
  obtain ⟨a, c, rfl, _⟩ := slice_shape h2
  have HE := Lib.hid h1
  have HR := Lib.hid h2
  clear h1 h2
  go_wp2
  go_ret
  exact ⟨ks, a, c, rfl, HE.out, HR.out, h3, h4⟩

theorem loose_all (g B N : Nat) (o : Tags) (M : Files) (w : World) (hd : DiskAt w B o g M N) (hN : N < 1000000000) (hn : ∀ l f, M l = some f → f.later.length < 1000000000) : Calls Try.prog 21 #[.pointer (some ⟨g, 0, none⟩)] w (Told1 M N (fun f => f.loose) w) := by
  have H := Lib.hid (names_any _ enter_loose _ asks_loose g B N o M w hd hN hn)
  clear hd hn
  go_enter Try.func21, Try.ntmps21
  go_wp2_with fail
  refine H.out.mono ?_
  rintro e w1 ⟨ks, v, rfl, h1, h2, h3, h4⟩
  obtain ⟨a, c, rfl, _⟩ := slice_shape h2
  have HE := Lib.hid h1
  have HR := Lib.hid h2
  clear h1 h2
  go_wp2
  go_ret
  exact ⟨ks, a, c, rfl, HE.out, HR.out, h3, h4⟩

theorem StepX.plain {x : Value} {o o' : Tags} {w w' : World} (h : StepX x o w o' w') (hx : ∀ k, x.ownBlock = some k → o k ≠ none) : Step o w o' w' :=
  ⟨h.os, h.tape, h.output, h.size, h.block, fun k hk e _ => h.free k hk e fun e' => hx k e' e⟩

/-- settle, of a version of the file itself -/
theorem settle_of (g B N : Nat) (o : Tags) (M : Files) (l : Name) (v : Ver) (a : Option Addr) (c : Nat) (w : World) (hd : DiskAt w B o g M N) (hM : (M l).isSome = true) (hs : Row w B v.bs (.slice a v.bs.length c)) (hz : v.bs.length ≤ 1048576) (hr : ∀ x ∈ v.bs, 0 ≤ x ∧ x ≤ 255)
    (hso : ∀ k, (Value.slice a v.bs.length c).ownBlock = some k → ∃ j, o k = some (.file l j)) (hl : l.length ≤ 64) (hN : N < 4611686018427387904) :
    Calls Try.prog 22 #[.pointer (some ⟨g, 0, none⟩), .string ⟨l.toArray⟩, .agg #[.bool v.there, .slice a v.bs.length c, .int .i64 v.whole]] w fun e w' => e = .returned (.tuple #[]) ∧
      ∃ o', DiskAt w' B o' g (upd M l (settled v)) N ∧ Step o w o' w' := by
  obtain ⟨t, zs, wh⟩ := v
  cases t
  · refine (settle_gone g B N o M l _ _ w hd hl).mono ?_
    rintro e w' ⟨rfl, o', h1, h2⟩
    exact ⟨rfl, o', by simpa [settled] using h1, h2⟩
  · refine (settle_there g B N o M l _ zs _ w hd hM hs hz hr (fun k e => .inr (hso k e)) hl hN).mono ?_
    rintro e w' ⟨rfl, o', h1, h2⟩
    exact ⟨rfl, o', by simpa [settled] using h1, h2.plain fun k e => by obtain ⟨j, hj⟩ := hso k e; rw [hj]; simp⟩

set_option maxRecDepth 100000 in
set_option maxHeartbeats 1000000 in
theorem sync_any (g B N : Nat) (o : Tags) (M : Files) (l : Name) (w : World) (hd : DiskAt w B o g M N) (hM : (M l).isSome = true) (h1 : 1 ≤ l.length) (h2 : l.length ≤ 64) (hN : N < 1000000000) (hn : (M.at l).later.length < 1000000000) :
    Calls Try.prog 14 #[.pointer (some ⟨g, 0, none⟩), .string ⟨l.toArray⟩] w fun e w' => e = .returned (.int .i64 0) ∧ ∃ o', DiskAt w' B o' g (upd M l (settled (M.at l).now)) N ∧ Step o w o' w' := by
  obtain ⟨b, D, hd⟩ := hd
  have hcell := hd.cell
  obtain ⟨⟨t, sa, sn, sc, wh, la, ln, lc, ls⟩, hf, _, hrun⟩ := hd.look l (by unfold maxLen; omega)
  rw [hM] at hrun
  simp only [mkV] at hrun
  have hb2 : Below w.heap.size w (w.alloc (.cells #[.bool t, .slice sa sn sc, .int .i64 wh, .slice la ln lc, .bool ls] 64)) := (Below.refl _ _).alloc (Nat.le_refl _) _
  have hH : Held (w.alloc (.cells #[.bool t, .slice sa sn sc, .int .i64 wh, .slice la ln lc, .bool ls] 64)) w.heap.size ⟨t, sa, sn, sc, wh, la, ln, lc, ls⟩ := heap_alloc_new _ _
  obtain ⟨P, q, a, cp, j, hnow, c0, c1, c2, hby⟩ := now_any hH (hf.below hb2 (fun k e => (hd.own k e).2)) hn
  have hok := Fil.now_ok hf.ok
  obtain ⟨v, hv⟩ : ∃ v, v = (M.at l).now := ⟨_, rfl⟩
  rw [← hv] at c0 c1 c2 hby hok ⊢
  have HR := Lib.hid (refusal_ok g b l w hcell h1 h2)
  have HN := Lib.hid hnow
  have HS := Lib.hid (settle_of g B N o M l v a cp _ ⟨b, D, hd.below hb2⟩ hM hby.1 hok.2.1 hok.2.2 (fun k e => ⟨j, hby.2 k e⟩) h2 (by omega))
  have HB := Lib.hid hb2
  clear hnow hby hok hv hf hd hM hn hH hb2
  go_enter Try.func14, Try.ntmps14
  go_wp2_with fail
  refine HR.out.mono ?_
  rintro e w1 ⟨rfl, rfl⟩
  go_wp2_with fail
  refine HN.out.mono ?_
  rintro e w1 ⟨rfl, rfl⟩
  go_wp2_with fail
  refine HS.out.mono ?_
  rintro e w1 ⟨rfl, o', hd', hst⟩
  have HD := Lib.hid hd'
  have HST := Lib.hid ((Step.of_below o HB.out).trans hst)
  clear hd' hst
  go_wp2
  go_ret
  exact ⟨rfl, o', HD.out, HST.out⟩

end Go.Proofs.Ytjpbniajhkindaa
