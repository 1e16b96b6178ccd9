/- cron.named and cron.Parse, by their contracts. (stage 7's list.) What the rows' list of tables gives: the tables as the walks read them. -/
import Derived.Test.YtpbnjibomdilhaaGreatDoorMae
import Derived.Test.YtpbnjibomdilhaaGreatDoorCards
import Derived.Test.YtpbnjibomdilhaaGreatDoorTie
import Derived.Lib.LaidU8T
import Derived.Lib.LaidCaseMet
import Derived.PinnedBridge
import Derived.Shelf.Vars
import Derived.LaidSub
import Derived.Lib.LaidTab
namespace Go.Proofs.YtpbnjibomdilhaaGreatDoor
open Go.RowKit

def nm (j : Nat) : ByteArray := ba (Cron.tab.getD j [])
def NamesOn (w : World) : Prop := ∀ W, Below w.heap.size w W → ∀ j, j < 14 → W.cell? ⟨0, j, none⟩ = some (.string (nm j))
theorem NamesOn.next {w w' : World} (h : NamesOn w) (hb : Below w.heap.size w w') : NamesOn w' := fun W hW => h W (hb.trans (hW.mono hb.size))
theorem NamesOn.of {w : World} (h : ∀ j, j < 14 → w.cell? ⟨0, j, none⟩ = some (.string (nm j))) : NamesOn w := fun _ hb j hj => stays hb (h j hj)
def names14 : Array Value := #[.string (nm 0), .string (nm 1), .string (nm 2), .string (nm 3), .string (nm 4), .string (nm 5), .string (nm 6), .string (nm 7), .string (nm 8), .string (nm 9), .string (nm 10), .string (nm 11), .string (nm 12), .string (nm 13)]
theorem seven {P : Nat → Prop} (h0 : P 0) (h1 : P 1) (h2 : P 2) (h3 : P 3) (h4 : P 4) (h5 : P 5) (h6 : P 6) : ∀ i, i < 7 → P i := by
  intro i hi
  have : i = 0 ∨ i = 1 ∨ i = 2 ∨ i = 3 ∨ i = 4 ∨ i = 5 ∨ i = 6 := by omega
  rcases this with rfl | rfl | rfl | rfl | rfl | rfl | rfl <;> assumption
theorem index_names (i : Nat) (hi : i < 7) (w : World) : (Instr.index 139 (.agg names14) (.int .i64 (i : Int))).run Tryz.prog w = .ok (.agg #[.string (nm (2 * i)), .string (nm (2 * i + 1))]) w := by
  revert i
  refine seven ?_ ?_ ?_ ?_ ?_ ?_ ?_ <;> simp [Instr.index, run_underlying Tryz.underlying139, asIntOf, go_sem, names14]

namespace Cron
theorem tab_len : ∀ i : Fin 7, (tab.getD (2 * i.val + 1) []).length ≤ 400 := by decide
theorem nm_some {l t : List UInt8} (h : nameOf l = some t) : nmB l = spB t ∧ nmS l = spS t := by
  constructor
  · funext k; unfold nmB; rw [h]
  · funext k; unfold nmS; rw [h]
theorem nm_none {l : List UInt8} (h : nameOf l = none) : nmB l = (fun _ => 0) ∧ nmS l = (fun _ => false) := by
  constructor
  · funext k; unfold nmB; rw [h]
  · funext k; unfold nmS; rw [h]
end Cron

set_option maxRecDepth 100000 in
set_option maxHeartbeats 4000000 in
theorem named_any (s : ByteArray) (w : World) (hw : TabsOn w) (hn : NamesOn w) : Calls Tryz.prog 85 #[.string s] w fun e w' => e = .returned (xval (Cron.nmB s.data.toList) (Cron.nmS s.data.toList)) ∧ Below w.heap.size w w' := by
  have o : OwnX w w.heap.size (fun _ => 0) (fun _ => false) (w.alloc (.cells zeroX 101)) := OwnX.new w (fun _ => 0) (fun _ => false)
  have O := Lib.hid o
  have hc := hn _ o.bel
  have c0 := hc 0 (by decide)
  have c1 := hc 1 (by decide)
  have c2 := hc 2 (by decide)
  have c3 := hc 3 (by decide)
  have c4 := hc 4 (by decide)
  have c5 := hc 5 (by decide)
  have c6 := hc 6 (by decide)
  have c7 := hc 7 (by decide)
  have c8 := hc 8 (by decide)
  have c9 := hc 9 (by decide)
  have c10 := hc 10 (by decide)
  have c11 := hc 11 (by decide)
  have c12 := hc 12 (by decide)
  have c13 := hc 13 (by decide)
  have HW := Lib.hid hw
  have HI := index_names
  unfold names14 at HI
  have HI := Lib.hid HI
  clear o hc hn hw
  go_enter Tryz.func85, Tryz.ntmps85
  go_wp2_with fail
  clear c0 c1 c2 c3 c4 c5 c6 c7 c8 c9 c10 c11 c12 c13
  generalize (#[Value.string (nm 0), Value.string (nm 1), Value.string (nm 2), Value.string (nm 3), Value.string (nm 4), Value.string (nm 5), Value.string (nm 6), Value.string (nm 7), Value.string (nm 8), Value.string (nm 9), Value.string (nm 10), Value.string (nm 11), Value.string (nm 12), Value.string (nm 13)] : Array Value) = A at *
  go_loopg [8] 7 (fun g t wx => ∃ i : Nat, i + g = 7 ∧ t = .int .i64 (i : Int) ∧ Cron.nameOf s.data.toList = Cron.seek s.data.toList g i ∧ OwnX w w.heap.size (fun _ => 0) (fun _ => false) wx)
  case atStart => exact ⟨0, by omega, rfl, rfl, O.out⟩
  case round =>
    obtain ⟨i, hig, rfl, hsk, ox⟩ := hrel
    have HSK := Lib.hid hsk
    have OX := Lib.hid ox
    clear hsk ox O
    cases gk with
    | zero =>
      obtain rfl : i = 7 := by omega
      have HN := Lib.hid (Cron.nm_none HSK.out)
      obtain ⟨c0, c1, c2, c3, c4, c5, c6, c7, c8, c9⟩ := xobj_cells OX.out.row
      have f := fun j => row_free OX.out.row j
      go_wp2_with fail
      change bodyPost _ _ _ _ _ (putX wr w.heap.size (fun _ => 0) (fun _ => false))
      have hbF : Below w.heap.size w (putX wr w.heap.size (fun _ => 0) (fun _ => false)) := putX_below OX.out.bel (Nat.le_refl _)
      have hrF : (putX wr w.heap.size (fun _ => 0) (fun _ => false)).heap[w.heap.size]? = _ := putX_row OX.out.row
      clear c0 c1 c2 c3 c4 c5 c6 c7 c8 c9 f
      generalize putX wr w.heap.size (fun _ => 0) (fun _ => false) = WF at *
      obtain ⟨c0, c1, c2, c3, c4, c5, c6, c7, c8, c9⟩ := xobj_cells hrF
      refine bodyPost_ret (v := xval (fun _ => 0) (fun _ => false)) (by simp [results, Tryz.results85, go_sem, c0, c1, c2, c3, c4, c5, c6, c7, c8, c9, xval, xcells]) rfl ⟨by rw [HN.out.1, HN.out.2], hbF⟩
    | succ g =>
      have hi : i < 7 := by omega
      have hi7 : (i : Int) < 7 := by omega
      have hix : ∀ W, (Instr.index 139 (.agg A) (.int .i64 (i : Int))).run Tryz.prog W = .ok (.agg #[.string (nm (2 * i)), .string (nm (2 * i + 1))]) W := HI.out i hi
      have OX2 := Lib.hid (OX.out.alloc (.cells #[Value.string (nm (2 * i)), Value.string (nm (2 * i + 1))] 138))
      by_cases hs : Cron.tab.getD (2 * i) [] = s.data.toList
      · have he : ((nm (2 * i)).toList == s.toList) = true := by
          rw [Lib.toList_data, Lib.toList_data]
          show (Cron.tab.getD (2 * i) [] == s.data.toList) = true
          rw [hs]
          exact beq_self_eq_true _
        have HN := Lib.hid (Cron.nm_some (show Cron.nameOf s.data.toList = some (Cron.tab.getD (2 * i + 1) []) by rw [HSK.out]; unfold Cron.seek; rw [if_pos hs]))
        have SPL := fun W hW => spelled_any (nm (2 * i + 1)) (by unfold nm; rw [ba_size]; exact Cron.tab_len ⟨i, hi⟩) W hW
        have hnm : (nm (2 * i + 1)).data.toList = Cron.tab.getD (2 * i + 1) [] := rfl
        rw [hnm] at SPL
        clear hnm
        generalize Cron.spB (Cron.tab.getD (2 * i + 1) []) = B at *
        generalize Cron.spS (Cron.tab.getD (2 * i + 1) []) = S at *
        unfold xval xcells at SPL
        have SPL2 := Lib.hid SPL
        clear hs HSK SPL
        go_wp2_with fail
        with_reducible refine (SPL2.out _ (HW.out.next OX2.out.bel)).mono ?_
        rintro e w4 ⟨rfl, hb4⟩
        have OX4 := Lib.hid ((OX2.out.below hb4).alloc (.cells #[.int .u64 ((B 0 : Nat) : Int), .bool (S 0), .int .u64 ((B 1 : Nat) : Int), .bool (S 1), .int .u64 ((B 2 : Nat) : Int), .bool (S 2), .int .u64 ((B 3 : Nat) : Int), .bool (S 3), .int .u64 ((B 4 : Nat) : Int), .bool (S 4)] 101))
        clear hb4 SPL2 hix
        obtain ⟨c0, c1, c2, c3, c4, c5, c6, c7, c8, c9⟩ := xobj_cells OX4.out.row
        have f := fun j => row_free OX4.out.row j
        go_wp2_with fail
        change bodyPost _ _ _ _ _ (putX _ w.heap.size B S)
        have hbF := putX_below (b := B) (s := S) OX4.out.bel (Nat.le_refl w.heap.size)
        have hrF := putX_row (b := B) (s := S) OX4.out.row
        clear c0 c1 c2 c3 c4 c5 c6 c7 c8 c9 f
        generalize putX _ w.heap.size B S = WF at *
        obtain ⟨c0, c1, c2, c3, c4, c5, c6, c7, c8, c9⟩ := xobj_cells hrF
        refine bodyPost_ret (v := xval B S) (by simp [results, Tryz.results85, go_sem, c0, c1, c2, c3, c4, c5, c6, c7, c8, c9, xval, xcells]) rfl ⟨by rw [HN.out.1, HN.out.2], hbF⟩
      · have he : ((nm (2 * i)).toList == s.toList) = false := by
          rw [Lib.toList_data, Lib.toList_data]
          exact beq_eq_false_iff_ne.2 hs
        have HSK2 := Lib.hid (show Cron.nameOf s.data.toList = Cron.seek s.data.toList g (i + 1) by rw [HSK.out]; unfold Cron.seek; rw [if_neg hs]; cases g <;> rfl)
        clear hs HSK
        go_wp2_with fail
        go_roundg g
        case measure => omega
        case rel => exact ⟨i + 1, by omega, by go_num, HSK2.out, OX2.out⟩
end Go.Proofs.YtpbnjibomdilhaaGreatDoor

namespace Go.Proofs.YtpbnjibomdilhaaGreatDoor
open Go.ChangeShapes Go.WideShapes Go.RowKit Go.Lib

def laidAll : List (String × DataW Unit) := [("math/bits.deBruijn32tab", Rows.laid_math_bits_deBruijn32tab), ("math/bits.deBruijn64tab", Rows.laid_math_bits_deBruijn64tab), ("internal/strconv.uint64pow10", Rows.laid_internal_strconv_uint64pow10), ("unicode/utf8.acceptRanges", Rows.laid_unicode_utf8_acceptRanges), ("strconv.ErrRange", Rows.laid_strconv_ErrRange), ("strconv.ErrSyntax", Rows.laid_strconv_ErrSyntax), ("unicode.asciiFold", Rows.laid_unicode_asciiFold), ("unicode.caseOrbit", Rows.laid_unicode_caseOrbit), ("ringer/field.bounds", Rows.laid_ringer_field_bounds), ("ringer/field.names", Rows.laid_ringer_field_names), ("ringer/cron.names", Rows.laid_ringer_cron_names), ("unicode.CaseRanges", Rows.laid_unicode_CaseRanges), ("unicode/utf8.first", Rows.laid_unicode_utf8_first)]

/-- the numbers of a table's datum -/
def zsOf (d : DataW Unit) : List Int :=
  match d with
  | .agg l => l.map fun x => match x with | .lit (.int _ z) => z | _ => 0
  | _ => []
/-- the pairs of the orbits' datum -/
def prOf (d : DataW Unit) : List (List Int) :=
  match d with
  | .slice l _ => l.map zsOf
  | _ => []
abbrev fZ : List Int := zsOf Rows.laid_unicode_asciiFold
abbrev bZ : List Int := zsOf Rows.laid_math_bits_deBruijn64tab
abbrev oZ : List (List Int) := prOf Rows.laid_unicode_caseOrbit
theorem fold_data : (Rows.laid_unicode_asciiFold : DataW Unit) = tabData .u16 fZ := by kernel_rfl
theorem bits_data : (Rows.laid_math_bits_deBruijn64tab : DataW Unit) = tabData .u8 bZ := by kernel_rfl
theorem orbit_data : (Rows.laid_unicode_caseOrbit : DataW Unit) = .slice (oZ.map fun l => .agg (l.map fun z => .lit (.int .u16 z))) [] := by kernel_rfl
theorem bounds_data : (Rows.laid_ringer_field_bounds : DataW Unit) = .agg ((List.range 5).map fun k => tabData .i64 [(Fld.lo k : Int), (Fld.hi k : Int)]) := by kernel_rfl
theorem names_data : (Rows.laid_ringer_field_names : DataW Unit) = .agg ((List.range 5).map fun k => .agg ((List.range 12).map fun i => .lit (.string ((Fld.names k).getD i [])))) := by kernel_rfl
theorem accept_data : (Rows.laid_unicode_utf8_acceptRanges : DataW Unit) = acceptData := by kernel_rfl
theorem fold_len : fZ.length = 128 := by kernel_rfl
theorem bits_len : bZ.length = 64 := by kernel_rfl
theorem orbit_len : oZ.length = 94 := by kernel_rfl
theorem fold_low : ∀ c : Nat, c < 128 → 97 ≤ c → c ≤ 122 → c ≠ 107 → c ≠ 115 → fZ.getD c 0 = (c : Int) - 32 := by decide +kernel
theorem fold_up : ∀ c : Nat, c < 128 → 65 ≤ c → c ≤ 90 → c ≠ 75 → c ≠ 83 → fZ.getD c 0 = (c : Int) + 32 := by decide +kernel
theorem fold_ess : fZ.getD 115 0 = 383 ∧ fZ.getD 83 0 = 115 := by decide +kernel
theorem bits_at : ∀ i : Nat, i < 64 → (2 ^ i * 285870213051353865) % 18446744073709551616 / 288230376151711744 < 64 ∧ bZ.getD ((2 ^ i * 285870213051353865) % 18446744073709551616 / 288230376151711744) 0 = (i : Int) := by decide +kernel
theorem cellsInt : Tryz.prog.cellsOf 3 = 1 := by kernel_rfl
theorem cellsU8 : Tryz.prog.cellsOf 5 = 1 := by kernel_rfl
theorem cellsU16 : Tryz.prog.cellsOf 186 = 1 := by kernel_rfl
theorem cellsStr : Tryz.prog.cellsOf 9 = 1 := by kernel_rfl
theorem cells2 : Tryz.prog.cellsOf 165 = 2 := by kernel_rfl
theorem cells12 : Tryz.prog.cellsOf 171 = 12 := by kernel_rfl
theorem cellsPair : Tryz.prog.cellsOf 190 = 2 := by kernel_rfl

theorem at_part {cs l : List Value} {i n j : Nat} {v : Value} (h : (cs.drop i).take n = l) (hj : l[j]? = some v) (hn : j < n) : cs[i + j]? = some v := by
  rw [← h, List.getElem?_take_of_lt hn, List.getElem?_drop] at hj
  exact hj

section
variable {W : World} (rd : ∀ n d, (n, d) ∈ laidAll → VarReads Tryz.prog W n d)
include rd
theorem bounds_at (k : Nat) (hk : k ≤ 4) : W.cell? ⟨1, k * 2, none⟩ = some (.int .i64 (Fld.lo k : Int)) ∧ W.cell? ⟨1, k * 2 + 1, none⟩ = some (.int .i64 (Fld.hi k : Int)) := by
  obtain ⟨g, t, cs, fuel, p, hg, hty, hvar, hd⟩ := rd "ringer/field.bounds" Rows.laid_ringer_field_bounds (List.mem_of_getElem? (i := 8) rfl)
  obtain rfl := Option.some.inj ((show Tryz.prog.globalNamed "ringer/field.bounds" = some 1 by kernel_rfl).symm.trans hg)
  obtain rfl := Option.some.inj ((show (Tryz.prog.globals[1]?).map (·.type) = some 166 by kernel_rfl).symm.trans hty)
  rw [bounds_data] at hd
  obtain ⟨fuel', d, q, hdi, he⟩ := array_elem Tryz.underlying166 hd k (by omega)
  simp only [List.getElem?_map, List.getElem?_range (show k < 5 by omega), Option.map_some, Option.some.injEq] at hdi
  subst hdi
  have hcs := cells_of_tab Tryz.underlying165 Tryz.underlying3 cellsInt cells2 he
  rw [cells2] at hcs
  exact ⟨by rw [World.var?_cell hg hvar (k * 2), ← Array.getElem?_toList]; exact at_part (j := 0) hcs rfl (by omega),
    by rw [World.var?_cell hg hvar (k * 2 + 1), ← Array.getElem?_toList]; exact at_part (j := 1) hcs rfl (by omega)⟩
theorem names_at (k i : Nat) (hk : k ≤ 4) (hi : i < 12) : W.cell? ⟨2, k * 12 + i, none⟩ = some (.string (ba ((Fld.names k).getD i []))) := by
  obtain ⟨g, t, cs, fuel, p, hg, hty, hvar, hd⟩ := rd "ringer/field.names" Rows.laid_ringer_field_names (List.mem_of_getElem? (i := 9) rfl)
  obtain rfl := Option.some.inj ((show Tryz.prog.globalNamed "ringer/field.names" = some 2 by kernel_rfl).symm.trans hg)
  obtain rfl := Option.some.inj ((show (Tryz.prog.globals[2]?).map (·.type) = some 172 by kernel_rfl).symm.trans hty)
  rw [names_data] at hd
  obtain ⟨fuel', d, q, hdi, he⟩ := array_elem Tryz.underlying172 hd k (by omega)
  simp only [List.getElem?_map, List.getElem?_range (show k < 5 by omega), Option.map_some, Option.some.injEq] at hdi
  subst hdi
  obtain ⟨fuel2, d2, q2, hdi2, he2⟩ := array_elem Tryz.underlying171 he i hi
  simp only [List.getElem?_map, List.getElem?_range hi, Option.map_some, Option.some.injEq] at hdi2
  subst hdi2
  rw [cellsStr, cells12] at he2
  obtain ⟨s, hs, hx, hsz⟩ := DataW.trod_string Tryz.underlying9 he2
  simp only [Prod.mk.injEq, DataW.lit.injEq, Lit.string.injEq] at hx
  have h1 := at_part (j := 0) hs rfl (by omega)
  rw [Nat.add_zero, Nat.mul_one, List.getElem?_take_of_lt hi, List.getElem?_drop] at h1
  rw [World.var?_cell hg hvar (k * 12 + i), ← Array.getElem?_toList, h1, hx.1, ba_self]
theorem iface_at {n : String} {g : Nat} {nm : String} {d : DataW Unit} (hm : (n, DataW.iface nm d) ∈ laidAll) (hn : Tryz.prog.globalNamed n = some g) (hy : (Tryz.prog.globals[g]?).map (·.type) = some 174) : ∃ te pe, W.cell? ⟨g, 0, none⟩ = some (.iface te pe) := by
  obtain ⟨g', t, cs, fuel, p, hg, hty, hvar, hd⟩ := rd n _ hm
  obtain rfl := Option.some.inj (hn.symm.trans hg)
  obtain rfl := Option.some.inj (hy.symm.trans hty)
  obtain ⟨fuel', u, v, hcs, -, -⟩ := iface_of_trod Tryz.underlying174 hd
  refine ⟨u, v, ?_⟩
  rw [World.var?_cell hg hvar 0, ← Array.getElem?_toList, hcs]
  rfl
theorem fold_at (c : Nat) (hc : c < 128) : W.cell? ⟨6, c, none⟩ = some (.int .u16 (fZ.getD c 0)) := by
  obtain ⟨g, t, cs, fuel, p, hg, hty, hvar, hd⟩ := rd "unicode.asciiFold" Rows.laid_unicode_asciiFold (List.mem_of_getElem? (i := 6) rfl)
  obtain rfl := Option.some.inj ((show Tryz.prog.globalNamed "unicode.asciiFold" = some 6 by kernel_rfl).symm.trans hg)
  obtain rfl := Option.some.inj ((show (Tryz.prog.globals[6]?).map (·.type) = some 187 by kernel_rfl).symm.trans hty)
  rw [fold_data] at hd
  have hcs := cells_of_tab Tryz.underlying187 Tryz.underlying186 cellsU16 (by kernel_rfl) hd
  have hl : c < fZ.length := by rw [fold_len]; exact hc
  rw [World.var?_cell hg hvar c, ← Array.getElem?_toList, hcs, List.getElem?_map, List.getElem?_eq_getElem hl]
  simp [List.getD, List.getElem?_eq_getElem hl]
theorem tz_at (c : Nat) (hc : c < 64) : W.cell? ⟨13, c, none⟩ = some (.int .u8 (bZ.getD c 0)) := by
  obtain ⟨g, t, cs, fuel, p, hg, hty, hvar, hd⟩ := rd "math/bits.deBruijn64tab" Rows.laid_math_bits_deBruijn64tab (List.mem_of_getElem? (i := 1) rfl)
  obtain rfl := Option.some.inj ((show Tryz.prog.globalNamed "math/bits.deBruijn64tab" = some 13 by kernel_rfl).symm.trans hg)
  obtain rfl := Option.some.inj ((show (Tryz.prog.globals[13]?).map (·.type) = some 224 by kernel_rfl).symm.trans hty)
  rw [bits_data] at hd
  have hcs := cells_of_tab Tryz.underlying224 Tryz.underlying5 cellsU8 (by kernel_rfl) hd
  have hl : c < bZ.length := by rw [bits_len]; exact hc
  rw [World.var?_cell hg hvar c, ← Array.getElem?_toList, hcs, List.getElem?_map, List.getElem?_eq_getElem hl]
  simp [List.getD, List.getElem?_eq_getElem hl]
theorem orbit_at : ∃ b o c, W.cell? ⟨7, 0, none⟩ = some (.slice (some ⟨b, o, none⟩) 94 c) ∧ 94 ≤ c ∧ ∀ j x y, oZ[j]? = some [x, y] → W.cell? ⟨b, o + 2 * j, none⟩ = some (.int .u16 x) ∧ W.cell? ⟨b, o + (2 * j + 1), none⟩ = some (.int .u16 y) := by
  obtain ⟨g, t, cs, fuel, p, hg, hty, hvar, hd⟩ := rd "unicode.caseOrbit" Rows.laid_unicode_caseOrbit (List.mem_of_getElem? (i := 7) rfl)
  obtain rfl := Option.some.inj ((show Tryz.prog.globalNamed "unicode.caseOrbit" = some 7 by kernel_rfl).symm.trans hg)
  obtain rfl := Option.some.inj ((show (Tryz.prog.globals[7]?).map (·.type) = some 188 by kernel_rfl).symm.trans hty)
  rw [orbit_data] at hd
  rcases DataW.trod_slice Tryz.underlying188 hd with ⟨_, hx'⟩ | ⟨a', len, cap, el, rs, m, rfl, hc0, hx', _, hlc, _, hel, helem, hsp, _⟩
  · cases hx'
  have e0 := congrArg Prod.fst hx'
  simp only [DataW.slice.injEq] at e0
  obtain ⟨eE, eR⟩ := e0
  have hlen : len = 94 := by
    have := congrArg List.length eE
    rw [List.length_map, List.length_map, orbit_len] at this
    omega
  subst hlen
  have hrow : ∀ j x y, oZ[j]? = some [x, y] → W.cell? ((a'.add (j * 2)).add 0) = some (.int .u16 x) ∧ W.cell? ((a'.add (j * 2)).add 1) = some (.int .u16 y) := by
    intro j x y hj
    have hj' : j < 94 := by have := (List.getElem?_eq_some_iff.1 hj).1; rw [orbit_len] at this; exact this
    have h1 := helem j hj'
    rw [cellsPair] at h1
    obtain ⟨b, hb⟩ : ∃ b, el[j]? = some b := ⟨el[j]'(by omega), List.getElem?_eq_getElem (by omega)⟩
    rw [hb] at h1
    obtain ⟨ce, hce, hte⟩ := Option.bind_eq_some_iff.1 h1
    have hb1 : b.1 = .agg ([x, y].map fun z => .lit (.int .u16 z)) := by
      have := congrArg (·[j]?) eE
      simp only [List.getElem?_map, hb, hj, Option.map_some, Option.some.injEq] at this
      exact this.symm
    have hcs := ints_of_struct (p := b.2) Tryz.underlying190 (fun q f hq => by
      match q, hq with
      | 0, hq => simp at hq; subst hq; exact ⟨Tryz.underlying186, rfl, cellsU16⟩
      | 1, hq => simp at hq; subst hq; exact ⟨Tryz.underlying186, rfl, cellsU16⟩
      | q + 2, hq => simp at hq) (by rw [cellsPair]; rfl) (by rw [← hb1]; exact hte)
    obtain ⟨_, _, hcc⟩ := World.cells?_some hce
    exact ⟨by rw [hcc 0 (by omega), hcs]; rfl, by rw [hcc 1 (by omega), hcs]; rfl⟩
  obtain ⟨R, oR, sR⟩ := a'
  obtain rfl : sR = none := by
    have h00 := (hrow 0 75 107 (by kernel_rfl)).1
    have : (Addr.add (Addr.add ⟨R, oR, sR⟩ (0 * 2)) 0) = ⟨R, oR, sR⟩ := by simp [Addr.add]
    rw [this] at h00
    exact cell_spot h00
  refine ⟨R, oR, cap, ?_, hlc, fun j x y hj => ?_⟩
  · rw [World.var?_cell hg hvar 0, ← Array.getElem?_toList, hc0]
    rfl
  · have h := hrow j x y hj
    rw [Addr.add_lit, Addr.add_lit, Addr.add_lit] at h
    rw [show oR + 2 * j = oR + j * 2 + 0 by omega, show oR + (2 * j + 1) = oR + j * 2 + 1 by omega]
    exact h
end

theorem tabs_met {W : World} (h0 : laidMetH Tryz.prog laidAll W) (hsh : W.ShapedOpen Tryz.prog) : Tabs W := by
  have h : laidMet Tryz.prog laidAll W := h0
  have rd : ∀ n d, (n, d) ∈ laidAll → VarReads Tryz.prog W n d := fun n d hm => Lib.laidMet.reads h hm
  obtain ⟨b, o, c, ho, hc, hp⟩ := orbit_at rd
  refine { low := bounds_at rd, nam := names_at rd, mx := ?_, syn := ?_, rng := ?_, utf := ?_, asc := ?_, asc2 := ?_, ess := ?_, tz := ?_, orb := ?_ }
  · exact cell_of_shapedOpen_int hsh (Nat.le_of_ble_eq_true (by kernel_rfl)) (zero := #[.int .i64 0]) (t := 3) (by kernel_rfl) rfl (by kernel_rfl) (by kernel_rfl) Tryz.underlying3
  · exact iface_at rd (List.mem_of_getElem? (i := 5) rfl) (by kernel_rfl) (by kernel_rfl)
  · exact iface_at rd (List.mem_of_getElem? (i := 4) rfl) (by kernel_rfl) (by kernel_rfl)
  · exact utf8Tabs_of_readsT (ρ := Tryz.lays197_ren) { Tryz.lays197 with } ⟨by kernel_rfl, by kernel_rfl, by kernel_rfl, by kernel_rfl, by kernel_rfl, by kernel_rfl, by kernel_rfl⟩
      (Pinned.utf8First_eq ▸ rd "unicode/utf8.first" Rows.laid_unicode_utf8_first (List.mem_of_getElem? (i := 12) rfl)) (accept_data ▸ rd "unicode/utf8.acceptRanges" Rows.laid_unicode_utf8_acceptRanges (List.mem_of_getElem? (i := 3) rfl))
  · exact fun c h1 h2 h3 h4 => by rw [fold_at rd c (by omega), fold_low c (by omega) h1 h2 h3 h4]
  · exact fun c h1 h2 h3 h4 => by rw [fold_at rd c (by omega), fold_up c (by omega) h1 h2 h3 h4]
  · exact ⟨by rw [fold_at rd 115 (by omega), fold_ess.1], by rw [fold_at rd 83 (by omega), fold_ess.2]⟩
  · exact fun i hi => by rw [tz_at rd _ (bits_at i hi).1, (bits_at i hi).2]
  · exact ⟨b, o, c, ho, hc, (hp 47 966 981 (by kernel_rfl)).1, (hp 23 837 921 (by kernel_rfl)).1, (hp 11 452 453 (by kernel_rfl)).1, (hp 5 197 229 (by kernel_rfl)).1, (hp 8 304 304 (by kernel_rfl)).1, (hp 10 383 83 (by kernel_rfl)).1, (hp 9 305 305 (by kernel_rfl)).1, (hp 10 383 83 (by kernel_rfl)).2⟩
theorem cellsNT : Tryz.prog.cellsOf 138 = 2 := by kernel_rfl
theorem names7_data : (Rows.laid_ringer_cron_names : DataW Unit) = .agg ((List.range 7).map fun k => .agg [.lit (.string (Cron.tab.getD (2 * k) [])), .lit (.string (Cron.tab.getD (2 * k + 1) []))]) := by kernel_rfl
set_option maxRecDepth 100000 in
theorem strs_of_struct {enc : TypeId × Value → Unit} {W : World} {base : Nat} {sp : Nat → Bool} {held : Bool} {fuel : Nat} {cs : List Value} {a b : List UInt8} {p : List MemPlace}
    (h : DataW.trod enc Tryz.prog W base sp held fuel 138 cs = some (.agg [.lit (.string a), .lit (.string b)], p)) : cs = [.string (ba a), .string (ba b)] := by
  obtain ⟨xs, n, -, hx, hl, hxl, hall⟩ := DataW.trod_struct Tryz.underlying138 h
  rw [cellsNT] at hl
  match cs, hl with
  | [c0, c1], _ =>
    match xs, hxl with
    | [y0, y1], _ =>
      have h0 : DataW.trod enc Tryz.prog W base sp held n 9 [c0] = some y0 := hall 0 _ rfl
      have h1 : DataW.trod enc Tryz.prog W base sp held n 9 [c1] = some y1 := hall 1 _ rfl
      obtain ⟨d0, q0⟩ := y0
      obtain ⟨d1, q1⟩ := y1
      obtain ⟨s0, e0, x0, -⟩ := DataW.trod_string Tryz.underlying9 h0
      obtain ⟨s1, e1, x1, -⟩ := DataW.trod_string Tryz.underlying9 h1
      simp only [Prod.mk.injEq] at x0 x1
      simp only [List.map_cons, List.map_nil, Prod.mk.injEq, DataW.agg.injEq, List.cons.injEq, and_true, x0.1, x1.1, DataW.lit.injEq, Lit.string.injEq] at hx
      rw [e0 |> List.cons.inj |>.1, e1 |> List.cons.inj |>.1, hx.1.1, hx.1.2, ba_self, ba_self]
set_option maxRecDepth 100000 in
theorem names7_at {W : World} (rd : ∀ n d, (n, d) ∈ laidAll → VarReads Tryz.prog W n d) : ∀ j, j < 14 → W.cell? ⟨0, j, none⟩ = some (.string (nm j)) := by
  obtain ⟨g, t, cs, fuel, p, hg, hty, hvar, hd⟩ := rd "ringer/cron.names" Rows.laid_ringer_cron_names (List.mem_of_getElem? (i := 10) rfl)
  obtain rfl := Option.some.inj ((show Tryz.prog.globalNamed "ringer/cron.names" = some 0 by kernel_rfl).symm.trans hg)
  obtain rfl := Option.some.inj ((show (Tryz.prog.globals[0]?).map (·.type) = some 139 by kernel_rfl).symm.trans hty)
  rw [names7_data] at hd
  have key : ∀ k, k < 7 → W.cell? ⟨0, k * 2, none⟩ = some (.string (nm (2 * k))) ∧ W.cell? ⟨0, k * 2 + 1, none⟩ = some (.string (nm (2 * k + 1))) := by
    intro k hk
    obtain ⟨fuel', d, q, hdi, he⟩ := array_elem Tryz.underlying139 hd k hk
    simp only [List.getElem?_map, List.getElem?_range hk, Option.map_some, Option.some.injEq] at hdi
    subst hdi
    have hcs := strs_of_struct he
    rw [cellsNT] at hcs
    exact ⟨by rw [World.var?_cell hg hvar (k * 2), ← Array.getElem?_toList]; exact at_part (j := 0) hcs rfl (by omega),
      by rw [World.var?_cell hg hvar (k * 2 + 1), ← Array.getElem?_toList]; exact at_part (j := 1) hcs rfl (by omega)⟩
  intro j hj
  rcases Nat.mod_two_eq_zero_or_one j with h | h
  · have e : j = j / 2 * 2 := by omega
    have := (key (j / 2) (by omega)).1
    rw [show 2 * (j / 2) = j / 2 * 2 by omega, ← e] at this
    exact this
  · have e : j = j / 2 * 2 + 1 := by omega
    have := (key (j / 2) (by omega)).2
    rw [show 2 * (j / 2) = j / 2 * 2 by omega, ← e] at this
    exact this
theorem names_met {W : World} (h0 : laidMetH Tryz.prog laidAll W) : NamesOn W := by
  have h : laidMet Tryz.prog laidAll W := h0
  exact NamesOn.of (names7_at fun n d hm => Lib.laidMet.reads h hm)
end Go.Proofs.YtpbnjibomdilhaaGreatDoor
