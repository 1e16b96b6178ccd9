/- (stage 7's list.) What the rows' list of tables gives: the tables as the walks read them. -/
import Derived.Test.YtoghalmjbbkjhaaGreatDoorNamed
import Derived.Test.YtoghalmjbbkjhaaGreatDoorCards
import Derived.Test.YtoghalmjbbkjhaaGreatDoorTie
import Derived.Lib.LaidU8T
import Derived.Lib.LaidCaseMet
import Derived.PinnedBridge
import Derived.Shelf.Vars
import Derived.LaidSub
import Derived.Lib.LaidTab
namespace Go.Proofs.YtoghalmjbbkjhaaGreatDoor
open Go.ChangeShapes Go.WideShapes Go.RowKit Go.Lib

def laidAll : List (String × DataW Unit) := [("math/bits.deBruijn32tab", Rows.laid_math_bits_deBruijn32tab), ("math/bits.deBruijn64tab", Rows.laid_math_bits_deBruijn64tab), ("internal/strconv.uint64pow10", Rows.laid_internal_strconv_uint64pow10), ("ringer/civil.months", Rows.laid_ringer_civil_months), ("unicode/utf8.acceptRanges", Rows.laid_unicode_utf8_acceptRanges), ("strconv.ErrRange", Rows.laid_strconv_ErrRange), ("strconv.ErrSyntax", Rows.laid_strconv_ErrSyntax), ("unicode.asciiFold", Rows.laid_unicode_asciiFold), ("unicode.caseOrbit", Rows.laid_unicode_caseOrbit), ("ringer/field.bounds", Rows.laid_ringer_field_bounds), ("ringer/field.names", Rows.laid_ringer_field_names), ("ringer/cron.names", Rows.laid_ringer_cron_names), ("unicode.CaseRanges", Rows.laid_unicode_CaseRanges), ("unicode/utf8.first", Rows.laid_unicode_utf8_first)]

/-- the numbers of a table's datum -/
def zsOf (d : DataW Unit) : List Int :=
  match d with
  | .agg l => l.map fun x => match x with | .lit (.int _ z) => z | _ => 0
  | _ => []
/-- the pairs of the orbits' datum -/
def prOf (d : DataW Unit) : List (List Int) :=
  match d with
  | .slice l _ => l.map zsOf
  | _ => []
abbrev fZ : List Int := zsOf Rows.laid_unicode_asciiFold
abbrev bZ : List Int := zsOf Rows.laid_math_bits_deBruijn64tab
abbrev oZ : List (List Int) := prOf Rows.laid_unicode_caseOrbit
theorem fold_data : (Rows.laid_unicode_asciiFold : DataW Unit) = tabData .u16 fZ := by kernel_rfl
theorem bits_data : (Rows.laid_math_bits_deBruijn64tab : DataW Unit) = tabData .u8 bZ := by kernel_rfl
theorem orbit_data : (Rows.laid_unicode_caseOrbit : DataW Unit) = .slice (oZ.map fun l => .agg (l.map fun z => .lit (.int .u16 z))) [] := by kernel_rfl
theorem bounds_data : (Rows.laid_ringer_field_bounds : DataW Unit) = .agg ((List.range 5).map fun k => tabData .i64 [(Fld.lo k : Int), (Fld.hi k : Int)]) := by kernel_rfl
theorem names_data : (Rows.laid_ringer_field_names : DataW Unit) = .agg ((List.range 5).map fun k => .agg ((List.range 12).map fun i => .lit (.string ((Fld.names k).getD i [])))) := by kernel_rfl
theorem accept_data : (Rows.laid_unicode_utf8_acceptRanges : DataW Unit) = acceptData := by kernel_rfl
theorem fold_len : fZ.length = 128 := by kernel_rfl
theorem bits_len : bZ.length = 64 := by kernel_rfl
theorem orbit_len : oZ.length = 94 := by kernel_rfl
theorem fold_low : ∀ c : Nat, c < 128 → 97 ≤ c → c ≤ 122 → c ≠ 107 → c ≠ 115 → fZ.getD c 0 = (c : Int) - 32 := by decide +kernel
theorem fold_up : ∀ c : Nat, c < 128 → 65 ≤ c → c ≤ 90 → c ≠ 75 → c ≠ 83 → fZ.getD c 0 = (c : Int) + 32 := by decide +kernel
theorem fold_ess : fZ.getD 115 0 = 383 ∧ fZ.getD 83 0 = 115 := by decide +kernel
theorem bits_at : ∀ i : Nat, i < 64 → (2 ^ i * 285870213051353865) % 18446744073709551616 / 288230376151711744 < 64 ∧ bZ.getD ((2 ^ i * 285870213051353865) % 18446744073709551616 / 288230376151711744) 0 = (i : Int) := by decide +kernel
theorem cellsInt : Tryz.prog.cellsOf 3 = 1 := by kernel_rfl
theorem cellsU8 : Tryz.prog.cellsOf 5 = 1 := by kernel_rfl
theorem cellsU16 : Tryz.prog.cellsOf 158 = 1 := by kernel_rfl
theorem cellsStr : Tryz.prog.cellsOf 9 = 1 := by kernel_rfl
theorem cells2 : Tryz.prog.cellsOf 134 = 2 := by kernel_rfl
theorem cells12 : Tryz.prog.cellsOf 142 = 12 := by kernel_rfl
theorem cellsPair : Tryz.prog.cellsOf 162 = 2 := by kernel_rfl

theorem at_part {cs l : List Value} {i n j : Nat} {v : Value} (h : (cs.drop i).take n = l) (hj : l[j]? = some v) (hn : j < n) : cs[i + j]? = some v := by
  rw [← h, List.getElem?_take_of_lt hn, List.getElem?_drop] at hj
  exact hj

section
variable {W : World} (rd : ∀ n d, (n, d) ∈ laidAll → VarReads Tryz.prog W n d)
include rd
theorem bounds_at (k : Nat) (hk : k ≤ 4) : W.cell? ⟨2, k * 2, none⟩ = some (.int .i64 (Fld.lo k : Int)) ∧ W.cell? ⟨2, k * 2 + 1, none⟩ = some (.int .i64 (Fld.hi k : Int)) := by
  obtain ⟨g, t, cs, fuel, p, hg, hty, hvar, hd⟩ := rd "ringer/field.bounds" Rows.laid_ringer_field_bounds (List.mem_of_getElem? (i := 9) rfl)
  obtain rfl := Option.some.inj ((show Tryz.prog.globalNamed "ringer/field.bounds" = some 2 by kernel_rfl).symm.trans hg)
  obtain rfl := Option.some.inj ((show (Tryz.prog.globals[2]?).map (·.type) = some 135 by kernel_rfl).symm.trans hty)
  rw [bounds_data] at hd
  obtain ⟨fuel', d, q, hdi, he⟩ := array_elem Tryz.underlying135 hd k (by omega)
  simp only [List.getElem?_map, List.getElem?_range (show k < 5 by omega), Option.map_some, Option.some.injEq] at hdi
  subst hdi
  have hcs := cells_of_tab Tryz.underlying134 Tryz.underlying3 cellsInt cells2 he
  rw [cells2] at hcs
  exact ⟨by rw [World.var?_cell hg hvar (k * 2), ← Array.getElem?_toList]; exact at_part (j := 0) hcs rfl (by omega),
    by rw [World.var?_cell hg hvar (k * 2 + 1), ← Array.getElem?_toList]; exact at_part (j := 1) hcs rfl (by omega)⟩
theorem names_at (k i : Nat) (hk : k ≤ 4) (hi : i < 12) : W.cell? ⟨3, k * 12 + i, none⟩ = some (.string (ba ((Fld.names k).getD i []))) := by
  obtain ⟨g, t, cs, fuel, p, hg, hty, hvar, hd⟩ := rd "ringer/field.names" Rows.laid_ringer_field_names (List.mem_of_getElem? (i := 10) rfl)
  obtain rfl := Option.some.inj ((show Tryz.prog.globalNamed "ringer/field.names" = some 3 by kernel_rfl).symm.trans hg)
  obtain rfl := Option.some.inj ((show (Tryz.prog.globals[3]?).map (·.type) = some 143 by kernel_rfl).symm.trans hty)
  rw [names_data] at hd
  obtain ⟨fuel', d, q, hdi, he⟩ := array_elem Tryz.underlying143 hd k (by omega)
  simp only [List.getElem?_map, List.getElem?_range (show k < 5 by omega), Option.map_some, Option.some.injEq] at hdi
  subst hdi
  obtain ⟨fuel2, d2, q2, hdi2, he2⟩ := array_elem Tryz.underlying142 he i hi
  simp only [List.getElem?_map, List.getElem?_range hi, Option.map_some, Option.some.injEq] at hdi2
  subst hdi2
  rw [cellsStr, cells12] at he2
  obtain ⟨s, hs, hx, hsz⟩ := DataW.trod_string Tryz.underlying9 he2
  simp only [Prod.mk.injEq, DataW.lit.injEq, Lit.string.injEq] at hx
  have h1 := at_part (j := 0) hs rfl (by omega)
  rw [Nat.add_zero, Nat.mul_one, List.getElem?_take_of_lt hi, List.getElem?_drop] at h1
  rw [World.var?_cell hg hvar (k * 12 + i), ← Array.getElem?_toList, h1, hx.1, ba_self]
theorem iface_at {n : String} {g : Nat} {nm : String} {d : DataW Unit} (hm : (n, DataW.iface nm d) ∈ laidAll) (hn : Tryz.prog.globalNamed n = some g) (hy : (Tryz.prog.globals[g]?).map (·.type) = some 145) : ∃ te pe, W.cell? ⟨g, 0, none⟩ = some (.iface te pe) := by
  obtain ⟨g', t, cs, fuel, p, hg, hty, hvar, hd⟩ := rd n _ hm
  obtain rfl := Option.some.inj (hn.symm.trans hg)
  obtain rfl := Option.some.inj (hy.symm.trans hty)
  obtain ⟨fuel', u, v, hcs, -, -⟩ := iface_of_trod Tryz.underlying145 hd
  refine ⟨u, v, ?_⟩
  rw [World.var?_cell hg hvar 0, ← Array.getElem?_toList, hcs]
  rfl
theorem fold_at (c : Nat) (hc : c < 128) : W.cell? ⟨7, c, none⟩ = some (.int .u16 (fZ.getD c 0)) := by
  obtain ⟨g, t, cs, fuel, p, hg, hty, hvar, hd⟩ := rd "unicode.asciiFold" Rows.laid_unicode_asciiFold (List.mem_of_getElem? (i := 7) rfl)
  obtain rfl := Option.some.inj ((show Tryz.prog.globalNamed "unicode.asciiFold" = some 7 by kernel_rfl).symm.trans hg)
  obtain rfl := Option.some.inj ((show (Tryz.prog.globals[7]?).map (·.type) = some 159 by kernel_rfl).symm.trans hty)
  rw [fold_data] at hd
  have hcs := cells_of_tab Tryz.underlying159 Tryz.underlying158 cellsU16 (by kernel_rfl) hd
  have hl : c < fZ.length := by rw [fold_len]; exact hc
  rw [World.var?_cell hg hvar c, ← Array.getElem?_toList, hcs, List.getElem?_map, List.getElem?_eq_getElem hl]
  simp [List.getD, List.getElem?_eq_getElem hl]
theorem tz_at (c : Nat) (hc : c < 64) : W.cell? ⟨14, c, none⟩ = some (.int .u8 (bZ.getD c 0)) := by
  obtain ⟨g, t, cs, fuel, p, hg, hty, hvar, hd⟩ := rd "math/bits.deBruijn64tab" Rows.laid_math_bits_deBruijn64tab (List.mem_of_getElem? (i := 1) rfl)
  obtain rfl := Option.some.inj ((show Tryz.prog.globalNamed "math/bits.deBruijn64tab" = some 14 by kernel_rfl).symm.trans hg)
  obtain rfl := Option.some.inj ((show (Tryz.prog.globals[14]?).map (·.type) = some 198 by kernel_rfl).symm.trans hty)
  rw [bits_data] at hd
  have hcs := cells_of_tab Tryz.underlying198 Tryz.underlying5 cellsU8 (by kernel_rfl) hd
  have hl : c < bZ.length := by rw [bits_len]; exact hc
  rw [World.var?_cell hg hvar c, ← Array.getElem?_toList, hcs, List.getElem?_map, List.getElem?_eq_getElem hl]
  simp [List.getD, List.getElem?_eq_getElem hl]
theorem orbit_at : ∃ b o c, W.cell? ⟨8, 0, none⟩ = some (.slice (some ⟨b, o, none⟩) 94 c) ∧ 94 ≤ c ∧ ∀ j x y, oZ[j]? = some [x, y] → W.cell? ⟨b, o + 2 * j, none⟩ = some (.int .u16 x) ∧ W.cell? ⟨b, o + (2 * j + 1), none⟩ = some (.int .u16 y) := by
  obtain ⟨g, t, cs, fuel, p, hg, hty, hvar, hd⟩ := rd "unicode.caseOrbit" Rows.laid_unicode_caseOrbit (List.mem_of_getElem? (i := 8) rfl)
  obtain rfl := Option.some.inj ((show Tryz.prog.globalNamed "unicode.caseOrbit" = some 8 by kernel_rfl).symm.trans hg)
  obtain rfl := Option.some.inj ((show (Tryz.prog.globals[8]?).map (·.type) = some 160 by kernel_rfl).symm.trans hty)
  rw [orbit_data] at hd
  rcases DataW.trod_slice Tryz.underlying160 hd with ⟨_, hx'⟩ | ⟨a', len, cap, el, rs, m, rfl, hc0, hx', _, hlc, _, hel, helem, hsp, _⟩
  · cases hx'
  have e0 := congrArg Prod.fst hx'
  simp only [DataW.slice.injEq] at e0
  obtain ⟨eE, eR⟩ := e0
  have hlen : len = 94 := by
    have := congrArg List.length eE
    rw [List.length_map, List.length_map, orbit_len] at this
    omega
  subst hlen
  have hrow : ∀ j x y, oZ[j]? = some [x, y] → W.cell? ((a'.add (j * 2)).add 0) = some (.int .u16 x) ∧ W.cell? ((a'.add (j * 2)).add 1) = some (.int .u16 y) := by
    intro j x y hj
    have hj' : j < 94 := by have := (List.getElem?_eq_some_iff.1 hj).1; rw [orbit_len] at this; exact this
    have h1 := helem j hj'
    rw [cellsPair] at h1
    obtain ⟨b, hb⟩ : ∃ b, el[j]? = some b := ⟨el[j]'(by omega), List.getElem?_eq_getElem (by omega)⟩
    rw [hb] at h1
    obtain ⟨ce, hce, hte⟩ := Option.bind_eq_some_iff.1 h1
    have hb1 : b.1 = .agg ([x, y].map fun z => .lit (.int .u16 z)) := by
      have := congrArg (·[j]?) eE
      simp only [List.getElem?_map, hb, hj, Option.map_some, Option.some.injEq] at this
      exact this.symm
    have hcs := ints_of_struct (p := b.2) Tryz.underlying162 (fun q f hq => by
      match q, hq with
      | 0, hq => simp at hq; subst hq; exact ⟨Tryz.underlying158, rfl, cellsU16⟩
      | 1, hq => simp at hq; subst hq; exact ⟨Tryz.underlying158, rfl, cellsU16⟩
      | q + 2, hq => simp at hq) (by rw [cellsPair]; rfl) (by rw [← hb1]; exact hte)
    obtain ⟨_, _, hcc⟩ := World.cells?_some hce
    exact ⟨by rw [hcc 0 (by omega), hcs]; rfl, by rw [hcc 1 (by omega), hcs]; rfl⟩
  obtain ⟨R, oR, sR⟩ := a'
  obtain rfl : sR = none := by
    have h00 := (hrow 0 75 107 (by kernel_rfl)).1
    have : (Addr.add (Addr.add ⟨R, oR, sR⟩ (0 * 2)) 0) = ⟨R, oR, sR⟩ := by simp [Addr.add]
    rw [this] at h00
    exact cell_spot h00
  refine ⟨R, oR, cap, ?_, hlc, fun j x y hj => ?_⟩
  · rw [World.var?_cell hg hvar 0, ← Array.getElem?_toList, hc0]
    rfl
  · have h := hrow j x y hj
    rw [Addr.add_lit, Addr.add_lit, Addr.add_lit] at h
    rw [show oR + 2 * j = oR + j * 2 + 0 by omega, show oR + (2 * j + 1) = oR + j * 2 + 1 by omega]
    exact h
end

theorem tabs_met {W : World} (h0 : laidMetH Tryz.prog laidAll W) (hsh : W.ShapedOpen Tryz.prog) : Tabs W := by
  have h : laidMet Tryz.prog laidAll W := h0
  have rd : ∀ n d, (n, d) ∈ laidAll → VarReads Tryz.prog W n d := fun n d hm => Lib.laidMet.reads h hm
  obtain ⟨b, o, c, ho, hc, hp⟩ := orbit_at rd
  refine { low := bounds_at rd, nam := names_at rd, mx := ?_, syn := ?_, rng := ?_, utf := ?_, asc := ?_, asc2 := ?_, ess := ?_, tz := ?_, orb := ?_ }
  · exact cell_of_shapedOpen_int hsh (Nat.le_of_ble_eq_true (by kernel_rfl)) (zero := #[.int .i64 0]) (t := 3) (by kernel_rfl) rfl (by kernel_rfl) (by kernel_rfl) Tryz.underlying3
  · exact iface_at rd (List.mem_of_getElem? (i := 6) rfl) (by kernel_rfl) (by kernel_rfl)
  · exact iface_at rd (List.mem_of_getElem? (i := 5) rfl) (by kernel_rfl) (by kernel_rfl)
  · exact utf8Tabs_of_readsT (ρ := Tryz.lays197_ren) { Tryz.lays197 with } ⟨by kernel_rfl, by kernel_rfl, by kernel_rfl, by kernel_rfl, by kernel_rfl, by kernel_rfl, by kernel_rfl⟩
      (Pinned.utf8First_eq ▸ rd "unicode/utf8.first" Rows.laid_unicode_utf8_first (List.mem_of_getElem? (i := 13) rfl)) (accept_data ▸ rd "unicode/utf8.acceptRanges" Rows.laid_unicode_utf8_acceptRanges (List.mem_of_getElem? (i := 4) rfl))
  · exact fun c h1 h2 h3 h4 => by rw [fold_at rd c (by omega), fold_low c (by omega) h1 h2 h3 h4]
  · exact fun c h1 h2 h3 h4 => by rw [fold_at rd c (by omega), fold_up c (by omega) h1 h2 h3 h4]
  · exact ⟨by rw [fold_at rd 115 (by omega), fold_ess.1], by rw [fold_at rd 83 (by omega), fold_ess.2]⟩
  · exact fun i hi => by rw [tz_at rd _ (bits_at i hi).1, (bits_at i hi).2]
  · exact ⟨b, o, c, ho, hc, (hp 47 966 981 (by kernel_rfl)).1, (hp 23 837 921 (by kernel_rfl)).1, (hp 11 452 453 (by kernel_rfl)).1, (hp 5 197 229 (by kernel_rfl)).1, (hp 8 304 304 (by kernel_rfl)).1, (hp 10 383 83 (by kernel_rfl)).1, (hp 9 305 305 (by kernel_rfl)).1, (hp 10 383 83 (by kernel_rfl)).2⟩
theorem mon_met {W : World} (h : laidMetH Tryz.prog laidAll W) : Civ.Mon W := by
  have h1 := h.filter (fun x => x.1 == "ringer/civil.months")
  rw [show laidAll.filter (fun x => x.1 == "ringer/civil.months") = [("ringer/civil.months", Rows.laid_ringer_civil_months)] by kernel_rfl] at h1
  have ht : Lib.TabIs Tryz.prog W "ringer/civil.months" .i64 Civ.lens := Lib.tabIs_of_head (rest := []) (show Tryz.prog.globalNamed "ringer/civil.months" = some 1 by kernel_rfl) (show (Tryz.prog.globals[1]?).map (·.type) = some 122 by kernel_rfl) Tryz.underlying122 Tryz.underlying3 cellsInt (show Tryz.prog.cellsOf 122 = 12 by kernel_rfl) h1
  have hc : ∀ i : Nat, i < 12 → W.cell? ⟨1, i, none⟩ = some (.int .i64 (Civ.lens.getD i 0)) := fun i hi => ht.cell (show Tryz.prog.globalNamed "ringer/civil.months" = some 1 by kernel_rfl) i hi
  exact ⟨lt_of_cell (hc 0 (by decide)), hc⟩
theorem cellsNT : Tryz.prog.cellsOf 99 = 2 := by kernel_rfl
theorem names7_data : (Rows.laid_ringer_cron_names : DataW Unit) = .agg ((List.range 7).map fun k => .agg [.lit (.string (Cron.tab.getD (2 * k) [])), .lit (.string (Cron.tab.getD (2 * k + 1) []))]) := by kernel_rfl
set_option maxRecDepth 100000 in
theorem strs_of_struct {enc : TypeId × Value → Unit} {W : World} {base : Nat} {sp : Nat → Bool} {held : Bool} {fuel : Nat} {cs : List Value} {a b : List UInt8} {p : List MemPlace}
    (h : DataW.trod enc Tryz.prog W base sp held fuel 99 cs = some (.agg [.lit (.string a), .lit (.string b)], p)) : cs = [.string (ba a), .string (ba b)] := by
  obtain ⟨xs, n, -, hx, hl, hxl, hall⟩ := DataW.trod_struct Tryz.underlying99 h
  rw [cellsNT] at hl
  match cs, hl with
  | [c0, c1], _ =>
    match xs, hxl with
    | [y0, y1], _ =>
      have h0 : DataW.trod enc Tryz.prog W base sp held n 9 [c0] = some y0 := hall 0 _ rfl
      have h1 : DataW.trod enc Tryz.prog W base sp held n 9 [c1] = some y1 := hall 1 _ rfl
      obtain ⟨d0, q0⟩ := y0
      obtain ⟨d1, q1⟩ := y1
      obtain ⟨s0, e0, x0, -⟩ := DataW.trod_string Tryz.underlying9 h0
      obtain ⟨s1, e1, x1, -⟩ := DataW.trod_string Tryz.underlying9 h1
      simp only [Prod.mk.injEq] at x0 x1
      simp only [List.map_cons, List.map_nil, Prod.mk.injEq, DataW.agg.injEq, List.cons.injEq, and_true, x0.1, x1.1, DataW.lit.injEq, Lit.string.injEq] at hx
      rw [e0 |> List.cons.inj |>.1, e1 |> List.cons.inj |>.1, hx.1.1, hx.1.2, ba_self, ba_self]
set_option maxRecDepth 100000 in
theorem names7_at {W : World} (rd : ∀ n d, (n, d) ∈ laidAll → VarReads Tryz.prog W n d) : ∀ j, j < 14 → W.cell? ⟨0, j, none⟩ = some (.string (nm j)) := by
  obtain ⟨g, t, cs, fuel, p, hg, hty, hvar, hd⟩ := rd "ringer/cron.names" Rows.laid_ringer_cron_names (List.mem_of_getElem? (i := 11) rfl)
  obtain rfl := Option.some.inj ((show Tryz.prog.globalNamed "ringer/cron.names" = some 0 by kernel_rfl).symm.trans hg)
  obtain rfl := Option.some.inj ((show (Tryz.prog.globals[0]?).map (·.type) = some 100 by kernel_rfl).symm.trans hty)
  rw [names7_data] at hd
  have key : ∀ k, k < 7 → W.cell? ⟨0, k * 2, none⟩ = some (.string (nm (2 * k))) ∧ W.cell? ⟨0, k * 2 + 1, none⟩ = some (.string (nm (2 * k + 1))) := by
    intro k hk
    obtain ⟨fuel', d, q, hdi, he⟩ := array_elem Tryz.underlying100 hd k hk
    simp only [List.getElem?_map, List.getElem?_range hk, Option.map_some, Option.some.injEq] at hdi
    subst hdi
    have hcs := strs_of_struct he
    rw [cellsNT] at hcs
    exact ⟨by rw [World.var?_cell hg hvar (k * 2), ← Array.getElem?_toList]; exact at_part (j := 0) hcs rfl (by omega),
      by rw [World.var?_cell hg hvar (k * 2 + 1), ← Array.getElem?_toList]; exact at_part (j := 1) hcs rfl (by omega)⟩
  intro j hj
  rcases Nat.mod_two_eq_zero_or_one j with h | h
  · have e : j = j / 2 * 2 := by omega
    have := (key (j / 2) (by omega)).1
    rw [show 2 * (j / 2) = j / 2 * 2 by omega, ← e] at this
    exact this
  · have e : j = j / 2 * 2 + 1 := by omega
    have := (key (j / 2) (by omega)).2
    rw [show 2 * (j / 2) = j / 2 * 2 by omega, ← e] at this
    exact this
theorem names_met {W : World} (h0 : laidMetH Tryz.prog laidAll W) : NamesOn W := by
  have h : laidMet Tryz.prog laidAll W := h0
  exact NamesOn.of (names7_at fun n d hm => Lib.laidMet.reads h hm)
theorem world_met {W : World} (h : laidMetH Tryz.prog laidAll W) (hsh : W.ShapedOpen Tryz.prog) : World7 W := ⟨TabsOn.of (tabs_met h hsh), Civ.MonOn.of (mon_met h)⟩
end Go.Proofs.YtoghalmjbbkjhaaGreatDoor
