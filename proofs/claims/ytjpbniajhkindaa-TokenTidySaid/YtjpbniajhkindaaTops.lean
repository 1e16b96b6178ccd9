/- A worker's book in memory: the map of the greatest tokens; Top, note, Jobs, isNone, by their contracts. -/
import Derived.Test.YtjpbniajhkindaaKeysU
import Derived.Test.YtjpbniajhkindaaTokM
import Derived.Maps.OwnSet
namespace Go.Proofs.Ytjpbniajhkindaa
open Go.RowKit Go.Maps Go.Sort Tok

theorem wf64 {j : Nat} (h : j < top64) : (Lit.int .u64 (j : Int)).wf = true := by
  have : j < 18446744073709551616 := h
  simp [Lit.wf, IntKind.min, IntKind.max, IntKind.signed, IntKind.bits]; omega
theorem of_wf64 {x : Int} (h : (Lit.int .u64 x).wf = true) : ∃ j : Nat, x = (j : Int) ∧ j < top64 := by
  have hb : 0 ≤ x ∧ x ≤ 18446744073709551615 := by simpa [Lit.wf, IntKind.min, IntKind.max, IntKind.signed, IntKind.bits] using h
  refine ⟨x.toNat, by omega, ?_⟩
  show x.toNat < 18446744073709551616
  omega
theorem keyOf_u {j : Nat} (h : j < top64) : keyOf Try.prog 31 (.int .u64 (j : Int)) = some (.int .u64 (j : Int)) := by
  simp [keyOf, Try.underlying31, mapKey, wf64 h]
theorem isKey_u (j : Nat) : WideAt.IsKeyLit (.int .u64 (j : Int)) := trivial
theorem own_base {w : World} {B B' : Nat} {e : TypeId} {size k : Nat} {v : Value} {xs : List Value} (h : w.ownsRow B' e size v k xs) (hB : B ≤ B') : w.ownsRow B e size v k xs :=
  ⟨h.1, h.2.imp id fun ⟨g, cap, cur, e1, h1, r⟩ => ⟨g, cap, cur, e1, Nat.le_trans hB h1, r⟩⟩
theorem zero_u64 (w : World) : (zeroValue 31).run Try.prog w = .ok (.int .u64 0) w := by kernel_rfl
theorem elem_u {t : Nat} (h : t < top64) : (plainElem (H := Unit) Try.prog 31) (.int .u64 (t : Int)) = some (.lit (.int .u64 (t : Int)), []) := plainElem_int Try.underlying31 (wf64 h)

/-- the map at b holds the tops f; it has at most n entries -/
structure TopsAt (w : World) (b : Nat) (f : Nat → Nat) (n : Nat) : Prop where
  map : ∃ D : DataW Unit, w.ownsMap Try.prog 31 (plainElem (H := Unit) Try.prog 31) b (Maps.size D) D ∧ Maps.size D ≤ n ∧
    (∀ j, j < top64 → D.atKey (.int .u64 (j : Int)) (.lit (.int .u64 0)) = .lit (.int .u64 (f j : Int))) ∧ (∀ j, j < top64 → has D (.int .u64 (j : Int)) = decide (0 < f j))
  lt : ∀ j, f j < top64
  big : ∀ j, ¬ j < top64 → f j = 0

theorem ownsMap_exactU {w : World} {b n : Nat} {D : DataW Unit} {P : Program} {k : TypeId} {R : Value → Option (DataW Unit × List MemPlace)} (h : w.ownsMap P k R b n D) : w.ownsMap P k R b (Maps.size D) D := by
  obtain ⟨es, clock, hb, F, _, rfl⟩ := h
  exact ⟨es, clock, hb, F, by simp [Maps.size, length_sorted], rfl⟩
theorem ownsMap_len {w : World} {b n : Nat} {D : DataW Unit} {P : Program} {k : TypeId} {R : Value → Option (DataW Unit × List MemPlace)} (h : w.ownsMap P k R b n D) : Maps.size D ≤ n := by
  obtain ⟨es, clock, hb, F, hs, rfl⟩ := h
  simpa [Maps.size, length_sorted] using hs

/-- the book at k, of the disk at g -/
structure BookAt (w : World) (k g b : Nat) (f : Nat → Nat) (n : Nat) : Prop where
  blk : w.heap[k]? = some (.cells #[.pointer (some ⟨g, 0, none⟩), .map (some b)] 51 (0, 0))
  tops : TopsAt w b f n

section
variable {w w' : World} {k g b n : Nat} {f : Nat → Nat}
theorem TopsAt.lt_size (h : TopsAt w b f n) : b < w.heap.size := by obtain ⟨D, h1, _⟩ := h.map; exact h1.lt
theorem TopsAt.same (h : TopsAt w b f n) (hk : w'.heap[b]? = w.heap[b]?) : TopsAt w' b f n := by
  obtain ⟨D, ⟨es, clock, hb, r⟩, h2⟩ := h.map
  exact ⟨⟨D, ⟨es, clock, hk.trans hb, r⟩, h2⟩, h.lt, h.big⟩
theorem BookAt.same (h : BookAt w k g b f n) (hk : w'.heap[k]? = w.heap[k]?) (hb : w'.heap[b]? = w.heap[b]?) : BookAt w' k g b f n := ⟨hk.trans h.blk, h.tops.same hb⟩
theorem BookAt.lt_size (h : BookAt w k g b f n) : k < w.heap.size := lt_of_block h.blk
theorem BookAt.below (h : BookAt w k g b f n) (hb : Below w.heap.size w w') : BookAt w' k g b f n := h.same (hb.block _ h.lt_size) (hb.block _ h.tops.lt_size)
theorem BookAt.mono (h : BookAt w k g b f n) {m : Nat} (hm : n ≤ m) : BookAt w k g b f m := by
  obtain ⟨D, h1, h2, h3⟩ := h.tops.map
  exact ⟨h.blk, ⟨⟨D, h1, Nat.le_trans h2 hm, h3⟩, h.tops.lt, h.tops.big⟩⟩
theorem BookAt.cells (h : BookAt w k g b f n) : w.cell? ⟨k, 0, none⟩ = some (.pointer (some ⟨g, 0, none⟩)) ∧ w.cell? ⟨k, 1, none⟩ = some (.map (some b)) :=
  ⟨by rw [cell_of_row _ _ 0 _ _ _ h.blk]; rfl, by rw [cell_of_row _ _ 1 _ _ _ h.blk]; rfl⟩

theorem TopsAt.look (h : TopsAt w b f n) {j : Nat} (hj : j < top64) : (Instr.lookup 49 (.map (some b)) (.int .u64 (j : Int)) false).run Try.prog w = .ok (.int .u64 (f j : Int)) w := by
  obtain ⟨D, h1, _, h3, _⟩ := h.map
  obtain ⟨c, hrun, hat, _⟩ := h1.lookup_int keyU_law Try.underlying49 Try.underlying31 (zero_u64 w) (keyOf_u hj)
  rw [h3 j hj] at hat
  have : c = (f j : Int) := by simpa using hat.symm
  rw [hrun, this]

theorem TopsAt.made (w : World) : TopsAt (w.alloc (.map #[] 0)) w.heap.size (fun _ => 0) 0 := by
  refine ⟨⟨.map [], World.ownsMap_made w _ _ _, Nat.le_refl _, fun j _ => ?_, fun j _ => ?_⟩, fun j => by simp, fun j _ => rfl⟩
  · rw [atKey_of_not_has (show has (.map ([] : List (Lit × DataW Unit))) (.int .u64 (j : Int)) = false from rfl)]; rfl
  · simp; rfl

theorem TopsAt.put {D : DataW Unit} {w2 : World} (h : TopsAt w b f n) {j t : Nat} (hj : j < top64) (ht : t < top64) (h0 : f j < t)
    (hD : w.ownsMap Try.prog 31 (plainElem (H := Unit) Try.prog 31) b (Maps.size D) D) (hn : Maps.size D ≤ n) (h3 : ∀ j, j < top64 → D.atKey (.int .u64 (j : Int)) (.lit (.int .u64 0)) = .lit (.int .u64 (f j : Int))) (h4 : ∀ j, j < top64 → has D (.int .u64 (j : Int)) = decide (0 < f j))
    (hown : w2.ownsMap Try.prog 31 (plainElem (H := Unit) Try.prog 31) b (Maps.size D + 1) (D.put (.int .u64 (j : Int)) (.lit (.int .u64 (t : Int))))) : TopsAt w2 b (note f j t) (n + 1) := by
  have hkey : WideAt.IsKeyLit (.int .u64 (j : Int)) := isKey_u j
  refine ⟨⟨_, ownsMap_exactU hown, by have := ownsMap_len hown; omega, fun i hi => ?_, fun i hi => ?_⟩, note_lt h.lt ht, fun i hi => ?_⟩
  · by_cases he : i = j
    · subst he
      rw [atKey_put_same hD.isMap hkey, note_new f h0]
      simp
    · rw [atKey_put_other (by simp; omega), h3 i hi, note_other f t he]
  · by_cases he : i = j
    · subst he
      rw [has_put_same hD.isMap hkey, note_new f h0]
      simp; omega
    · rw [has_put_other (by simp; omega), h4 i hi, note_other f t he]
  · rw [note_other f t (fun e => hi (by rw [e]; exact hj))]
    exact h.big i hi

theorem top_any (h : BookAt w k g b f n) {j : Nat} (hj : j < top64) :
    Calls Try.prog 12 #[.pointer (some ⟨k, 0, none⟩), .int .u64 (j : Int)] w fun e w' => e = .returned (.int .u64 (f j : Int)) ∧ w' = w := by
  obtain ⟨c0, c1⟩ := h.cells
  have hl := h.tops.look hj
  clear h
  go_enter Try.func12, Try.ntmps12
  go_wp2
  go_ret
  exact ⟨rfl, rfl⟩

set_option maxHeartbeats 1000000 in
theorem note_any (h : BookAt w k g b f n) (hn : n < 1000000) (hkb : k ≠ b) {j t : Nat} (hj : j < top64) (ht : t < top64) :
    Calls Try.prog 20 #[.pointer (some ⟨k, 0, none⟩), .int .u64 (j : Int), .int .u64 (t : Int)] w fun e w' => e = .returned (.tuple #[]) ∧ BookAt w' k g b (note f j t) (n + 1) ∧ w.grownBy w' (some b) := by
  obtain ⟨c0, c1⟩ := h.cells
  have HT := Lib.hid (top_any h hj)
  have HB := Lib.hid h
  obtain ⟨D, hD, hDn, h3, h4⟩ := h.tops.map
  have HD := Lib.hid (And.intro h3 h4)
  clear h h3 h4
  by_cases h0 : f j < t
  · have h0z : (f j : Int) < (t : Int) := by omega
    go_enter Try.func20, Try.ntmps20
    go_wp2_with fail
    refine HT.out.mono ?_
    rintro e w1 ⟨rfl, rfl⟩
    go_wp2_with (first
      | (at_mapUpdate; refine wpList_mapUpdate_own _ rfl _ _ _ 49 rfl 31 31 keyU_law Try.underlying49 (plainElem (H := Unit) Try.prog 31) b _ D rfl hD (by unfold maxLen; omega) _ _ (.int .u64 (j : Int)) rfl rfl (keyOf_u hj) _ [] (elem_u ht) ?_; intro w2 hown hg)
      | go_in)
    go_end0
    exact ⟨rfl, ⟨(hg.block k HB.out.lt_size (by simpa using hkb)).trans HB.out.blk, HB.out.tops.put hj ht h0 hD hDn HD.out.1 HD.out.2 hown⟩, hg⟩
  · have h0z : ¬ ((f j : Int) < (t : Int)) := by omega
    go_enter Try.func20, Try.ntmps20
    go_wp2_with fail
    refine HT.out.mono ?_
    rintro e w1 ⟨rfl, rfl⟩
    go_wp2
    go_end0
    exact ⟨rfl, by rw [note_old f h0]; exact HB.out.mono (by omega), World.grownBy.refl _ _⟩

/-- the jobs: each whose top is above 0, rising -/
structure JobsOf (f : Nat → Nat) (K : List Nat) : Prop where
  mem : ∀ j, j ∈ K ↔ 0 < f j
  rise : K.Pairwise (· < ·)

theorem jobs_of {D : DataW Unit} {ss : List Int} (h : TopsAt w b f n) (h4 : ∀ j, j < top64 → has D (.int .u64 (j : Int)) = decide (0 < f j)) (hs : AllKeys D ss) (hp : ss.Pairwise (· < ·)) : ∃ K : List Nat, ss = K.map (fun j : Nat => (j : Int)) ∧ JobsOf f K := by
  have e : ss = (ss.map Int.toNat).map (fun j : Nat => (j : Int)) := by
    rw [List.map_map]
    conv => lhs; rw [← List.map_id ss]
    refine List.map_congr_left fun x hx => ?_
    obtain ⟨j, rfl, _⟩ := of_wf64 (hs.wf x hx)
    simp
  refine ⟨ss.map Int.toNat, e, fun j => ⟨fun hj => ?_, fun hj => ?_⟩, ?_⟩
  · obtain ⟨x, hx, rfl⟩ := List.mem_map.1 hj
    obtain ⟨i, rfl, hi⟩ := of_wf64 (hs.wf x hx)
    have := (hs.mem _).1 hx
    rw [h4 i hi] at this
    simpa using this
  · have hlt : j < top64 := by
      rcases Nat.lt_or_ge j top64 with h' | h'
      · exact h'
      · have := h.big j (by omega); omega
    have : (j : Int) ∈ ss := (hs.mem _).2 (by rw [h4 j hlt]; simpa using hj)
    exact List.mem_map.2 ⟨_, this, by simp⟩
  · rw [e] at hp
    exact (List.pairwise_map.1 hp).imp fun h => by omega

theorem jobs_any (h : BookAt w k g b f n) (hn : n ≤ 1000000) :
    Calls Try.prog 11 #[.pointer (some ⟨k, 0, none⟩)] w fun e w' => ∃ v K, e = .returned v ∧ JobsOf f K ∧ K.length ≤ n ∧ w'.ownsRow w.heap.size 31 1 v K.length (K.map fun j : Nat => .int .u64 (j : Int)) ∧ Below w.heap.size w w' := by
  obtain ⟨c0, c1⟩ := h.cells
  obtain ⟨D, hD, hDn, h3, h4⟩ := h.tops.map
  have hal : Below w.heap.size w (w.alloc (.cells #[.map (some b)] 49)) := (Below.refl _ _).alloc (Nat.le_refl _) _
  have HK := Lib.hid (sortedKeys_u w.heap.size b _ D (w.alloc (.cells #[.map (some b)] 49)) (by rw [World.cell?_alloc_at _ _ _ _ rfl]; rfl) (hD.alloc _) (by omega))
  have HAL := Lib.hid hal
  have HT := Lib.hid h.tops
  have H4 := Lib.hid h4
  clear h hD h3 h4 hal
  go_enter Try.func11, Try.ntmps11
  go_wp2_with fail
  refine (mapsKeys_u (some b) w).mono ?_
  rintro e w1 ⟨rfl, rfl⟩
  go_wp2_with fail
  refine HK.out.mono ?_
  rintro e w2 ⟨v, ss, rfl, hS, hp, hl, hrow, hb⟩
  obtain ⟨K, rfl, hK⟩ := jobs_of HT.out H4.out hS hp
  obtain ⟨va, vc, rfl, _⟩ := slice_shape hrow
  have HR := Lib.hid hrow
  have HB := Lib.hid hb
  clear hrow hb hS
  go_wp2_with fail
  go_ret
  refine ⟨_, K, rfl, hK, by simpa using Nat.le_trans hl hDn, ?_, HAL.out.trans (HB.out.mono (by simp))⟩
  have := own_base (B := w.heap.size) HR.out (by simp)
  simpa [List.map_map, Function.comp_def] using this

theorem isNone_no2 (h : BookAt w k g b f n) :
    Calls Try.prog 17 #[.pointer (some ⟨k, 0, none⟩)] w fun e w' => e = .returned (.bool false) ∧ w' = w := by
  obtain ⟨c0, c1⟩ := h.cells
  clear h
  go_enter Try.func17, Try.ntmps17
  go_wp2
  go_ret
  exact ⟨by simp, rfl⟩
end

end Go.Proofs.Ytjpbniajhkindaa
