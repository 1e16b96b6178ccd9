/- next.All's iterator, by its contract: it tells the firings behind a moment, up to another, one behind the other, until a round says 'no more'. -/
import Derived.Test.YtgcineaodfomeaaDoorChain
import Derived.Sort.LoopGhostIn
namespace Go.Proofs.YtgcineaodfomeaaDoor
open Go.RowKit Go.Shelf
attribute [local go_sem] Oper.semAt_some

theorem in_scope {n : Nat} {P : Program} {c : Code} {Q : Exit → Act → World → Prop} {a : Act} {w : World} (h : c.wpIn Fence.wide n P (Exit.noGoto Q) a w) : (Code.scope c).wpIn Fence.wide n P Q a w :=
  wpIn_wide.2 (wp_scope_straight (wpIn_wide.1 h))

set_option maxRecDepth 100000 in
set_option maxHeartbeats 4000000 in
theorem all2_in (n : Nat) (hn : 1 ≤ n) (l X G H Bn : Nat) (b : Nat → Nat) (s : Nat → Bool) (hb : ∀ k, k < 5 → b k < 2 ^ 64) (hm : Cron.may b = true) (f t : Int) (hf : 0 ≤ f ∧ f < 13569465600) (ht : 0 ≤ t ∧ t < 13569465600)
    (J Jx : List Int → World → Prop) (W : World) (hJ : AbidesFrom W.heap.size J)
    (hY : ∀ pre x W1, J pre W1 → (∃ m, Fire.Chain b s f t (pre ++ [x]) m) → pre.length < 13569465600 → YieldAt Fence.wide (n - 1) Tryd.prog l #[.int .i64 x] W1 fun e W' =>
      (e = .returned (.bool true) ∧ J (pre ++ [x]) W' ∧ KeepX Bn W1 W') ∨ (e = .returned (.bool false) ∧ Jx (pre ++ [x]) W'))
    (hB : X ≠ Bn ∧ G ≠ Bn ∧ H ≠ Bn ∧ 0 ≠ Bn ∧ 1 ≠ Bn)
    (hw : World7 W) (hx : W.heap[X]? = some (xobj b s)) (hfr : Boxed W G 2 (.int .i64 f)) (hto : Boxed W H 2 (.int .i64 t)) (h0 : J [] W) :
    CallsIn Fence.wide n Tryd.prog 34 #[.func (.yield l) #[] #[], .pointer (some ⟨G, 0, none⟩), .pointer (some ⟨H, 0, none⟩), .pointer (some ⟨X, 0, none⟩)] W fun e W' => (∃ v, e = .returned v) ∧
      ((∃ xs, Fire.AllTold b s f t xs ∧ J xs W') ∨ ∃ pre, Jx pre W') := by
  have hD := fun k hk W hW => days_any b s hb hm k hk W hW
  have hH1 := fun k hk W => has_any (b 1) (hb 1 (by decide)) (s 1) k W hk
  have hH0 := fun k hk W => has_any (b 0) (hb 0 (by decide)) (s 0) k W hk
  have r0 : Run b s f t X G H Bn J [] f (f / 86400 * 86400) W := ⟨.start, Fire.go_past (Int.le_refl _) (by omega), .inl rfl, h0, hw, hx, hfr, hto⟩
  have HD := Lib.hid hD
  have HH1 := Lib.hid hH1
  have HH0 := Lib.hid hH0
  have R0 := Lib.hid r0
  have HY := Lib.hid hY
  have HJ := Lib.hid hJ
  have HB := Lib.hid hB
  have hc := hfr.cell
  have hc2 := hto.cell
  have ed : f.tdiv 86400 = f / 86400 := Int.tdiv_eq_ediv_of_nonneg hf.1
  have et : t.tdiv 86400 = t / 86400 := Int.tdiv_eq_ediv_of_nonneg ht.1
  clear hD hH1 hH0 r0 hb hm hY hJ hB hw hx hfr hto h0
  refine callsIn_of_wp Tryd.func34 rfl trivial ?_ rfl
  simp only [Tryd.ntmps34, List.size_toArray, List.length_cons, List.length_nil, Nat.reduceAdd, Nat.reduceSub, Array.replicate_succ, Array.replicate_zero, List.push_toArray, List.append_toArray, List.nil_append, List.cons_append]
  gi_wp2_with fail
  refine in_scope ?_
  gi_wp2_with fail
  refine wpIn_label ?_
  gi_wp2_with fail
  gi_loopg [5] (157054 - (f / 86400).toNat) (fun gk p wr => ∃ (n : Int), p = .int .i64 n ∧ n + gk = 157054 ∧ 0 ≤ n ∧ ∃ pre m, Run b s f t X G H Bn J pre m (n * 86400) wr)
  case atStart => exact ⟨f / 86400, by go_num, by omega, by omega, [], f, R0.out⟩
  case round =>
    obtain ⟨nd, rfl, hng, hn0, pre, m, hr⟩ := hrel
    have hx := hr.x
    have hc := hr.fr.cell
    have hc2 := hr.to.cell
    obtain ⟨x0, x1, x2, x3, x4, x5, x6, x7, x8, x9⟩ := xobj_cells hx
    have HR := Lib.hid hr
    clear hr hx
    unfold xval xcells at *
    by_cases hle : nd ≤ t / 86400
    · have g := decide_eq_true hle
      gi_wp2_with fail
      refine in_scope ?_
      gi_wp2_with fail
      refine ⟨trivial, ?_⟩
      with_reducible refine (callsIn_wide.2 (HD.out nd (by omega) _ HR.out.w7)).mono ?_
      rintro e w1 ⟨⟨F, L, ok, hd, rfl⟩, hb1⟩
      have HR1 := Lib.hid (HR.out.below HJ.out hb1)
      have HDY := Lib.hid hd
      have hin := hd.in_
      have hrg := hd.rng
      clear hb1 HR hd hc hc2 x0 x1 x2 x3 x4 x5 x6 x7 x8 x9
      obtain ⟨gd, hgd⟩ : ∃ gd, gd = gk := ⟨_, rfl⟩
      have hng' : nd + (gd : Int) = 157054 := by rw [hgd]; exact hng
      cases ok
      · gi_wp2_with fail
        rw [Exit.noGoto_exit]
        gi_wp2_with fail
        gi_roundg (157054 - (L + 1)).toNat
        case measure => omega
        case rel => exact ⟨L + 1, by go_num, by omega, by omega, pre, m, HR1.out.step (Fire.go_day HDY.out HR1.out.clear) (by omega)⟩
      · gi_wp2_with fail
        refine wpIn_label ?_
        gi_wp2_with fail
        clear hng
        gi_loopg [31] 24 (fun gk p wr => ∃ (h : Int), p = .int .i64 h ∧ h + gk = 24 ∧ 0 ≤ h ∧ ∃ pre m, Run b s f t X G H Bn J pre m (nd * 86400 + h * 3600) wr)
        case atStart => exact ⟨0, rfl, by omega, by omega, pre, m, HR1.out.step (by rw [Int.zero_mul, Int.add_zero]; exact HR1.out.clear) (by omega)⟩
        case round =>
          clear HR1
          obtain ⟨h, rfl, hgh, hh0, pre, m, hr⟩ := hrel
          by_cases hlt : h < 24
          · have gl := decide_eq_true hlt
            have hc := hr.fr.cell
            obtain ⟨x0, x1, x2, x3, x4, x5, x6, x7, x8, x9⟩ := xobj_cells hr.x
            have HR := Lib.hid hr
            clear hr
            gi_wp2_with fail
            refine in_scope ?_
            by_cases hp : nd * 86400 + h * 3600 + 3600 ≤ f
            · have gp := decide_eq_true hp
              gi_wp2_with fail
              refine ⟨trivial, ?_⟩
              gi_wp2_with fail
              rw [Exit.noGoto_exit]
              gi_wp2_with fail
              gi_roundg (24 - (h + 1)).toNat
              case measure => omega
              case rel => exact ⟨h + 1, by go_num, by omega, by omega, pre, m, HR.out.step (Fire.go_past HR.out.ge (by omega)) (by omega)⟩
            · have gp := decide_eq_false hp
              gi_wp2_with fail
              refine ⟨trivial, ?_⟩
              with_reducible refine (callsIn_wide.2 (HH1.out h (by omega) _)).mono ?_
              rintro e w2 ⟨rfl, hb2⟩
              have HR2 := Lib.hid (HR.out.below HJ.out hb2)
              clear hb2 HR hc x0 x1 x2 x3 x4 x5 x6 x7 x8 x9
              obtain ⟨gh, hgh2⟩ : ∃ gh, gh = gk := ⟨_, rfl⟩
              have hgh' : h + (gh : Int) = 24 := by rw [hgh2]; exact hgh
              generalize hhas : Fld.has (b 1) h = hv
              cases hv
              · have HHS := Lib.hid hhas
                clear hhas
                gi_wp2_with fail
                rw [Exit.noGoto_exit]
                gi_wp2_with fail
                gi_roundg (24 - (h + 1)).toNat
                case measure => omega
                case rel => exact ⟨h + 1, by go_num, by omega, by omega, pre, m, HR2.out.step (Fire.go_hour (by omega) HHS.out HR2.out.clear) (by omega)⟩
              · have HHS := Lib.hid hhas
                clear hhas
                gi_wp2_with fail
                refine wpIn_label ?_
                gi_wp2_with fail
                clear hgh
                gi_loopg [50] 60 (fun gk p wr => ∃ (i : Int), p = .int .i64 i ∧ i + gk = 60 ∧ 0 ≤ i ∧ ∃ pre m, Run b s f t X G H Bn J pre m (nd * 86400 + h * 3600 + i * 60) wr)
                case atStart => exact ⟨0, rfl, by omega, by omega, pre, m, HR2.out.step (by rw [Int.zero_mul, Int.add_zero]; exact HR2.out.clear) (by omega)⟩
                case round =>
                  clear HR2
                  obtain ⟨i, rfl, hgi, hi0, pre, m, hr⟩ := hrel
                  by_cases hli : i < 60
                  · have gi := decide_eq_true hli
                    have hc := hr.fr.cell
                    have hc2 := hr.to.cell
                    obtain ⟨x0, x1, x2, x3, x4, x5, x6, x7, x8, x9⟩ := xobj_cells hr.x
                    have HR := Lib.hid hr
                    clear hr
                    by_cases hq : nd * 86400 + h * 3600 + i * 60 ≤ f
                    · have gq := decide_eq_true hq
                      gi_wp2_with fail
                      refine ⟨trivial, ?_⟩
                      gi_wp2_with fail
                      gi_roundg (60 - (i + 1)).toNat
                      case measure => omega
                      case rel => exact ⟨i + 1, by go_num, by omega, by omega, pre, m, HR.out.step (Fire.go_late HR.out.ge hq) (by omega)⟩
                    · have gq := decide_eq_false hq
                      gi_wp2_with fail
                      refine ⟨trivial, ?_⟩
                      with_reducible refine (callsIn_wide.2 (HH0.out i (by omega) _)).mono ?_
                      rintro e w3 ⟨rfl, hb3⟩
                      have hr3 := HR.out.below HJ.out hb3
                      have HR3 := Lib.hid hr3
                      have hc := hr3.fr.cell
                      have hc2 := hr3.to.cell
                      clear hb3 HR hr3 x0 x1 x2 x3 x4 x5 x6 x7 x8 x9
                      generalize hhas : Fld.has (b 0) i = hv
                      cases hv
                      · have HHI := Lib.hid hhas
                        clear hhas
                        gi_wp2_with fail
                        gi_roundg (60 - (i + 1)).toNat
                        case measure => omega
                        case rel => exact ⟨i + 1, by go_num, by omega, by omega, pre, m, HR3.out.step (Fire.go_minute (by omega) HHI.out HR3.out.clear) (by omega)⟩
                      · have HHI := Lib.hid hhas
                        clear hhas
                        by_cases ho : t < nd * 86400 + h * 3600 + i * 60
                        · have go := decide_eq_true ho
                          gi_wp2_with fail
                          refine ⟨fun _ h => (by cases h), ?_⟩
                          gi_wp2_with fail
                          rw [Exit.noGoto_exit]
                          gi_wp2_with fail
                          rw [Exit.noGoto_exit]
                          gi_wp2_with fail
                          rw [Exit.noGoto_normal]
                          exact bodyPost_end (results_none rfl _ _ _) rfl ⟨⟨_, rfl⟩, .inl ⟨pre, ⟨m, HR3.out.chain, Fire.clear_back HR3.out.clear ho⟩, HR3.out.j⟩⟩
                        · have go := decide_eq_false ho
                          have hch : Fire.Chain b s f t (pre ++ [nd * 86400 + h * 3600 + i * 60]) (nd * 86400 + h * 3600 + i * 60) :=
                            .next HR3.out.chain (Fire.go_found (by omega) (by omega) (by omega) (HDY.out.yes rfl) HHS.out HHI.out (by have := HR3.out.low; omega) HR3.out.clear) (by omega)
                          have hlen := HR3.out.chain.le
                          obtain ⟨fn, tmps, assign, body, hy, hR⟩ := HY.out pre _ w3 HR3.out.j ⟨_, hch⟩ (by omega)
                          have HC := Lib.hid hch
                          clear hch hlen
                          gi_wp2_with fail
                          refine hR.mono ?_
                          rintro e W3 (⟨rfl, hJ3, hk3⟩ | ⟨rfl, hJx3⟩)
                          · have HR4 := Lib.hid (HR3.out.turn (c' := nd * 86400 + h * 3600 + (i + 1) * 60) hk3 HB.out _ HC.out hJ3 (Fire.go_on rfl rfl) (by omega))
                            clear hJ3 hk3 hR hy HR3
                            gi_wp2_with fail
                            gi_roundg (60 - (i + 1)).toNat
                            case measure => omega
                            case rel => exact ⟨i + 1, by go_num, by omega, by omega, _, _, HR4.out⟩
                          · clear hR hy
                            gi_wp2_with fail
                            rw [Exit.noGoto_exit]
                            gi_wp2_with fail
                            rw [Exit.noGoto_exit]
                            gi_wp2_with fail
                            rw [Exit.noGoto_normal]
                            exact bodyPost_end (results_none rfl _ _ _) rfl ⟨⟨_, rfl⟩, .inr ⟨_, hJx3⟩⟩
                  · have gi := decide_eq_false hli
                    have HR := Lib.hid hr
                    clear hr
                    gi_wp2_with fail
                    gi_roundg (gh - 1)
                    case measure => omega
                    case rel => exact ⟨h + 1, by go_num, by omega, by omega, pre, m, by
                      have r := HR.out
                      rw [show nd * 86400 + h * 3600 + i * 60 = nd * 86400 + (h + 1) * 3600 by omega] at r
                      exact r⟩
          · have gl := decide_eq_false hlt
            have HR := Lib.hid hr
            clear hr
            gi_wp2_with fail
            gi_roundg (gd - 1)
            case measure => omega
            case rel => exact ⟨nd + 1, by go_num, by omega, by omega, pre, m, by
              have r := HR.out
              rw [show nd * 86400 + h * 3600 = (nd + 1) * 86400 by omega] at r
              exact r⟩
    · have g := decide_eq_false hle
      gi_wp2_with fail
      exact bodyPost_end (results_none rfl _ _ _) rfl ⟨⟨_, rfl⟩, .inl ⟨pre, ⟨m, HR.out.chain, Fire.clear_back HR.out.clear (by omega)⟩, HR.out.j⟩⟩
end Go.Proofs.YtgcineaodfomeaaDoor
