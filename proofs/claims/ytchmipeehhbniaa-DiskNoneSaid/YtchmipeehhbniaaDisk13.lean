/- Crash, by its contract. -/
import Derived.Test.YtchmipeehhbniaaDisk12
namespace Go.Proofs.Ytchmipeehhbniaa
open Go.RowKit Go.Maps Dsk

/-- the files while a crash is under way: of the first i that are loose so much has stayed -/
def crashedTo (M : Files) (ks : List Name) (f : Nat → Nat) (i : Nat) : Files := fun n => if n ∈ ks.take i then settled ((M.at n).torn (f (ks.idxOf n))) else M n

theorem crashedTo_zero (M : Files) (ks : List Name) (f : Nat → Nat) : crashedTo M ks f 0 = M := by funext n; simp [crashedTo]
theorem crashedTo_all (M : Files) (ks : List Name) (f : Nat → Nat) : crashedTo M ks f ks.length = crashed M ks f := by funext n; simp [crashedTo, crashed]
theorem crashedTo_at {M : Files} {ks : List Name} (f : Nat → Nat) {i : Nat} (hi : i < ks.length) (hn : ks.Nodup) : crashedTo M ks f i ks[i] = M ks[i] := by
  have : ks[i] ∉ ks.take i := fun h => by
    obtain ⟨j, hj, e⟩ := List.mem_iff_getElem.1 h
    rw [List.getElem_take] at e
    have hj' : j < i := by simp at hj; omega
    have := (List.getElem_inj hn).1 e
    omega
  simp [crashedTo, this]
theorem crashedTo_succ {M : Files} {ks : List Name} (f : Nat → Nat) {i : Nat} (hi : i < ks.length) (hn : ks.Nodup) : crashedTo M ks f (i + 1) = upd (crashedTo M ks f i) ks[i] (settled ((M.at ks[i]).torn (f i))) := by
  funext n
  have hx : ks.idxOf ks[i] = i := hn.idxOf_getElem i hi
  by_cases h : n = ks[i]
  · subst h
    rw [upd_same]
    have hm : ks[i] ∈ ks.take (i + 1) := List.mem_take_iff_getElem.2 ⟨i, by omega, rfl⟩
    simp [crashedTo, hm, hx]
  · rw [upd_other _ _ h]
    have : n ∈ ks.take (i + 1) ↔ n ∈ ks.take i := by
      rw [List.take_succ_eq_append_getElem hi, List.mem_append, List.mem_singleton]
      exact ⟨fun h' => h'.elim id (fun e => absurd e h), .inl⟩
    simp [crashedTo, this]

theorem Fil.torn_ok {f : Fil} (h : f.ok) (p : Nat) : (f.torn p).bs.length ≤ 1048576 ∧ ∀ x ∈ (f.torn p).bs, 0 ≤ x ∧ x ≤ 255 := by
  have hv : (tornGo p f.sure f.later).2.ok := by
    rcases tornGo_mem p f.sure f.later with e | e
    · rw [e]; exact h.1
    · exact h.2 _ e
  refine ⟨?_, fun x hx => hv.2.2 x (List.mem_of_mem_take hx)⟩
  have := hv.2.1
  simp [Fil.torn, tornOf]
  omega

/-- the i-th number: none, and below 0, is 0 -/
def stayN (ss : List Int) (i : Nat) : Nat := (ss.getD i 0).toNat

/-- numbers that a crash is told, in a block that is nobody's of the disk -/
structure Stay (w : World) (o : Tags) (sa : Option Addr) (ss : List Int) : Prop where
  cell : ∀ i (h : i < ss.length), ∃ gs of, sa = some ⟨gs, of, none⟩ ∧ gs < w.heap.size ∧ o gs = none ∧ w.cell? ⟨gs, of + i, none⟩ = some (.int .i64 ss[i])
  wf : ∀ x ∈ ss, -9223372036854775808 ≤ x ∧ x ≤ 9223372036854775807

/-- what the files of a disk may be -/
def Good (M : Files) : Prop := ∀ l f, M l = some f → l.length ≤ 64 ∧ f.later.length < 1000000000

set_option maxRecDepth 100000 in
set_option maxHeartbeats 2000000 in
theorem crash_any (g B N : Nat) (o : Tags) (M : Files) (sa : Option Addr) (sc : Nat) (ss : List Int) (w : World) (hd : DiskAt w B o g M N) (hs : Stay w o sa ss) (hgood : Good M) (hN : N < 1000000000) :
    Calls Try.prog 6 #[.pointer (some ⟨g, 0, none⟩), .slice sa ss.length sc] w fun e w' => e = .returned (.tuple #[]) ∧ ∃ ks o', NamesOf M (fun f => f.loose) ks ∧ DiskAt w' B o' g (crashed M ks (stayN ss)) N ∧ Step o w o' w' := by
  have HL := Lib.hid (loose_all g B N o M w hd hN (fun l f h => (hgood l f h).2))
  have hown : ∀ k, o k ≠ none → k < w.heap.size := by
    obtain ⟨b, D, h⟩ := hd
    exact fun k e => (h.own k e).2
  have HD := Lib.hid hd
  have HS := Lib.hid hs
  have HG := Lib.hid hgood
  have HOW := Lib.hid hown
  clear hd hs hgood hown
  go_enter Try.func6, Try.ntmps6
  go_wp2_with fail
  refine HL.out.mono ?_
  rintro e w1 ⟨ks, ka, kc, rfl, hks, hrow, hb1, hkl⟩
  have HK := Lib.hid hks
  have HR := Lib.hid hrow
  have HB1 := Lib.hid hb1
  have HKL := Lib.hid hkl
  clear hks hrow hb1 hkl HL
  go_wp2
  go_loopw [10] (fun iv wr => ∃ (i : Nat) (oi : Tags), i ≤ ks.length ∧ iv = .int .i64 i ∧ DiskAt wr B oi g (crashedTo M ks (stayN ss) i) N ∧ Step o w1 oi wr) (fun iv _ => ks.length - (intOf iv).toNat)
  case atStart =>
    refine ⟨0, o, Nat.zero_le _, rfl, ?_, Step.refl _ _⟩
    rw [crashedTo_zero]
    obtain ⟨b, D, h⟩ := HD.out
    exact ⟨b, D, h.below HB1.out⟩
  case round =>
    obtain ⟨i, oi, hi, rfl, hdi, hst⟩ := hrel
    by_cases hlt : i < ks.length
    · have hib : i ≤ 1000000000 := by have := HKL.out; omega
      obtain ⟨l, hkl⟩ : ∃ l, l = ks[i] := ⟨_, rfl⟩
      have hmem : l ∈ ks := by rw [hkl]; exact List.getElem_mem hlt
      obtain ⟨f, hMf, hfl⟩ := (HK.out.2 l).1 hmem
      have hgd := HG.out l f hMf
      have hat : crashedTo M ks (stayN ss) i l = some f := by rw [hkl, crashedTo_at _ hlt HK.out.nodup, ← hkl]; exact hMf
      have hat2 : (crashedTo M ks (stayN ss) i).at l = f := by unfold Files.at; rw [hat]; rfl
      have hmat : M.at l = f := by simp [Files.at, hMf]
      -- the names' row
      obtain ⟨gk, rfl⟩ : ∃ gk, ka = some ⟨gk, 0, none⟩ := by
        rcases HR.out.2 with ⟨hv, hn0⟩ | ⟨gk, cap, cur, hv, _⟩
        · omega
        · simp only [Value.slice.injEq] at hv
          exact ⟨gk, hv.1⟩
      have hgk := World.ownsRow.lt HR.out gk rfl
      have hogk : o gk = none := by
        cases ho : o gk with
        | none => rfl
        | some t => have := HOW.out gk (by rw [ho]; simp); omega
      have hcn : w1.cell? ⟨gk, i, none⟩ = some (.string ⟨l.toArray⟩) := by
        have := World.ownsRow.cells HR.out (g := gk) rfl i (encStr l) (by rw [List.getElem?_map, List.getElem?_eq_getElem hlt, hkl]; rfl)
        rwa [show ((⟨gk, 0, none⟩ : Addr).add i) = ⟨gk, i, none⟩ by unfold Addr.add; split <;> simp_all] at this
      have hcr : wr.cell? ⟨gk, i, none⟩ = some (.string ⟨l.toArray⟩) := (World.cell?_of_block (a := ⟨gk, i, none⟩) (hst.block gk hgk.2 hogk)).trans hcn
      obtain ⟨b, D, hdi'⟩ := hdi
      have hcell := hdi'.cell
      obtain ⟨⟨t, sa1, sn1, sc1, wh1, la1, ln1, lc1, ls1⟩, hf, hrun, _⟩ := hdi'.look l (by unfold maxLen; omega)
      rw [hat2] at hf
      have hok := Fil.torn_ok hf.ok (stayN ss i)
      have hpw : (stayN ss i) ≤ 9223372036854775807 := by
        unfold stayN
        by_cases h : i < ss.length
        · have := HS.out.wf ss[i] (List.getElem_mem h)
          have e : ss.getD i 0 = ss[i] := by simp [List.getD, h]
          rw [e]; omega
        · have e : ss.getD i 0 = 0 := by simp [List.getD, show ss[i]? = none from List.getElem?_eq_none (by omega)]
          rw [e]; simp
      have HT := Lib.hid (torn_any B oi l ⟨t, sa1, sn1, sc1, wh1, la1, ln1, lc1, ls1⟩ f (stayN ss i) wr hf hpw hgd.2 (fun k e => (hdi'.own k e).2))
      simp only [mkV] at hrun HT
      have HSE := Lib.hid (fun (W : World) (hb : Below wr.heap.size wr W) a c (hr : Row wr B (f.torn (stayN ss i)).bs (.slice a (f.torn (stayN ss i)).bs.length c)) (ho : ∀ j, (Value.slice a (f.torn (stayN ss i)).bs.length c).ownBlock = some j → ∃ k, oi j = some (.file l k)) =>
        settle_of g B N oi (crashedTo M ks (stayN ss) i) l (f.torn (stayN ss i)) a c W ⟨b, D, hdi'.below hb⟩ (by rw [hat]; rfl) (hr.below hb) hok.1 hok.2 ho hgd.1 (by omega))
      have HST := Lib.hid hst
      have HSU : Hid (upd (crashedTo M ks (stayN ss) i) l (settled (f.torn (stayN ss i))) = crashedTo M ks (stayN ss) (i + 1)) := by
        unfold Hid
        rw [crashedTo_succ _ hlt HK.out.nodup, ← hkl, hmat]
      have hsi : ∀ h : i < ss.length, ∃ gs of, sa = some ⟨gs, of, none⟩ ∧ wr.cell? ⟨gs, of + i, none⟩ = some (.int .i64 ss[i]) := fun h => by
        obtain ⟨gs, of, h1, h2, h3, h4⟩ := HS.out.cell i h
        refine ⟨gs, of, h1, ?_⟩
        have hg1 := HB1.out.block gs h2
        have hg2 := hst.block gs (Nat.lt_of_lt_of_le h2 HB1.out.size) h3
        exact (World.cell?_of_block (a := ⟨gs, of + i, none⟩) (hg2.trans hg1)).trans h4
      obtain ⟨p0, hp0⟩ : ∃ p0, p0 = (stayN ss i) := ⟨_, rfl⟩
      rw [← hp0] at HT HSE HSU hpw
      have HP0 := Lib.hid hp0
      have HSI := Lib.hid hsi
      clear hst hkl hmem hMf hfl hgd hat hat2 hmat hgk hogk hcn hdi' hf hok hp0 hsi
      by_cases hil : i < ss.length
      · obtain ⟨gs, of, rfl, hcs⟩ := HSI.out hil
        have hpe : p0 = ss[i].toNat := by
          have := HP0.out
          simp [stayN, List.getD, hil] at this
          exact this
        obtain ⟨x, hx⟩ : ∃ x, x = ss[i] := ⟨_, rfl⟩
        rw [← hx] at hcs hpe
        have hmx : max (0 : Int) x = (p0 : Int) := by omega
        clear hx hpe
        go_wp2_with fail
        refine HT.out.mono ?_
        rintro e w3 ⟨a3, c3, rfl, hr3, ho3, hb3⟩
        have HS3 := Lib.hid (HSE.out w3 hb3 a3 c3 hr3 ho3)
        have HB3 := Lib.hid hb3
        clear hr3 ho3 hb3
        go_wp2_with fail
        refine HS3.out.mono ?_
        rintro e w4 ⟨rfl, o4, hd4, hst4⟩
        rw [HSU.out] at hd4
        have HD4 := Lib.hid hd4
        have HST4 := Lib.hid (HST.out.trans ((Step.of_below oi HB3.out).trans hst4))
        clear hd4 hst4
        go_wp2
        go_roundw
        case rel => exact ⟨i + 1, o4, hlt, by go_num, HD4.out, HST4.out⟩
        case measure => simp [intOf]; omega
      · have hz : (p0 : Int) = 0 := by
          have := HP0.out
          simp [stayN, List.getD, show ss[i]? = none from List.getElem?_eq_none (by omega)] at this
          omega
        rw [hz] at HT
        clear hz
        go_wp2_with fail
        refine HT.out.mono ?_
        rintro e w3 ⟨a3, c3, rfl, hr3, ho3, hb3⟩
        have HS3 := Lib.hid (HSE.out w3 hb3 a3 c3 hr3 ho3)
        have HB3 := Lib.hid hb3
        clear hr3 ho3 hb3
        go_wp2_with fail
        refine HS3.out.mono ?_
        rintro e w4 ⟨rfl, o4, hd4, hst4⟩
        rw [HSU.out] at hd4
        have HD4 := Lib.hid hd4
        have HST4 := Lib.hid (HST.out.trans ((Step.of_below oi HB3.out).trans hst4))
        clear hd4 hst4
        go_wp2
        go_roundw
        case rel => exact ⟨i + 1, o4, hlt, by go_num, HD4.out, HST4.out⟩
        case measure => simp [intOf]; omega
    · have hik : i = ks.length := by omega
      subst hik
      have HE := Lib.hid hdi
      have HST := Lib.hid ((Step.of_below o HB1.out).trans hst)
      clear hdi hst hi
      go_wp2
      go_end0
      rw [crashedTo_all] at HE
      exact ⟨rfl, ks, oi, HK.out, HE.out, HST.out⟩

end Go.Proofs.Ytchmipeehhbniaa
