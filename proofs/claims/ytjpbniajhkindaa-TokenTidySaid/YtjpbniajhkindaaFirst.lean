/- frame.First, by its contract. -/
import Derived.Test.YtjpbniajhkindaaTakeR
import Derived.Test.YtjpbniajhkindaaHere
namespace Go.Proofs.Ytjpbniajhkindaa
open Go.RowKit

set_option maxHeartbeats 400000 in
theorem takeText_out (a : Option Addr) (len cap : Nat) (p : Int) (w : World) (hp : p < 0 ∨ (len : Int) < p) :
    Calls Try.prog 42 #[.slice a len cap, .int .i64 p] w fun e w' => e = .returned (.tuple #[.string ByteArray.empty, .int .i64 0, .int .i64 2]) ∧ Below w.heap.size w w' := by
  have H := Lib.hid (take_out a len cap p w hp)
  clear hp
  go_enter Try.func42, Try.ntmps42
  go_wp2_with fail
  with_reducible refine H.out.mono ?_
  rintro e w1 ⟨rfl, hb⟩
  clear H
  go_wp2_with fail
  go_ret3
  exact ⟨rfl, hb⟩

/-- what First tells -/
def ToldFirst (w w' : World) (e : Ending) : Option (List Int × Nat) → Prop
  | none => e = .returned (.tuple #[.slice none 0 0, .int .i64 0, .bool false]) ∧ Below w.heap.size w w'
  | some (zs, m) => ∃ g c, e = .returned (.tuple #[.slice (some ⟨g, 0, none⟩) zs.length c, .int .i64 (m : Int), .bool true]) ∧ w.heap.size ≤ g ∧ Here w' g zs ∧ zs.length ≤ c ∧ Below w.heap.size w w'

set_option maxRecDepth 100000 in
set_option maxHeartbeats 1000000 in
theorem first_any (a : Option Addr) (len cap : Nat) (bs : List Int) (w : World) (hz : len = bs.length) (hp : Reads w a bs) (hl : len ≤ 9223372036854775806) (hcap : len ≤ cap) (hcm : cap ≤ 9223372036854775807) :
    Calls Try.prog 30 #[.slice a len cap] w fun e w' => ToldFirst w w' e (Frame.firstOf bs) := by
  by_cases h0 : len = 0
  · have hbs : Frame.firstOf bs = none := by
      cases bs with
      | nil => rfl
      | cons b r => simp at hz; omega
    rw [hbs]
    subst h0
    have H := Lib.hid (takeText_out a 0 cap 1 w (by omega))
    clear hz hp hbs hcap hcm hl
    go_enter Try.func30, Try.ntmps30
    go_wp2_with fail
    with_reducible refine H.out.mono ?_
    rintro e w1 ⟨rfl, hb⟩
    clear H
    go_wp2_with fail
    go_ret3
    exact ⟨rfl, hb⟩
  · have T0 := takeText_any a len cap 1 bs w hp hz hl (by omega) hcap hcm
    rw [show ((1 : Nat) : Int) = 1 from rfl] at T0
    have T := Lib.hid T0
    clear T0
    have HD := Lib.hid (fun h => Frame.first_none_dec (bs := bs) h)
    have HF := Lib.hid (fun n k h => Frame.first_none_fit (bs := bs) (n := n) (k := k) h)
    have HB := Lib.hid (fun zs n k => Frame.first_by (bs := bs) (zs := zs) (n := n) (k := k) hp.hr)
    have HP := Lib.hid hp
    have HZ := Lib.hid hz
    clear hp hz
    obtain ⟨D, hD⟩ : ∃ D, D = Num.dec 10 0 0 (bs.drop 1) := ⟨_, rfl⟩
    rw [← hD] at T HD
    have HDD := Lib.hid hD
    clear hD
    go_enter Try.func30, Try.ntmps30
    go_wp2_with fail
    with_reducible refine T.out.mono ?_
    intro e w1 ht
    clear T
    cases D with
    | none =>
      obtain ⟨rfl, hb⟩ := ht
      go_wp2_with fail
      go_ret3
      rw [HD.out (by trivial)]
      exact ⟨rfl, hb⟩
    | some nk =>
      obtain ⟨n, k⟩ := nk
      obtain ⟨hb, ht⟩ := ht
      by_cases hfit : n ≤ 4096 ∧ 1 + k + n ≤ len
      · rw [if_pos hfit] at ht
        subst ht
        obtain ⟨zs, hzs⟩ : ∃ zs, zs = (bs.drop (1 + k)).take n := ⟨_, rfl⟩
        have hzr : ∀ x ∈ zs, 0 ≤ x ∧ x ≤ 255 := fun x hx => by rw [hzs] at hx; exact HP.out.hr x (List.mem_of_mem_drop (List.mem_of_mem_take hx))
        have hzl : zs.length ≤ 4096 := by rw [hzs, List.length_take]; omega
        have HBY := Lib.hid (HB.out zs n k HDD.out.symm hfit.1 hzs)
        rw [← hzs]
        clear hzs HB HF HD HDD hfit
        have hcv := fun W : World => Lib.run_convert_string_bytes (P := Try.prog) W 9 33 5 (strOfNums zs) Try.underlying9 Try.underlying33 Try.underlying5
        have hsz := strOfNums_size zs
        rw [hsz] at hcv
        have hb1 := below_bytes w1 5 (strOfNums zs)
        have hz1 := Lib.bytesWorld_size w1 5 (strOfNums zs)
        have hhere := bytes_here w1 zs hzr (by omega)
        have hgc : zs.length ≤ grownCap w1 zs.length 0 5 := grownCap_ge _ _ _ _
        obtain ⟨c1, hc1⟩ : ∃ c1, grownCap w1 zs.length 0 5 = c1 := ⟨_, rfl⟩
        have hcv1 := hcv w1
        clear hcv
        rw [hc1] at hcv1 hgc
        have HSZ := Lib.hid hsz
        have HZR := Lib.hid hzr
        clear hsz hc1 hzr
        generalize Lib.bytesWorld w1 5 (strOfNums zs) = W1 at *
        go_wp2_with fail
        with_reducible refine (framePut_any (some ⟨w1.heap.size, 0, none⟩) zs.length c1 zs _ rfl hhere.reads hzl).mono ?_
        rintro e w2 ⟨g, c, rfl, hr2, hb2⟩
        have hbz := hb.size
        have hfl := Frame.frame_len zs
        have hpl := Num.put_len zs.length
        have hrd2 : Reads w2 (some ⟨g, 0, none⟩) (Frame.frameOf zs) := (hr2.here (Frame.frame_range hzl HZR.out) (by omega)).1.reads
        obtain ⟨fs, hfs⟩ : ∃ fs, fs = Frame.frameOf zs := ⟨_, rfl⟩
        rw [← hfs] at hr2 hrd2 HBY hfl ⊢
        have hfl2 : fs.length ≤ 4200 := by omega
        clear hfl hpl hfs
        have B2 := (hb.trans (hb1.mono hbz)).trans (hb2.mono (by omega))
        have hbs2 := HP.out.below B2
        have hh2 := hhere.below hb2
        have PF := Lib.hid (hasPrefix_any a len cap bs (some ⟨g, 0, none⟩) fs.length c fs w2 hbs2 HZ.out hcap hrd2 rfl)
        clear hr2 hb2 hb1 hb hhere hrd2 hbs2
        go_wp2_with fail
        with_reducible refine PF.out.mono ?_
        rintro e w3 ⟨rfl, rfl⟩
        clear PF
        by_cases ht : bs.take fs.length = fs
        · have hd : decide (bs.take fs.length = fs) = true := decide_eq_true ht
          have HBY2 := HBY.out
          rw [if_pos ht] at HBY2
          have HY := Lib.hid HBY2
          clear HBY HBY2 ht
          go_wp2_with fail
          go_ret3
          rw [HY.out]
          exact ⟨_, _, rfl, by omega, hh2, hgc, B2⟩
        · have hd : decide (bs.take fs.length = fs) = false := decide_eq_false ht
          have HBY2 := HBY.out
          rw [if_neg ht] at HBY2
          have HY := Lib.hid HBY2
          clear HBY HBY2 ht
          go_wp2_with fail
          go_ret3
          rw [HY.out]
          exact ⟨rfl, B2⟩
      · rw [if_neg hfit] at ht
        subst ht
        go_wp2_with fail
        go_ret3
        rw [HF.out n k HDD.out.symm (by rw [← HZ.out]; exact hfit)]
        exact ⟨rfl, hb⟩

end Go.Proofs.Ytjpbniajhkindaa
