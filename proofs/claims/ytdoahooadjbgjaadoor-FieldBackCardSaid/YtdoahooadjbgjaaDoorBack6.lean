/- FieldBack's law: whatever kind, field and texts. -/
import Derived.Test.YtdoahooadjbgjaaDoorBackW
namespace Go.Proofs.YtdoahooadjbgjaaDoor
open Go.RowKit

/-- what stands ahead: a field that may not be, or one that is told and read again -/
def Ahead (k : Int) (b : Nat) (star : Bool) : Prop :=
  Gives 12 #[.int .i64 k, .agg #[.int .u64 (b : Int), .bool star]] (.bool false) ∨
  (Gives 12 #[.int .i64 k, .agg #[.int .u64 (b : Int), .bool star]] (.bool true) ∧ ∃ (tx : ByteArray) (fr : Bool), Gives 16 #[.int .i64 k, .agg #[.int .u64 (b : Int), .bool star]] (.string tx) ∧
    Gives 8 #[.int .i64 k, .string tx] (pres b fr 0) ∧ (tx.toList == [42]) = fr ∧ decide ((150 : Int) < (tx.size : Int)) = false)
theorem ahead_in {k : Nat} (hk : k ≤ 4) (b : Nat) (hb : b < 2 ^ 64) (star : Bool) : Ahead (k : Int) b star := by
  have M := gives_may (k : Int) b hb star
  cases hm : Fld.may (k : Int) b with
  | false => rw [hm] at M; exact .inl M
  | true =>
    rw [hm] at M
    obtain ⟨h1, h2, h3, h4⟩ := Fld.back star hk hb hm
    have P := gives_parse hk (ba (Fld.text (k : Int) b star))
    rw [ba_list, h2, h3, h4] at P
    refine .inr ⟨M, _, _, gives_text (k : Int) b hb star, P, ?_, ?_⟩
    · rw [ba_toList]
      by_cases e : Fld.text (k : Int) b star = [42]
      · rw [decide_eq_true e, e]; rfl
      · rw [decide_eq_false e]; exact beq_eq_false_iff_ne.2 e
    · rw [ba_size]; exact decide_eq_false (by omega)
theorem ahead_out {k : Int} (hk : ¬ (0 ≤ k ∧ k ≤ 4)) (b : Nat) (hb : b < 2 ^ 64) (star : Bool) : Ahead k b star := by
  have M := gives_may k b hb star
  rw [Fld.may_out hk] at M
  exact .inl M
theorem joined_list (s t : ByteArray) : (s ++ ⟨#[44]⟩ ++ t).data.toList = s.data.toList ++ 44 :: t.data.toList := by
  simp [ByteArray.data_append]
theorem e_cast {n : Nat} (h : n ≠ 0) : ((n : Nat) : Int) ≠ 0 := by omega

theorem back_law (k : Int) (b : Nat) (hb : b < 2 ^ 64) (star : Bool) (s t : ByteArray) (w : World) (hw : TabsOn w) :
    Calls Tryd.prog 5 #[.int .i64 k, .agg #[.int .u64 (b : Int), .bool star], .string s, .string t] w fun e w' => e = .returned (.bool true) ∧ Below w.heap.size w w' := by
  have hA : Ahead k b star := by
    by_cases hk : 0 ≤ k ∧ k ≤ 4
    · obtain ⟨n, rfl⟩ := Int.eq_ofNat_of_zero_le hk.1
      exact ahead_in (by omega) b hb star
    · exact ahead_out hk b hb star
  by_cases hs : 45 < s.size
  · have g : decide ((45 : Int) < (s.size : Int)) = true := decide_eq_true (by omega)
    rcases hA with hm | ⟨hm, tx, fr, hx, hp, hfr, hxl⟩
    · exact backN_L1 k b star s t w hw hm g
    · exact backM_L1 k b star s t w hw tx fr hm hx hp hfr hxl g
  have g : decide ((45 : Int) < (s.size : Int)) = false := decide_eq_false (by omega)
  by_cases ht : 45 < t.size
  · have g2 : decide ((45 : Int) < (t.size : Int)) = true := decide_eq_true (by omega)
    rcases hA with hm | ⟨hm, tx, fr, hx, hp, hfr, hxl⟩
    · exact backN_L2 k b star s t w hw hm g g2
    · exact backM_L2 k b star s t w hw tx fr hm hx hp hfr hxl g g2
  have g2 : decide ((45 : Int) < (t.size : Int)) = false := decide_eq_false (by omega)
  by_cases hk : 0 ≤ k ∧ k ≤ 4
  · obtain ⟨n, rfl⟩ := Int.eq_ofNat_of_zero_le hk.1
    have hn : n ≤ 4 := by omega
    have ls : s.data.toList.length ≤ 45 := by rw [← Lib.size_eq]; omega
    have lt : t.data.toList.length ≤ 45 := by rw [← Lib.size_eq]; omega
    have PA := gives_parse hn s
    have PB := gives_parse hn t
    have PC := gives_parse hn (s ++ ⟨#[44]⟩ ++ t)
    have PD := gives_parse hn (t ++ ⟨#[44]⟩ ++ s)
    rw [joined_list] at PC PD
    have ec := Fld.err_both (k := n) ls lt
    have ed := Fld.err_both (k := n) lt ls
    by_cases h1 : Fld.err n s.data.toList = 0
    · rw [if_pos h1] at ec
      rw [h1] at PA
      by_cases h2 : Fld.err n t.data.toList = 0
      · rw [if_pos h2, h1] at ed
        rw [h2] at ec PB
        rw [ec, Fld.allows_both ls lt h1 h2, Fld.free_both ls lt h1 h2] at PC
        rw [ed, Fld.allows_both lt ls h2 h1, Fld.free_both lt ls h2 h1, Nat.or_comm] at PD
        have hA1 := Fld.allows_lt hn s.data.toList
        have hA2 := Fld.allows_lt hn t.data.toList
        have hC : Fld.allows n s.data.toList ||| Fld.allows n t.data.toList < 2 ^ 64 := Nat.or_lt_two_pow hA1 hA2
        have MC := gives_may (n : Int) _ hC (Fld.free n s.data.toList)
        have hmc := Fld.may_allows hn ec
        rw [Fld.allows_both ls lt h1 h2] at hmc
        rw [hmc] at MC
        have hor : bits .or .u64 ((Fld.allows n s.data.toList : Nat) : Int) ((Fld.allows n t.data.toList : Nat) : Int) = ((Fld.allows n s.data.toList ||| Fld.allows n t.data.toList : Nat) : Int) := u64_or_nat _ _ hA1 hA2
        rcases hA with hm | ⟨hm, tx, fr, hx, hp, hfr, hxl⟩
        · exact backN_OK n b star s t w hw _ _ _ _ _ hm g g2 (by omega) (by omega) PA PB PC PD hor MC
        · exact backM_OK n b star s t w hw tx fr _ _ _ _ _ hm hx hp hfr hxl g g2 (by omega) (by omega) PA PB PC PD hor MC
      · rw [if_neg h2] at ed
        have nc : ((Fld.err n (s.data.toList ++ 44 :: t.data.toList) : Nat) : Int) ≠ 0 := e_cast (by rw [ec]; exact h2)
        have nd : ((Fld.err n (t.data.toList ++ 44 :: s.data.toList) : Nat) : Int) ≠ 0 := e_cast (by rw [ed]; exact h2)
        rcases hA with hm | ⟨hm, tx, fr, hx, hp, hfr, hxl⟩
        · exact backN_E2 n b star s t w hw _ _ _ _ _ _ _ _ _ _ _ hm g g2 (by omega) (by omega) PA PB PC PD (e_cast h2) nc nd
        · exact backM_E2 n b star s t w hw tx fr _ _ _ _ _ _ _ _ _ _ _ hm hx hp hfr hxl g g2 (by omega) (by omega) PA PB PC PD (e_cast h2) nc nd
    · rw [if_neg h1] at ec
      have nc : ((Fld.err n (s.data.toList ++ 44 :: t.data.toList) : Nat) : Int) ≠ 0 := e_cast (by rw [ec]; exact h1)
      have nd : ((Fld.err n (t.data.toList ++ 44 :: s.data.toList) : Nat) : Int) ≠ 0 := e_cast (by
        rw [ed]
        split
        · exact h1
        · assumption)
      rcases hA with hm | ⟨hm, tx, fr, hx, hp, hfr, hxl⟩
      · exact backN_E1 n b star s t w hw _ _ _ _ _ _ _ _ _ _ _ _ hm g g2 (by omega) (by omega) PA PB PC PD (e_cast h1) nc nd
      · exact backM_E1 n b star s t w hw tx fr _ _ _ _ _ _ _ _ _ _ _ _ hm hx hp hfr hxl g g2 (by omega) (by omega) PA PB PC PD (e_cast h1) nc nd
  · rcases hA with hm | ⟨hm, tx, fr, hx, hp, hfr, hxl⟩
    · exact backN_E1 k b star s t w hw _ _ _ _ _ _ _ _ _ _ _ _ hm g g2 (by omega) (by omega) (gives_out hk _) (gives_out hk _) (gives_out hk _) (gives_out hk _) (by decide) (by decide) (by decide)
    · exact backM_E1 k b star s t w hw tx fr _ _ _ _ _ _ _ _ _ _ _ _ hm hx hp hfr hxl g g2 (by omega) (by omega) (gives_out hk _) (gives_out hk _) (gives_out hk _) (gives_out hk _) (by decide) (by decide) (by decide)
end Go.Proofs.YtdoahooadjbgjaaDoor
