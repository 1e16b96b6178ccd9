/- pack.TakeInt, pack.TakeText, by their contracts. -/
import Derived.Test.YtdhfflfjbkpmoaaTake
namespace Go.Proofs.Ytdhfflfjbkpmoaa
open Go.RowKit

def TookInt (w w' : World) (p : Nat) (e : Ending) : Option (Nat × Nat) → Prop
  | none => e = .returned (.tuple #[.int .i64 0, .int .i64 0, .int .i64 4]) ∧ Below w.heap.size w w'
  | some (n, k) => e = .returned (.tuple #[.int .i64 (Num.unzig n), .int .i64 ((p : Int) + (k : Int)), .int .i64 0]) ∧ Below w.heap.size w w'

set_option maxRecDepth 100000 in
set_option maxHeartbeats 1000000 in
theorem takeInt_any (b off len cap p : Nat) (zs : List Int) (w : World) (hlies : Lies w b off len zs) (hp : p ≤ len) :
    Calls Try.prog 14 #[.slice (some ⟨b, off, none⟩) len cap, .int .i64 (p : Int)] w fun e w' => TookInt w w' p e (Num.dec 10 0 0 (zs.drop p)) := by
  have hlt := fun n j h => Num.dec_lt 10 0 0 (zs.drop p) n j (by omega) (by simp) (fun x hx => hlies.hr x (List.mem_of_mem_drop hx)) h
  have HT := Lib.hid (take_any b off len cap p zs w hlies hp)
  have HLT := Lib.hid hlt
  clear hlt hlies
  obtain ⟨D, hD⟩ : ∃ D, D = Num.dec 10 0 0 (zs.drop p) := ⟨_, rfl⟩
  rw [← hD] at HT HLT ⊢
  clear hD
  go_enter Try.func14, Try.ntmps14
  go_wp2_with fail
  refine HT.out.mono ?_
  intro e w1 ht
  clear HT
  cases D with
  | none =>
    obtain ⟨rfl, hb⟩ := ht
    have h0 : bits .and .u64 0 1 = 0 := by decide
    go_wp2_with fail
    go_ret3
    exact ⟨rfl, hb⟩
  | some nk =>
    obtain ⟨n, k⟩ := nk
    obtain ⟨rfl, hb⟩ := ht
    have hn := (HLT.out n k rfl).1
    have h0 := Num.and1 n hn
    by_cases hpar : n % 2 = 0
    · have he : Num.unzig n = (n : Int) / 2 := by simp [Num.unzig, hpar]
      have HE := Lib.hid he
      have hp2 : (n : Int) % 2 = 0 := by omega
      clear he
      go_wp2_with fail
      go_ret3
      exact ⟨by rw [HE.out]; rfl, hb⟩
    · have he : Num.unzig n = -((n : Int) / 2) - 1 := by simp [Num.unzig, hpar]
      have HE := Lib.hid he
      have hp2 : (n : Int) % 2 = 1 := by omega
      clear he
      go_wp2_with fail
      go_ret3
      exact ⟨by rw [HE.out]; rfl, hb⟩

/-- what TakeText tells, of the count that stands there -/
def TookText (w w' : World) (len p : Nat) (zs : List Int) (e : Ending) : Option (Nat × Nat) → Prop
  | none => e = .returned (.tuple #[.string ByteArray.empty, .int .i64 0, .int .i64 4]) ∧ Below w.heap.size w w'
  | some (n, k) => Below w.heap.size w w' ∧
      if n ≤ 4096 ∧ p + k + n ≤ len then e = .returned (.tuple #[.string (strOfNums ((zs.drop (p + k)).take n)), .int .i64 ((p : Int) + (k : Int) + (n : Int)), .int .i64 0])
      else e = .returned (.tuple #[.string ByteArray.empty, .int .i64 0, .int .i64 4])

set_option maxRecDepth 100000 in
set_option maxHeartbeats 1000000 in
theorem takeText_any (b off len cap p : Nat) (zs : List Int) (w : World) (hlies : Lies w b off len zs) (hp : p ≤ len) (hcap : len ≤ cap) (hcm : cap ≤ maxLen) :
    Calls Try.prog 15 #[.slice (some ⟨b, off, none⟩) len cap, .int .i64 (p : Int)] w fun e w' => TookText w w' len p zs e (Num.dec 10 0 0 (zs.drop p)) := by
  have hlt := fun n j h => Num.dec_lt 10 0 0 (zs.drop p) n j (by omega) (by simp) (fun x hx => hlies.hr x (List.mem_of_mem_drop hx)) h
  have HT := Lib.hid (take_any b off len cap p zs w hlies hp)
  have HLT := Lib.hid hlt
  have HL := Lib.hid hlies
  have hzz := hlies.hz
  have hll := hlies.hl
  clear hlt hlies
  have hdl : (zs.drop p).length = len - p := by rw [List.length_drop]; omega
  rw [hdl] at HLT
  have HZ := Lib.hid hzz
  clear hzz hdl
  obtain ⟨D, hD⟩ : ∃ D, D = Num.dec 10 0 0 (zs.drop p) := ⟨_, rfl⟩
  rw [← hD] at HT HLT ⊢
  clear hD
  go_enter Try.func15, Try.ntmps15
  go_wp2_with fail
  refine HT.out.mono ?_
  intro e w1 ht
  clear HT
  cases D with
  | none =>
    obtain ⟨rfl, hb⟩ := ht
    go_wp2_with fail
    go_ret3
    exact ⟨rfl, hb⟩
  | some nk =>
    obtain ⟨n, k⟩ := nk
    obtain ⟨rfl, hb⟩ := ht
    obtain ⟨hn, hk0, hk⟩ := HLT.out n k rfl
    by_cases hbig : 4096 < n
    · go_wp2_with fail
      go_ret3
      exact ⟨hb, by rw [if_neg (by omega)]; rfl⟩
    · by_cases hfit : p + k + n ≤ len
      · unfold maxLen at hcm
        have HP : Hid (n ≤ 4096 ∧ p + k + n ≤ len) := ⟨by omega, hfit⟩
        by_cases hc : cap = p + k
        · obtain rfl : n = 0 := by omega
          have hcv : ∀ c : Nat, (convert 24 9 (.slice (some ⟨b, off, none⟩) 0 c)).run Try.prog w1 = .ok (.string ByteArray.empty) w1 := fun c =>
            run_convert_bytes_arg w1 _ _ Try.underlying24 Try.underlying5 b off 0 c [] rfl (fun i hi => by omega) _ Try.underlying9
          go_wp2_with fail
          go_ret3
          exact ⟨hb, by rw [if_pos HP.out]; rfl⟩
        · have hl2 := HL.out.below hb
          have hcv : (convert 24 9 (.slice (some ⟨b, off + (p + k), none⟩) n (cap - (p + k)))).run Try.prog w1 = .ok (.string (strOfNums ((zs.drop (p + k)).take n))) w1 :=
            run_convert_bytes_arg w1 _ _ Try.underlying24 Try.underlying5 b (off + (p + k)) n _ ((zs.drop (p + k)).take n) (by have := HZ.out; rw [List.length_take, List.length_drop]; omega)
              (fun i hi => by
                have := HZ.out
                rw [Nat.add_assoc, hl2.cell (p + k + i) (by omega)]
                simp [List.getD, List.getElem?_drop, hi]) _ Try.underlying9
          clear hl2
          go_wp2_with fail
          go_ret3
          exact ⟨hb, by rw [if_pos HP.out]; rfl⟩
      · go_wp2_with fail
        go_ret3
        exact ⟨hb, by rw [if_neg (by omega)]; rfl⟩

end Go.Proofs.Ytdhfflfjbkpmoaa
