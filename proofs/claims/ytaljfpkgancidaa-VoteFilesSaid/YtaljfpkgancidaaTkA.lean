/- Plain mathematics of VoteFiles: what the reference tells of a file's bytes. No program is spoken of here. The reference's Take and TakeText, by their contracts: of any slice of bytes, at a place within (any capacity). -/
import Derived.Test.YtaljfpkgancidaaVtA
import Derived.Test.YtaljfpkgancidaaTakeVal
import Derived.Test.YtaljfpkgancidaaTakeR
import Derived.Test.YtaljfpkgancidaaHere
import Derived.Test.YtaljfpkgancidaaReg
import Derived.Deep.RegionHeld
namespace Go.Proofs.Ytaljfpkgancidaa.Vt
open Num (put dec)
open Go.Proofs.Ytaljfpkgancidaa.Frame

theorem gone1 {zs : List Int} {n k : Nat} (h : dec 10 0 0 zs = some (n, k)) : Gone zs [n] k := by
  have := Gone.next (bs := zs) Gone.start (n := n) (j := k) (by rw [List.drop_zero]; exact h)
  simpa using this
theorem ref_first_none {bs : List Int} (h : firstOf bs = none) : GetIs bs none :=
  .no fun t v _ _ e => by
    have h1 := first_frame (recOf [t, v]) [] (by have := rec2_len t v; omega)
    rw [List.append_nil] at h1
    rw [e] at h
    unfold voteOf at h
    rw [h1] at h
    cases h
theorem ref_first_own {bs zs : List Int} {m : Nat} (h : firstOf bs = some (zs, m)) {t v : Nat} (e : bs = voteOf t v) : zs = recOf [t, v] := by
  have h1 := first_frame (recOf [t, v]) [] (by have := rec2_len t v; omega)
  rw [List.append_nil] at h1
  rw [e] at h
  unfold voteOf at h
  rw [h1] at h
  simp only [Option.some.injEq, Prod.mk.injEq] at h
  exact h.1.symm
theorem ref_get_no1 {bs zs : List Int} {m : Nat} (h : firstOf bs = some (zs, m)) (h1 : dec 10 0 0 zs = none) : GetIs bs none :=
  .no fun t v ht hv e => Gone.start.none (by rw [List.drop_zero]; exact h1) (small2 ht hv) (by simp) (ref_first_own h e)
theorem ref_get_no2 {bs zs : List Int} {m n k : Nat} (h : firstOf bs = some (zs, m)) (h1 : dec 10 0 0 zs = some (n, k)) (h2 : dec 10 0 0 (zs.drop k) = none) : GetIs bs none :=
  .no fun t v ht hv e => (gone1 h1).none h2 (small2 ht hv) (by simp) (ref_first_own h e)
theorem ref_get_yes {zs : List Int} {n k n2 k2 : Nat} (hr : ∀ x ∈ zs, 0 ≤ x ∧ x ≤ 255) (h1 : dec 10 0 0 zs = some (n, k)) (h2 : dec 10 0 0 (zs.drop k) = some (n2, k2)) : n < 18446744073709551616 ∧ n2 < 18446744073709551616 := by
  have h := ((Gone.next (gone1 h1) h2).is hr).2.2
  exact ⟨h n (by simp), h n2 (by simp)⟩
theorem ref_get_no3 {bs zs : List Int} {m n k n2 k2 : Nat} (h : firstOf bs = some (zs, m)) (h1 : dec 10 0 0 zs = some (n, k)) (h2 : dec 10 0 0 (zs.drop k) = some (n2, k2)) (hne : voteOf n n2 ≠ bs) : GetIs bs none :=
  .no fun t v ht hv e => by
    have hz := ref_first_own h e
    have hg := ((Gone.next (gone1 h1) h2).of (small2 ht hv) hz (by simp)).1
    simp at hg
    obtain ⟨rfl, rfl⟩ := hg
    exact hne e.symm

theorem ref_kept_nil {bs : List Int} {g : Nat} (hs : Scans bs [] g) : KeptIs bs none :=
  kept_not hs fun s _ _ e => by cases e
theorem ref_kept_no1 {bs z : List Int} {l : List (List Int)} {g : Nat} (hs : Scans bs (z :: l) g) (h1 : dec 10 0 0 z = none) : KeptIs bs none :=
  kept_not hs fun s hok _ e => by
    obtain ⟨e1, _⟩ := List.cons.inj e
    exact Gone.start.none (by rw [List.drop_zero]; exact h1) (small3 (u := s.img.length) hok.hi hok.ht (by have := hok.hl; omega)) (by simp) e1
theorem ref_kept_no2 {bs z : List Int} {l : List (List Int)} {g n k : Nat} (hs : Scans bs (z :: l) g) (h1 : dec 10 0 0 z = some (n, k)) (h2 : dec 10 0 0 (z.drop k) = none) : KeptIs bs none :=
  kept_not hs fun s hok _ e => by
    obtain ⟨e1, _⟩ := List.cons.inj e
    exact (gone1 h1).none h2 (small3 (u := s.img.length) hok.hi hok.ht (by have := hok.hl; omega)) (by simp) e1
theorem ref_kept_no3 {bs z : List Int} {l : List (List Int)} {g n k n2 k2 : Nat} (hs : Scans bs (z :: l) g) (h1 : dec 10 0 0 z = some (n, k)) (h2 : dec 10 0 0 (z.drop k) = some (n2, k2)) (hne : l.flatten.length ≤ 262144 → shotOf n n2 l.flatten ≠ bs) : KeptIs bs none :=
  .no fun s hok e => by
    have e2 := Scans.own hs (shot_small s) e
    obtain ⟨e1, e3⟩ := List.cons.inj e2
    have hg := ((Gone.next (gone1 h1) h2).of (small3 (u := s.img.length) hok.hi hok.ht (by have := hok.hl; omega)) e1 (by simp)).1
    simp at hg
    obtain ⟨rfl, rfl⟩ := hg
    have hi : l.flatten = s.img := by rw [e3, flat_parts]
    rw [hi] at hne
    exact hne hok.hl e.symm
end Go.Proofs.Ytaljfpkgancidaa.Vt

namespace Go.Proofs.Ytaljfpkgancidaa
open Go.RowKit

set_option maxRecDepth 100000 in
set_option maxHeartbeats 4000000 in
theorem refTake2_any (a : Option Addr) (len cap p : Nat) (zs : List Int) (w : World) (hlies : Reads w a zs) (hz : len = zs.length) (hl : len ≤ 1000000) (hp : p ≤ len) (hcap : len ≤ cap) :
    Calls Try.prog 39 #[.slice a len cap, .int .i64 (p : Int)] w fun e w' => Took w w' p e (Num.dec 10 0 0 (zs.drop p)) := by
  have HC := Lib.hid hlies
  have HZ := Lib.hid hz
  have hrd : ∀ x ∈ zs.drop p, 0 ≤ x ∧ x ≤ 255 := fun x hx => hlies.hr x (List.mem_of_mem_drop hx)
  have HRD := Lib.hid hrd
  have hdl : (zs.drop p).length = len - p := by rw [List.length_drop, hz]
  have HDL := Lib.hid hdl
  clear hlies hz hrd hdl
  obtain ⟨l, hldef⟩ : ∃ l, l = zs.drop p := ⟨_, rfl⟩
  rw [← hldef] at HRD HDL ⊢
  have HLD := Lib.hid hldef
  clear hldef
  go_enter Try.func39, Try.ntmps39
  go_wp2_with fail
  go_loop [7, 8, 9] (fun n q i => ∃ k n0 q0 : Nat, k ≤ 10 ∧ p + k ≤ len ∧ n = .int .u64 (n0 : Int) ∧ q = .int .u64 (q0 : Int) ∧ i = .int .i64 ((p : Int) + (k : Int)) ∧ Hid (n0 = Num.val l k % 18446744073709551616) ∧ Hid (q0 = 128 ^ k % 18446744073709551616) ∧ n0 < 18446744073709551616 ∧ q0 < 18446744073709551616 ∧ Hid (∀ j, j < k → 128 ≤ l.getD j 0)) (fun _ _ i => len - (intOf i).toNat)
  case atStart => exact ⟨0, 0, 1, by omega, by omega, rfl, rfl, by simp, rfl, by simp [Hid], by omega, by omega, fun j hj => by omega⟩
  case round =>
    obtain ⟨k, n0, q0, hk, hpk, rfl, rfl, rfl, HN0, HQ0, hn0, hq0, HBIG⟩ := hrel
    by_cases hend : p + k < len ∧ k < 10
    · have hlt : p + k < len := hend.1
      have h10 : k < 10 := hend.2
      have hcell0 : ∃ x, a = some x ∧ w.cell? (x.add (p + k)) = some (.int .u8 (zs.getD (p + k) 0)) := by
        obtain ⟨x, hx, _, hc⟩ := HC.out.cell (p + k) (by rw [← HZ.out]; exact hlt)
        exact ⟨x, hx, hc⟩
      obtain ⟨x, rfl, hcell⟩ := hcell0
      have hrange := HC.out.range (p + k)
      have hgd : l.getD k 0 = zs.getD (p + k) 0 := by rw [HLD.out]; simp [List.getD, List.getElem?_drop]
      obtain ⟨z, hzz⟩ : ∃ z : Nat, zs.getD (p + k) 0 = (z : Int) := ⟨(zs.getD (p + k) 0).toNat, by omega⟩
      rw [hzz] at hcell hrange hgd
      have hnext := Num.val_next l n0 q0 z k HN0.out HQ0.out (by rw [hgd]; simp)
      have hqn := Num.weight_next q0 k HQ0.out
      have HNX := Lib.hid hnext
      have HQN := Lib.hid hqn
      have HG := Lib.hid hgd
      clear hnext hqn hzz hgd
      have hA : IntKind.u64.wrap ((z : Int) % 128 * (q0 : Int)) = ((z % 128 * q0 % 18446744073709551616 : Nat) : Int) := by
        rw [show (z : Int) % 128 * (q0 : Int) = ((z % 128 * q0 : Nat) : Int) by rw [Int.natCast_mul, Int.natCast_emod]; rfl, IntKind.wrap_u64]
        generalize z % 128 * q0 = y
        omega
      have hB : IntKind.u64.wrap ((n0 : Int) + ((z % 128 * q0 % 18446744073709551616 : Nat) : Int)) = (((n0 + z % 128 * q0 % 18446744073709551616) % 18446744073709551616 : Nat) : Int) := by
        rw [IntKind.wrap_u64]
        generalize z % 128 * q0 = y
        omega
      have hQ : IntKind.u64.wrap ((q0 : Int) * 128) = ((q0 * 128 % 18446744073709551616 : Nat) : Int) := by rw [IntKind.wrap_u64]; omega
      have hn1 : (n0 + z % 128 * q0 % 18446744073709551616) % 18446744073709551616 < 18446744073709551616 := Nat.mod_lt _ (by decide)
      have hq1 : q0 * 128 % 18446744073709551616 < 18446744073709551616 := Nat.mod_lt _ (by decide)
      generalize (n0 + z % 128 * q0 % 18446744073709551616) % 18446744073709551616 = n1 at *
      generalize q0 * 128 % 18446744073709551616 = q1 at *
      generalize z % 128 * q0 % 18446744073709551616 = t at *
      by_cases h128 : z < 128
      · have hz128 := h128
        have hw1 : IntKind.i64.wrap ((p : Int) + (k : Int) + 1) = (p : Int) + (k : Int) + 1 := by rw [IntKind.wrap_i64]; omega
        have c1 : 0 ≤ (p : Int) + (k : Int) + 1 ∧ (p : Int) + (k : Int) + 1 ≤ (cap : Int) := by omega
        have c2 : p ≤ ((p : Int) + (k : Int) + 1).toNat := by omega
        have c3 : ((p : Int) + (k : Int) + 1).toNat - p = k + 1 := by omega
        have c4 : ¬ cap = p := by omega
        have TXT : ∀ W, Below w.heap.size w W → (convert 25 9 (.slice (some (x.add p)) (k + 1) (cap - p))).run Try.prog W = .ok (.string (strOfNums (l.take (k + 1)))) W := fun W hW => by
          have h1 := ((HC.out.below hW).drop p).take (k + 1)
          rw [← HLD.out] at h1
          exact h1.text (k + 1) (cap - p) (by rw [List.length_take, HDL.out]; omega)
        have hstop := Num.dec_stop (l := l) (k := k) (n := n1) HRD.out HBIG.out (by rw [HG.out]; omega) (by rw [HDL.out]; omega) HNX.out
        have hse := str_eq (xs := Num.enc 9 n1) (ys := l.take (k + 1)) (Num.enc_range 9 n1 (Nat.lt_of_lt_of_le hn1 (by decide))) (fun y hy => HRD.out y (List.mem_of_mem_take hy))
        have HST := Lib.hid hstop
        have HSE := Lib.hid hse
        clear hstop hse
        go_wp2_with fail
        refine wp_region_held_drew (S := fun W => Below w.heap.size w W) (by kernel_rfl) (Below.refl _ _).drew (fun hHeld => ?_)
        refine wpAnyH_take (i := 0) (oi := ?_) (v := ?_) ?_ (by kernel_rfl) (by kernel_rfl) (by kernel_rfl) ?_ (Or.inl ⟨?_, ?_⟩) (by assumption) ?_
        rotate_left 2
        focus (simp only [List.getElem?_toArray, List.getElem?_cons_zero]; rfl)
        focus exact fun _ _ _ h => h
        focus rfl
        focus (intro W hS; (try dsimp only at hS); go_simp; (try with_reducible rfl))
        try simp only [Act.put]
        try simp only [List.setIfInBounds_toArray]
        try simp only [List.set_cons_succ]
        try simp only [List.set_cons_zero]
        refine wpAnyH_take (i := 3) (oi := ?_) (v := ?_) ?_ (by kernel_rfl) (by kernel_rfl) (by kernel_rfl) ?_ (Or.inl ⟨?_, ?_⟩) (by assumption) ?_
        rotate_left 2
        focus (simp only [List.getElem?_toArray, List.getElem?_cons_succ, List.getElem?_cons_zero]; rfl)
        focus exact fun _ _ _ h => h
        focus rfl
        focus (intro W hS; (try dsimp only at hS); go_simp; (try with_reducible rfl))
        try simp only [Act.put]
        try simp only [List.setIfInBounds_toArray]
        try simp only [List.set_cons_succ]
        try simp only [List.set_cons_zero]
        refine wpAnyH_take (i := 4) (oi := ?_) (v := ?_) ?_ (by kernel_rfl) (by kernel_rfl) (by kernel_rfl) ?_ (Or.inl ⟨?_, ?_⟩) (by assumption) ?_
        rotate_left 2
        focus (simp only [List.getElem?_toArray, List.getElem?_cons_succ, List.getElem?_cons_zero]; rfl)
        focus exact fun _ _ _ h => h
        focus rfl
        focus (intro W hS; (try dsimp only at hS); go_simp; (try with_reducible rfl))
        try simp only [Act.put]
        try simp only [List.setIfInBounds_toArray]
        try simp only [List.set_cons_succ]
        try simp only [List.set_cons_zero]
        refine wpAnyH_take (i := 5) (oi := ?_) (v := ?_) ?_ (by kernel_rfl) (by kernel_rfl) (by kernel_rfl) ?_ (Or.inl ⟨?_, ?_⟩) (by assumption) ?_
        rotate_left 2
        focus (simp only [List.getElem?_toArray, List.getElem?_cons_succ, List.getElem?_cons_zero]; rfl)
        focus exact fun _ _ _ h => h
        focus rfl
        focus (intro W hS; (try dsimp only at hS); go_simp; (try with_reducible rfl))
        try simp only [Act.put]
        try simp only [List.setIfInBounds_toArray]
        try simp only [List.set_cons_succ]
        try simp only [List.set_cons_zero]
        refine wpAnyH_take (i := 6) (oi := ?_) (v := ?_) ?_ (by kernel_rfl) (by kernel_rfl) (by kernel_rfl) ?_ (Or.inl ⟨?_, ?_⟩) (by assumption) ?_
        rotate_left 2
        focus (simp only [List.getElem?_toArray, List.getElem?_cons_succ, List.getElem?_cons_zero]; rfl)
        focus exact fun _ _ _ h => h
        focus rfl
        focus (intro W hS; (try dsimp only at hS); go_simp; (try with_reducible rfl))
        try simp only [Act.put]
        try simp only [List.setIfInBounds_toArray]
        try simp only [List.set_cons_succ]
        try simp only [List.set_cons_zero]
        refine wpAnyH_take (i := 7) (oi := ?_) (v := ?_) ?_ (by kernel_rfl) (by kernel_rfl) (by kernel_rfl) ?_ (Or.inl ⟨?_, ?_⟩) (by assumption) ?_
        rotate_left 2
        focus (simp only [List.getElem?_toArray, List.getElem?_cons_succ, List.getElem?_cons_zero]; rfl)
        focus exact fun _ _ _ h => h
        focus rfl
        focus (intro W hS; (try dsimp only at hS); go_simp; (try with_reducible rfl))
        try simp only [Act.put]
        try simp only [List.setIfInBounds_toArray]
        try simp only [List.set_cons_succ]
        try simp only [List.set_cons_zero]
        refine wpAnyH_take (i := 8) (oi := ?_) (v := ?_) ?_ (by kernel_rfl) (by kernel_rfl) (by kernel_rfl) ?_ (Or.inl ⟨?_, ?_⟩) (by assumption) ?_
        rotate_left 2
        focus (simp only [List.getElem?_toArray, List.getElem?_cons_succ, List.getElem?_cons_zero]; rfl)
        focus exact fun _ _ _ h => h
        focus rfl
        focus (intro W hS; (try dsimp only at hS); have q := TXT W hS; go_simp; (try with_reducible rfl))
        try simp only [Act.put]
        try simp only [List.setIfInBounds_toArray]
        try simp only [List.set_cons_succ]
        try simp only [List.set_cons_zero]
        refine wpAnyH_ready (rs := [1]) (by kernel_rfl) (by simp) ?_
        refine AllReadyH.cons (o := ?_) ?_ (fun K hK => ?_) AllReadyH.nil
        rotate_left
        focus (simp only [List.getElem?_toArray, List.getElem?_cons_succ, List.getElem?_cons_zero]; rfl)
        rw [if_pos (by rfl)]
        go_simp
        with_reducible refine (refPut_any 9 n1 _ (by omega) (Nat.lt_of_lt_of_le hn1 (by decide)) hn1).mono ?_
        rintro e w3 ⟨v3, rfl, hr3, hb3⟩
        have h3 := (Below.refl w.heap.size w).drew.trans hb3
        have HT3 := Lib.hid (fun W (h : Below w3.heap.size w3 W) => Row.text hr3 h)
        clear hr3 hb3
        go_wp2_with fail
        refine hK.out _ _ h3 (fun hHeld => ?_)
        clear hK K
        try simp only [Act.put]
        try simp only [List.setIfInBounds_toArray]
        try simp only [List.set_cons_succ]
        try simp only [List.set_cons_zero]
        clear hHeld
        refine wpAnyH_sharper (S' := fun W => Below w3.heap.size w3 W) (fun W h => h3.trans (h.mono h3.size)) _ _ _ _ ?_
        have hHeld := Below.refl w3.heap.size w3
        refine wpAnyH_take (i := 2) (oi := ?_) (v := ?_) ?_ (by kernel_rfl) (by kernel_rfl) (by kernel_rfl) ?_ (Or.inl ⟨?_, ?_⟩) (by assumption) ?_
        rotate_left 2
        focus (simp only [List.getElem?_toArray, List.getElem?_cons_succ, List.getElem?_cons_zero]; rfl)
        focus exact fun _ _ _ h => h
        focus rfl
        focus (intro W hS; (try dsimp only at hS); have q := HT3.out W hS; go_simp; (try with_reducible rfl))
        try simp only [Act.put]
        try simp only [List.setIfInBounds_toArray]
        try simp only [List.set_cons_succ]
        try simp only [List.set_cons_zero]
        refine wpAnyH_take (i := 9) (oi := ?_) (v := ?_) ?_ (by kernel_rfl) (by kernel_rfl) (by kernel_rfl) ?_ (Or.inl ⟨?_, ?_⟩) (by assumption) ?_
        rotate_left 2
        focus (simp only [List.getElem?_toArray, List.getElem?_cons_succ, List.getElem?_cons_zero]; rfl)
        focus exact fun _ _ _ h => h
        focus rfl
        focus (intro W hS; (try dsimp only at hS); go_simp; (try with_reducible rfl))
        try simp only [Act.put]
        try simp only [List.setIfInBounds_toArray]
        try simp only [List.set_cons_succ]
        try simp only [List.set_cons_zero]
        refine wpAnyH_done (by kernel_rfl) ?_ _
        have hbb := HSE.out
        generalize ((strOfNums (Num.enc 9 n1)).toList == (strOfNums (l.take (k + 1))).toList) = bb at hbb ⊢
        by_cases heq : Num.enc 9 n1 = l.take (k + 1)
        · rw [decide_eq_true heq] at hbb
          subst hbb
          have h2 : Num.dec 10 0 0 l = some (n1, k + 1) := HST.out.trans (if_pos heq)
          have HD := Lib.hid h2
          clear heq h2 HST
          go_wp2
          go_ret3
          rw [HD.out]
          exact ⟨by go_num, h3⟩
        · rw [decide_eq_false heq] at hbb
          subst hbb
          have h2 : Num.dec 10 0 0 l = none := HST.out.trans (if_neg heq)
          have HD := Lib.hid h2
          clear heq h2 HST
          go_wp2
          go_ret3
          rw [HD.out]
          exact ⟨rfl, h3⟩
      · go_wp2
        go_round
        case rel =>
          have hbig : Hid (∀ j, j < k + 1 → 128 ≤ l.getD j 0) := fun j hj => by
            by_cases hjk : j < k
            · exact HBIG.out j hjk
            · obtain rfl : j = k := by omega
              rw [HG.out]; omega
          exact ⟨_, _, _, _, _, _, ⟨k + 1, by omega, by omega, n1, rfl, q1, rfl, rfl, HNX, HQN, hn1, hq1, hbig⟩, rfl, rfl, rfl, rfl, rfl, by go_num⟩
        case measure => simp [intOf]; omega
    · have HE := Lib.hid hend
      clear hend
      by_cases hlt : p + k < len
      · have h10 : k = 10 := by have := HE.out; omega
        subst h10
        go_wp2
        go_ret3
        rw [Num.dec_tail HRD.out HBIG.out (.inr (Nat.le_refl _))]
        exact ⟨rfl, Below.refl _ _⟩
      · go_wp2
        go_ret3
        rw [Num.dec_tail HRD.out HBIG.out (.inl (by rw [HDL.out]; omega))]
        exact ⟨rfl, Below.refl _ _⟩

end Go.Proofs.Ytaljfpkgancidaa
