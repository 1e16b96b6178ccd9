/- frame.All's iterator, by its contract: it tells the records of a file, frame by frame, until a round says 'no more'. -/
import Derived.Test.YtaljfpkgancidaaAll
namespace Go.Proofs.Ytaljfpkgancidaa
open Go.RowKit Go.Shelf
attribute [local go_sem] Oper.semAt_some

/-- a record that was told: where its frame begins, the block of its bytes, that block's room, the bytes -/
structure Rec where
  at_ : Nat
  g : Nat
  c : Nat
  zs : List Int

def Rec.val (x : Rec) : Value := .slice (some ⟨x.g, 0, none⟩) x.zs.length x.c
def Rec.encs (x : Rec) : Array Value := #[.int .i64 (x.at_ : Int), .slice (some ⟨x.g, 0, none⟩) x.zs.length x.c]

/-- the records, as far as they were told: k bytes were gone over -/
inductive Goes (bs : List Int) : List Rec → Nat → Prop
  | start : Goes bs [] 0
  | next {pre x m k} : Goes bs pre k → Frame.firstOf (bs.drop k) = some (x.zs, m) → x.at_ = k → Goes bs (pre ++ [x]) (k + m)

theorem Goes.one {bs : List Int} {pre : List Rec} {k k' : Nat} (h : Goes bs pre k) (h' : Goes bs pre k') : k = k' := by
  induction h generalizing k' with
  | start =>
    generalize hl : ([] : List Rec) = l at h'
    cases h' with
    | start => rfl
    | next => simp at hl
  | @next pre x m k h0 h1 h2 ih =>
    generalize hl : pre ++ [x] = l at h'
    cases h' with
    | start => simp at hl
    | @next pre' x' m' k'' h0' h1' h2' =>
      obtain ⟨rfl, hx⟩ := List.append_inj' hl rfl
      simp only [List.cons.injEq, and_true] at hx
      subst hx
      obtain rfl := ih h0'
      rw [h1] at h1'
      simp only [Option.some.injEq, Prod.mk.injEq] at h1'
      rw [h1'.2]

theorem Goes.le {bs : List Int} {pre : List Rec} {k : Nat} (hr : ∀ x ∈ bs, 0 ≤ x ∧ x ≤ 255) (h : Goes bs pre k) : k ≤ bs.length ∧ 6 * pre.length ≤ k := by
  induction h with
  | start => simp
  | @next pre x m k h0 h1 h2 ih =>
    obtain ⟨_, h3, _, h4⟩ := Frame.first_is (fun y hy => hr y (List.mem_of_mem_drop hy)) h1
    rw [Frame.frame_len] at h3
    have := Num.put_len x.zs.length
    rw [List.length_drop] at h4
    rw [List.length_append, List.length_singleton]
    omega

theorem Goes.scans {bs : List Int} {pre : List Rec} {k : Nat} (h : Goes bs pre k) : ∀ {l : List (List Int)} {g : Nat}, Frame.Scans (bs.drop k) l g → Frame.Scans bs (pre.map Rec.zs ++ l) (k + g) := by
  induction h with
  | start => intro l g hs; simpa using hs
  | @next pre x m k h0 h1 h2 ih =>
    intro l g hs
    have h3 := ih (.more h1 (by rw [List.drop_drop]; exact hs))
    rw [List.map_append, List.append_assoc, Nat.add_assoc]
    exact h3

/-- what is told of memory: each record's bytes stand in a block from B on -/
def Told3 (bs : List Int) (B : Nat) (pre : List Rec) (W : World) : Prop := (∃ k, Goes bs pre k) ∧ ∀ x ∈ pre, Here W x.g x.zs ∧ B ≤ x.g ∧ x.zs.length ≤ x.c

/-- what a round keeps: bytes, and the block Bn -/
structure KeepB (Bn : Nat) (W W' : World) : Prop where
  size : W.heap.size ≤ W'.heap.size
  same : ∀ (k : Nat) (cs : Array Value) (t : TypeId) (fr : Nat × Nat), W.heap[k]? = some (.cells cs t fr) → (t = 5 ∨ k = Bn) → W'.heap[k]? = W.heap[k]?

theorem KeepB.refl (Bn : Nat) (W : World) : KeepB Bn W W := ⟨Nat.le_refl _, fun _ _ _ _ _ _ => rfl⟩
theorem KeepB.trans {Bn : Nat} {A B C : World} (h : KeepB Bn A B) (k : KeepB Bn B C) : KeepB Bn A C :=
  ⟨Nat.le_trans h.size k.size, fun i cs t fr hi ht => (k.same i cs t fr ((h.same i cs t fr hi ht).trans hi) ht).trans (h.same i cs t fr hi ht)⟩
theorem KeepB.other {Bn : Nat} (W : World) (l : Nat) (o o' : Obj) (h : W.heap[l]? = some o) (ho : o.isCells = false) : KeepB Bn W (W.putObj l o') :=
  ⟨by simp, fun k cs t fr hk _ => World.putObj_heap_other (fun e => by subst e; rw [h] at hk; cases hk; cases ho)⟩
theorem KeepB.below {Bn : Nat} {W W' : World} (h : Below W.heap.size W W') : KeepB Bn W W' :=
  ⟨h.size, fun k _ _ _ hk _ => h.block k (lt_of_block hk)⟩

theorem Here.keep {W W' : World} {g : Nat} {zs : List Int} {Bn : Nat} (h : Here W g zs) (hk : KeepB Bn W W') : Here W' g zs := by
  obtain ⟨cs, fr, hg, _⟩ := h.blk
  exact h.other (hk.same g cs _ fr hg (.inl rfl))
theorem HereA.keep {W W' : World} {a : Option Addr} {zs : List Int} {Bn : Nat} (h : HereA W a zs) (hk : KeepB Bn W W') : HereA W' a zs := by
  rcases h with ⟨rfl, rfl⟩ | ⟨g, rfl, h⟩
  · exact .inl ⟨rfl, rfl⟩
  · exact .inr ⟨g, rfl, h.keep hk⟩
theorem boxed_keep {W W' : World} {Bn : Nat} {t : TypeId} {v : Value} (h : Boxed W Bn t v) (hk : KeepB Bn W W') : Boxed W' Bn t v :=
  (hk.same Bn _ _ _ h (.inr rfl)).trans h
theorem Told3.keep {bs : List Int} {B : Nat} {pre : List Rec} {W W' : World} {Bn : Nat} (h : Told3 bs B pre W) (hk : KeepB Bn W W') : Told3 bs B pre W' :=
  ⟨h.1, fun x hx => ⟨(h.2 x hx).1.keep hk, (h.2 x hx).2⟩⟩
theorem Told3.own (bs : List Int) (B B' : Nat) : OwnFrom B' (Told3 bs B) := fun s A W row hs hg hr => ⟨hs.1, fun x hx => ⟨by
  have h := (hs.2 x hx).1
  obtain ⟨cs, fr, hb, _⟩ := h.blk
  exact h.other (grownBy_keeps_cells hg (fun r e => (hr r e).2) hb rfl), (hs.2 x hx).2⟩⟩

theorem below_grows {W W' : World} (h : Below W.heap.size W W') : W.grownBy W' none := ⟨h.os, h.tape, h.output, h.size, fun k hk _ => h.block k hk⟩

set_option maxRecDepth 100000 in
set_option maxHeartbeats 2000000 in
theorem all1_in (n : Nat) (hn : 1 ≤ n) (l Bn B : Nat) (a : Option Addr) (c : Nat) (bs : List Int) (hlen : bs.length ≤ 1000000) (hcap : bs.length ≤ c) (hcm : c ≤ 9223372036854775807) (J Jx : List Rec → World → Prop)
    (W : World) (hB : B ≤ W.heap.size) (hJ : AbidesFrom W.heap.size J)
    (hY : ∀ pre x W1, J pre W1 → Told3 bs B (pre ++ [x]) W1 → pre.length < bs.length → YieldAt Fence.wide (n - 1) Try.prog l x.encs W1 fun e W' =>
      (e = .returned (.bool true) ∧ J (pre ++ [x]) W' ∧ KeepB Bn W1 W') ∨ (e = .returned (.bool false) ∧ Jx (pre ++ [x]) W'))
    (hbox : Boxed W Bn 25 (.slice a bs.length c)) (hbs : HereA W a bs) (h0 : J [] W) :
    CallsIn Fence.wide n Try.prog 81 #[.func (.yield l) #[] #[], .pointer (some ⟨Bn, 0, none⟩)] W fun e W' => (∃ v, e = .returned v) ∧
      ((∃ xs, (∃ k, Goes bs xs k ∧ Frame.firstOf (bs.drop k) = none) ∧ Told3 bs B xs W' ∧ J xs W') ∨ ∃ pre, Jx pre W') := by
  have hrange := Lib.hid hbs.range
  refine callsIn_of_wp Try.func81 rfl trivial ?_ rfl
  simp only [Try.ntmps81, List.size_toArray, List.length_cons, List.length_nil, Nat.reduceAdd, Nat.reduceSub, Array.replicate_succ, Array.replicate_zero, List.push_toArray, List.append_toArray, List.nil_append, List.cons_append]
  gi_wp2
  gi_loopw [3] (fun p wr => ∃ (pre : List Rec) (k : Nat), p = .int .i64 (k : Int) ∧ Goes bs pre k ∧ Told3 bs B pre wr ∧ J pre wr ∧ W.heap.size ≤ wr.heap.size ∧ Boxed wr Bn 25 (.slice a bs.length c) ∧ HereA wr a bs)
    (fun p wr => bs.length - (intOf p).toNat)
  case atStart =>
    exact ⟨[], 0, rfl, .start, ⟨⟨0, .start⟩, fun x hx => by cases hx⟩, h0, Nat.le_refl _, hbox, hbs⟩
  case round =>
    obtain ⟨pre, k, rfl, hg, ht, hj, hsz, hbx, hh⟩ := hrel
    have hk := hg.le hrange.out
    have hcell := hbx.cell
    have hd : Reads wr a bs := hh.reads
    by_cases hc : c = k
    · have hkl : k = bs.length := by omega
      subst hkl
      have hF := Lib.hid (first_any a 0 0 (bs.drop bs.length) wr (by simp) (hd.dropAll rfl) (by omega) (by omega) (by omega))
      subst hc
      have HG := Lib.hid hg
      have HT := Lib.hid ht
      have HJ := Lib.hid hj
      have HBX := Lib.hid hbx
      have HH := Lib.hid hh
      have hk1 := hk.1
      obtain ⟨D, hD⟩ : ∃ D, D = Frame.firstOf (bs.drop bs.length) := ⟨_, rfl⟩
      have HD := Lib.hid hD
      clear hg ht hj hbx hh hd hk hD
      have hroom : 1 ≤ n := hn
      gi_wp2_with fail
      refine ⟨trivial, (callsIn_wide.2 hF.out).mono ?_⟩
      intro e W1 hfirst
      rw [← HD.out] at hfirst
      clear hF
      cases D with
      | none =>
        obtain ⟨rfl, hb⟩ := hfirst
        gi_wp2
        refine ⟨fun _ h => (by cases h), ?_⟩
        gi_wp2
        refine bodyPost_ret (results_none rfl _ _ _) rfl ?_
        have hkb : KeepB Bn wr W1 := KeepB.below hb
        exact ⟨⟨_, rfl⟩, .inl ⟨pre, ⟨bs.length, HG.out, HD.out.symm⟩, HT.out.keep hkb, hJ pre wr W1 none HJ.out (below_grows hb) (fun r e => by cases e)⟩⟩
      | some zm =>
        obtain ⟨zs, m⟩ := zm
        obtain ⟨g, cg, rfl, hg0, hhere, hcg, hb⟩ := hfirst
        have hkb : KeepB Bn wr W1 := KeepB.below hb
        have hgo : Goes bs (pre ++ [⟨bs.length, g, cg, zs⟩]) (bs.length + m) := .next (x := ⟨bs.length, g, cg, zs⟩) HG.out HD.out.symm rfl
        have ht1 : Told3 bs B (pre ++ [⟨bs.length, g, cg, zs⟩]) W1 := ⟨⟨_, hgo⟩, fun x hx => by
          rcases List.mem_append.1 hx with hx | hx
          · exact (HT.out.keep hkb).2 x hx
          · simp only [List.mem_singleton] at hx
            subst hx
            exact ⟨hhere, by show B ≤ g; omega, hcg⟩⟩
        have hj1 : J pre W1 := hJ pre wr W1 none HJ.out (below_grows hb) (fun r e => by cases e)
        have hgl := hgo.le hrange.out
        have hgl0 := HG.out.le hrange.out
        rw [List.length_append, List.length_singleton] at hgl
        obtain ⟨fn, tmps, assign, body, hy, hR⟩ := hY pre ⟨bs.length, g, cg, zs⟩ W1 hj1 ht1 (by omega)
        dsimp only [Rec.encs] at hy
        have HGO := Lib.hid hgo
        have HT1 := Lib.hid ht1
        have hkm : bs.length + m ≤ bs.length ∧ 6 * pre.length + 6 ≤ bs.length + m := by omega
        have hm0 : 6 ≤ m := by
          have h6 := HD.out
          obtain ⟨_, h3, _, _⟩ := Frame.first_is (fun y hy => hrange.out y (List.mem_of_mem_drop hy)) h6.symm
          rw [Frame.frame_len] at h3
          have := Num.put_len zs.length
          omega
        clear hgo ht1 hj1 hgl hgl0 hhere HT HJ
        gi_wp2
        refine hR.mono ?_
        rintro e W3 (⟨rfl, hJ3, hk3⟩ | ⟨rfl, hJx3⟩)
        · have HT3 := Lib.hid (HT1.out.keep hk3)
          have HBX3 := Lib.hid (boxed_keep (boxed_keep HBX.out hkb) hk3)
          have HH3 := Lib.hid ((HH.out.keep hkb).keep hk3)
          have hs3 := Nat.le_trans hkb.size hk3.size
          clear hkb hk3 hR hy hb
          gi_wp2
          go_roundw
          case rel => exact ⟨pre ++ [⟨bs.length, g, cg, zs⟩], bs.length + m, by go_num, HGO.out, HT3.out, hJ3, by omega, HBX3.out, HH3.out⟩
          case measure => simp [intOf]; omega
        · gi_wp2
          refine bodyPost_ret (results_none rfl _ _ _) rfl ?_
          exact ⟨⟨_, rfl⟩, .inr ⟨_, hJx3⟩⟩
    · have hF := Lib.hid (first_any (Option.map (fun x => x.add k) a) (bs.length - k) (c - k) (bs.drop k) wr (by rw [List.length_drop]) (hd.drop k) (by omega) (by omega) (by omega))
      have HG := Lib.hid hg
      have HT := Lib.hid ht
      have HJ := Lib.hid hj
      have HBX := Lib.hid hbx
      have HH := Lib.hid hh
      have hk1 := hk.1
      obtain ⟨D, hD⟩ : ∃ D, D = Frame.firstOf (bs.drop k) := ⟨_, rfl⟩
      have HD := Lib.hid hD
      clear hg ht hj hbx hh hd hk hD
      have hroom : 1 ≤ n := hn
      gi_wp2_with fail
      refine ⟨trivial, (callsIn_wide.2 hF.out).mono ?_⟩
      intro e W1 hfirst
      rw [← HD.out] at hfirst
      clear hF
      cases D with
      | none =>
        obtain ⟨rfl, hb⟩ := hfirst
        gi_wp2
        refine ⟨fun _ h => (by cases h), ?_⟩
        gi_wp2
        refine bodyPost_ret (results_none rfl _ _ _) rfl ?_
        have hkb : KeepB Bn wr W1 := KeepB.below hb
        exact ⟨⟨_, rfl⟩, .inl ⟨pre, ⟨k, HG.out, HD.out.symm⟩, HT.out.keep hkb, hJ pre wr W1 none HJ.out (below_grows hb) (fun r e => by cases e)⟩⟩
      | some zm =>
        obtain ⟨zs, m⟩ := zm
        obtain ⟨g, cg, rfl, hg0, hhere, hcg, hb⟩ := hfirst
        have hkb : KeepB Bn wr W1 := KeepB.below hb
        have hgo : Goes bs (pre ++ [⟨k, g, cg, zs⟩]) (k + m) := .next (x := ⟨k, g, cg, zs⟩) HG.out HD.out.symm rfl
        have ht1 : Told3 bs B (pre ++ [⟨k, g, cg, zs⟩]) W1 := ⟨⟨_, hgo⟩, fun x hx => by
          rcases List.mem_append.1 hx with hx | hx
          · exact (HT.out.keep hkb).2 x hx
          · simp only [List.mem_singleton] at hx
            subst hx
            exact ⟨hhere, by show B ≤ g; omega, hcg⟩⟩
        have hj1 : J pre W1 := hJ pre wr W1 none HJ.out (below_grows hb) (fun r e => by cases e)
        have hgl := hgo.le hrange.out
        have hgl0 := HG.out.le hrange.out
        rw [List.length_append, List.length_singleton] at hgl
        obtain ⟨fn, tmps, assign, body, hy, hR⟩ := hY pre ⟨k, g, cg, zs⟩ W1 hj1 ht1 (by omega)
        dsimp only [Rec.encs] at hy
        have HGO := Lib.hid hgo
        have HT1 := Lib.hid ht1
        have hkm : k + m ≤ bs.length ∧ 6 * pre.length + 6 ≤ k + m := by omega
        have hm0 : 6 ≤ m := by
          have h6 := HD.out
          obtain ⟨_, h3, _, _⟩ := Frame.first_is (fun y hy => hrange.out y (List.mem_of_mem_drop hy)) h6.symm
          rw [Frame.frame_len] at h3
          have := Num.put_len zs.length
          omega
        clear hgo ht1 hj1 hgl hgl0 hhere HT HJ
        gi_wp2
        refine hR.mono ?_
        rintro e W3 (⟨rfl, hJ3, hk3⟩ | ⟨rfl, hJx3⟩)
        · have HT3 := Lib.hid (HT1.out.keep hk3)
          have HBX3 := Lib.hid (boxed_keep (boxed_keep HBX.out hkb) hk3)
          have HH3 := Lib.hid ((HH.out.keep hkb).keep hk3)
          have hs3 := Nat.le_trans hkb.size hk3.size
          clear hkb hk3 hR hy hb
          gi_wp2
          go_roundw
          case rel => exact ⟨pre ++ [⟨k, g, cg, zs⟩], k + m, by go_num, HGO.out, HT3.out, hJ3, by omega, HBX3.out, HH3.out⟩
          case measure => simp [intOf]; omega
        · gi_wp2
          refine bodyPost_ret (results_none rfl _ _ _) rfl ?_
          exact ⟨⟨_, rfl⟩, .inr ⟨_, hJx3⟩⟩

end Go.Proofs.Ytaljfpkgancidaa
