/- DiskTorn's calls behind the loop, one by one. -/
import Derived.Test.YtchmipeehhbniaaKnown9
import Derived.Test.YtchmipeehhbniaaTornM9
namespace Go.Proofs.Ytchmipeehhbniaa
open Go.RowKit Go.Maps Dsk

def fA1 : Fil := ⟨Ver.zero, [⟨true, first, 5⟩], true⟩
def fG1 (zs : List Int) : Fil := ⟨Ver.zero, [⟨true, zs, zs.length⟩], true⟩
def fG0 (zs : List Int) : Fil := ⟨⟨true, zs, zs.length⟩, [], false⟩

/-- few versions -/
def Few (lo : Option Fil) : Prop := ∀ f, lo = some f → f.later.length ≤ 100
theorem few_none : Few none := fun f h => by cases h
theorem few_some {F : Fil} (h : F.later.length ≤ 100) : Few (some F) := fun f e => by cases e; exact h
theorem good_few {fa fg fl : Option Fil} (ha : Few fa) (hg : Few fg) (hl : Few fl) : Good (T fa fg fl) := Good_T ha hg hl

/-- how a call of the disk's ends -/
def Ends (g B : Nat) (o : Tags) (w : World) (M : Files) (N : Nat) (v : Value) (e : Ending) (w' : World) : Prop := e = .returned v ∧ ∃ o', DiskAt w' B o' g M N ∧ Step o w o' w'

theorem step1 (g B : Nat) (o : Tags) (lo : Option Fil) (w : World) (hlo : Few lo) (hBw : B ≤ w.heap.size) (a : Option Addr) (cap N : Nat) (hd : DiskAt w B o g (T none none lo) N) (hN : N ≤ 1) (hp : Reads w a first) (hna : a = none → cap = 0) :
    Calls Try.prog 10 #[.pointer (some ⟨g, 0, none⟩), .string ⟨nA.toArray⟩, .slice a 5 cap] w (Ends g B o w (T (some fA1) none lo) 2 (.int .i64 0)) := by
  refine (replace_any g B N o (T none none lo) nA a 5 cap first w hd rfl hp hna (by decide) (.inr (by omega)) (by decide) (by decide) (by omega) (fun l f h => (good_few few_none few_none hlo l f h).2) hBw).mono ?_
  rintro e w' ⟨rfl, o', hd', hst⟩
  rw [upd_A, at_A] at hd'
  exact ⟨rfl, o', hd'.mono (by have := (cntN_le (T none none lo) nA N).2; omega), hst⟩

theorem step2 (g B : Nat) (o : Tags) (lo : Option Fil) (w : World) (hd : DiskAt w B o g (T (some fA1) none lo) 2) :
    Calls Try.prog 12 #[.pointer (some ⟨g, 0, none⟩), .string ⟨nA.toArray⟩] w (Ends g B o w (T (some fA0) none lo) 2 (.int .i64 0)) := by
  refine (sync_any g B 2 o (T (some fA1) none lo) nA w hd (by rw [T_A]; rfl) (by decide) (by decide) (by decide) (by rw [at_A]; decide)).mono ?_
  rintro e w' ⟨rfl, o', hd', hst⟩
  rw [upd_A, at_A] at hd'
  exact ⟨rfl, o', hd', hst⟩

theorem step3 (g B : Nat) (o : Tags) (lo : Option Fil) (w : World) (hlo : Few lo) (hBw : B ≤ w.heap.size) (a : Option Addr) (cap : Nat) (zs : List Int) (hd : DiskAt w B o g (T (some fA0) none lo) 2) (hz : zs.length ≤ 60) (hp : Reads w a zs) (hna : a = none → cap = 0) :
    Calls Try.prog 10 #[.pointer (some ⟨g, 0, none⟩), .string ⟨nA.toArray⟩, .slice a zs.length cap] w (Ends g B o w (T (some (fA zs)) none lo) 2 (.int .i64 0)) := by
  refine (replace_any g B 2 o (T (some fA0) none lo) nA a zs.length cap zs w hd rfl hp hna (by omega) (.inr (by decide)) (by decide) (by decide) (by decide) (fun l f h => (good_few (few_some (by decide)) few_none hlo l f h).2) hBw).mono ?_
  rintro e w' ⟨rfl, o', hd', hst⟩
  rw [cntN_has 2 (by rw [T_A]; rfl), upd_A, at_A] at hd'
  exact ⟨rfl, o', hd', hst⟩

theorem step4 (g B : Nat) (o : Tags) (lo : Option Fil) (w : World) (hlo : Few lo) (hBw : B ≤ w.heap.size) (a : Option Addr) (cap : Nat) (zs : List Int) (hd : DiskAt w B o g (T (some (fA zs)) none lo) 2) (hz : zs.length ≤ 60) (hp : Reads w a zs) (hna : a = none → cap = 0) :
    Calls Try.prog 10 #[.pointer (some ⟨g, 0, none⟩), .string ⟨nG.toArray⟩, .slice a zs.length cap] w (Ends g B o w (T (some (fA zs)) (some (fG1 zs)) lo) 3 (.int .i64 0)) := by
  refine (replace_any g B 2 o (T (some (fA zs)) none lo) nG a zs.length cap zs w hd rfl hp hna (by omega) (.inr (by decide)) (by decide) (by decide) (by decide) (fun l f h => (good_few (few_some (by simp [fA])) few_none hlo l f h).2) hBw).mono ?_
  rintro e w' ⟨rfl, o', hd', hst⟩
  rw [upd_G, at_G] at hd'
  exact ⟨rfl, o', hd'.mono (cntN_le _ _ _).2, hst⟩

theorem step5 (g B : Nat) (o : Tags) (lo : Option Fil) (w : World) (zs : List Int) (hd : DiskAt w B o g (T (some (fA zs)) (some (fG1 zs)) lo) 3) :
    Calls Try.prog 12 #[.pointer (some ⟨g, 0, none⟩), .string ⟨nG.toArray⟩] w (Ends g B o w (T (some (fA zs)) (some (fG0 zs)) lo) 3 (.int .i64 0)) := by
  refine (sync_any g B 3 o (T (some (fA zs)) (some (fG1 zs)) lo) nG w hd (by rw [T_G]; rfl) (by decide) (by decide) (by decide) (by rw [at_G]; simp [fG1])).mono ?_
  rintro e w' ⟨rfl, o', hd', hst⟩
  rw [upd_G, at_G] at hd'
  exact ⟨rfl, o', hd', hst⟩

theorem step6 (g B : Nat) (o : Tags) (lo : Option Fil) (w : World) (hBw : B ≤ w.heap.size) (zs : List Int) (hd : DiskAt w B o g (T (some (fA zs)) (some (fG0 zs)) lo) 3) :
    Calls Try.prog 11 #[.pointer (some ⟨g, 0, none⟩), .string ⟨nG.toArray⟩] w (Ends g B o w (T (some (fA zs)) (some (fG zs)) lo) 3 (.int .i64 0)) := by
  refine (remove_any g B 3 o (T (some (fA zs)) (some (fG0 zs)) lo) nG w hd (by rw [at_G]; rfl) (by decide) (by decide) (by decide) (by rw [at_G]; simp [fG0]) hBw).mono ?_
  rintro e w' ⟨rfl, o', hd', hst⟩
  rw [cntN_has 3 (by rw [T_G]; rfl), upd_G, at_G] at hd'
  exact ⟨rfl, o', hd', hst⟩

/-- how many are loose -/
theorem step7 (g B : Nat) (o : Tags) (lo : Option Fil) (w : World) (hlo : Few lo) (zs : List Int) (hd : DiskAt w B o g (T (some (fA zs)) (some (fG zs)) lo) 3) :
    Calls Try.prog 14 #[.pointer (some ⟨g, 0, none⟩)] w fun e w' => ∃ a c, e = .returned (.slice a (2 + (if asked (fun f => f.loose) lo then 1 else 0)) c) ∧ Below w.heap.size w w' := by
  refine (loose_all g B 3 o _ w hd (by decide) (fun l f h => (good_few (few_some (by simp [fA])) (few_some (by simp [fG])) hlo l f h).2)).mono ?_
  rintro e w' ⟨ks, a, c, rfl, h1, _, h2, _⟩
  obtain rfl := names_T h1
  refine ⟨a, c, ?_, h2⟩
  have : (three (asked (fun f => f.loose) (some (fA zs))) (asked (fun f => f.loose) (some (fG zs))) (asked (fun f => f.loose) lo)).length = 2 + (if asked (fun f => f.loose) lo then 1 else 0) := by
    cases asked (fun f => f.loose) lo <;> rfl
  rw [this]

/-- the crash -/
theorem step8 (g B : Nat) (o : Tags) (lo : Option Fil) (w : World) (hlo : Few lo) (zs : List Int) (sa : Option Addr) (sc : Nat) (n0 n1 n2 : Int) (hd : DiskAt w B o g (T (some (fA zs)) (some (fG zs)) lo) 3) (hs : Stay w o sa [n0, n1, n2]) {synced : Int} {k : Nat} {all : List Int} {s : Nat} (hlog : LogIs synced k all s lo) :
    Calls Try.prog 6 #[.pointer (some ⟨g, 0, none⟩), .slice sa 3 sc] w fun e w' => e = .returned (.tuple #[]) ∧ ∃ o' is b, LeftL synced k all s (asked (fun f => f.loose) lo) n2.toNat is b ∧
      DiskAt w' B o' g (T (opt true (if n0.toNat = 0 then first else zs)) (opt (decide (n1.toNat = 0)) (if n1.toNat = 0 then zs else [])) (opt is b)) 3 ∧ Step o w o' w' := by
  refine (crash_any g B 3 o _ sa sc [n0, n1, n2] w hd hs (good_few (few_some (by simp [fA])) (few_some (by simp [fG])) hlo) (by decide)).mono ?_
  rintro e w' ⟨rfl, ks, o', hks, hd', hst⟩
  obtain rfl := names_T hks
  rw [show asked (fun f => f.loose) (some (fA zs)) = true from rfl, show asked (fun f => f.loose) (some (fG zs)) = true from rfl, crashed_T] at hd'
  obtain ⟨is, b, h1, h2⟩ := left hlog n2.toNat
  rw [show stayN [n0, n1, n2] 0 = n0.toNat from rfl, show stayN [n0, n1, n2] (if true = true then 1 else 0) = n1.toNat from rfl, show stayN [n0, n1, n2] ((if true = true then 1 else 0) + (if true = true then 1 else 0)) = n2.toNat from rfl, left_A, left_G, h1] at hd'
  exact ⟨rfl, o', is, b, h2, hd', hst⟩

/-- three files that are sure, or none -/
structure Sure3 (w : World) (B : Nat) (o : Tags) (g : Nat) (ia ig il : Bool) (ba bg bl : List Int) : Prop where
  disk : DiskAt w B o g (T (opt ia ba) (opt ig bg) (opt il bl)) 3
  na : ia = false → ba = []
  ng : ig = false → bg = []
  nl : il = false → bl = []

theorem Sure3.readL {w : World} {B : Nat} {o : Tags} {g : Nat} {ia ig il : Bool} {ba bg bl : List Int} (h : Sure3 w B o g ia ig il ba bg bl) : Calls Try.prog 7 #[.pointer (some ⟨g, 0, none⟩), .string ⟨nL.toArray⟩] w fun e w' => ∃ a c, e = .returned (.tuple #[.slice a bl.length c, .bool il]) ∧ Row w' w.heap.size bl (.slice a bl.length c) ∧ Below w.heap.size w w' := by
  have := read_of _ _ w B o nL _ (Lib.hid (file_any g B 3 o _ nL w h.disk (by decide))) (Lib.hid (fun k e => (h.disk.owns k e).2)) (by rw [at_L]; cases il <;> simp [opt, Fil.zero])
  rw [at_L, opt_now h.nl] at this
  exact this
theorem Sure3.readA {w : World} {B : Nat} {o : Tags} {g : Nat} {ia ig il : Bool} {ba bg bl : List Int} (h : Sure3 w B o g ia ig il ba bg bl) : Calls Try.prog 7 #[.pointer (some ⟨g, 0, none⟩), .string ⟨nA.toArray⟩] w fun e w' => ∃ a c, e = .returned (.tuple #[.slice a ba.length c, .bool ia]) ∧ Row w' w.heap.size ba (.slice a ba.length c) ∧ Below w.heap.size w w' := by
  have := read_of _ _ w B o nA _ (Lib.hid (file_any g B 3 o _ nA w h.disk (by decide))) (Lib.hid (fun k e => (h.disk.owns k e).2)) (by rw [at_A]; cases ia <;> simp [opt, Fil.zero])
  rw [at_A, opt_now h.na] at this
  exact this
theorem Sure3.readG {w : World} {B : Nat} {o : Tags} {g : Nat} {ia ig il : Bool} {ba bg bl : List Int} (h : Sure3 w B o g ia ig il ba bg bl) : Calls Try.prog 7 #[.pointer (some ⟨g, 0, none⟩), .string ⟨nG.toArray⟩] w fun e w' => ∃ a c, e = .returned (.tuple #[.slice a bg.length c, .bool ig]) ∧ Row w' w.heap.size bg (.slice a bg.length c) ∧ Below w.heap.size w w' := by
  have := read_of _ _ w B o nG _ (Lib.hid (file_any g B 3 o _ nG w h.disk (by decide))) (Lib.hid (fun k e => (h.disk.owns k e).2)) (by rw [at_G]; cases ig <;> simp [opt, Fil.zero])
  rw [at_G, opt_now h.ng] at this
  exact this
theorem Sure3.sureL {w : World} {B : Nat} {o : Tags} {g : Nat} {ia ig il : Bool} {ba bg bl : List Int} (h : Sure3 w B o g ia ig il ba bg bl) : Calls Try.prog 8 #[.pointer (some ⟨g, 0, none⟩), .string ⟨nL.toArray⟩] w fun e w' => ∃ a c, e = .returned (.tuple #[.slice a bl.length c, .bool il]) ∧ Row w' w.heap.size bl (.slice a bl.length c) ∧ Below w.heap.size w w' := by
  have := sure_of _ _ w B o nL _ (Lib.hid (file_any g B 3 o _ nL w h.disk (by decide))) (Lib.hid (fun k e => (h.disk.owns k e).2))
  rw [at_L, opt_sure h.nl, List.take_length] at this
  exact this
theorem Sure3.loose {w : World} {B : Nat} {o : Tags} {g : Nat} {ia ig il : Bool} {ba bg bl : List Int} (h : Sure3 w B o g ia ig il ba bg bl) : Calls Try.prog 14 #[.pointer (some ⟨g, 0, none⟩)] w fun e w' => ∃ a c, e = .returned (.slice a 0 c) ∧ Below w.heap.size w w' := by
  refine (loose_all g B 3 o _ w h.disk (by decide) (fun l f e => (good_few (opt_later _ _) (opt_later _ _) (opt_later _ _) l f e).2)).mono ?_
  rintro e w' ⟨ks, a, c, rfl, h1, _, h2, _⟩
  obtain rfl := names_T h1
  rw [opt_loose, opt_loose, opt_loose]
  exact ⟨a, c, rfl, h2⟩
theorem Sure3.crash {w : World} {B : Nat} {o : Tags} {g : Nat} {ia ig il : Bool} {ba bg bl : List Int} (h : Sure3 w B o g ia ig il ba bg bl) (sa : Option Addr) (sc : Nat) (n0 n1 n2 : Int) (hs : Stay w o sa [n0, n1, n2]) :
    Calls Try.prog 6 #[.pointer (some ⟨g, 0, none⟩), .slice sa 3 sc] w fun e w' => e = .returned (.tuple #[]) ∧ ∃ o', Sure3 w' B o' g ia ig il ba bg bl ∧ Step o w o' w' := by
  refine (crash_any g B 3 o _ sa sc [n0, n1, n2] w h.disk hs (good_few (opt_later _ _) (opt_later _ _) (opt_later _ _)) (by decide)).mono ?_
  rintro e w' ⟨rfl, ks, o', hks, hd', hst⟩
  obtain rfl := names_T hks
  rw [opt_loose, opt_loose, opt_loose, crashed_T] at hd'
  exact ⟨rfl, o', ⟨hd', h.na, h.ng, h.nl⟩, hst⟩
theorem Sure3.below {w w' : World} {B : Nat} {o : Tags} {g : Nat} {ia ig il : Bool} {ba bg bl : List Int} (h : Sure3 w B o g ia ig il ba bg bl) (hb : Below w.heap.size w w') : Sure3 w' B o g ia ig il ba bg bl := ⟨h.disk.below hb, h.na, h.ng, h.nl⟩

end Go.Proofs.Ytchmipeehhbniaa
