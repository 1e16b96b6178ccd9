/- A disk in memory: which blocks are whose, and what the files in them are. -/
import Derived.Test.YtjpbniajhkindaaRow
import Derived.Test.YtjpbniajhkindaaDskM
import Derived.Maps.OwnSet
import Derived.Maps.RangeWalk
import Derived.Maps.AppendAt
namespace Go.Proofs.Ytjpbniajhkindaa
open Go.RowKit Go.Maps Dsk
open Go.MapKept Go.ChangeMaps

theorem nameLaw : Keyed Try.prog 9 := string_keyed Try.underlying9

/-- what the map holds of a file: its five cells -/
structure FV where
  t : Bool
  sa : Option Addr
  sn : Nat
  sc : Nat
  wh : Int
  la : Option Addr
  ln : Nat
  lc : Nat
  ls : Bool
abbrev FV.sb (c : FV) : Value := .slice c.sa c.sn c.sc
abbrev FV.lt (c : FV) : Value := .slice c.la c.ln c.lc
def mkV (c : FV) : Value := .agg #[.bool c.t, .slice c.sa c.sn c.sc, .int .i64 c.wh, .slice c.la c.ln c.lc, .bool c.ls]
def FV.zero : FV := ⟨false, none, 0, 0, 0, none, 0, 0, false⟩

def fileElem (v : Value) : Option (DataW Value × List MemPlace) :=
  match v with
  | .agg cs => match cs.toList with
    | [.bool _, .slice _ _ _, .int .i64 _, .slice _ _ _, .bool _] => some (.held v, [])
    | _ => none
  | _ => none

theorem fileElem_mk (c : FV) : fileElem (mkV c) = some (.held (mkV c), []) := rfl
theorem fileElem_inv {v : Value} {y : DataW Value × List MemPlace} (h : fileElem v = some y) : ∃ c, v = mkV c ∧ y = (.held (mkV c), []) := by
  unfold fileElem at h
  split at h
  · rename_i cs
    split at h
    · rename_i t sa sn sc wh la ln lc ls hcs
      cases h
      have hc : cs = #[.bool t, .slice sa sn sc, .int .i64 wh, .slice la ln lc, .bool ls] := by
        cases cs with | mk l => simp at hcs; rw [hcs]
      subst hc
      exact ⟨⟨t, sa, sn, sc, wh, la, ln, lc, ls⟩, rfl, rfl⟩
    · cases h
  · cases h

theorem zero_file (w : World) : (zeroValue 64).run Try.prog w = .ok (mkV FV.zero) w := by kernel_rfl

/-- whose a block is -/
inductive Tag where
  | disk
  | map
  | file (n : Name) (j : Nat)
abbrev Tags := Nat → Option Tag

/-- one more block is told to be somebody's -/
def Tags.own (o : Tags) (v : Value) (t : Tag) : Tags := fun k => if v.ownBlock = some k then some t else o k
/-- of a file one slice alone is left -/
def Tags.only (o : Tags) (n : Name) (v : Value) (t : Tag) : Tags := fun k =>
  if v.ownBlock = some k then some t else match o k with
    | some (.file m j) => if m = n then none else some (.file m j)
    | x => x
def Tags.drop (o : Tags) (n : Name) : Tags := fun k => match o k with
    | some (.file m j) => if m = n then none else some (.file m j)
    | x => x

/-- bytes of the disk's own -/
def BytesAt (w : World) (B : Nat) (o : Tags) (g : Tag) (zs : List Int) (v : Value) : Prop := Row w B zs v ∧ ∀ k, v.ownBlock = some k → o k = some g

def verCells : List Ver → List Value → List Value
  | v :: vs, s :: ss => .bool v.there :: s :: .int .i64 v.whole :: verCells vs ss
  | _, _ => []

theorem verCells_len : ∀ (vs : List Ver) (ss : List Value), ss.length = vs.length → (verCells vs ss).length = vs.length * 3
  | [], _, _ => by simp [verCells]
  | v :: vs, [], h => by simp at h
  | v :: vs, s :: ss, h => by
    simp only [verCells, List.length_cons]
    rw [verCells_len vs ss (by simpa using h)]
    omega
theorem verCells_snoc : ∀ (vs : List Ver) (ss : List Value) (v : Ver) (s : Value), ss.length = vs.length → verCells (vs ++ [v]) (ss ++ [s]) = verCells vs ss ++ [.bool v.there, s, .int .i64 v.whole]
  | [], [], v, s, _ => rfl
  | [], s' :: ss, v, s, h => by simp at h
  | v' :: vs, [], v, s, h => by simp at h
  | v' :: vs, s' :: ss, v, s, h => by
    simp only [verCells, List.cons_append]
    rw [verCells_snoc vs ss v s (by simpa using h)]
theorem verCells_at : ∀ (vs : List Ver) (ss : List Value) (i : Nat) (hi : i < vs.length), ss.length = vs.length →
    (verCells vs ss)[i * 3]? = some (.bool vs[i].there) ∧ (verCells vs ss)[i * 3 + 1]? = some (ss.getD i undef) ∧ (verCells vs ss)[i * 3 + 2]? = some (.int .i64 vs[i].whole)
  | [], _, i, hi, _ => by simp at hi
  | v :: vs, [], i, hi, h => by simp at h
  | v :: vs, s :: ss, 0, hi, h => by simp [verCells]
  | v :: vs, s :: ss, i + 1, hi, h => by
    have := verCells_at vs ss i (by simpa using hi) (by simpa using h)
    simp only [verCells]
    rw [show (i + 1) * 3 = i * 3 + 1 + 1 + 1 by omega]
    simpa using this

/-- the file f in the cells c -/
structure FileAt (w : World) (B : Nat) (o : Tags) (n : Name) (c : FV) (f : Fil) : Prop where
  t : c.t = f.sure.there
  wh : c.wh = f.sure.whole
  ls : c.ls = f.loose
  sb : BytesAt w B o (.file n 0) f.sure.bs c.sb
  ok : f.ok
  lt : ∃ ss : List Value, ss.length = f.later.length ∧ w.ownsRow B 61 3 c.lt f.later.length (verCells f.later ss) ∧ (∀ k, c.lt.ownBlock = some k → o k = some (.file n 1)) ∧
    ∀ i (h : i < f.later.length), BytesAt w B o (.file n (i + 2)) f.later[i].bs (ss.getD i undef)

section
variable {w w' : World} {B : Nat} {o o' : Tags} {n : Name}

theorem Row.keep {zs : List Int} {v : Value} (h : Row w B zs v) (hk : ∀ k, v.ownBlock = some k → w'.heap[k]? = w.heap[k]?) : Row w' B zs v := by
  refine ⟨h.1, ?_⟩
  rcases h.2 with hn | ⟨g, cap, cur, rfl, hB, hg, rest⟩
  · exact .inl hn
  · exact .inr ⟨g, cap, cur, rfl, hB, (hk g rfl).trans hg, rest⟩

theorem ownsRow_keep {e : TypeId} {size m : Nat} {xs : List Value} {v : Value} (h : w.ownsRow B e size v m xs) (hk : ∀ k, v.ownBlock = some k → w'.heap[k]? = w.heap[k]?) : w'.ownsRow B e size v m xs := by
  refine ⟨h.1, ?_⟩
  rcases h.2 with hn | ⟨g, cap, cur, rfl, hB, hg, rest⟩
  · exact .inl hn
  · exact .inr ⟨g, cap, cur, rfl, hB, (hk g rfl).trans hg, rest⟩

theorem BytesAt.keep {g : Tag} {zs : List Int} {v : Value} (h : BytesAt w B o g zs v) (hk : ∀ k, o k = some g → w'.heap[k]? = w.heap[k]?) (ho : ∀ k, o k = some g → o' k = some g) : BytesAt w' B o' g zs v :=
  ⟨h.1.keep fun k e => hk k (h.2 k e), fun k e => ho k (h.2 k e)⟩

theorem FileAt.keep {c : FV} {f : Fil} (h : FileAt w B o n c f) (hk : ∀ k j, o k = some (.file n j) → w'.heap[k]? = w.heap[k]?) (ho : ∀ k j, o k = some (.file n j) → o' k = some (.file n j)) : FileAt w' B o' n c f := by
  obtain ⟨ss, h1, h2, h3, h4⟩ := h.lt
  exact ⟨h.t, h.wh, h.ls, h.sb.keep (fun k => hk k 0) (fun k => ho k 0), h.ok, ss, h1, ownsRow_keep h2 fun k e => hk k 1 (h3 k e), fun k e => ho k 1 (h3 k e), fun i hi => (h4 i hi).keep (fun k => hk k _) (fun k => ho k _)⟩

theorem FileAt.zero (w : World) (B : Nat) (o : Tags) (n : Name) : FileAt w B o n FV.zero Fil.zero :=
  ⟨rfl, rfl, rfl, ⟨World.ownsRow_nil _ _ _ _, fun k e => by cases e⟩, Fil.zero_ok, [], rfl, World.ownsRow_nil _ _ _ _, (fun k e => by cases e), fun i hi => absurd hi (by simp [Fil.zero])⟩
end

/-- what the map's datum says of a name, and what lies behind it -/
def Has1 (w : World) (B : Nat) (o : Tags) (D : DataW Value) (M : Files) (n : Name) : Prop :=
  (M n = none ∧ has D (.string n) = false) ∨ ∃ f c, M n = some f ∧ has D (.string n) = true ∧ (∀ zd, D.atKey (.string n) zd = .held (mkV c)) ∧ FileAt w B o n c f

/-- the disk at g, its map at b, that holds D; of the file l nothing is said of the memory ('some l') -/
structure DiskIn (w : World) (B : Nat) (o : Tags) (g b : Nat) (D : DataW Value) (M : Files) (N : Nat) (l : Option Name) : Prop where
  blk : w.heap[g]? = some (.cells #[.map (some b)] 47 (0, 0))
  og : o g = some .disk
  ob : o b = some .map
  map : w.ownsMap Try.prog 9 fileElem b (Maps.size D) D
  le : Maps.size D ≤ N
  own : ∀ k, o k ≠ none → B ≤ k ∧ k < w.heap.size
  files : ∀ n, some n ≠ l → Has1 w B o D M n
  here : ∀ n, some n = l → has D (.string n) = (M n).isSome

/-- a disk: its files are M; its map has at most N entries -/
def DiskAt (w : World) (B : Nat) (o : Tags) (g : Nat) (M : Files) (N : Nat) : Prop := ∃ b D, DiskIn w B o g b D M N none

section
variable {w w' : World} {B : Nat} {o o' : Tags} {g b N : Nat} {D : DataW Value} {M : Files} {l : Option Name}

theorem ownsMap_exact {P : Program} {k : TypeId} {R : Value → Option (DataW Value × List MemPlace)} {n : Nat} (h : w.ownsMap P k R b n D) : w.ownsMap P k R b (Maps.size D) D := by
  obtain ⟨es, clock, hb, F, _, rfl⟩ := h
  exact ⟨es, clock, hb, F, by simp [Maps.size, length_sorted], rfl⟩

/-- nothing of the disk's has turned but, at most, the file l's -/
theorem DiskIn.keep {l' : Option Name} (h : DiskIn w B o g b D M N l) (hl : ∀ n, some n ≠ l' → some n ≠ l) (hh : ∀ n, some n = l' → has D (.string n) = (M n).isSome) 
    (hk : ∀ k t, o k = some t → (∀ n j, t = .file n j → some n ≠ l') → w'.heap[k]? = w.heap[k]?)
    (ho : ∀ k t, o k = some t → (∀ n j, t = .file n j → some n ≠ l') → o' k = some t)
    (hn : ∀ k, o' k ≠ none → B ≤ k ∧ k < w'.heap.size) : DiskIn w' B o' g b D M N l' where
  blk := (hk g _ h.og (fun n j e => by cases e)).trans h.blk
  og := ho g _ h.og fun n j e => by cases e
  ob := ho b _ h.ob fun n j e => by cases e
  map := by
    obtain ⟨es, clock, hb, r⟩ := h.map
    exact ⟨es, clock, (hk b _ h.ob (fun n j e => by cases e)).trans hb, r⟩
  le := h.le
  own := hn
  files := fun n hnl => by
    rcases h.files n (hl n hnl) with h1 | ⟨f, c, h1, h2, h3, h4⟩
    · exact .inl h1
    · refine .inr ⟨f, c, h1, h2, h3, h4.keep (fun k j e => hk k _ e fun m i e' => ?_) (fun k j e => ho k _ e fun m i e' => ?_)⟩
      · cases e'; exact hnl
      · cases e'; exact hnl
  here := fun n hnl => hh n hnl

/-- nothing of the disk's has turned -/
theorem DiskIn.same (h : DiskIn w B o g b D M N l) (hs : w.heap.size ≤ w'.heap.size) (hk : ∀ k, o k ≠ none → w'.heap[k]? = w.heap[k]?) : DiskIn w' B o g b D M N l :=
  h.keep (fun _ e => e) h.here (fun k t e _ => hk k (by rw [e]; simp)) (fun _ _ e _ => e) (fun k e => ⟨(h.own k e).1, Nat.lt_of_lt_of_le (h.own k e).2 hs⟩)

theorem DiskIn.below (h : DiskIn w B o g b D M N l) (hb : Below w.heap.size w w') : DiskIn w' B o g b D M N l := h.same hb.size fun k e => hb.block k (h.own k e).2
theorem DiskIn.alloc (h : DiskIn w B o g b D M N l) (x : Obj) : DiskIn (w.alloc x) B o g b D M N l := h.below ((Below.refl _ _).alloc (Nat.le_refl _) x)
theorem DiskIn.drew (h : DiskIn w B o g b D M N l) : DiskIn w.drew B o g b D M N l := h.same (Nat.le_refl _) fun _ _ => rfl
theorem DiskIn.setCell (h : DiskIn w B o g b D M N l) {a : Addr} (ha : o a.block = none) (u : Value) : DiskIn (w.setCell a u) B o g b D M N l :=
  h.same (by simp [World.setCell]) fun k e => Below.heap_setCell _ _ _ _ fun e' => e (by rw [e']; exact ha)

/-- the file l is taken out: nothing is said of its memory -/
theorem DiskIn.but (h : DiskIn w B o g b D M N none) (n : Name) : DiskIn w B o g b D M N (some n) :=
  { h with
    files := fun m _ => h.files m (by simp)
    here := fun m e => by
      obtain rfl : m = n := by simpa using e
      rcases h.files m (by simp) with ⟨h1, h2⟩ | ⟨f, c, h1, h2, _⟩
      · rw [h1, h2]; rfl
      · rw [h1, h2]; rfl }

/-- the cells of a file, and what lies behind them -/
theorem DiskIn.file (h : DiskIn w B o g b D M N none) (n : Name) : ∃ c, (∀ zd, has D (.string n) = true → D.atKey (.string n) zd = .held (mkV c)) ∧ (has D (.string n) = false → c = FV.zero) ∧ has D (.string n) = (M n).isSome ∧ FileAt w B o n c (M.at n) := by
  rcases h.files n (by simp) with ⟨h1, h2⟩ | ⟨f, c, h1, h2, h3, h4⟩
  · exact ⟨FV.zero, (fun zd e => by rw [h2] at e; cases e), fun _ => rfl, by rw [h1, h2]; rfl, by simpa [Files.at, h1] using FileAt.zero w B o n⟩
  · exact ⟨c, fun zd _ => h3 zd, (fun e => by rw [h2] at e; cases e), by rw [h1, h2]; rfl, by simpa [Files.at, h1] using h4⟩

theorem key_name (n : Name) (hn : n.length ≤ maxLen) : keyOf Try.prog 9 (.string ⟨n.toArray⟩) = some (.string n) :=
  WideMaps.keyOf_string_mk Try.underlying9 (s := ⟨n.toArray⟩) (by simpa [ByteArray.size] using hn)

/-- 'd.files[name]', with 'ok' or without -/
theorem DiskIn.look (h : DiskIn w B o g b D M N none) (n : Name) (hn : n.length ≤ maxLen) : ∃ c, FileAt w B o n c (M.at n) ∧
    (Instr.lookup 45 (.map (some b)) (.string ⟨n.toArray⟩) false).run Try.prog w = .ok (mkV c) w ∧
    (Instr.lookup 45 (.map (some b)) (.string ⟨n.toArray⟩) true).run Try.prog w = .ok (.tuple #[mkV c, .bool (M n).isSome]) w := by
  obtain ⟨c, h1, h2, h3, h4⟩ := h.file n
  refine ⟨c, h4, ?_, ?_⟩
  · obtain ⟨v, ps, hr, hv⟩ := h.map.lookup (t := 45) nameLaw Try.underlying45 (zero_file w) (fileElem_mk FV.zero) (key_name n hn)
    obtain ⟨c', rfl, hc'⟩ := fileElem_inv hv
    cases hh : has D (.string n)
    · obtain rfl := h2 hh
      rw [atKey_of_not_has hh] at hc'
      simp at hc'
      rw [hr, hc'.1]
    · rw [h1 _ hh] at hc'
      simp at hc'
      rw [hr, hc'.1]
  · obtain ⟨v, ps, hr, hv⟩ := h.map.look_ok (t := 45) nameLaw Try.underlying45 (zero_file w) (fileElem_mk FV.zero) (key_name n hn)
    obtain ⟨c', rfl, hc'⟩ := fileElem_inv hv
    rw [h3] at hr
    cases hh : has D (.string n)
    · obtain rfl := h2 hh
      rw [atKey_of_not_has hh] at hc'
      simp at hc'
      rw [hr, hc'.1]
    · rw [h1 _ hh] at hc'
      simp at hc'
      rw [hr, hc'.1]

/-- how many entries there are at most, once there is one for the name -/
def cntN (M : Files) (n : Name) (N : Nat) : Nat := if (M n).isSome then N else N + 1
theorem cntN_le (M : Files) (n : Name) (N : Nat) : N ≤ cntN M n N ∧ cntN M n N ≤ N + 1 := by unfold cntN; split <;> omega
theorem cntN_has {M : Files} {n : Name} (N : Nat) (h : (M n).isSome = true) : cntN M n N = N := by simp [cntN, h]

theorem isKey_name (n : Name) : WideAt.IsKeyLit (.string n) := by constructor

/-- 'd.files[name] = f' -/
theorem DiskIn.store {n : Name} {c : FV} {f : Fil} (h : DiskIn w B o g b D M N (some n)) (hf : FileAt w B o n c f) (hn : n.length ≤ maxLen) (hN : N < maxLen) :
    ∃ w', (Instr.mapUpdate 45 (.map (some b)) (.string ⟨n.toArray⟩) (mkV c)).run Try.prog w = .ok () w' ∧
      DiskIn w' B o g b (D.put (.string n) (.held (mkV c))) (upd M n (some f)) (cntN M n N) none ∧ w.grownBy w' (some b) ∧ w'.heap.size = w.heap.size := by
  obtain ⟨w', hr, hm, ht⟩ := h.map.store (t := 45) nameLaw Try.underlying45 (Nat.lt_of_le_of_lt h.le hN) (key_name n hn) (fileElem_mk c)
  have hg := ht.grown
  have hz : w'.heap.size = w.heap.size := by
    obtain ⟨_, _, _, _, _, rfl⟩ := ht
    simp [setBlock]
  have hne : ∀ k t, o k = some t → t ≠ .map → w'.heap[k]? = w.heap[k]? := fun k t e ht' => by
    refine hg.block k (h.own k (by rw [e]; simp)).2 fun e' => ?_
    cases e'
    rw [h.ob] at e
    cases e
    exact ht' rfl
  have hkf : ∀ m k j, o k = some (.file m j) → w'.heap[k]? = w.heap[k]? := fun m k j e => hne k _ e (by simp)
  refine ⟨w', hr, ⟨(hne g _ h.og (by simp)).trans h.blk, h.og, h.ob, ownsMap_exact hm, ?_, fun k e => ⟨(h.own k e).1, by rw [hz]; exact (h.own k e).2⟩, fun m _ => ?_, fun m e => by cases e⟩, hg, hz⟩
  · rw [size_put (h.map.tidy nameLaw), h.here n rfl]
    have := h.le
    unfold cntN
    split <;> omega
  · by_cases hmn : m = n
    · subst hmn
      exact .inr ⟨f, c, upd_same _ _ _, has_put_same h.map.isMap (isKey_name m) _, fun zd => atKey_put_same h.map.isMap (isKey_name m) _ _, hf.keep (fun k j e => hkf m k j e) (fun k j e => e)⟩
    · have hk : (Lit.string m : Lit) ≠ .string n := fun e => hmn (by cases e; rfl)
      rcases h.files m (by simpa using hmn) with ⟨h1, h2⟩ | ⟨f', c', h1, h2, h3, h4⟩
      · exact .inl ⟨by rw [upd_other _ _ hmn]; exact h1, by rw [has_put_other hk]; exact h2⟩
      · exact .inr ⟨f', c', by rw [upd_other _ _ hmn]; exact h1, by rw [has_put_other hk]; exact h2, fun zd => by rw [atKey_put_other hk]; exact h3 zd, h4.keep (fun k j e => hkf m k j e) (fun k j e => e)⟩

/-- 'delete(d.files, name)' -/
theorem DiskIn.del {n : Name} (h : DiskIn w B o g b D M N (some n)) (hn : n.length ≤ maxLen) (ty : TypeId) :
    ∃ w', (Builtin.delete_ #[45, 9] ty #[.map (some b), .string ⟨n.toArray⟩]).run Try.prog w = .ok (.tuple #[]) w' ∧
      DiskIn w' B o g b (D.del (.string n)) (upd M n none) N none ∧ w.grownBy w' (some b) ∧ w'.heap.size = w.heap.size := by
  obtain ⟨w', hr, hm, ht⟩ := h.map.drop (t := 45) nameLaw Try.underlying45 (key_name n hn) ty
  have hg := ht.grown
  have hz : w'.heap.size = w.heap.size := by
    obtain ⟨_, _, _, _, _, rfl⟩ := ht
    simp [setBlock]
  have hne : ∀ k t, o k = some t → t ≠ .map → w'.heap[k]? = w.heap[k]? := fun k t e ht' => by
    refine hg.block k (h.own k (by rw [e]; simp)).2 fun e' => ?_
    cases e'
    rw [h.ob] at e
    cases e
    exact ht' rfl
  have hkf : ∀ m k j, o k = some (.file m j) → w'.heap[k]? = w.heap[k]? := fun m k j e => hne k _ e (by simp)
  refine ⟨w', hr, ⟨(hne g _ h.og (by simp)).trans h.blk, h.og, h.ob, ownsMap_exact hm, ?_, fun k e => ⟨(h.own k e).1, by rw [hz]; exact (h.own k e).2⟩, fun m _ => ?_, fun m e => by cases e⟩, hg, hz⟩
  · have h1 := size_del (k := .string n) (h.map.tidy nameLaw)
    have := h.le
    omega
  · by_cases hmn : m = n
    · subst hmn
      exact .inl ⟨upd_same _ _ _, has_del_same⟩
    · have hk : (Lit.string m : Lit) ≠ .string n := fun e => hmn (by cases e; rfl)
      rcases h.files m (by simpa using hmn) with ⟨h1, h2⟩ | ⟨f', c', h1, h2, h3, h4⟩
      · exact .inl ⟨by rw [upd_other _ _ hmn]; exact h1, by rw [has_del_other hk]; exact h2⟩
      · exact .inr ⟨f', c', by rw [upd_other _ _ hmn]; exact h1, by rw [has_del_other hk]; exact h2, fun zd => by rw [atKey_del_other hk]; exact h3 zd, h4.keep (fun k j e => hkf m k j e) (fun k j e => e)⟩
end

/-- what a call leaves of all that is not the disk's: 'x' alone has become the disk's -/
structure StepX (x : Value) (o : Tags) (w : World) (o' : Tags) (w' : World) : Prop where
  os : w'.os = w.os
  tape : w'.tape = w.tape
  output : w'.output = w.output
  size : w.heap.size ≤ w'.heap.size
  block : ∀ k, k < w.heap.size → o k = none → w'.heap[k]? = w.heap[k]?
  free : ∀ k, k < w.heap.size → o k = none → x.ownBlock ≠ some k → o' k = none
abbrev Step (o : Tags) (w : World) (o' : Tags) (w' : World) : Prop := StepX (.slice none 0 0) o w o' w'

section
variable {w w0 w1 w2 : World} {o o1 o2 : Tags} {x : Value}
theorem Step.trans (h : Step o w o1 w1) (k : Step o1 w1 o2 w2) : Step o w o2 w2 :=
  ⟨k.os.trans h.os, k.tape.trans h.tape, k.output.trans h.output, Nat.le_trans h.size k.size,
   fun j hj e => (k.block j (Nat.lt_of_lt_of_le hj h.size) (h.free j hj e (by simp [Value.ownBlock]))).trans (h.block j hj e),
   fun j hj e _ => k.free j (Nat.lt_of_lt_of_le hj h.size) (h.free j hj e (by simp [Value.ownBlock])) (by simp [Value.ownBlock])⟩

theorem StepX.behind (k : StepX x o w1 o2 w2) (h : Below w.heap.size w w1) (hx : ∀ j, x.ownBlock = some j → w.heap.size ≤ j) : Step o w o2 w2 :=
  ⟨k.os.trans h.os, k.tape.trans h.tape, k.output.trans h.output, Nat.le_trans h.size k.size,
   fun j hj e => (k.block j (Nat.lt_of_lt_of_le hj h.size) e).trans (h.block j hj),
   fun j hj e _ => k.free j (Nat.lt_of_lt_of_le hj h.size) e fun e' => by have := hx j e'; omega⟩

theorem Step.refl (o : Tags) (w : World) : Step o w o w := ⟨rfl, rfl, rfl, Nat.le_refl _, fun _ _ _ => rfl, fun _ _ e _ => e⟩
theorem Step.of_below (o : Tags) (h : Below w.heap.size w w1) : Step o w o w1 := ⟨h.os, h.tape, h.output, h.size, fun j hj _ => h.block j hj, fun _ _ e _ => e⟩

/-- below the disk's own blocks nothing has turned -/
theorem StepX.below {B : Nat} (h : StepX x o w o1 w1) (ho : ∀ k, o k ≠ none → B ≤ k ∧ k < w.heap.size) (hB : B ≤ w.heap.size) : Below B w w1 :=
  ⟨h.os, h.tape, h.output, h.size, fun k hk => by
    refine h.block k (by omega) ?_
    cases e : o k with
    | none => rfl
    | some t => have := (ho k (by rw [e]; simp)).1; omega⟩
end

end Go.Proofs.Ytjpbniajhkindaa
