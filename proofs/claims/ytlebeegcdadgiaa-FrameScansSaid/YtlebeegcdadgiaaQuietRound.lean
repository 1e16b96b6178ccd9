/- In a round of a range over a function: a region that draws its order, and whose operations only read, walked once. -/
import Derived.Test.YtlebeegcdadgiaaTold
import Derived.Sort.QuietIn
namespace Go.Proofs.Ytlebeegcdadgiaa
open Go.RowKit

def noDefer (ops : Array Oper) : Prop := ∀ (i : Nat) (o : Oper) (c : Call), ops[i]? = some o → o.op ≠ .defer c

def noDeferB (ops : List Oper) : Bool := ops.all fun o => match o.op with
  | .defer _ => false
  | _ => true
theorem noDefer_of {ops : List Oper} (h : noDeferB ops = true) : noDefer ops.toArray := by
  intro i o c hi he
  rw [List.getElem?_toArray] at hi
  have := List.all_eq_true.1 h o (List.mem_of_getElem? hi)
  rw [he] at this
  cases this

theorem upon_round {l n : Nat} {P : Program} {o : Oper} {a : Act} {K : Act → World → Prop} {Q : Exit → Act → World → Prop} (r : Result Next) (h : o.uponIn Fence.wide n P a K Q r) : o.uponIn (Fence.wide.inRound l) n P a K Q r := by
  cases r with
  | ok x w => cases x <;> exact h
  | halt e w => exact h

theorem any_round {l n : Nat} {P : Program} {md : Region.Mode} {ops : Array Oper} {Q : Exit → Act → World → Prop} (hd : noDefer ops) : ∀ (fuel : Nat) (listed : Array Bool) (a : Act) (w : World),
    wpAnyIn Fence.wide n P md ops Q fuel listed a w → wpAnyIn (Fence.wide.inRound l) n P md ops Q fuel listed a w
  | 0, _, _, _, h => h
  | fuel + 1, _, a, w, h => ⟨h.1, fun i hi => by
    have hm := wpOpIn_mono (fun a' w' h' => any_round (l := l) hd fuel _ a' w' h') (h.2 i hi)
    unfold wpOpIn at hm ⊢
    cases ho : ops[i]? with
    | none => simp only [ho] at hm; exact hm
    | some o =>
      simp only [ho] at hm
      dsimp only
      by_cases hw : Region.wanted o (yielded ops a.tmps) = true
      · rw [if_pos hw] at hm ⊢
        refine ⟨hm.1, upon_round _ ?_⟩
        have e := Oper.semAt_eq (Fence.wide.inRound l).round a.eval o (fun c => hd i o c ho)
        have e0 := Oper.semAt_eq Fence.wide.round a.eval o (fun c => hd i o c ho)
        rw [e, ← e0]
        exact hm.2
      · rw [if_neg hw] at hm ⊢
        exact hm⟩

theorem quiet_round {l n id : Nat} {P : Program} {Q : Exit → Act → World → Prop} {a : Act} {w : World} {ops : List Oper} (hd : noDefer ops.toArray) (hm : P.follows .mixedOrders = true) (hB : Region.lexB .any ops.toArray = true)
    (h : wpQuietIn Fence.wide n P ops.toArray (fun w' => ∃ n, w' = w.drewN n) (fun a' => ∀ w', (∃ n, w' = w.drewN n) → Q .normal a' w') ops a) : (Code.region id ops.toArray true).wpIn (Fence.wide.inRound l) n P Q a w := by
  have hB' := hB
  simp only [Region.lexB, Bool.and_eq_true] at hB'
  refine wpIn_region_any hm (any_round hd _ _ _ _ (wpAnyIn_of_quiet (F := Fence.wide) (C := fun w' => ∃ n, w' = w.drewN n) (Q := fun a' => ∀ w', (∃ n, w' = w.drewN n) → Q .normal a' w') rfl (fun _ w' hw' h => h w' hw') _ _ _ _ ⟨1, rfl⟩ ?_))
  have := wpAnyQIn_lex (F := Fence.wide) (n := n) (C := fun w' => ∃ n, w' = w.drewN n) (md := .any) hB'.1 ops 0 (Array.replicate ops.toArray.size false) a (by simp) (by simpa using hB'.2) h
  simpa using this

end Go.Proofs.Ytlebeegcdadgiaa
