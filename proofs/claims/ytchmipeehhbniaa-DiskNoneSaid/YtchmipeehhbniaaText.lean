/- Bytes that are read at any address, as text. -/
import Derived.Test.YtchmipeehhbniaaReads
namespace Go.Proofs.Ytchmipeehhbniaa
open Go.RowKit

theorem run_text {P : Program} (w : World) (src e : TypeId) (hs : P.underlying src = some (.slice e)) (he : P.underlying e = some (.int .u8)) (x : Addr) (cap : Nat) (zs : List Int)
    (hcell : ∀ i, i < zs.length → w.cell? (x.add i) = some (.int .u8 (zs.getD i 0))) :
    ∀ dst, P.underlying dst = some .string → (convert src dst (.slice (some x) zs.length cap)).run P w = .ok (.string (strOfNums zs)) w := by
  intro dst hd
  have hl : (loadCells x zs.length).run P w = .ok (zs.map (Value.int .u8)).toArray w := by
    have := run_loadCells_list (P := P) w x (zs.map (Value.int .u8)) (fun j v hj => by
      have hjl : j < zs.length := by
        rcases Nat.lt_or_ge j zs.length with h | h
        · exact h
        · simp [List.getElem?_eq_none (show (zs.map (Value.int .u8)).length ≤ j by simpa using h)] at hj
      rw [hcell j hjl]
      simp [List.getElem?_eq_getElem hjl] at hj
      subst hj
      simp [List.getD, List.getElem?_eq_getElem hjl])
    simpa using this
  rw [run_convert_bytes_string w src dst e _ zs.length cap hs he hd, run_bytesToString w _ zs.length cap zs hl, foldl_push_bytes]
  simp [strOfNums, ByteArray.empty, ByteArray.emptyWithCapacity]
  rfl

/-- 'string(b)' -/
theorem Reads.text {w : World} {a : Option Addr} {zs : List Int} (h : Reads w a zs) (len cap : Nat) (hz : len = zs.length) :
    (convert 22 9 (.slice a len cap)).run Try.prog w = .ok (.string (strOfNums zs)) w := by
  subst hz
  cases a with
  | some x => exact run_text w _ _ Try.underlying22 Try.underlying5 x cap zs (fun i hi => h.at hi) _ Try.underlying9
  | none =>
    cases zs with
    | nil => exact run_convert_bytes_nil w _ _ Try.underlying22 Try.underlying5 _ _ _ Try.underlying9
    | cons z zs =>
      obtain ⟨x, hx, _⟩ := h.cell 0 (by simp)
      cases hx

end Go.Proofs.Ytchmipeehhbniaa
