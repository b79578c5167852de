/- The law LexCuts, walked. -/
import Derived.Test.YtdcanjfdgfpdfaaGreatDoorAw
namespace Go.Proofs.YtdcanjfdgfpdfaaGreatDoor.V
open Go.ChangeShapes Go.WideShapes Go.ChangeAt Go.RowKit Go.Shelf
theorem ReadsAs.take {w : World} {a : Option Addr} {n : Nat} {l : List Lx.Tok} (h : ReadsAs w a n l) {k : Nat} (hk : k ≤ n) : ReadsAs w a k (l.take k) :=
  ⟨by rw [List.length_take, h.len]; omega, fun hp => by
    obtain ⟨g, o, ha, hc⟩ := h.at_ (by omega)
    refine ⟨g, o, ha, fun j u hu => hc j u ?_⟩
    have e : cellsOf l = cellsOf (l.take k) ++ cellsOf (l.drop k) := by
      rw [cellsOf, cellsOf, cellsOf, ← List.flatMap_append, List.take_append_drop]
    have hj : j < (cellsOf (l.take k)).length := by
      rcases Nat.lt_or_ge j (cellsOf (l.take k)).length with h' | h'
      · exact h'
      · rw [List.getElem?_eq_none h'] at hu; cases hu
    rw [e, List.getElem?_append_left hj]
    exact hu⟩
theorem later0 (l : List Lx.Tok) : l.map (Lx.Tok.later 0) = l := by
  have : Lx.Tok.later 0 = id := by funext t; rfl
  rw [this, List.map_id]
theorem toks_pos {l : Lx.Bs} (he : (Lx.toks l).e = 0) {t : Lx.Tok} (ht : t ∈ (Lx.toks l).l) : t.p ≤ l.length ∧ l.length ≤ 4000 := by
  obtain ⟨k, hk, rfl⟩ := List.getElem_of_mem ht
  refine ⟨(Lx.cuts l k he hk).1, ?_⟩
  rcases Nat.lt_or_ge 4000 l.length with h | h
  · rw [Lx.toks, if_pos h] at he; exact absurd he (by decide)
  · exact h
end Go.Proofs.YtdcanjfdgfpdfaaGreatDoor.V
