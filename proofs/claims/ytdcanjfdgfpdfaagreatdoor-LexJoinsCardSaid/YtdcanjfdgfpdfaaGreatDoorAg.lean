/- The law LexAgain, walked. -/
import Derived.Test.YtdcanjfdgfpdfaaGreatDoorJo
import Derived.Test.YtdcanjfdgfpdfaaGreatDoorAw
namespace Go.Proofs.YtdcanjfdgfpdfaaGreatDoor.V
open Go.ChangeShapes Go.WideShapes Go.ChangeAt Go.RowKit Go.Shelf
theorem ReadsAs.keys {w : World} {a : Option Addr} {n : Nat} {l : List Lx.Tok} (h : ReadsAs w a n l) (hs : ∀ t ∈ l, Lx.valid (Lx.keyT t) = true) : ReadsK w a n (l.map Lx.keyT) :=
  ⟨by rw [List.length_map, h.len], fun k hk => by
    obtain ⟨g, o, t, ha, ht, c0, c1, c2⟩ := h.fields hk
    have hl := valid_len (hs t (List.mem_of_getElem? ht))
    have e : (⟨t.s.toArray⟩ : ByteArray).data.toList = t.s := by simp
    exact ⟨g, o, t.k, ⟨t.s.toArray⟩, t.p, ha, by rw [List.getElem?_map, ht, e]; rfl, by rw [← lenL, e]; omega, c0, c1, c2⟩⟩
end Go.Proofs.YtdcanjfdgfpdfaaGreatDoor.V
