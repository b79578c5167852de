/- An argument that is a slice of tokens, read as what they are. -/
import Derived.Test.YtdcanjfdgfpdfaaGreatDoorJo
import Derived.Deep.Slices
import Derived.SizedLaws
import Derived.ChangeSame
namespace Go.Proofs.YtdcanjfdgfpdfaaGreatDoor.V
open Go.ChangeShapes Go.WideShapes Go.ChangeAt Go.RowKit Go.Shelf
theorem cellsTok : Tryz.prog.cellsOf 36 = 3 := by kernel_rfl
theorem cellsKind : Tryz.prog.cellsOf 34 = 1 := by kernel_rfl
theorem cellsStr : Tryz.prog.cellsOf 9 = 1 := by kernel_rfl
theorem cellsInt : Tryz.prog.cellsOf 3 = 1 := by kernel_rfl
theorem wAll_mem {H : Type} {P : Program} {e : TypeId} {d : DataW H} {x : Nat} (hx : x ∈ d.weights P e) : ∀ {l : List (DataW H)}, d ∈ l → x ∈ DataW.weightsAll P e l
  | y :: l, h => by
    rw [DataW.weightsAll, List.mem_append]
    rcases List.mem_cons.1 h with rfl | h
    · exact .inl hx
    · exact .inr (wAll_mem hx h)
theorem three_of {α : Type} : ∀ {l : List α}, l.length = 3 → ∃ a b c, l = [a, b, c]
  | [a, b, c], _ => ⟨a, b, c, rfl⟩
/-- One token of the slice. -/
theorem open_tok {H : Type} {enc : TypeId × Value → H} {W : World} {base n : Nat} {spare : Nat → Bool} {held : Bool} {a : Addr} {cs : List Value} {d : DataW H} {q : List MemPlace}
    (hc : W.cells? base a 3 = some cs) (h : DataW.trod enc Tryz.prog W base spare held n 36 cs = some (d, q)) :
    ∃ (x : Int) (t : ByteArray) (p : Int), W.cell? (a.add 0) = some (.int .u8 x) ∧ W.cell? (a.add 1) = some (.string t) ∧ W.cell? (a.add 2) = some (.int .i64 p) ∧ t.size ∈ d.weights Tryz.prog 36 := by
  obtain ⟨-, hl, hat⟩ := World.cells?_some hc
  obtain ⟨c0, c1, c2, rfl⟩ := three_of hl
  obtain ⟨xs, n', -, hx, -, hlen, hg⟩ := DataW.trod_struct Tryz.underlying36 h
  obtain ⟨y0, y1, y2, rfl⟩ := three_of (show xs.length = 3 from hlen)
  have h0 : DataW.trod enc Tryz.prog W base spare held n' 34 (([c0, c1, c2].drop 0).take (Tryz.prog.cellsOf 34)) = some y0 := hg 0 _ rfl
  have h1 : DataW.trod enc Tryz.prog W base spare held n' 9 (([c0, c1, c2].drop 1).take (Tryz.prog.cellsOf 9)) = some y1 := hg 1 _ rfl
  have h2 : DataW.trod enc Tryz.prog W base spare held n' 3 (([c0, c1, c2].drop 2).take (Tryz.prog.cellsOf 3)) = some y2 := hg 2 _ rfl
  rw [cellsKind] at h0
  rw [cellsStr] at h1
  rw [cellsInt] at h2
  obtain ⟨x, e0, -, -⟩ := DataW.trod_int Tryz.underlying34 h0
  obtain ⟨t, e1, ht, -⟩ := DataW.trod_string Tryz.underlying9 h1
  obtain ⟨p, e2, -, -⟩ := DataW.trod_int Tryz.underlying3 h2
  have k0 : c0 = .int .u8 x := List.head_eq_of_cons_eq e0
  have k1 : c1 = .string t := List.head_eq_of_cons_eq e1
  have k2 : c2 = .int .i64 p := List.head_eq_of_cons_eq e2
  subst k0; subst k1; subst k2; subst ht
  refine ⟨x, t, p, hat 0 (by decide), hat 1 (by decide), hat 2 (by decide), ?_⟩
  have hd : d = .agg [y0.1, .lit (.string t.data.toList), y2.1] := (Prod.mk.inj hx).1
  rw [hd, DataW.weights, Tryz.underlying36]
  refine DataW.weights_mem_each (j := 1) (t := 9) rfl rfl _ ?_
  rw [DataW.weights, lenL]
  exact List.mem_singleton.2 rfl
set_option maxRecDepth 100000 in
theorem open_toks {H : Type} {enc : TypeId × Value → H} {W : World} {base b0 : Nat} {v : Value} {d : DataW H} {ps : List MemPlace} (hval : Value.okWide Tryz.prog W .any b0 22 v)
    (h : DataW.Trod enc Tryz.prog W base (fun _ => true) true 22 v d ps) (hz : ∀ x ∈ d.weights Tryz.prog 22, x ≤ reachBytes) :
    ∃ (a : Option Addr) (n ca : Nat) (l : List Lx.Key), v = .slice a n ca ∧ n ≤ 9223372036854775807 ∧ ReadsK W a n l := by
  obtain ⟨a, n, ca, rfl⟩ := okWide_slice Tryz.underlying22 hval
  obtain ⟨fuel, hf⟩ := h
  have hf' : DataW.trod enc Tryz.prog W base (fun _ => true) true fuel 22 [.slice a n ca] = some (d, ps) := by simpa [Value.cells] using hf
  rcases Go.Deep.open_slice Tryz.underlying22 hf' with ⟨hcs, -⟩ | ⟨a', len, cap, m, nn, D, Pl, hcs, hb, hl, hm, hmm, hx, hi⟩
  · have e := List.head_eq_of_cons_eq hcs
    injection e with e1 e2 e3
    subst e1; subst e2; subst e3
    exact ⟨none, 0, 0, [], rfl, by omega, rfl, fun k hk => absurd hk (Nat.not_lt_zero _)⟩
  · have e := List.head_eq_of_cons_eq hcs
    injection e with e1 e2 e3
    subst e1; subst e2; subst e3
    have hlm : n ≤ m := by rw [hmm, if_pos rfl]; exact hl
    have hd := (Prod.mk.inj hx).1
    have hone : ∀ i, i < n → ∃ z : Int × ByteArray × Int, W.cell? ((a'.add (i * 3)).add 0) = some (.int .u8 z.1) ∧ W.cell? ((a'.add (i * 3)).add 1) = some (.string z.2.1) ∧ W.cell? ((a'.add (i * 3)).add 2) = some (.int .i64 z.2.2) ∧ z.2.1.size ≤ 9223372036854775000 := fun i hin => by
      obtain ⟨cs', hc, ht⟩ := hi i (by omega)
      rw [cellsTok] at hc
      obtain ⟨x, t, p, h0, h1, h2, hw⟩ := open_tok hc ht
      refine ⟨(x, t, p), h0, h1, h2, ?_⟩
      have hmem : D i ∈ (List.range n).map D := List.mem_map.2 ⟨i, List.mem_range.2 hin, rfl⟩
      have := hz t.size (by
        rw [hd, DataW.weights, Tryz.underlying22]
        exact List.mem_cons_of_mem _ (List.mem_append.2 (.inl (wAll_mem hw hmem))))
      have hr : reachBytes = 140737488351232 := rfl
      show t.size ≤ _
      omega
    obtain ⟨f, hf⟩ := Go.Deep.choose_lt hone
    refine ⟨some a', n, ca, (List.range n).map fun i => ((f i).1, (f i).2.1.data.toList), rfl, by unfold maxLen at hm; omega, by simp, fun k hk => ?_⟩
    obtain ⟨h0, h1, h2, h3⟩ := hf k hk
    have hspot : a'.spot = none := by
      have c := (hf 0 (by omega)).1
      have ea : (a'.add (0 * 3)).add 0 = a' := rfl
      rw [ea] at c
      unfold World.cell? at c
      cases hs : a'.spot with
      | none => rfl
      | some q =>
        rw [hs] at c
        split at c
        · simp at c
        · cases c
    obtain ⟨g, o, sp⟩ := a'
    dsimp only at hspot
    subst hspot
    have eadd : ∀ j : Nat, ((⟨g, o, none⟩ : Addr).add (k * 3)).add j = ⟨g, o + k * 3 + j, none⟩ := fun j => by
      rw [Go.Deep.add_add]
      unfold Addr.add
      split
      · rename_i e
        rw [show k * 3 = 0 by omega, show j = 0 by omega]
        rfl
      · rw [Nat.add_assoc]
    rw [eadd] at h0 h1 h2
    refine ⟨g, o, (f k).1, (f k).2.1, (f k).2.2, rfl, by simp [hk], h3, h0, h1, h2⟩
end Go.Proofs.YtdcanjfdgfpdfaaGreatDoor.V
