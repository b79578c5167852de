/- Arguments that are an out and an outcome. -/
import Derived.Test.YtefelelhgepkeaaGreatDoorSd
namespace Go.Proofs.YtefelelhgepkeaaGreatDoor.S
open Go.ChangeShapes Go.WideShapes Go.ChangeAt Go.RowKit Go.Joins Go.Proofs.YtefelelhgepkeaaGreatDoor.V Go.Proofs.YtefelelhgepkeaaGreatDoor.K Go.Proofs.YtefelelhgepkeaaGreatDoor.KD
set_option maxRecDepth 100000
theorem open_out {H : Type} {enc : TypeId × Value → H} {W : World} {r : Reach} {b0 base : Nat} {sp : Nat → Bool} {held : Bool} {v : Value} {d : DataW H} {p : List MemPlace}
    (hv : Value.okWide Tryz.prog W r b0 34 v) (h : DataW.Trod enc Tryz.prog W base sp held 34 v d p) : ∃ x : Ot, v = ov x.k x.n x.s x.e := by
  obtain ⟨cs, rfl, hsz⟩ := okWide_struct Tryz.underlying34 hv
  obtain ⟨v0, v1, v2, v3, rfl⟩ := array4 (hsz.trans cellsOut)
  obtain ⟨fuel, hf⟩ := h
  obtain ⟨xs, n', -, hxs, -, hlen2, hg⟩ := DataW.trod_struct Tryz.underlying34 hf
  obtain ⟨y0, y1, rfl⟩ := two_of (show xs.length = 2 from hlen2)
  have g0 : DataW.trod enc Tryz.prog W base sp held n' 32 (([v0, v1, v2, v3].drop 0).take (Tryz.prog.cellsOf 32)) = some y0 := hg 0 _ rfl
  have g1 : DataW.trod enc Tryz.prog W base sp held n' 25 (([v0, v1, v2, v3].drop 3).take (Tryz.prog.cellsOf 25)) = some y1 := hg 1 _ rfl
  rw [cellsVal] at g0
  rw [cellsErr] at g1
  obtain ⟨z0, z1, z2, k, hxy, _, u0, u1, u2⟩ := Go.Deep.trod_struct3 Tryz.underlying32 g0
  simp only [cellsKn, cellsI64, cellsStr, List.drop, List.take] at u0 u1 u2
  obtain ⟨q0, e0, _, w0⟩ := DataW.trod_int Tryz.underlying24 u0
  obtain ⟨q1, e1, _, _⟩ := DataW.trod_int Tryz.underlying2 u1
  obtain ⟨q2, e2, _, w2⟩ := DataW.trod_string Tryz.underlying9 u2
  simp only [List.drop, List.take] at g1
  obtain ⟨q3, e3, _, _⟩ := DataW.trod_int Tryz.underlying25 g1
  simp only [List.cons.injEq, and_true] at e0 e1 e2 e3
  subst e0; subst e1; subst e2; subst e3
  exact ⟨⟨q0, q1, q2, q3⟩, rfl⟩
theorem wAll_mem5 {H : Type} {P : Program} {e : TypeId} {d : DataW H} {x : Nat} (hx : x ∈ d.weights P e) : ∀ {l : List (DataW H)}, d ∈ l → x ∈ DataW.weightsAll P e l
  | y :: l, h => by
    rw [DataW.weightsAll, List.mem_append]
    rcases List.mem_cons.1 h with rfl | h
    · exact .inl hx
    · exact .inr (wAll_mem5 hx h)
instance : Inhabited Rw := ⟨((none, 0, 0), [])⟩
instance : Inhabited Vl := ⟨(0, 0, ⟨#[]⟩)⟩
theorem spot_none {W : World} {a : Addr} {v : Value} (h : W.cell? a = some v) : a.spot = none := World.cell?_spot h
theorem cellsRow : Tryz.prog.cellsOf 54 = 1 := by kernel_rfl
theorem cellsRows : Tryz.prog.cellsOf 39 = 1 := by kernel_rfl
theorem cellsOc : Tryz.prog.cellsOf 41 = 2 := by kernel_rfl
theorem bytesRow : Tryz.prog.bytesOf 54 = 24 := by kernel_rfl
theorem bytesVal : Tryz.prog.bytesOf 32 = 32 := by kernel_rfl
/-- A row of values, as it lies in a cell. -/
theorem open_row {H : Type} {enc : TypeId × Value → H} {W : World} {base n0 : Nat} {sp : Nat → Bool} {held : Bool} {v : Value} {y : DataW H × List MemPlace}
    (h : DataW.trod enc Tryz.prog W base sp held n0 54 [v] = some y) (hz : ∀ x ∈ y.1.weights Tryz.prog 54, x ≤ reachBytes) :
    ∃ x : Rw, v = rI x ∧ Vals W x.1.1 x.1.2.1 x.2 ∧ x.1.2.1 ≤ 140737488351232 := by
  rcases Go.Deep.open_slice Tryz.underlying54 h with ⟨h0, _⟩ | ⟨a, len, cap, m, n, D, Pl, hcs, _, hl, hm, hmm, hx0, hx⟩
  · have e : v = .slice none 0 0 := List.head_eq_of_cons_eq h0
    exact ⟨((none, 0, 0), []), e, ⟨rfl, fun k hk => absurd hk (Nat.not_lt_zero _)⟩, by show 0 ≤ _; omega⟩
  · have e : v = .slice (some a) len cap := List.head_eq_of_cons_eq hcs
    have hlm : len ≤ m := by rw [hmm]; split <;> omega
    have each : ∀ i, i < len → ∃ q : Vl, W.cell? (a.add (i * 3)) = some (.int .u8 q.1) ∧ W.cell? (a.add (i * 3 + 1)) = some (.int .i64 q.2.1) ∧ W.cell? (a.add (i * 3 + 2)) = some (.string q.2.2) := by
      intro i hi
      obtain ⟨cs', h1, h2⟩ := hx i (by omega)
      rw [cellsVal] at h1
      obtain ⟨_, hlen, hcell⟩ := World.cells?_some h1
      obtain ⟨y0, y1, y2, k, hxy, _, u0, u1, u2⟩ := Go.Deep.trod_struct3 Tryz.underlying32 h2
      match cs', hlen with
      | [v0, v1, v2], _ =>
        simp only [cellsKn, cellsI64, cellsStr, List.drop, List.take] at u0 u1 u2
        obtain ⟨q0, e0, _, w0⟩ := DataW.trod_int Tryz.underlying24 u0
        obtain ⟨q1, e1, _, _⟩ := DataW.trod_int Tryz.underlying2 u1
        obtain ⟨q2, e2, _, w2⟩ := DataW.trod_string Tryz.underlying9 u2
        simp only [List.cons.injEq, and_true] at e0 e1 e2
        subst e0; subst e1; subst e2
        have c0 := hcell 0 (by omega)
        have c1 := hcell 1 (by omega)
        have c2 := hcell 2 (by omega)
        rw [Go.Deep.add_add] at c0 c1 c2
        exact ⟨(q0, q1, q2), by simpa using c0, by simpa using c1, by simpa using c2⟩
    obtain ⟨q, hq⟩ := Go.Deep.choose_lt each
    have hd := (Prod.mk.inj hx0).1
    have hlen : len ≤ 140737488351232 := by
      have := hz ((((List.range len).map D).length + ((List.range (m - len)).map fun j => D (len + j)).length) * Tryz.prog.bytesOf 32) (by
        rw [hx0, DataW.weights, Tryz.underlying54]
        exact List.mem_cons_self ..)
      have hr : reachBytes = 140737488351232 := rfl
      rw [bytesVal] at this
      simp at this
      omega
    have hs : 0 < len → a.spot = none := fun hi => by
      have h := World.cell?_spot (hq 0 hi).1
      simpa [Addr.add] using h
    refine ⟨((some a, len, cap), (List.range len).map q), e, ⟨by simp, fun i hi => ?_⟩, hlen⟩
    have hi' : i < len := hi
    obtain ⟨c0, c1, c2⟩ := hq i hi'
    obtain ⟨B, O, spot⟩ := a
    have es : spot = none := hs (by omega)
    subst es
    rw [Addr.add_lit] at c0 c1 c2
    refine ⟨B, O, q i, rfl, by simp [hi'], World.block_lt_of_cell? _ _ c0, c0, ?_, ?_⟩
    · rw [Nat.add_assoc]; exact c1
    · rw [Nat.add_assoc]; exact c2
theorem open_outcome {H : Type} {enc : TypeId × Value → H} {W : World} {r : Reach} {b0 base : Nat} {sp : Nat → Bool} {held : Bool} {v : Value} {d : DataW H} {p : List MemPlace}
    (hv : Value.okWide Tryz.prog W r b0 41 v) (h : DataW.Trod enc Tryz.prog W base sp held 41 v d p) (hz : ∀ x ∈ d.weights Tryz.prog 41, x ≤ reachBytes) :
    ∃ (a : Option Addr) (n c : Nat) (e : Int) (l : List Rw), v = outV a n c e ∧ n ≤ 140737488351232 ∧ Rows2 W a n l ∧ ∀ x ∈ l, x.1.2.1 ≤ 140737488351232 := by
  obtain ⟨v0, v1, y0, y1, fu, rfl, hd, -, t0, t1⟩ := open_agg2 Tryz.underlying41 (by kernel_rfl) cellsOc hv h
  obtain ⟨e, ee, -, -⟩ := DataW.trod_int Tryz.underlying25 t1
  have ee : v1 = .int .i64 e := List.head_eq_of_cons_eq ee
  subst ee
  have hz0 : ∀ x ∈ y0.1.weights Tryz.prog 39, x ≤ reachBytes := fun x hx => hz x (by
    rw [hd, DataW.weights, Tryz.underlying41]
    exact DataW.weights_mem_each (j := 0) (t := 39) rfl rfl x hx)
  rcases Go.Deep.open_slice1 Tryz.underlying39 cellsRow t0 with ⟨h0, _⟩ | ⟨a, len, cap, m, n, V, D, Pl, hcs, _, hl, hm, hmm, hx0, hx⟩
  · have e0 : v0 = .slice none 0 0 := List.head_eq_of_cons_eq h0
    subst e0
    exact ⟨none, 0, 0, e, [], rfl, by omega, ⟨⟨rfl, fun k hk => absurd hk (Nat.not_lt_zero _)⟩, fun x hx => by cases hx⟩, fun x hx => by cases hx⟩
  · have e0 : v0 = .slice (some a) len cap := List.head_eq_of_cons_eq hcs
    subst e0
    have hlm : len ≤ m := by rw [hmm]; split <;> omega
    have hdy := congrArg Prod.fst hx0
    have hlen : len ≤ 140737488351232 := by
      have := hz0 ((((List.range len).map D).length + ((List.range (m - len)).map fun j => D (len + j)).length) * Tryz.prog.bytesOf 54) (by
        rw [hdy, DataW.weights, Tryz.underlying39]
        exact List.mem_cons_self ..)
      have hr : reachBytes = 140737488351232 := rfl
      rw [bytesRow] at this
      simp at this
      omega
    have each : ∀ i, i < len → ∃ x : Rw, W.cell? (a.add i) = some (rI x) ∧ Vals W x.1.1 x.1.2.1 x.2 ∧ x.1.2.1 ≤ 140737488351232 := fun i hi => by
      obtain ⟨hc, ht⟩ := hx i (by omega)
      obtain ⟨x, ex, h1, h2⟩ := open_row ht (fun u hu => hz0 u (by
        rw [hdy, DataW.weights, Tryz.underlying39]
        exact List.mem_cons_of_mem _ (List.mem_append.2 (.inl (wAll_mem5 hu (List.mem_map.2 ⟨i, List.mem_range.2 hi, rfl⟩))))))
      exact ⟨x, by rw [hc, ex], h1, h2⟩
    obtain ⟨q, hq⟩ := Go.Deep.choose_lt each
    have hs : 0 < len → a.spot = none := fun hi => by
      have h := World.cell?_spot (hq 0 hi).1
      simpa [Addr.add] using h
    refine ⟨some a, len, cap, e, (List.range len).map q, rfl, hlen, ⟨⟨by simp, fun i hi => ?_⟩, fun x hx => ?_⟩, fun x hx => ?_⟩
    · obtain ⟨c0, -, -⟩ := hq i hi
      obtain ⟨B, O, spot⟩ := a
      have es : spot = none := hs (by omega)
      subst es
      rw [Addr.add_lit] at c0
      exact ⟨B, O, q i, rfl, by simp [hi], World.block_lt_of_cell? _ _ c0, c0⟩
    · obtain ⟨i, hi, rfl⟩ := List.mem_map.1 hx
      obtain ⟨-, h1, h2⟩ := hq i (List.mem_range.1 hi)
      exact ⟨h1, by omega⟩
    · obtain ⟨i, hi, rfl⟩ := List.mem_map.1 hx
      exact (hq i (List.mem_range.1 hi)).2.2
end Go.Proofs.YtefelelhgepkeaaGreatDoor.S
