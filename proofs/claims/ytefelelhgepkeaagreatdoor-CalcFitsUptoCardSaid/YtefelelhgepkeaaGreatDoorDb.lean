/- A slice of outs that is an argument, within the narrower row; and whether all of them are conditions. -/
import Derived.Test.YtefelelhgepkeaaGreatDoorDa
namespace Go.Proofs.YtefelelhgepkeaaGreatDoor.KD
open Go.ChangeShapes Go.WideShapes Go.ChangeAt Go.RowKit Go.Proofs.YtefelelhgepkeaaGreatDoor.V Go.Proofs.YtefelelhgepkeaaGreatDoor.K
theorem bulk_one {H : Type} (d : DataW H) : 1 ≤ Rows.uptoBulk d := by
  unfold Rows.uptoBulk
  split <;> omega
theorem bulk_all {H : Type} (l : List (DataW H)) : l.length ≤ Rows.uptoBulkAll l := by
  induction l with
  | nil => simp
  | cons d l ih =>
    have := bulk_one d
    rw [Rows.uptoBulkAll, List.length_cons]
    omega
set_option maxRecDepth 20000
theorem cellsOut : Tryz.prog.cellsOf 34 = 4 := by kernel_rfl
theorem cellsVal : Tryz.prog.cellsOf 32 = 3 := by kernel_rfl
theorem cellsErr : Tryz.prog.cellsOf 25 = 1 := by kernel_rfl
theorem cellsKn : Tryz.prog.cellsOf 24 = 1 := by kernel_rfl
theorem cellsI64 : Tryz.prog.cellsOf 2 = 1 := by kernel_rfl
theorem cellsStr : Tryz.prog.cellsOf 9 = 1 := by kernel_rfl
instance : Inhabited Ot := ⟨nul⟩
theorem two_of {α : Type} : ∀ {l : List α}, l.length = 2 → ∃ a b, l = [a, b]
  | [a, b], _ => ⟨a, b, rfl⟩
theorem open_outs {H : Type} {enc : TypeId × Value → H} {W : World} {r : Reach} {b0 base : Nat} {sp : Nat → Bool} {held : Bool} {v : Value} {d : DataW H} {p : List MemPlace}
    (hv : Value.okWide Tryz.prog W r b0 30 v) (h : DataW.Trod enc Tryz.prog W base sp held 30 v d p) :
    ∃ (pa : Option Addr) (n ca : Nat) (l : List Ot), v = .slice pa n ca ∧ Outs W pa n l ∧ (pa = none → ca = 0) ∧ n ≤ ca ∧ n ≤ Rows.uptoBulk d := by
  obtain ⟨pa, l, ca, rfl⟩ := okWide_slice Tryz.underlying30 hv
  obtain ⟨fuel, hf⟩ := h
  rcases Go.Deep.open_slice Tryz.underlying30 hf with ⟨h0, _⟩ | ⟨a, len, cap, m, n, D, Pl, hcs, _, hl, hm, hmm, hx0, hx⟩
  · have e : Value.slice pa l ca = .slice none 0 0 := by simpa [Value.cells] using h0
    obtain ⟨rfl, rfl, rfl⟩ : pa = none ∧ l = 0 ∧ ca = 0 := by simpa using e
    exact ⟨none, 0, 0, [], rfl, ⟨rfl, fun k hk => absurd hk (Nat.not_lt_zero _)⟩, fun _ => rfl, by omega, by omega⟩
  · have e : Value.slice pa l ca = .slice (some a) len cap := by simpa [Value.cells] using hcs
    obtain ⟨rfl, rfl, rfl⟩ : pa = some a ∧ l = len ∧ ca = cap := by simpa using e
    have hlm : l ≤ m := by rw [hmm]; split <;> omega
    have each : ∀ i, i < l → ∃ q : Ot, W.cell? (a.add (i * 4)) = some (.int .u8 q.k) ∧ W.cell? (a.add (i * 4 + 1)) = some (.int .i64 q.n) ∧ W.cell? (a.add (i * 4 + 2)) = some (.string q.s) ∧ W.cell? (a.add (i * 4 + 3)) = some (.int .i64 q.e) := by
      intro i hi
      obtain ⟨cs', h1, h2⟩ := hx i (by omega)
      rw [cellsOut] at h1
      obtain ⟨_, hlen, hcell⟩ := World.cells?_some h1
      obtain ⟨xs, n', -, hxs, -, hlen2, hg⟩ := DataW.trod_struct Tryz.underlying34 h2
      obtain ⟨y0, y1, rfl⟩ := two_of (show xs.length = 2 from hlen2)
      match cs', hlen with
      | [v0, v1, v2, v3], _ =>
        have g0 : DataW.trod enc Tryz.prog W base sp held n' 32 (([v0, v1, v2, v3].drop 0).take (Tryz.prog.cellsOf 32)) = some y0 := hg 0 _ rfl
        have g1 : DataW.trod enc Tryz.prog W base sp held n' 25 (([v0, v1, v2, v3].drop 3).take (Tryz.prog.cellsOf 25)) = some y1 := hg 1 _ rfl
        rw [cellsVal] at g0
        rw [cellsErr] at g1
        obtain ⟨z0, z1, z2, k, hxy, _, u0, u1, u2⟩ := Go.Deep.trod_struct3 Tryz.underlying32 g0
        simp only [cellsKn, cellsI64, cellsStr, List.drop, List.take] at u0 u1 u2
        obtain ⟨q0, e0, _, w0⟩ := DataW.trod_int Tryz.underlying24 u0
        obtain ⟨q1, e1, _, _⟩ := DataW.trod_int Tryz.underlying2 u1
        obtain ⟨q2, e2, _, w2⟩ := DataW.trod_string Tryz.underlying9 u2
        simp only [List.drop, List.take] at g1
        obtain ⟨q3, e3, _, _⟩ := DataW.trod_int Tryz.underlying25 g1
        simp only [List.cons.injEq, and_true] at e0 e1 e2 e3
        subst e0; subst e1; subst e2; subst e3
        have c0 := hcell 0 (by omega)
        have c1 := hcell 1 (by omega)
        have c2 := hcell 2 (by omega)
        have c3 := hcell 3 (by omega)
        rw [Go.Deep.add_add] at c0 c1 c2 c3
        exact ⟨⟨q0, q1, q2, q3⟩, by simpa using c0, by simpa using c1, by simpa using c2, by simpa using c3⟩
    obtain ⟨q, hq⟩ := Go.Deep.choose_lt each
    obtain ⟨B, O, spot⟩ := a
    have hs : ∀ i, i < l → spot = none := fun i hi => by
      have h := World.cell?_spot (hq 0 (by omega)).1
      simpa [Addr.add] using h
    refine ⟨_, l, ca, (List.range l).map q, rfl, ⟨by simp, fun i hi => ?_⟩, fun h => (by cases h), hl, ?_⟩
    · have e := hs i hi
      subst e
      obtain ⟨c0, c1, c2, c3⟩ := hq i hi
      rw [Addr.add_lit] at c0 c1 c2 c3
      refine ⟨B, O, q i, rfl, by simp [hi], World.block_lt_of_cell? _ _ c0, c0, ?_, ?_, ?_⟩
      · rw [Nat.add_assoc]; exact c1
      · rw [Nat.add_assoc]; exact c2
      · rw [Nat.add_assoc]; exact c3
    · simp only [Prod.mk.injEq] at hx0
      rw [hx0.1, Rows.uptoBulk]
      have := bulk_all ((List.range l).map D)
      simp only [List.length_map, List.length_range] at this
      omega
theorem allO_drop {l : List Ot} {p : Ot → Bool} {k : Nat} {o : Ot} (h : l[k]? = some o) : (l.drop k).all p = (p o && (l.drop (k + 1)).all p) := by
  rw [List.drop_eq_getElem_cons (List.getElem?_eq_some_iff.1 h).1, List.all_cons, (List.getElem?_eq_some_iff.1 h).2]
set_option maxHeartbeats 2000000 in
theorem l_truths (a : Option Addr) (n c : Nat) (l : List Ot) (hn : n ≤ 9223372036854775000) (w : World) (h : Outs w a n l) : Ret 26 #[.slice a n c] w (.bool (l.all tr)) := by
  have HL := Lib.hid h
  clear h
  go_enter Tryz.func26, Tryz.ntmps26
  go_wp2
  go_loopw [3] (fun s3 wr => ∃ (k : Nat), k ≤ n ∧ s3 = .int .i64 k ∧ Hid ((l.drop k).all tr = l.all tr) ∧ Hid (Below w.heap.size w wr)) (fun s3 _ => n - (intOf s3).toNat)
  case atStart => exact ⟨0, by omega, rfl, rfl, Below.refl _ _⟩
  case round =>
    obtain ⟨k, hk, rfl, HI, HB⟩ := hrel
    by_cases hlt : k < n
    · obtain ⟨g, q, o, rfl, hlk, hg, c0, c1, c2, c3⟩ := (HL.out.below HB.out).at_ k hlt
      have HI2 := Lib.hid ((allO_drop (p := tr) hlk).symm.trans HI.out)
      clear HI hlk
      have hx := fun w => r_ValidO o w
      go_wp2_with fail
      refine (hx _).mono ?_
      rintro e w1 ⟨rfl, hb1⟩
      have HB1 := Lib.hid (bel_trans HB.out hb1)
      have d0 := (hb1.cell (p := ⟨g, _, none⟩) hg).trans c0
      have d3 := (hb1.cell (p := ⟨g, _, none⟩) hg).trans c3
      clear hb1 hx
      by_cases hv : o.ok = true
      · by_cases he : o.e = 0
        · by_cases hk0 : o.k = 0
          · have HT := HI2.out
            rw [show tr o = true by simp [tr, hv, hk0]] at HT
            have HI3 := Lib.hid (show (l.drop (k + 1)).all tr = l.all tr by simpa using HT)
            clear HT HI2
            go_wp2
            refine ⟨⟨k + 1, by omega, by go_num, HI3.out, HB1.out⟩, by simp [intOf]; omega⟩
          · by_cases hk3 : o.k = 3
            · have HT := HI2.out
              rw [show tr o = true by simp [tr, hv, hk3]] at HT
              have HI3 := Lib.hid (show (l.drop (k + 1)).all tr = l.all tr by simpa using HT)
              clear HT HI2
              go_wp2
              refine ⟨⟨k + 1, by omega, by go_num, HI3.out, HB1.out⟩, by simp [intOf]; omega⟩
            · have HT := HI2.out
              rw [show tr o = false by simp [tr, hv, he, hk0, hk3]] at HT
              have HI3 := Lib.hid (show l.all tr = false by simpa using HT.symm)
              clear HT HI2
              have hk0' : (o.k != 0) = true := by simp [hk0]
              have hk3' : (o.k != 3) = true := by simp [hk3]
              go_wp2
              go_ret
              exact ⟨ret_bool HI3.out.symm, HB1.out⟩
        · have HT := HI2.out
          rw [show tr o = true by simp [tr, hv, he]] at HT
          have HI3 := Lib.hid (show (l.drop (k + 1)).all tr = l.all tr by simpa using HT)
          clear HT HI2
          go_wp2
          refine ⟨⟨k + 1, by omega, by go_num, HI3.out, HB1.out⟩, by simp [intOf]; omega⟩
      · have hv' : o.ok = false := by simpa using hv
        have HT := HI2.out
        rw [show tr o = false by simp [tr, hv']] at HT
        have HI3 := Lib.hid (show l.all tr = false by simpa using HT.symm)
        clear HT HI2
        go_wp2
        go_ret
        exact ⟨ret_bool HI3.out.symm, HB1.out⟩
    · have he : l.all tr = true := by rw [← HI.out, List.drop_eq_nil_of_le (by have := HL.out.len; omega)]; rfl
      have HE := Lib.hid he
      clear he HI
      go_wp2
      go_ret
      exact ⟨ret_bool HE.out.symm, HB.out⟩
end Go.Proofs.YtefelelhgepkeaaGreatDoor.KD
