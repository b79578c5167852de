/- Contracts of package lex's isToken, written, isMark and apart. -/
import Derived.Test.YtdcanjfdgfpdfaaGreatDoorJv
import Derived.Test.YtdcanjfdgfpdfaaGreatDoorNm
namespace Go.Proofs.YtdcanjfdgfpdfaaGreatDoor.V
open Go.ChangeShapes Go.WideShapes Go.ChangeAt Go.RowKit Go.Shelf
/-- A token's box. -/
abbrev boxT (k : Int) (t : ByteArray) (p : Int) : Obj := .cells #[.int .u8 k, .string t, .int .i64 p] 36
theorem l_listed (K : ByteArray) (L : List Lx.Bs) (hK : fl [] K.data.toList = L) (h1 : K.size ≤ 4000) (h2 : asc K = true) (x : ByteArray) (w : World) (ht : Tab w) :
    Calls Tryz.prog 48 #[.string x, .string K] w fun e w' => e = .returned (.bool (L.contains x.data.toList)) ∧ Below w.heap.size w w' := by
  have h := c_listed x K h1 h2 w ht
  rw [hK] at h
  exact h
def marksText : ByteArray := ⟨#[60, 62, 32, 60, 61, 32, 62, 61, 32, 124, 124, 32, 40, 32, 41, 32, 44, 32, 46, 32, 59, 32, 42, 32, 43, 32, 45, 32, 47, 32, 37, 32, 61, 32, 60, 32, 62]⟩
theorem l_marks (x : ByteArray) (w : World) (ht : Tab w) : Calls Tryz.prog 48 #[.string x, .string ⟨#[60, 62, 32, 60, 61, 32, 62, 61, 32, 124, 124, 32, 40, 32, 41, 32, 44, 32, 46, 32, 59, 32, 42, 32, 43, 32, 45, 32, 47, 32, 37, 32, 61, 32, 60, 32, 62]⟩] w fun e w' => e = .returned (.bool (Lx.marks.contains x.data.toList)) ∧ Below w.heap.size w w' :=
  l_listed marksText Lx.marks (by decide) (by decide) (by decide) x w ht
theorem valid_1 (s : Lx.Bs) : Lx.valid (1, s) = Lx.isKw s := rfl
theorem valid_2 (s : Lx.Bs) : Lx.valid (2, s) = Lx.isName s := rfl
theorem valid_3 (s : Lx.Bs) : Lx.valid (3, s) = (decide (s.length ≤ 4000) && Lx.isNum s) := rfl
theorem valid_4 (s : Lx.Bs) : Lx.valid (4, s) = decide (s.length ≤ 100) := rfl
theorem valid_5 (s : Lx.Bs) : Lx.valid (5, s) = Lx.marks.contains s := rfl
theorem valid_0 {k : Int} (s : Lx.Bs) (h1 : k ≠ 1) (h2 : k ≠ 2) (h3 : k ≠ 3) (h4 : k ≠ 4) (h5 : k ≠ 5) : Lx.valid (k, s) = false := by
  simp only [Lx.valid, if_neg h1, if_neg h2, if_neg h3, if_neg h4, if_neg h5]
set_option maxHeartbeats 4000000 in
theorem c_isToken (k : Int) (t : ByteArray) (p : Int) (ht : t.size ≤ 9223372036854775000) (w : World) (E : Env w) :
    Calls Tryz.prog 19 #[tokV k t p] w fun e w' => e = .returned (.bool (Lx.valid (k, t.data.toList))) ∧ Below w.heap.size w w' := by
  have HE := Lib.hid (E.alloc (boxT k t p))
  clear E
  by_cases h1 : k = 1
  · subst h1
    rw [valid_1]
    have C := Lib.hid (fun w E => c_IsKeyword t w (Env.tab E))
    go_enter Tryz.func19, Tryz.ntmps19
    go_wp2_with fail
    refine (C.out _ HE.out).mono ?_
    rintro e w1 ⟨rfl, hb⟩
    have HB := Lib.hid (box_below hb)
    clear hb
    go_wp2
    go_ret
    exact ⟨rfl, HB.out⟩
  by_cases h2 : k = 2
  · subst h2
    rw [valid_2]
    have C := Lib.hid (fun w E => c_IsName t ht w E)
    clear h1
    go_enter Tryz.func19, Tryz.ntmps19
    go_wp2_with fail
    refine (C.out _ HE.out).mono ?_
    rintro e w1 ⟨rfl, hb⟩
    have HB := Lib.hid (box_below hb)
    clear hb
    go_wp2
    go_ret
    exact ⟨rfl, HB.out⟩
  by_cases h3 : k = 3
  · subst h3
    rw [valid_3, lenL]
    clear h1 h2
    by_cases h4 : t.size ≤ 4000
    · have C := Lib.hid (fun w E => c_isNumber t h4 w E)
      rw [decide_eq_true h4, Bool.true_and]
      have g : (t.size : Int) ≤ 4000 := by omega
      go_enter Tryz.func19, Tryz.ntmps19
      go_wp2_with fail
      refine (C.out _ HE.out).mono ?_
      rintro e w1 ⟨rfl, hb⟩
      have HB := Lib.hid (box_below hb)
      clear hb
      go_wp2
      go_ret
      exact ⟨rfl, HB.out⟩
    · rw [decide_eq_false h4, Bool.false_and]
      have g : ¬ (t.size : Int) ≤ 4000 := by omega
      go_enter Tryz.func19, Tryz.ntmps19
      go_wp2
      go_ret
      exact ⟨rfl, bel_alloc (Below.refl _ _) _⟩
  by_cases h4 : k = 4
  · subst h4
    rw [valid_4, lenL]
    clear h1 h2 h3
    go_enter Tryz.func19, Tryz.ntmps19
    go_wp2
    go_ret
    exact ⟨ret_bool (decide_eq_decide.2 (by omega)), bel_alloc (Below.refl _ _) _⟩
  by_cases h5 : k = 5
  · subst h5
    rw [valid_5]
    clear h1 h2 h3 h4
    have c := fun w E => l_marks t w (Env.tab E)
    obtain ⟨cb, hcb⟩ : ∃ cb, Lx.marks.contains t.data.toList = cb := ⟨_, rfl⟩
    rw [hcb] at c ⊢
    have C := Lib.hid c
    clear c hcb
    go_enter Tryz.func19, Tryz.ntmps19
    go_wp2_with fail
    refine (C.out _ HE.out).mono ?_
    rintro e w1 ⟨rfl, hb⟩
    have HB := Lib.hid (box_below hb)
    clear hb
    go_wp2
    go_ret
    exact ⟨rfl, HB.out⟩
  · rw [valid_0 _ h1 h2 h3 h4 h5]
    have g1 : (k == 1) = false := by simpa using h1
    have g2 : (k == 2) = false := by simpa using h2
    have g3 : (k == 3) = false := by simpa using h3
    have g4 : (k == 4) = false := by simpa using h4
    have g5 : (k == 5) = false := by simpa using h5
    clear h1 h2 h3 h4 h5
    go_enter Tryz.func19, Tryz.ntmps19
    go_wp2
    go_ret
    exact ⟨rfl, bel_alloc (Below.refl _ _) _⟩
theorem l_Double (t : ByteArray) (ht : t.size ≤ 4000) (w : World) (E : Env w) :
    Calls Tryz.prog 51 #[.string t, .string ⟨#[39]⟩, .string ⟨#[39, 39]⟩] w fun e w' => e = .returned (.string ⟨(Lx.dbl t.data.toList).toArray⟩) ∧ Below w.heap.size w w' := by
  have room : t.size + Lib.countB t ⟨#[39]⟩ * (⟨#[39, 39]⟩ : ByteArray).size ≤ 140737488355328 := by
    have h2 := Lib.countB_mul_le ⟨#[39]⟩ (by decide) t.size t (Nat.le_refl _)
    have e1 : (⟨#[39]⟩ : ByteArray).size = 1 := rfl
    have e2 : (⟨#[39, 39]⟩ : ByteArray).size = 2 := rfl
    rw [e2]
    rw [e1] at h2
    omega
  obtain ⟨m, hm⟩ := E.most
  have h := Tryz.strings_ReplaceAll t ⟨#[39]⟩ ⟨#[39, 39]⟩ m w (by omega) hm (by decide) room
  rw [show (⟨#[39, 39]⟩ : ByteArray).data.toList = [39, 39] from rfl, show (⟨#[39]⟩ : ByteArray).data.toList = [39] from rfl, Lx.rep_dbl] at h
  exact h
theorem dbl_len2 : ∀ l : Lx.Bs, (Lx.dbl l).length ≤ 2 * l.length
  | [] => Nat.le_refl _
  | c :: l => by
    have := dbl_len2 l
    rw [Lx.dbl]
    split
    · simp only [List.length_cons]; omega
    · simp only [List.length_cons]; omega
theorem c_written (k : Int) (t : ByteArray) (p : Int) (ht : t.size ≤ 4000) (w : World) (E : Env w) :
    Calls Tryz.prog 23 #[tokV k t p] w fun e w' => (∃ s : ByteArray, e = .returned (.string s) ∧ s.data.toList = Lx.wr (k, t.data.toList)) ∧ Below w.heap.size w w' := by
  have HE := Lib.hid (E.alloc (boxT k t p))
  have c := fun w E => l_Double t ht w E
  obtain ⟨d, hd⟩ : ∃ d : ByteArray, (⟨(Lx.dbl t.data.toList).toArray⟩ : ByteArray) = d := ⟨_, rfl⟩
  have hdl : d.data.toList = Lx.dbl t.data.toList := by rw [← hd]
  have hds : d.size ≤ 8000 := by
    have := dbl_len2 t.data.toList
    rw [← lenL, hdl]
    rw [lenL] at this; omega
  rw [hd] at c
  have C := Lib.hid c
  have HD := Lib.hid hdl
  clear E c hd hdl
  by_cases h4 : k = 4
  · subst h4
    go_enter Tryz.func23, Tryz.ntmps23
    go_wp2_with fail
    refine (C.out _ HE.out).mono ?_
    rintro e w1 ⟨rfl, hb⟩
    have HB := Lib.hid (box_below hb)
    clear hb
    go_wp2
    go_ret
    exact ⟨⟨_, rfl, by rw [Lx.wr, if_pos rfl, ← HD.out]; simp⟩, HB.out⟩
  · have g : (k == 4) = false := by simpa using h4
    have HW : Hid (Lx.wr (k, t.data.toList) = t.data.toList) := by show _ = _; rw [Lx.wr, if_neg h4]
    clear h4
    go_enter Tryz.func23, Tryz.ntmps23
    go_wp2
    go_ret
    exact ⟨⟨t, rfl, HW.out.symm⟩, bel_alloc (Below.refl _ _) _⟩
theorem c_isMark (K : ByteArray) (L : List Lx.Bs) (hK : fl [] K.data.toList = L) (hs : K.size ≤ 4000) (ha : asc K = true) (k : Int) (t : ByteArray) (p : Int) (w : World) (E : Env w) :
    Calls Tryz.prog 49 #[tokV k t p, .string K] w fun e w' => e = .returned (.bool (decide (k = 5) && L.contains t.data.toList)) ∧ Below w.heap.size w w' := by
  have HE := Lib.hid (E.alloc (boxT k t p))
  have c := fun w E => l_listed K L hK hs ha t w (Env.tab E)
  obtain ⟨cb, hcb⟩ : ∃ cb, L.contains t.data.toList = cb := ⟨_, rfl⟩
  rw [hcb] at c ⊢
  have C := Lib.hid c
  clear c hcb E hK hs ha
  by_cases h5 : k = 5
  · subst h5
    rw [decide_eq_true rfl, Bool.true_and]
    go_enter Tryz.func49, Tryz.ntmps49
    go_wp2_with fail
    refine (C.out _ HE.out).mono ?_
    rintro e w1 ⟨rfl, hb⟩
    have HB := Lib.hid (box_below hb)
    clear hb
    go_wp2
    go_ret
    exact ⟨rfl, HB.out⟩
  · rw [decide_eq_false h5, Bool.false_and]
    have g : (k == 5) = false := by simpa using h5
    clear h5
    go_enter Tryz.func49, Tryz.ntmps49
    go_wp2
    go_ret
    exact ⟨rfl, bel_alloc (Below.refl _ _) _⟩
theorem l_left (k : Int) (t : ByteArray) (p : Int) (w : World) (E : Env w) :
    Calls Tryz.prog 49 #[tokV k t p, .string ⟨#[40, 32, 46]⟩] w fun e w' => e = .returned (.bool (Lx.gl (k, t.data.toList))) ∧ Below w.heap.size w w' :=
  c_isMark ⟨#[40, 32, 46]⟩ [[40], [46]] (by decide) (by decide) (by decide) k t p w E
theorem l_right (k : Int) (t : ByteArray) (p : Int) (w : World) (E : Env w) :
    Calls Tryz.prog 49 #[tokV k t p, .string ⟨#[44, 32, 41, 32, 46, 32, 59]⟩] w fun e w' => e = .returned (.bool (Lx.gr (k, t.data.toList))) ∧ Below w.heap.size w w' :=
  c_isMark ⟨#[44, 32, 41, 32, 46, 32, 59]⟩ [[44], [41], [46], [59]] (by decide) (by decide) (by decide) k t p w E
set_option maxHeartbeats 1000000 in
theorem c_apart (k1 : Int) (t1 : ByteArray) (p1 : Int) (k2 : Int) (t2 : ByteArray) (p2 : Int) (w : World) (E : Env w) :
    Calls Tryz.prog 20 #[tokV k1 t1 p1, tokV k2 t2 p2] w fun e w' => e = .returned (.bool (!Lx.nearK (k1, t1.data.toList) (k2, t2.data.toList))) ∧ Below w.heap.size w w' := by
  have HE := Lib.hid ((E.alloc (boxT k1 t1 p1)).alloc (boxT k2 t2 p2))
  have CL := Lib.hid (fun w E => l_left k1 t1 p1 w E)
  have CR := Lib.hid (fun w E => l_right k2 t2 p2 w E)
  clear E
  go_enter Tryz.func20, Tryz.ntmps20
  go_wp2_with fail
  refine (CL.out _ HE.out).mono ?_
  rintro e w1 ⟨rfl, hb⟩
  have HB := Lib.hid (bel_trans (bel_alloc (bel_alloc (Below.refl _ w) (boxT k1 t1 p1)) (boxT k2 t2 p2)) hb)
  have HE1 := Lib.hid (HE.out.below hb)
  have c0 := cellb hb (a := ⟨w.heap.size + 1, 0, none⟩) (v := .int .u8 k2) (by simp [go_sem])
  have c1 := cellb hb (a := ⟨w.heap.size + 1, 1, none⟩) (v := .string t2) (by simp [go_sem])
  have c2 := cellb hb (a := ⟨w.heap.size + 1, 2, none⟩) (v := .int .i64 p2) (by simp [go_sem])
  clear hb
  cases hl : Lx.gl (k1, t1.data.toList) with
  | true =>
    have HN : Hid (Lx.nearK (k1, t1.data.toList) (k2, t2.data.toList) = true) := by show _ = _; rw [Lx.nearK, hl]; rfl
    clear hl c0 c1 c2
    go_wp2
    go_ret
    exact ⟨ret_bool (by rw [HN.out]; rfl), HB.out⟩
  | false =>
    have HN : Hid (Lx.nearK (k1, t1.data.toList) (k2, t2.data.toList) = Lx.gr (k2, t2.data.toList)) := by show _ = _; rw [Lx.nearK, hl]; rfl
    clear hl
    go_wp2_with fail
    refine (CR.out _ HE1.out).mono ?_
    rintro e w2 ⟨rfl, hb2⟩
    have HB2 := Lib.hid (bel_trans HB.out hb2)
    clear hb2 c0 c1 c2
    go_wp2
    go_ret
    exact ⟨ret_bool (by rw [HN.out]), HB2.out⟩
end Go.Proofs.YtdcanjfdgfpdfaaGreatDoor.V
