/- The reference's IsToken, near, written. -/
import Derived.Test.YtdcanjfdgfpdfaaGreatDoorAg
import Derived.Test.YtdcanjfdgfpdfaaGreatDoorRt
namespace Go.Proofs.YtdcanjfdgfpdfaaGreatDoor.V
open Go.ChangeShapes Go.WideShapes Go.ChangeAt Go.RowKit Go.Shelf
theorem app_list (a b : ByteArray) : (a ++ b).data.toList = a.data.toList ++ b.data.toList := by simp [ByteArray.data_append]
theorem dbl_snoc (l : List UInt8) (c : UInt8) : Lx.dbl (l ++ [c]) = Lx.dbl l ++ (if c = 39 then [39, 39] else [c]) := by
  induction l with
  | nil => simp only [List.nil_append, Lx.dbl]
  | cons d l ih =>
    rw [List.cons_append, Lx.dbl, Lx.dbl, ih]
    split <;> rfl
theorem take_at (s : ByteArray) (k : Nat) (h : k < s.size) : s.data.toList.take (k + 1) = s.data.toList.take k ++ [s[k]] := by
  rw [List.take_add_one, at_get s k h]; rfl
theorem ext_one (s : ByteArray) (k : Nat) (h : k < s.size) : (s.extract k (k + 1)).data.toList = [s[k]] := by
  rw [Lib.extract_data, drop_at s k h]; simp
set_option maxHeartbeats 1000000 in
theorem r_quoted (s : ByteArray) (hs : s.size ≤ 100) (w : World) : Calls Tryz.prog 61 #[.string s] w fun e w' => e = .returned (.string ⟨(39 :: (Lx.dbl s.data.toList ++ [39])).toArray⟩) ∧ w = w' := by
  go_enter Tryz.func61, Tryz.ntmps61
  go_wp2
  go_loop [3, 4] (fun s3 s4 => ∃ (k : Nat) (o : ByteArray), k ≤ s.size ∧ s4 = .int .i64 k ∧ s3 = .string o ∧ o.size ≤ 1 + 2 * k ∧ Hid (o.data.toList = 39 :: Lx.dbl (s.data.toList.take k))) (fun _ s4 => s.size - (intOf s4).toNat)
  case atStart => exact ⟨0, ⟨#[39]⟩, by omega, rfl, rfl, by decide, rfl⟩
  case round =>
    obtain ⟨k, o, hk, rfl, rfl, ho, HO⟩ := hrel
    by_cases hlt : k < s.size
    · have hx : (s.extract k (k + 1)).size = 1 := by rw [ByteArray.size_extract]; omega
      by_cases h39 : s[k] = 39
      · have g1 : ((s[k].toNat : Int) == 39) = true := by rw [h39]; rfl
        have HN : Hid ((o ++ ⟨#[39]⟩ ++ s.extract k (k + 1)).data.toList = 39 :: Lx.dbl (s.data.toList.take (k + 1))) := by
          show _ = _
          rw [app_list, app_list, HO.out, take_at s k hlt, dbl_snoc, ext_one s k hlt, h39]; simp
        have HX := Lib.hid hx
        clear h39 hx
        go_wp2
        go_round
        case rel => exact ⟨k + 1, _, by omega, by go_num, rfl, by simp only [ByteArray.size_append, HX.out]; have : (⟨#[39]⟩ : ByteArray).size = 1 := rfl; omega, HN⟩
        case measure => simp [intOf]; omega
      · have g1 : ((s[k].toNat : Int) == 39) = false := by
          rw [beq_eq_false_iff_ne]
          intro e
          exact h39 (UInt8.toNat_inj.1 (show s[k].toNat = 39 by omega))
        have HN : Hid ((o ++ s.extract k (k + 1)).data.toList = 39 :: Lx.dbl (s.data.toList.take (k + 1))) := by
          show _ = _
          rw [app_list, HO.out, take_at s k hlt, dbl_snoc, ext_one s k hlt, if_neg h39]; simp
        have HX := Lib.hid hx
        clear h39 hx
        go_wp2
        go_round
        case rel => exact ⟨k + 1, _, by omega, by go_num, rfl, by simp only [ByteArray.size_append, HX.out]; omega, HN⟩
        case measure => simp [intOf]; omega
    · obtain rfl : k = s.size := by omega
      have HN : Hid (o ++ ⟨#[39]⟩ = ⟨(39 :: (Lx.dbl s.data.toList ++ [39])).toArray⟩) := by
        show _ = _
        have h : (o ++ ⟨#[39]⟩).data.toList = 39 :: (Lx.dbl s.data.toList ++ [39]) := by
          rw [app_list, HO.out, List.take_of_length_le (by simp)]; rfl
        rw [← h]
      go_wp2
      go_ret
      exact ⟨by rw [HN.out]; rfl, rfl⟩
abbrev valT (s : ByteArray) : Value := .agg #[.int .u8 2, .int .i64 0, .string s]
theorem r_Valid (s : ByteArray) (hs : s.size ≤ 100) (w : World) : Calls Tryz.prog 59 #[valT s] w fun e w' => e = .returned (.bool true) ∧ Below w.heap.size w w' := by
  have g : (s.size : Int) ≤ 100 := by omega
  go_enter Tryz.func59, Tryz.ntmps59
  go_wp2
  go_ret
  exact ⟨ret_bool rfl, bel_alloc (Below.refl _ _) _⟩
abbrev boxV (s : ByteArray) : Obj := .cells #[.int .u8 2, .int .i64 0, .string s] 62
theorem r_Print (s : ByteArray) (hs : s.size ≤ 100) (w : World) : Calls Tryz.prog 44 #[valT s] w fun e w' => e = .returned (.tuple #[.string ⟨(39 :: (Lx.dbl s.data.toList ++ [39])).toArray⟩, .int .i64 0]) ∧ Below w.heap.size w w' := by
  have CV := Lib.hid (fun w => r_Valid s hs w)
  obtain ⟨q, hq⟩ : ∃ q : ByteArray, (⟨(39 :: (Lx.dbl s.data.toList ++ [39])).toArray⟩ : ByteArray) = q := ⟨_, rfl⟩
  have cq := fun w => r_quoted s hs w
  rw [hq] at cq ⊢
  have CQ := Lib.hid cq
  clear cq hq
  go_enter Tryz.func44, Tryz.ntmps44
  go_wp2_with fail
  refine (CV.out _).mono ?_
  rintro e w1 ⟨rfl, hb1⟩
  have HB := Lib.hid (box_below hb1)
  have c0 := cellb hb1 (a := ⟨w.heap.size, 0, none⟩) (v := .int .u8 2) (by simp [go_sem])
  have c2 := cellb hb1 (a := ⟨w.heap.size, 2, none⟩) (v := .string s) (by simp [go_sem])
  clear hb1
  go_wp2_with fail
  refine (CQ.out _).mono ?_
  rintro e w2 ⟨rfl, rfl⟩
  go_wp2
  go_ret2
  exact ⟨rfl, HB.out⟩
theorem r_written (k : Int) (t : ByteArray) (p : Int) (ht : k = 4 → t.size ≤ 100) (w : World) :
    Calls Tryz.prog 18 #[tokV k t p] w fun e w' => (∃ s : ByteArray, e = .returned (.string s) ∧ s.data.toList = Lx.wr (k, t.data.toList)) ∧ Below w.heap.size w w' := by
  by_cases h4 : k = 4
  · subst h4
    have CP := Lib.hid (fun w => r_Print t (ht rfl) w)
    clear ht
    go_enter Tryz.func18, Tryz.ntmps18
    go_wp2_with fail
    refine (CP.out _).mono ?_
    rintro e w1 ⟨rfl, hb1⟩
    have HB := Lib.hid (box_below hb1)
    clear hb1
    go_wp2
    go_ret
    exact ⟨⟨_, rfl, by simp [Lx.wr]⟩, HB.out⟩
  · have g : (k != 4) = true := by simpa using h4
    have HW : Hid (Lx.wr (k, t.data.toList) = t.data.toList) := by show _ = _; rw [Lx.wr, if_neg h4]
    clear h4 ht
    go_enter Tryz.func18, Tryz.ntmps18
    go_wp2
    go_ret
    exact ⟨⟨t, rfl, HW.out.symm⟩, bel_alloc (Below.refl _ _) _⟩
theorem dig_bad {s : Lx.Bs} {b : UInt8} (hm : b ∈ s) (h : Lx.digit b = false) : Lx.valid (3, s) = false := by
  have : s.all Lx.digit = false := by
    rw [Bool.eq_false_iff]
    intro e
    rw [List.all_eq_true] at e
    rw [e b hm] at h; cases h
  rw [valid_3, Lx.isNum, this]; simp
theorem dig_take {x : ByteArray} {k : Nat} (h : k < x.size) (h1 : (x.data.toList.take k).all Lx.digit = true) (h2 : Lx.digit x[k] = true) : (x.data.toList.take (k + 1)).all Lx.digit = true := by
  rw [take_at x k h, List.all_append, h1]; simpa using h2
set_option maxHeartbeats 4000000 in
theorem r_IsToken (k : Int) (t : ByteArray) (p : Int) (ht : t.size ≤ 9223372036854775000) (w : World) :
    Calls Tryz.prog 16 #[tokV k t p] w fun e w' => e = .returned (.bool (Lx.valid (k, t.data.toList))) ∧ Below w.heap.size w w' := by
  by_cases h1 : k = 1
  · subst h1
    rw [valid_1]
    have C := Lib.hid (fun w => r_IsKeyword t ht w)
    go_enter Tryz.func16, Tryz.ntmps16
    go_wp2_with fail
    refine (C.out _).mono ?_
    rintro e w1 ⟨rfl, rfl⟩
    go_wp2
    go_ret
    exact ⟨rfl, bel_alloc (Below.refl _ _) _⟩
  by_cases h2 : k = 2
  · subst h2
    rw [valid_2]
    have C := Lib.hid (fun w => r_IsName t ht w)
    clear h1
    go_enter Tryz.func16, Tryz.ntmps16
    go_wp2_with fail
    refine (C.out _).mono ?_
    rintro e w1 ⟨rfl, hb⟩
    have HB := Lib.hid (box_below hb)
    clear hb
    go_wp2
    go_ret
    exact ⟨rfl, HB.out⟩
  by_cases h3 : k = 3
  · subst h3
    obtain ⟨R, hR⟩ : ∃ R, Lx.valid (3, t.data.toList) = R := ⟨_, rfl⟩
    rw [hR]
    have HR := Lib.hid hR
    clear h1 h2 hR
    go_enter Tryz.func16, Tryz.ntmps16
    go_wp2
    go_loop [3] (fun s3 => ∃ j : Nat, j ≤ t.size ∧ s3 = .int .i64 j ∧ Hid ((t.data.toList.take j).all Lx.digit = true)) (fun s3 => t.size - (intOf s3).toNat)
    case atStart => exact ⟨0, by omega, rfl, rfl⟩
    case round =>
      obtain ⟨j, hj, rfl, HD⟩ := hrel
      by_cases hlt : j < t.size
      · have CD := fun w => r_isDigit t[j] w
        cases hd : Lx.digit t[j] with
        | true =>
          have HD2 := Lib.hid (dig_take hlt HD.out hd)
          rw [hd] at CD
          have CD := Lib.hid CD
          clear hd HD
          go_wp2_with fail
          refine (CD.out _).mono ?_
          rintro e w1 ⟨rfl, rfl⟩
          go_wp2
          go_round
          case rel => exact ⟨j + 1, by omega, by go_num, HD2⟩
          case measure => simp [intOf]; omega
        | false =>
          have HB := Lib.hid (HR.out.symm.trans (dig_bad (List.mem_of_getElem? (at_get t j hlt)) hd))
          rw [hd] at CD
          have CD := Lib.hid CD
          clear hd HD
          go_wp2_with fail
          refine (CD.out _).mono ?_
          rintro e w1 ⟨rfl, rfl⟩
          go_wp2
          go_ret
          exact ⟨ret_bool HB.out.symm, bel_alloc (Below.refl _ _) _⟩
      · obtain rfl : j = t.size := by omega
        have hall : t.data.toList.all Lx.digit = true := by
          have := HD.out
          rwa [List.take_of_length_le (by rw [lenL]; exact Nat.le_refl _)] at this
        clear HD hlt
        cases hl : t.data.toList with
        | nil =>
          have e1 : t.toList = [] := by rw [ByteArray.toList_eq, hl]
          have HB : Hid (R = false) := by show _ = _; rw [← HR.out, hl]; rfl
          clear hl hall
          go_wp2
          go_ret
          exact ⟨ret_bool HB.out.symm, bel_alloc (Below.refl _ _) _⟩
        | cons c0 r0 =>
          have e1 : ¬ t.toList = [] := by rw [ByteArray.toList_eq, hl]; simp
          have e2 : t.toList.isEmpty = false := by rw [ByteArray.toList_eq, hl]; rfl
          have hne : t.data.toList ≠ [] := by rw [hl]; simp
          clear hl
          by_cases h4 : t.size ≤ 4000
          · have cs := fun w => r_isSmall t h4 hall w
            have HB : Hid (R = Lx.small63 (Lx.num 0 t.data.toList)) := by
              show _ = _
              rw [← HR.out, valid_3, lenL, decide_eq_true h4, Lx.isNum, hall, decide_eq_true hne]; rfl
            obtain ⟨b, hb⟩ : ∃ b, Lx.small63 (Lx.num 0 t.data.toList) = b := ⟨_, rfl⟩
            rw [hb] at cs HB
            have CS := Lib.hid cs
            have g4 : (t.size : Int) ≤ 4000 := by omega
            clear cs hb hne hall
            go_wp2_with fail
            refine (CS.out _).mono ?_
            rintro e w1 ⟨rfl, hb1⟩
            have HBx := Lib.hid (box_below hb1)
            clear hb1
            go_wp2
            go_ret
            exact ⟨ret_bool HB.out.symm, HBx.out⟩
          · have HB : Hid (R = false) := by
              show _ = _
              rw [← HR.out, valid_3, lenL, decide_eq_false h4]; rfl
            have g4 : ¬ (t.size : Int) ≤ 4000 := by omega
            clear hne hall
            go_wp2
            go_ret
            exact ⟨ret_bool HB.out.symm, bel_alloc (Below.refl _ _) _⟩
  by_cases h4 : k = 4
  · subst h4
    rw [valid_4, lenL]
    clear h1 h2 h3
    go_enter Tryz.func16, Tryz.ntmps16
    go_wp2
    go_ret
    exact ⟨ret_bool (decide_eq_decide.2 (by omega)), bel_alloc (Below.refl _ _) _⟩
  by_cases h5 : k = 5
  · subst h5
    rw [valid_5]
    clear h1 h2 h3 h4
    have c := fun w => r_isMark t w
    obtain ⟨cb, hcb⟩ : ∃ cb, Lx.marks.contains t.data.toList = cb := ⟨_, rfl⟩
    rw [hcb] at c ⊢
    have C := Lib.hid c
    clear c hcb
    go_enter Tryz.func16, Tryz.ntmps16
    go_wp2_with fail
    refine (C.out _).mono ?_
    rintro e w1 ⟨rfl, rfl⟩
    go_wp2
    go_ret
    exact ⟨rfl, bel_alloc (Below.refl _ _) _⟩
  · rw [valid_0 _ h1 h2 h3 h4 h5]
    have g1 : (k == 1) = false := by simpa using h1
    have g2 : (k == 2) = false := by simpa using h2
    have g3 : (k == 3) = false := by simpa using h3
    have g4 : (k == 4) = false := by simpa using h4
    have g5 : (k == 5) = false := by simpa using h5
    clear h1 h2 h3 h4 h5
    go_enter Tryz.func16, Tryz.ntmps16
    go_wp2
    go_ret
    exact ⟨rfl, bel_alloc (Below.refl _ _) _⟩
theorem gl_parts (k : Int) (t : ByteArray) : (k = 5 ∧ t = ⟨#[40]⟩) ∨ (k = 5 ∧ t = ⟨#[46]⟩) ∨ (k = 5 ∧ (t.toList == [40]) = false ∧ (t.toList == [46]) = false ∧ Lx.gl (k, t.data.toList) = false) ∨ ((k == 5) = false ∧ Lx.gl (k, t.data.toList) = false) := by
  by_cases h5 : k = 5
  · by_cases h1 : t.data.toList = [40]
    · exact .inl ⟨h5, bytes_of h1⟩
    by_cases h2 : t.data.toList = [46]
    · exact .inr (.inl ⟨h5, bytes_of h2⟩)
    · refine .inr (.inr (.inl ⟨h5, by rw [ByteArray.toList_eq]; simpa using h1, by rw [ByteArray.toList_eq]; simpa using h2, ?_⟩))
      simp [Lx.gl, h1, h2]
  · exact .inr (.inr (.inr ⟨by simpa using h5, by simp [Lx.gl, h5]⟩))
theorem gr_parts (k : Int) (t : ByteArray) : (k = 5 ∧ t = ⟨#[44]⟩) ∨ (k = 5 ∧ t = ⟨#[41]⟩) ∨ (k = 5 ∧ t = ⟨#[46]⟩) ∨ (k = 5 ∧ t = ⟨#[59]⟩) ∨
    (k = 5 ∧ (t.toList == [44]) = false ∧ (t.toList == [41]) = false ∧ (t.toList == [46]) = false ∧ (t.toList == [59]) = false ∧ Hid (Lx.gr (k, t.data.toList) = false)) ∨ ((k == 5) = false ∧ Hid (Lx.gr (k, t.data.toList) = false)) := by
  by_cases h5 : k = 5
  · by_cases h1 : t.data.toList = [44]
    · exact .inl ⟨h5, bytes_of h1⟩
    by_cases h2 : t.data.toList = [41]
    · exact .inr (.inl ⟨h5, bytes_of h2⟩)
    by_cases h3 : t.data.toList = [46]
    · exact .inr (.inr (.inl ⟨h5, bytes_of h3⟩))
    by_cases h4 : t.data.toList = [59]
    · exact .inr (.inr (.inr (.inl ⟨h5, bytes_of h4⟩)))
    · refine .inr (.inr (.inr (.inr (.inl ⟨h5, ?_, ?_, ?_, ?_, ?_⟩))))
      · rw [ByteArray.toList_eq]; simpa using h1
      · rw [ByteArray.toList_eq]; simpa using h2
      · rw [ByteArray.toList_eq]; simpa using h3
      · rw [ByteArray.toList_eq]; simpa using h4
      · exact Lib.hid (by simp [Lx.gr, h1, h2, h3, h4])
  · exact .inr (.inr (.inr (.inr (.inr ⟨by simpa using h5, Lib.hid (by simp [Lx.gr, h5])⟩))))
theorem near_right {a b : Lx.Key} (h : Lx.gl a = false) : Lx.nearK a b = Lx.gr b := by rw [Lx.nearK, h]; rfl
set_option maxHeartbeats 4000000 in
theorem r_near (k1 : Int) (t1 : ByteArray) (p1 : Int) (k2 : Int) (t2 : ByteArray) (p2 : Int) (w : World) :
    Calls Tryz.prog 17 #[tokV k1 t1 p1, tokV k2 t2 p2] w fun e w' => e = .returned (.bool (Lx.nearK (k1, t1.data.toList) (k2, t2.data.toList))) ∧ Below w.heap.size w w' := by
  have hB : Below w.heap.size w ((w.alloc (boxT k1 t1 p1)).alloc (boxT k2 t2 p2)) := bel_alloc (bel_alloc (Below.refl _ w) _) _
  have HB := Lib.hid hB
  clear hB
  rcases gl_parts k1 t1 with ⟨rfl, rfl⟩ | ⟨rfl, rfl⟩ | ⟨rfl, a1, a2, hg⟩ | ⟨a1, hg⟩
  · go_enter Tryz.func17, Tryz.ntmps17
    go_wp2
    go_ret
    exact ⟨rfl, HB.out⟩
  · go_enter Tryz.func17, Tryz.ntmps17
    go_wp2
    go_ret
    exact ⟨rfl, HB.out⟩
  all_goals
    have HN := Lib.hid (near_right (b := (k2, t2.data.toList)) hg)
    clear hg
    rcases gr_parts k2 t2 with ⟨rfl, rfl⟩ | ⟨rfl, rfl⟩ | ⟨rfl, rfl⟩ | ⟨rfl, rfl⟩ | ⟨rfl, b1, b2, b3, b4, HG⟩ | ⟨b1, HG⟩
    all_goals
      go_enter Tryz.func17, Tryz.ntmps17
      go_wp2
      go_ret
      exact ⟨ret_bool (by rw [HN.out]; first | rfl | exact HG.out.symm), HB.out⟩
end Go.Proofs.YtdcanjfdgfpdfaaGreatDoor.V
