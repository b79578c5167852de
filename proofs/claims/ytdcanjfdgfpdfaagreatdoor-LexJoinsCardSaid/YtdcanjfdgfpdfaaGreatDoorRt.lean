/- The reference's token. -/
import Derived.Test.YtdcanjfdgfpdfaaGreatDoorRm
import Derived.Test.YtdcanjfdgfpdfaaGreatDoorRn
import Derived.Test.YtdcanjfdgfpdfaaGreatDoorRx
namespace Go.Proofs.YtdcanjfdgfpdfaaGreatDoor.V
open Go.ChangeShapes Go.WideShapes Go.ChangeAt Go.RowKit Go.Shelf
set_option maxHeartbeats 1000000 in
theorem token_w (s : ByteArray) (a : Nat) (ha : a < s.size) (hl : Lx.letter s[a] = true) (k : Int) (t : ByteArray) (q n x : Int)
    (h : ∀ w, Calls Tryz.prog 28 #[.string s, .int .i64 a] w fun e w' => e = .returned (.tuple #[tokV k t q, .int .i64 n, .int .i64 x]) ∧ Below w.heap.size w w') (w : World) :
    Calls Tryz.prog 13 #[.string s, .int .i64 a] w fun e w' => e = .returned (.tuple #[tokV k t q, .int .i64 n, .int .i64 x]) ∧ Below w.heap.size w w' := by
  have C1 := Lib.hid (fun w => hl ▸ r_isLetter s[a] w)
  clear hl
  have CW := Lib.hid h
  clear h
  go_enter Tryz.func13, Tryz.ntmps13
  go_wp2_with fail
  refine (C1.out _).mono ?_
  rintro e w1 ⟨rfl, rfl⟩
  go_wp2_with fail
  refine (CW.out _).mono ?_
  rintro e w2 ⟨rfl, hb2⟩
  have HB := Lib.hid (box_below hb2)
  obtain ⟨⟨c0, f0⟩, ⟨c1, f1⟩, ⟨c2, f2⟩⟩ := box3 hb2
  clear hb2
  go_wp2
  refine bodyPost_ret (v := .tuple #[tokV k t q, .int .i64 n, .int .i64 x]) ?_ rfl ⟨rfl, bel3 HB.out _ _ _⟩
  simp [results, Tryz.results13, go_sem, c0, c1, c2]
set_option maxHeartbeats 1000000 in
theorem token_n (s : ByteArray) (a : Nat) (ha : a < s.size) (hl : Lx.letter s[a] = false) (hd : Lx.digit s[a] = true) (k : Int) (t : ByteArray) (q n x : Int)
    (h : ∀ w, Calls Tryz.prog 30 #[.string s, .int .i64 a] w fun e w' => e = .returned (.tuple #[tokV k t q, .int .i64 n, .int .i64 x]) ∧ Below w.heap.size w w') (w : World) :
    Calls Tryz.prog 13 #[.string s, .int .i64 a] w fun e w' => e = .returned (.tuple #[tokV k t q, .int .i64 n, .int .i64 x]) ∧ Below w.heap.size w w' := by
  have C1 := Lib.hid (fun w => hl ▸ r_isLetter s[a] w)
  have C2 := Lib.hid (fun w => hd ▸ r_isDigit s[a] w)
  clear hl hd
  have CW := Lib.hid h
  clear h
  go_enter Tryz.func13, Tryz.ntmps13
  go_wp2_with fail
  refine (C1.out _).mono ?_
  rintro e w1 ⟨rfl, rfl⟩
  go_wp2_with fail
  refine (C2.out _).mono ?_
  rintro e w1 ⟨rfl, rfl⟩
  go_wp2_with fail
  refine (CW.out _).mono ?_
  rintro e w2 ⟨rfl, hb2⟩
  have HB := Lib.hid (box_below hb2)
  obtain ⟨⟨c0, f0⟩, ⟨c1, f1⟩, ⟨c2, f2⟩⟩ := box3 hb2
  clear hb2
  go_wp2
  refine bodyPost_ret (v := .tuple #[tokV k t q, .int .i64 n, .int .i64 x]) ?_ rfl ⟨rfl, bel3 HB.out _ _ _⟩
  simp [results, Tryz.results13, go_sem, c0, c1, c2]
set_option maxHeartbeats 1000000 in
theorem token_t (s : ByteArray) (a : Nat) (ha : a < s.size) (hl : Lx.letter s[a] = false) (hd : Lx.digit s[a] = false) (h39 : s[a] = 39) (k : Int) (t : ByteArray) (q n x : Int)
    (h : ∀ w, Calls Tryz.prog 31 #[.string s, .int .i64 a] w fun e w' => e = .returned (.tuple #[tokV k t q, .int .i64 n, .int .i64 x]) ∧ Below w.heap.size w w') (w : World) :
    Calls Tryz.prog 13 #[.string s, .int .i64 a] w fun e w' => e = .returned (.tuple #[tokV k t q, .int .i64 n, .int .i64 x]) ∧ Below w.heap.size w w' := by
  have C1 := Lib.hid (fun w => hl ▸ r_isLetter s[a] w)
  have C2 := Lib.hid (fun w => hd ▸ r_isDigit s[a] w)
  clear hl hd
  have g1 : ((s[a].toNat : Int) == 39) = true := by rw [h39]; rfl
  clear h39
  have CW := Lib.hid h
  clear h
  go_enter Tryz.func13, Tryz.ntmps13
  go_wp2_with fail
  refine (C1.out _).mono ?_
  rintro e w1 ⟨rfl, rfl⟩
  go_wp2_with fail
  refine (C2.out _).mono ?_
  rintro e w1 ⟨rfl, rfl⟩
  go_wp2_with fail
  refine (CW.out _).mono ?_
  rintro e w2 ⟨rfl, hb2⟩
  have HB := Lib.hid (box_below hb2)
  obtain ⟨⟨c0, f0⟩, ⟨c1, f1⟩, ⟨c2, f2⟩⟩ := box3 hb2
  clear hb2
  go_wp2
  refine bodyPost_ret (v := .tuple #[tokV k t q, .int .i64 n, .int .i64 x]) ?_ rfl ⟨rfl, bel3 HB.out _ _ _⟩
  simp [results, Tryz.results13, go_sem, c0, c1, c2]
theorem take_part (s : ByteArray) (a n : Nat) : (s.extract a (a + n)).data.toList = (s.data.toList.drop a).take n := by
  rw [Lib.extract_data, Nat.add_sub_cancel_left]
theorem part_len (s : ByteArray) (a n : Nat) (h : a + n ≤ s.size) : ((s.data.toList.drop a).take n).length = n := by
  rw [List.length_take, List.length_drop, lenL]; omega
theorem r_isMark_at (s : ByteArray) (a n : Nat) (w : World) : Calls Tryz.prog 32 #[.string (s.extract a (a + n))] w fun e w' => e = .returned (.bool (Lx.marks.contains ((s.data.toList.drop a).take n))) ∧ w = w' := by
  have := r_isMark (s.extract a (a + n)) w
  rwa [take_part] at this
set_option maxHeartbeats 4000000 in
theorem token_m (s : ByteArray) (a : Nat) (hs : s.size ≤ 4000) (ha : a < s.size) (hl : Lx.letter s[a] = false) (hd : Lx.digit s[a] = false) (h39 : s[a] ≠ 39) (w : World) :
    Calls Tryz.prog 13 #[.string s, .int .i64 a] w fun e w' => e = .returned (tv (Lx.mark (s.data.toList.drop a)) a) ∧ Below w.heap.size w w' := by
  have g39 : ((s[a].toNat : Int) == 39) = false := by
    have := ne_bool h39
    simpa using this
  have C1 := Lib.hid (fun w => hl ▸ r_isLetter s[a] w)
  have C2 := Lib.hid (fun w => hd ▸ r_isDigit s[a] w)
  have CM := Lib.hid (fun n w => r_isMark_at s a n w)
  have M2 : Hid (a + 2 ≤ s.size → Lx.marks.contains ((s.data.toList.drop a).take 2) = decide ((s.data.toList.drop a).take 2 ∈ two)) := fun h => contains_two (part_len s a 2 h)
  have M1 : Hid (Lx.marks.contains ((s.data.toList.drop a).take 1) = decide ((s.data.toList.drop a).take 1 ∈ one)) := contains_one (part_len s a 1 (by omega))
  have M0 : Hid (s.size < a + 2 → (s.data.toList.drop a).take 2 ∉ two) := fun h e => by
    have := two_len _ e
    rw [List.length_take, List.length_drop, lenL] at this; omega
  have HT := Lib.hid (mark_is (s.data.toList.drop a))
  have T2 := Lib.hid (take_part s a 2)
  have T1 := Lib.hid (take_part s a 1)
  obtain ⟨R, hR⟩ : ∃ R, Lx.mark (s.data.toList.drop a) = R := ⟨_, rfl⟩
  rw [hR] at HT ⊢
  clear hl hd h39 hR
  go_enter Tryz.func13, Tryz.ntmps13
  go_wp2_with fail
  refine (C1.out _).mono ?_
  rintro e w1 ⟨rfl, rfl⟩
  go_wp2_with fail
  refine (C2.out _).mono ?_
  rintro e w1 ⟨rfl, rfl⟩
  clear C1 C2
  go_wp2
  go_loop [7] (fun s7 => s7 = .int .i64 2 ∨ (s7 = .int .i64 1 ∧ Hid ((s.data.toList.drop a).take 2 ∉ two)) ∨ (s7 = .int .i64 0 ∧ Hid ((s.data.toList.drop a).take 2 ∉ two) ∧ Hid ((s.data.toList.drop a).take 1 ∉ one))) (fun s7 => (intOf s7).toNat)
  case atStart => exact .inl rfl
  case round =>
    clear g39
    rcases hrel with rfl | ⟨rfl, H2⟩ | ⟨rfl, H2, H1⟩
    · by_cases h2 : a + 2 ≤ s.size
      · have hc := CM.out 2
        rw [M2.out h2] at hc
        by_cases hm : (s.data.toList.drop a).take 2 ∈ two
        · rw [decide_eq_true hm] at hc
          have CC := Lib.hid hc
          have HR : Hid (R = .ok 5 (s.extract a (a + 2)).data.toList 2) := by
            show _ = _
            rw [HT.out, if_pos hm, T2.out]
          clear hc hm CM M2 M1 M0 HT
          go_wp2_with fail
          refine (CC.out _).mono ?_
          rintro e w2 ⟨rfl, rfl⟩
          go_wp2
          refine bodyPost_ret (v := tv (.ok 5 (s.extract a (a + 2)).data.toList 2) a) ?_ rfl ⟨by rw [HR.out], by repeat (first | exact Below.refl _ _ | apply bel_alloc | refine bel_set ?_ (by simp) _)⟩
          simp [results, Tryz.results13, go_sem, tv]
          exact bytes_of T2.out
        · rw [decide_eq_false hm] at hc
          have CC := Lib.hid hc
          have H2 := Lib.hid hm
          clear hc hm
          go_wp2_with fail
          refine (CC.out _).mono ?_
          rintro e w2 ⟨rfl, rfl⟩
          go_wp2
          go_round
          case rel => exact .inr (.inl ⟨rfl, H2⟩)
          case measure => simp [intOf]
      · have H2 := Lib.hid (M0.out (by omega))
        have hng : ¬ ((a : Int) + 2 ≤ (s.size : Int)) := by omega
        go_wp2
        go_round
        case rel => exact .inr (.inl ⟨rfl, H2⟩)
        case measure => simp [intOf]
    · have hc := CM.out 1
      rw [M1.out] at hc
      by_cases hm : (s.data.toList.drop a).take 1 ∈ one
      · rw [decide_eq_true hm] at hc
        have CC := Lib.hid hc
        have HR : Hid (R = .ok 5 (s.extract a (a + 1)).data.toList 1) := by
          show _ = _
          rw [HT.out, if_neg H2.out, if_pos hm, T1.out]
        clear hc hm CM M2 M1 M0 HT
        go_wp2_with fail
        refine (CC.out _).mono ?_
        rintro e w2 ⟨rfl, rfl⟩
        go_wp2
        refine bodyPost_ret (v := tv (.ok 5 (s.extract a (a + 1)).data.toList 1) a) ?_ rfl ⟨by rw [HR.out], by repeat (first | exact Below.refl _ _ | apply bel_alloc | refine bel_set ?_ (by simp) _)⟩
        simp [results, Tryz.results13, go_sem, tv]
        exact bytes_of T1.out
      · rw [decide_eq_false hm] at hc
        have CC := Lib.hid hc
        have H1 := Lib.hid hm
        clear hc hm
        go_wp2_with fail
        refine (CC.out _).mono ?_
        rintro e w2 ⟨rfl, rfl⟩
        go_wp2
        go_round
        case rel => exact .inr (.inr ⟨rfl, H2, H1⟩)
        case measure => simp [intOf]
    · have HR : Hid (R = .err 20) := by
        show _ = _
        rw [HT.out, if_neg H2.out, if_neg H1.out]
      go_wp2
      refine bodyPost_ret (v := tv (.err 20) a) ?_ rfl ⟨by rw [HR.out], by repeat (first | exact Below.refl _ _ | apply bel_alloc | refine bel_set ?_ (by simp) _)⟩
      simp [results, Tryz.results13, go_sem, tv]
theorem r_token (s : ByteArray) (a : Nat) (hs : s.size ≤ 4000) (ha : a < s.size) (w : World) :
    Calls Tryz.prog 13 #[.string s, .int .i64 a] w fun e w' => e = .returned (tv (Lx.tok (s.data.toList.drop a)) a) ∧ Below w.heap.size w w' := by
  obtain ⟨k, t, q, n, x, hv⟩ := tv_form (Lx.tok (s.data.toList.drop a)) a
  have ht : Lx.tok (s.data.toList.drop a) = if Lx.letter s[a] then Lx.word (s.data.toList.drop a) else if Lx.digit s[a] then Lx.number (s.data.toList.drop a) else if s[a] = 39 then Lx.text (s.data.toList.drop a) else Lx.mark (s.data.toList.drop a) := by
    rw [drop_at s a ha, Lx.tok]
  cases hl : Lx.letter s[a] with
  | true =>
    rw [hl, if_pos rfl] at ht
    rw [hv]
    rw [ht] at hv
    exact token_w s a ha hl k t q n x (fun w => hv ▸ r_word s a hs ha w) w
  | false =>
    rw [hl, if_neg (by decide)] at ht
    cases hd : Lx.digit s[a] with
    | true =>
      rw [hd, if_pos rfl] at ht
      rw [hv]
      rw [ht] at hv
      exact token_n s a ha hl hd k t q n x (fun w => hv ▸ r_number s a hs ha w) w
    | false =>
      rw [hd, if_neg (by decide)] at ht
      by_cases h39 : s[a] = 39
      · rw [if_pos h39] at ht
        rw [hv]
        rw [ht] at hv
        exact token_t s a ha hl hd h39 k t q n x (fun w => hv ▸ r_text s a hs ha w) w
      · rw [if_neg h39] at ht
        rw [ht]
        exact token_m s a hs ha hl hd h39 w
end Go.Proofs.YtdcanjfdgfpdfaaGreatDoor.V
