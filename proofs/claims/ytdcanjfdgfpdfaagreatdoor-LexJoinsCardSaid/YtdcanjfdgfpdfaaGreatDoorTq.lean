/- Contracts of the functions of package lex that read a token at a place, and all tokens. -/
import Derived.Test.YtdcanjfdgfpdfaaGreatDoorTp
import Derived.Laws.AppendOwn
namespace Go.Proofs.YtdcanjfdgfpdfaaGreatDoor.V
open Go.ChangeShapes Go.WideShapes Go.ChangeAt Go.RowKit Go.Shelf
theorem tv_form (r : Lx.R) (p : Nat) : ∃ (k : Int) (t : ByteArray) (q n e : Int), tv r p = .tuple #[tokV k t q, .int .i64 n, .int .i64 e] := by
  cases r with
  | err e => exact ⟨0, ⟨#[]⟩, 0, 0, e, rfl⟩
  | ok k s n => exact ⟨k, ⟨s.toArray⟩, p, ((p + n : Nat) : Int), 0, rfl⟩
theorem cls_cases (b : UInt8) : cls b = 0 ∨ cls b = 1 ∨ cls b = 2 ∨ cls b = 3 ∨ cls b = 4 ∨ cls b = 5 ∨ cls b = 6 := by
  rw [cls_n b]
  repeat' split
  all_goals simp
set_option maxHeartbeats 400000 in
theorem tokenAt_0 (s : ByteArray) (a : Nat) (ha : a < s.size) (hc : cls s[a] = 0) (k : Int) (t : ByteArray) (q n x : Int)
    (h : ∀ w, Env w → Calls Tryz.prog 40 #[.string s, .int .i64 a] w fun e w' => e = .returned (.tuple #[tokV k t q, .int .i64 n, .int .i64 x]) ∧ Below w.heap.size w w') (w : World) (E : Env w) :
    Calls Tryz.prog 15 #[.string s, .int .i64 a] w fun e w' => e = .returned (.tuple #[tokV k t q, .int .i64 n, .int .i64 x]) ∧ Below w.heap.size w w' := by
  have CC := Lib.hid (fun w => hc ▸ c_classOf s[a] w)
  have CW := Lib.hid h
  clear hc h
  go_enter Tryz.func15, Tryz.ntmps15
  go_wp2_with fail
  refine (CC.out _).mono ?_
  rintro e w1 ⟨rfl, rfl⟩
  go_wp2_with fail
  refine (CW.out _ (E.alloc tok0)).mono ?_
  rintro e w2 ⟨rfl, hb2⟩
  have HB := Lib.hid (box_below hb2)
  obtain ⟨⟨c0, f0⟩, ⟨c1, f1⟩, ⟨c2, f2⟩⟩ := box3 hb2
  clear hb2
  go_wp2
  refine bodyPost_ret (v := .tuple #[tokV k t q, .int .i64 n, .int .i64 x]) ?_ rfl ⟨rfl, bel3 HB.out _ _ _⟩
  simp [results, Tryz.results15, go_sem, c0, c1, c2]
set_option maxHeartbeats 400000 in
theorem tokenAt_1 (s : ByteArray) (a : Nat) (ha : a < s.size) (hc : cls s[a] = 1) (k : Int) (t : ByteArray) (q n x : Int)
    (h : ∀ w, Env w → Calls Tryz.prog 40 #[.string s, .int .i64 a] w fun e w' => e = .returned (.tuple #[tokV k t q, .int .i64 n, .int .i64 x]) ∧ Below w.heap.size w w') (w : World) (E : Env w) :
    Calls Tryz.prog 15 #[.string s, .int .i64 a] w fun e w' => e = .returned (.tuple #[tokV k t q, .int .i64 n, .int .i64 x]) ∧ Below w.heap.size w w' := by
  have CC := Lib.hid (fun w => hc ▸ c_classOf s[a] w)
  have CW := Lib.hid h
  clear hc h
  go_enter Tryz.func15, Tryz.ntmps15
  go_wp2_with fail
  refine (CC.out _).mono ?_
  rintro e w1 ⟨rfl, rfl⟩
  go_wp2_with fail
  refine (CW.out _ (E.alloc tok0)).mono ?_
  rintro e w2 ⟨rfl, hb2⟩
  have HB := Lib.hid (box_below hb2)
  obtain ⟨⟨c0, f0⟩, ⟨c1, f1⟩, ⟨c2, f2⟩⟩ := box3 hb2
  clear hb2
  go_wp2
  refine bodyPost_ret (v := .tuple #[tokV k t q, .int .i64 n, .int .i64 x]) ?_ rfl ⟨rfl, bel3 HB.out _ _ _⟩
  simp [results, Tryz.results15, go_sem, c0, c1, c2]
set_option maxHeartbeats 400000 in
theorem tokenAt_2 (s : ByteArray) (a : Nat) (ha : a < s.size) (hc : cls s[a] = 2) (k : Int) (t : ByteArray) (q n x : Int)
    (h : ∀ w, Env w → Calls Tryz.prog 37 #[.string s, .int .i64 a] w fun e w' => e = .returned (.tuple #[tokV k t q, .int .i64 n, .int .i64 x]) ∧ Below w.heap.size w w') (w : World) (E : Env w) :
    Calls Tryz.prog 15 #[.string s, .int .i64 a] w fun e w' => e = .returned (.tuple #[tokV k t q, .int .i64 n, .int .i64 x]) ∧ Below w.heap.size w w' := by
  have CC := Lib.hid (fun w => hc ▸ c_classOf s[a] w)
  have CW := Lib.hid h
  clear hc h
  go_enter Tryz.func15, Tryz.ntmps15
  go_wp2_with fail
  refine (CC.out _).mono ?_
  rintro e w1 ⟨rfl, rfl⟩
  go_wp2_with fail
  refine (CW.out _ (E.alloc tok0)).mono ?_
  rintro e w2 ⟨rfl, hb2⟩
  have HB := Lib.hid (box_below hb2)
  obtain ⟨⟨c0, f0⟩, ⟨c1, f1⟩, ⟨c2, f2⟩⟩ := box3 hb2
  clear hb2
  go_wp2
  refine bodyPost_ret (v := .tuple #[tokV k t q, .int .i64 n, .int .i64 x]) ?_ rfl ⟨rfl, bel3 HB.out _ _ _⟩
  simp [results, Tryz.results15, go_sem, c0, c1, c2]
set_option maxHeartbeats 400000 in
theorem tokenAt_3 (s : ByteArray) (a : Nat) (ha : a < s.size) (hc : cls s[a] = 3) (k : Int) (t : ByteArray) (q n x : Int)
    (h : ∀ w, Env w → Calls Tryz.prog 37 #[.string s, .int .i64 a] w fun e w' => e = .returned (.tuple #[tokV k t q, .int .i64 n, .int .i64 x]) ∧ Below w.heap.size w w') (w : World) (E : Env w) :
    Calls Tryz.prog 15 #[.string s, .int .i64 a] w fun e w' => e = .returned (.tuple #[tokV k t q, .int .i64 n, .int .i64 x]) ∧ Below w.heap.size w w' := by
  have CC := Lib.hid (fun w => hc ▸ c_classOf s[a] w)
  have CW := Lib.hid h
  clear hc h
  go_enter Tryz.func15, Tryz.ntmps15
  go_wp2_with fail
  refine (CC.out _).mono ?_
  rintro e w1 ⟨rfl, rfl⟩
  go_wp2_with fail
  refine (CW.out _ (E.alloc tok0)).mono ?_
  rintro e w2 ⟨rfl, hb2⟩
  have HB := Lib.hid (box_below hb2)
  obtain ⟨⟨c0, f0⟩, ⟨c1, f1⟩, ⟨c2, f2⟩⟩ := box3 hb2
  clear hb2
  go_wp2
  refine bodyPost_ret (v := .tuple #[tokV k t q, .int .i64 n, .int .i64 x]) ?_ rfl ⟨rfl, bel3 HB.out _ _ _⟩
  simp [results, Tryz.results15, go_sem, c0, c1, c2]
set_option maxHeartbeats 400000 in
theorem tokenAt_4 (s : ByteArray) (a : Nat) (ha : a < s.size) (hc : cls s[a] = 4) (k : Int) (t : ByteArray) (q n x : Int)
    (h : ∀ w, Env w → Calls Tryz.prog 37 #[.string s, .int .i64 a] w fun e w' => e = .returned (.tuple #[tokV k t q, .int .i64 n, .int .i64 x]) ∧ Below w.heap.size w w') (w : World) (E : Env w) :
    Calls Tryz.prog 15 #[.string s, .int .i64 a] w fun e w' => e = .returned (.tuple #[tokV k t q, .int .i64 n, .int .i64 x]) ∧ Below w.heap.size w w' := by
  have CC := Lib.hid (fun w => hc ▸ c_classOf s[a] w)
  have CW := Lib.hid h
  clear hc h
  go_enter Tryz.func15, Tryz.ntmps15
  go_wp2_with fail
  refine (CC.out _).mono ?_
  rintro e w1 ⟨rfl, rfl⟩
  go_wp2_with fail
  refine (CW.out _ (E.alloc tok0)).mono ?_
  rintro e w2 ⟨rfl, hb2⟩
  have HB := Lib.hid (box_below hb2)
  obtain ⟨⟨c0, f0⟩, ⟨c1, f1⟩, ⟨c2, f2⟩⟩ := box3 hb2
  clear hb2
  go_wp2
  refine bodyPost_ret (v := .tuple #[tokV k t q, .int .i64 n, .int .i64 x]) ?_ rfl ⟨rfl, bel3 HB.out _ _ _⟩
  simp [results, Tryz.results15, go_sem, c0, c1, c2]
set_option maxHeartbeats 400000 in
theorem tokenAt_5 (s : ByteArray) (a : Nat) (ha : a < s.size) (hc : cls s[a] = 5) (k : Int) (t : ByteArray) (q n x : Int)
    (h : ∀ w, Env w → Calls Tryz.prog 38 #[.string s, .int .i64 a] w fun e w' => e = .returned (.tuple #[tokV k t q, .int .i64 n, .int .i64 x]) ∧ Below w.heap.size w w') (w : World) (E : Env w) :
    Calls Tryz.prog 15 #[.string s, .int .i64 a] w fun e w' => e = .returned (.tuple #[tokV k t q, .int .i64 n, .int .i64 x]) ∧ Below w.heap.size w w' := by
  have CC := Lib.hid (fun w => hc ▸ c_classOf s[a] w)
  have CW := Lib.hid h
  clear hc h
  go_enter Tryz.func15, Tryz.ntmps15
  go_wp2_with fail
  refine (CC.out _).mono ?_
  rintro e w1 ⟨rfl, rfl⟩
  go_wp2_with fail
  refine (CW.out _ (E.alloc tok0)).mono ?_
  rintro e w2 ⟨rfl, hb2⟩
  have HB := Lib.hid (box_below hb2)
  obtain ⟨⟨c0, f0⟩, ⟨c1, f1⟩, ⟨c2, f2⟩⟩ := box3 hb2
  clear hb2
  go_wp2
  refine bodyPost_ret (v := .tuple #[tokV k t q, .int .i64 n, .int .i64 x]) ?_ rfl ⟨rfl, bel3 HB.out _ _ _⟩
  simp [results, Tryz.results15, go_sem, c0, c1, c2]
set_option maxHeartbeats 400000 in
theorem tokenAt_6 (s : ByteArray) (a : Nat) (ha : a < s.size) (hc : cls s[a] = 6) (k : Int) (t : ByteArray) (q n x : Int)
    (h : ∀ w, Env w → Calls Tryz.prog 39 #[.string s, .int .i64 a] w fun e w' => e = .returned (.tuple #[tokV k t q, .int .i64 n, .int .i64 x]) ∧ Below w.heap.size w w') (w : World) (E : Env w) :
    Calls Tryz.prog 15 #[.string s, .int .i64 a] w fun e w' => e = .returned (.tuple #[tokV k t q, .int .i64 n, .int .i64 x]) ∧ Below w.heap.size w w' := by
  have CC := Lib.hid (fun w => hc ▸ c_classOf s[a] w)
  have CW := Lib.hid h
  clear hc h
  go_enter Tryz.func15, Tryz.ntmps15
  go_wp2_with fail
  refine (CC.out _).mono ?_
  rintro e w1 ⟨rfl, rfl⟩
  go_wp2_with fail
  refine (CW.out _ (E.alloc tok0)).mono ?_
  rintro e w2 ⟨rfl, hb2⟩
  have HB := Lib.hid (box_below hb2)
  obtain ⟨⟨c0, f0⟩, ⟨c1, f1⟩, ⟨c2, f2⟩⟩ := box3 hb2
  clear hb2
  go_wp2
  refine bodyPost_ret (v := .tuple #[tokV k t q, .int .i64 n, .int .i64 x]) ?_ rfl ⟨rfl, bel3 HB.out _ _ _⟩
  simp [results, Tryz.results15, go_sem, c0, c1, c2]
theorem dig_of_cls {b : UInt8} (h : cls b = 5) : Lx.digit b = true := by
  rw [cls_n] at h
  simp only [Lx.digit, Bool.and_eq_true, decide_eq_true_eq]
  by_cases h1 : 97 ≤ b.toNat ∧ b.toNat ≤ 122
  · rw [if_pos h1] at h; exact absurd h (by decide)
  by_cases h2 : 65 ≤ b.toNat ∧ b.toNat ≤ 90
  · rw [if_neg h1, if_pos h2] at h; exact absurd h (by decide)
  by_cases h3 : 48 ≤ b.toNat ∧ b.toNat ≤ 57
  · exact h3
  · rw [if_neg h1, if_neg h2, if_neg h3] at h
    split at h
    · exact absurd h (by decide)
    · split at h
      · exact absurd h (by decide)
      · split at h <;> exact absurd h (by decide)
theorem c_tokenAt (s : ByteArray) (a : Nat) (hs : s.size ≤ 4000) (ha : a < s.size) (w : World) (E : Env w) :
    Calls Tryz.prog 15 #[.string s, .int .i64 a] w fun e w' => e = .returned (tv (Lx.tok (s.data.toList.drop a)) a) ∧ Below w.heap.size w w' := by
  obtain ⟨k, t, q, n, x, hv⟩ := tv_form (Lx.tok (s.data.toList.drop a)) a
  rw [hv]
  have ht := tok_at s a ha
  rcases cls_cases s[a] with h | h | h | h | h | h | h
  · rw [h, if_neg (by decide), if_neg (by decide), if_neg (by decide)] at ht
    rw [ht] at hv
    exact tokenAt_0 s a ha h k t q n x (fun w E => hv ▸ c_markAt s a hs ha w E.tab) w E
  · rw [h, if_neg (by decide), if_neg (by decide), if_neg (by decide)] at ht
    rw [ht] at hv
    exact tokenAt_1 s a ha h k t q n x (fun w E => hv ▸ c_markAt s a hs ha w E.tab) w E
  · rw [h, if_pos (by decide)] at ht
    rw [ht] at hv
    exact tokenAt_2 s a ha h k t q n x (fun w E => hv ▸ c_wordAt s a hs ha w E) w E
  · rw [h, if_pos (by decide)] at ht
    rw [ht] at hv
    exact tokenAt_3 s a ha h k t q n x (fun w E => hv ▸ c_wordAt s a hs ha w E) w E
  · rw [h, if_pos (by decide)] at ht
    rw [ht] at hv
    exact tokenAt_4 s a ha h k t q n x (fun w E => hv ▸ c_wordAt s a hs ha w E) w E
  · have hd := dig_of_cls h
    rw [h, if_neg (by decide), if_pos rfl] at ht
    rw [ht] at hv
    exact tokenAt_5 s a ha h k t q n x (fun w E => hv ▸ c_numberAt s a hs ha hd w E) w E
  · rw [h, if_neg (by decide), if_neg (by decide), if_pos rfl] at ht
    rw [ht] at hv
    exact tokenAt_6 s a ha h k t q n x (fun w E => hv ▸ c_textAt s a hs ha w E) w E
end Go.Proofs.YtdcanjfdgfpdfaaGreatDoor.V
