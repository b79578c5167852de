/- The reference's number. -/
import Derived.Test.YtdcanjfdgfpdfaaGreatDoorRq
import Derived.Test.YtdcanjfdgfpdfaaGreatDoorRw
namespace Go.Proofs.YtdcanjfdgfpdfaaGreatDoor.V
open Go.ChangeShapes Go.WideShapes Go.ChangeAt Go.RowKit Go.Shelf
theorem any_at (s : ByteArray) (k : Nat) (p : UInt8 → Bool) (h : k < s.size) : (s.data.toList.drop k).head?.any p = p s[k] := by
  rw [drop_at s k h]; rfl
theorem any_end (s : ByteArray) (k : Nat) (p : UInt8 → Bool) (h : s.size ≤ k) : (s.data.toList.drop k).head?.any p = false := by
  rw [List.drop_of_length_le (by rw [lenL]; exact h)]; rfl
set_option maxHeartbeats 4000000 in
theorem r_number (s : ByteArray) (a : Nat) (hs : s.size ≤ 4000) (ha : a < s.size) (w : World) :
    Calls Tryz.prog 30 #[.string s, .int .i64 a] w fun e w' => e = .returned (tv (Lx.number (s.data.toList.drop a)) a) ∧ Below w.heap.size w w' := by
  obtain ⟨m, hm⟩ : ∃ m, runE Lx.digit s.data.toList a = m := ⟨_, rfl⟩
  have hm2 := runE_le (p := Lx.digit) (l := s.data.toList) (k := a) (by simp; omega)
  rw [hm] at hm2
  have hml : m ≤ s.size := by simpa using hm2.2
  have ham : a ≤ m := hm2.1
  obtain ⟨x, hx⟩ : ∃ x, s.extract a m = x := ⟨_, rfl⟩
  have hxl : x.data.toList = (s.data.toList.drop a).takeWhile Lx.digit := by rw [← hx]; exact run_part s a m hm
  have hxm : a + x.size = m := part_size s x a m hm hxl
  have hxs : x.size ≤ 4000 := by omega
  have hxd : x.data.toList.all Lx.digit = true := by rw [List.all_eq_true]; exact fun b hb => Lx.tw_mem (hxl ▸ hb)
  have hnum : Lx.number (s.data.toList.drop a) = if Lx.small63 (Lx.num 0 x.data.toList) = false then .err 23 else if (s.data.toList.drop m).head?.any Lx.letter then .err 24 else .ok 3 x.data.toList x.size := by
    have hdw : (s.data.toList.drop a).dropWhile Lx.digit = s.data.toList.drop m := by
      rw [Lx.dw_eq, ← hxl, lenL, List.drop_drop, hxm]
    rw [Lx.number, hdw, ← hxl, lenL]
    by_cases h : 9223372036854775808 < Lx.num 0 x.data.toList
    · have e : Lx.small63 (Lx.num 0 x.data.toList) = false := by rw [Lx.small63, decide_eq_false_iff_not]; omega
      rw [if_pos h, e, if_pos rfl]
    · have e : Lx.small63 (Lx.num 0 x.data.toList) = true := by rw [Lx.small63, decide_eq_true_eq]; omega
      rw [if_neg h, e, if_neg (by decide : ¬ (true = false))]
  have cs := fun w => r_isSmall x hxs hxd w
  obtain ⟨sm, hsm⟩ : ∃ sm, Lx.small63 (Lx.num 0 x.data.toList) = sm := ⟨_, rfl⟩
  rw [hsm] at cs hnum
  have CS := Lib.hid cs
  have HW := Lib.hid hnum
  have HX := Lib.hid hx
  have HM := Lib.hid hm
  clear cs hm hm2 hx hxl hnum hxd hsm
  go_enter Tryz.func30, Tryz.ntmps30
  go_wp2
  go_loop [7] (fun s7 => ∃ k : Nat, a ≤ k ∧ k ≤ m ∧ s7 = .int .i64 k ∧ Hid (runE Lx.digit s.data.toList k = m)) (fun s7 => s.size - (intOf s7).toNat)
  case atStart => exact ⟨a, Nat.le_refl _, ham, rfl, HM⟩
  case round =>
    obtain ⟨k, hak, hkm, rfl, HR⟩ := hrel
    clear HM
    by_cases hk : k = m
    · subst hk
      rcases Nat.lt_or_ge k s.size with h | h
      · have hd := run_stop HR.out h
        have hany := any_at s k Lx.letter h
        clear HR
        have CD1 := fun w => r_isDigit s[k] w
        rw [hd] at CD1
        have CD1 := Lib.hid CD1
        have CL1 := fun w => r_isLetter s[k] w
        obtain ⟨lb, hlb⟩ : ∃ lb, Lx.letter s[k] = lb := ⟨_, rfl⟩
        rw [hlb] at CL1 hany
        have CL1 := Lib.hid CL1
        have HY := Lib.hid hany
        clear hd hlb hany
        go_wp2_with fail
        refine (CD1.out _).mono ?_
        rintro e w1 ⟨rfl, rfl⟩
        go_wp2_with fail
        rw [HX.out]
        refine (CS.out _).mono ?_
        rintro e w2 ⟨rfl, hb2⟩
        have HB := Lib.hid (box_below hb2)
        obtain ⟨⟨c0, f0⟩, ⟨c1, f1⟩, ⟨c2, f2⟩⟩ := box3 hb2
        clear hb2
        cases sm with
        | false =>
          have HR : Hid (Lx.number (s.data.toList.drop a) = .err 23) := by show _ = _; rw [HW.out, if_pos rfl]
          go_wp2
          refine bodyPost_ret (v := tv (.err 23) a) ?_ rfl ⟨by rw [HR.out], bel3 HB.out _ _ _⟩
          simp [results, Tryz.results30, go_sem, tv, c0, c1, c2]
        | true =>
          go_wp2_with fail
          refine (CL1.out _).mono ?_
          rintro e w3 ⟨rfl, rfl⟩
          cases lb with
          | true =>
            have HR : Hid (Lx.number (s.data.toList.drop a) = .err 24) := by show _ = _; rw [HW.out, if_neg (by decide), if_pos HY.out]
            go_wp2
            refine bodyPost_ret (v := tv (.err 24) a) ?_ rfl ⟨by rw [HR.out], bel3 HB.out _ _ _⟩
            simp [results, Tryz.results30, go_sem, tv, c0, c1, c2]
          | false =>
            have HR : Hid (Lx.number (s.data.toList.drop a) = .ok 3 x.data.toList x.size) := by show _ = _; rw [HW.out, if_neg (by decide), if_neg (by rw [HY.out]; decide)]
            have HM := Lib.hid hxm
            go_wp2
            refine bodyPost_ret (v := tv (.ok 3 x.data.toList x.size) a) ?_ rfl ⟨by rw [HR.out], bel3 HB.out _ _ _⟩
            simp [results, Tryz.results30, go_sem, tv, HM.out, HX.out, c0, c1, c2]
      · have hng : ¬ ((k : Int) < (s.size : Int)) := by omega
        have HY := Lib.hid (any_end s k Lx.letter h)
        clear HR
        go_wp2_with fail
        rw [HX.out]
        refine (CS.out _).mono ?_
        rintro e w2 ⟨rfl, hb2⟩
        have HB := Lib.hid (box_below hb2)
        obtain ⟨⟨c0, f0⟩, ⟨c1, f1⟩, ⟨c2, f2⟩⟩ := box3 hb2
        clear hb2
        cases sm with
        | false =>
          have HR : Hid (Lx.number (s.data.toList.drop a) = .err 23) := by show _ = _; rw [HW.out, if_pos rfl]
          go_wp2
          refine bodyPost_ret (v := tv (.err 23) a) ?_ rfl ⟨by rw [HR.out], bel3 HB.out _ _ _⟩
          simp [results, Tryz.results30, go_sem, tv, c0, c1, c2]
        | true =>
          have HR : Hid (Lx.number (s.data.toList.drop a) = .ok 3 x.data.toList x.size) := by show _ = _; rw [HW.out, if_neg (by decide), if_neg (by rw [HY.out]; decide)]
          have HM := Lib.hid hxm
          go_wp2
          refine bodyPost_ret (v := tv (.ok 3 x.data.toList x.size) a) ?_ rfl ⟨by rw [HR.out], bel3 HB.out _ _ _⟩
          simp [results, Tryz.results30, go_sem, tv, HM.out, HX.out, c0, c1, c2]
    · obtain ⟨hl, hp, hr⟩ := run_more HR.out hk hml hkm
      have HR2 := Lib.hid hr
      have CD1 := fun w => r_isDigit s[k] w
      rw [hp] at CD1
      have CD1 := Lib.hid CD1
      clear HR hr hp
      go_wp2_with fail
      refine (CD1.out _).mono ?_
      rintro e w1 ⟨rfl, rfl⟩
      go_wp2
      go_round
      case rel => exact ⟨k + 1, by omega, by omega, by go_num, HR2⟩
      case measure => simp [intOf]; omega
end Go.Proofs.YtdcanjfdgfpdfaaGreatDoor.V
