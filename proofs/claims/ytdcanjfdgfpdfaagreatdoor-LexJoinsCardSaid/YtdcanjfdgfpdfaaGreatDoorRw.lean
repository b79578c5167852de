/- The reference's word. -/
import Derived.Test.YtdcanjfdgfpdfaaGreatDoorRs
namespace Go.Proofs.YtdcanjfdgfpdfaaGreatDoor.V
open Go.ChangeShapes Go.WideShapes Go.ChangeAt Go.RowKit Go.Shelf
theorem run_more {p : UInt8 → Bool} {s : ByteArray} {k m : Nat} (h : runE p s.data.toList k = m) (hk : k ≠ m) (hm : m ≤ s.size) (hkm : k ≤ m) : ∃ hl : k < s.size, p s[k] = true ∧ runE p s.data.toList (k + 1) = m := by
  have hl : k < s.size := by omega
  refine ⟨hl, ?_⟩
  cases hp : p s[k] with
  | true => exact ⟨rfl, (runE_yes hl hp).symm.trans h⟩
  | false => exact absurd ((runE_no hl hp).symm.trans h) hk
theorem run_stop {p : UInt8 → Bool} {s : ByteArray} {m : Nat} (h : runE p s.data.toList m = m) (hm : m < s.size) : p s[m] = false := by
  cases hp : p s[m] with
  | false => rfl
  | true =>
    have h1 := (runE_yes hm hp).symm.trans h
    have h2 := runE_le (p := p) (l := s.data.toList) (k := m + 1) (by simp; omega)
    omega
set_option maxHeartbeats 4000000 in
theorem r_word (s : ByteArray) (a : Nat) (hs : s.size ≤ 4000) (ha : a < s.size) (w : World) :
    Calls Tryz.prog 28 #[.string s, .int .i64 a] w fun e w' => e = .returned (tv (Lx.word (s.data.toList.drop a)) a) ∧ Below w.heap.size w w' := by
  obtain ⟨m, hm⟩ : ∃ m, runE Lx.wordB s.data.toList a = m := ⟨_, rfl⟩
  have hm2 := runE_le (p := Lx.wordB) (l := s.data.toList) (k := a) (by simp; omega)
  rw [hm] at hm2
  have hml : m ≤ s.size := by simpa using hm2.2
  have ham : a ≤ m := hm2.1
  obtain ⟨x, hx⟩ : ∃ x, s.extract a m = x := ⟨_, rfl⟩
  have hxl : x.data.toList = (s.data.toList.drop a).takeWhile Lx.wordB := by rw [← hx]; exact run_part s a m hm
  have hxm : a + x.size = m := part_size s x a m hm hxl
  have hxs : x.size ≤ 4000 := by omega
  have hword : Lx.word (s.data.toList.drop a) = if Lx.isKw (x.data.toList.map Lx.up) then .ok 1 (x.data.toList.map Lx.up) x.size else if 20 < x.size then .err 22 else .ok 2 (x.data.toList.map Lx.low) x.size := by
    rw [Lx.word, ← hxl]; simp
  obtain ⟨u, hu⟩ : ∃ u : ByteArray, (⟨(x.data.toList.map Lx.up).toArray⟩ : ByteArray) = u := ⟨_, rfl⟩
  have hul : u.data.toList = x.data.toList.map Lx.up := by rw [← hu]
  have hus : u.size ≤ 4000 := by rw [← lenL, hul, List.length_map, lenL]; exact hxs
  have cu := fun w => r_foldedUp x hxs w
  rw [hu] at cu
  have CU := Lib.hid cu
  have CL := Lib.hid (fun w => r_foldedLow x hxs w)
  have ck := fun w => r_IsKeyword u (by omega) w
  rw [hul] at ck
  have CK := Lib.hid ck
  have HU := Lib.hid hu
  have HW := Lib.hid hword
  have HX := Lib.hid hx
  have HM := Lib.hid hm
  clear cu ck hm hm2 hx hxl hword hu hul
  go_enter Tryz.func28, Tryz.ntmps28
  go_wp2
  go_loop [7] (fun s7 => ∃ k : Nat, a ≤ k ∧ k ≤ m ∧ s7 = .int .i64 k ∧ Hid (runE Lx.wordB s.data.toList k = m)) (fun s7 => s.size - (intOf s7).toNat)
  case atStart => exact ⟨a, Nat.le_refl _, ham, rfl, HM⟩
  case round =>
    obtain ⟨k, hak, hkm, rfl, HR⟩ := hrel
    clear HM
    by_cases hk : k = m
    · subst hk
      have hend : s.size = k ∨ ∃ h : k < s.size, Lx.letter s[k] = false ∧ Lx.digit s[k] = false := by
        rcases Nat.lt_or_ge k s.size with h | h
        · have := run_stop HR.out h
          simp only [Lx.wordB, Bool.or_eq_false_iff] at this
          exact .inr ⟨h, this⟩
        · exact .inl (by omega)
      clear HR
      rcases hend with h | ⟨h, hl, hd⟩
      case' inl =>
        have hng : ¬ ((k : Int) < (s.size : Int)) := by omega
        go_wp2_with fail
      case' inr =>
        have CL1 := fun w => r_isLetter s[k] w
        have CD1 := fun w => r_isDigit s[k] w
        rw [hl] at CL1
        rw [hd] at CD1
        have CL1 := Lib.hid CL1
        have CD1 := Lib.hid CD1
        clear hl hd
        go_wp2_with fail
        refine (CL1.out _).mono ?_
        rintro e w1 ⟨rfl, rfl⟩
        go_wp2_with fail
        refine (CD1.out _).mono ?_
        rintro e w1 ⟨rfl, rfl⟩
        clear CL1 CD1
        go_wp2_with fail
      all_goals
        rw [HX.out]
        refine (CU.out _).mono ?_
        rintro e w2 ⟨rfl, hb2⟩
        go_wp2_with fail
        refine (CK.out _).mono ?_
        rintro e w3 ⟨rfl, rfl⟩
        cases hkw : Lx.isKw (x.data.toList.map Lx.up) with
        | true =>
          have HR : Hid (Lx.word (s.data.toList.drop a) = .ok 1 (x.data.toList.map Lx.up) x.size) := by show _ = _; rw [HW.out, hkw]; rfl
          have HM := Lib.hid hxm
          have HB := Lib.hid (box_below hb2)
          obtain ⟨⟨c0, f0⟩, ⟨c1, f1⟩, ⟨c2, f2⟩⟩ := box3 hb2
          clear hkw hxm hb2
          go_wp2
          refine bodyPost_ret (v := tv (.ok 1 (x.data.toList.map Lx.up) x.size) a) ?_ rfl ⟨by rw [HR.out], bel3 HB.out _ _ _⟩
          simp [results, Tryz.results28, go_sem, tv, HM.out, HU.out, c0, c1, c2]
        | false =>
          by_cases h20 : 20 < x.size
          · have HR : Hid (Lx.word (s.data.toList.drop a) = .err 22) := by show _ = _; rw [HW.out, hkw, if_pos h20]; rfl
            have HB := Lib.hid (box_below hb2)
            obtain ⟨⟨c0, f0⟩, ⟨c1, f1⟩, ⟨c2, f2⟩⟩ := box3 hb2
            have g20 : (20 : Int) < (k : Int) - a := by omega
            clear hkw hb2
            go_wp2
            refine bodyPost_ret (v := tv (.err 22) a) ?_ rfl ⟨by rw [HR.out], bel3 HB.out _ _ _⟩
            simp [results, Tryz.results28, go_sem, tv, c0, c1, c2]
          · have HR : Hid (Lx.word (s.data.toList.drop a) = .ok 2 (x.data.toList.map Lx.low) x.size) := by show _ = _; rw [HW.out, hkw, if_neg h20]; rfl
            have HM := Lib.hid hxm
            have g20 : ¬ (20 : Int) < (k : Int) - a := by omega
            clear hkw hxm
            go_wp2_with fail
            rw [HX.out]
            refine (CL.out _).mono ?_
            rintro e w3 ⟨rfl, hb3⟩
            have B3 := bel_trans hb2 hb3
            have HB := Lib.hid (box_below B3)
            obtain ⟨⟨c0, f0⟩, ⟨c1, f1⟩, ⟨c2, f2⟩⟩ := box3 B3
            clear B3 hb2 hb3
            go_wp2
            refine bodyPost_ret (v := tv (.ok 2 (x.data.toList.map Lx.low) x.size) a) ?_ rfl ⟨by rw [HR.out], bel3 HB.out _ _ _⟩
            simp [results, Tryz.results28, go_sem, tv, HM.out, c0, c1, c2]
    · obtain ⟨hl, hp, hr⟩ := run_more HR.out hk hml hkm
      have HR2 := Lib.hid hr
      have CL1 := fun w => r_isLetter s[k] w
      have CD1 := fun w => r_isDigit s[k] w
      clear HR hr
      simp only [Lx.wordB] at hp
      cases hlet : Lx.letter s[k] with
      | true =>
        rw [hlet] at CL1
        have CL1 := Lib.hid CL1
        clear CD1 hp hlet
        go_wp2_with fail
        refine (CL1.out _).mono ?_
        rintro e w1 ⟨rfl, rfl⟩
        go_wp2
        go_round
        case rel => exact ⟨k + 1, by omega, by omega, by go_num, HR2⟩
        case measure => simp [intOf]; omega
      | false =>
        rw [hlet, Bool.false_or] at hp
        rw [hlet] at CL1
        rw [hp] at CD1
        have CL1 := Lib.hid CL1
        have CD1 := Lib.hid CD1
        clear hp hlet
        go_wp2_with fail
        refine (CL1.out _).mono ?_
        rintro e w1 ⟨rfl, rfl⟩
        go_wp2_with fail
        refine (CD1.out _).mono ?_
        rintro e w1 ⟨rfl, rfl⟩
        go_wp2
        go_round
        case rel => exact ⟨k + 1, by omega, by omega, by go_num, HR2⟩
        case measure => simp [intOf]; omega
end Go.Proofs.YtdcanjfdgfpdfaaGreatDoor.V
