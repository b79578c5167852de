/- The reference's skip, isMark, isSmall. -/
import Derived.Test.YtdcanjfdgfpdfaaGreatDoorNn
namespace Go.Proofs.YtdcanjfdgfpdfaaGreatDoor.V
open Go.ChangeShapes Go.WideShapes Go.ChangeAt Go.RowKit Go.Shelf
theorem skip_at (s : ByteArray) (k : Nat) (m : Bool) (h : k < s.size) : Lx.skip m (s.data.toList.drop k) = Lx.skip m (s[k] :: s.data.toList.drop (k + 1)) := by rw [drop_at s k h]
/-- What the place behind the blanks and remarks is, within a remark or not. -/
def begM (m : Bool) (l : List UInt8) (k : Nat) : Nat := k + Lx.skip m (l.drop k)
theorem begM_end {s : ByteArray} {m : Bool} {k : Nat} (h : s.size ≤ k) : begM m s.data.toList k = k := by
  unfold begM
  rw [List.drop_of_length_le (by rw [lenL]; exact h)]
  cases m <;> rfl
theorem begM_blank {s : ByteArray} {k : Nat} (h : k < s.size) (hb : Lx.blank s[k] = true) : begM false s.data.toList k = begM false s.data.toList (k + 1) := by
  unfold begM
  rw [skip_at s k false h, Lx.skip, if_pos hb]; omega
theorem begM_in {s : ByteArray} {k : Nat} (h : k < s.size) (hb : s[k] ≠ 10) : begM true s.data.toList k = begM true s.data.toList (k + 1) := by
  unfold begM
  rw [skip_at s k true h, Lx.skip, if_neg (by simpa using hb)]; omega
theorem begM_out {s : ByteArray} {k : Nat} (h : k < s.size) (hb : s[k] = 10) : begM true s.data.toList k = begM false s.data.toList k := by
  unfold begM
  rw [skip_at s k true h, skip_at s k false h, Lx.skip, Lx.skip, if_pos (by simpa using hb), if_pos (by rw [hb]; decide)]
theorem begM_rem {s : ByteArray} {k : Nat} (h : k + 1 < s.size) (h1 : s[k] = 45) (h2 : s[k + 1] = 45) : begM false s.data.toList k = begM true s.data.toList k := by
  unfold begM
  have e : s.data.toList.drop k = 45 :: 45 :: s.data.toList.drop (k + 2) := by rw [drop_at s k (by omega), drop_at s (k + 1) h, h1, h2]
  rw [e]
  rfl
theorem begM_stop {s : ByteArray} {k : Nat} (h : k < s.size) (hb : Lx.blank s[k] = false) (h2 : ∀ h1 : k + 1 < s.size, ¬ (s[k] = 45 ∧ s[k + 1] = 45)) : begM false s.data.toList k = k := by
  unfold begM
  rw [skip_at s k false h, Lx.skip, if_neg (by simp [hb])]
  have : ¬ (s[k] == 45 && (s.data.toList.drop (k + 1)).head? == some 45) = true := by
    intro e
    simp only [Bool.and_eq_true, beq_iff_eq] at e
    rw [List.head?_drop] at e
    rcases Nat.lt_or_ge (k + 1) s.size with h1 | h1
    · rw [at_get s (k + 1) h1] at e
      exact h2 h1 ⟨e.1, Option.some.inj e.2⟩
    · rw [List.getElem?_eq_none (by rw [lenL]; exact h1)] at e
      cases e.2
  rw [if_neg this]; rfl
theorem ne_bool {b c : UInt8} (h : b ≠ c) : (((b.toNat : Int)) != (c.toNat : Int)) = true := by
  rw [bne_iff_ne]
  intro e
  exact h (UInt8.toNat_inj.1 (by omega))
set_option maxHeartbeats 2000000 in
theorem r_skip (s : ByteArray) (a : Nat) (hs : s.size ≤ 4000) (ha : a ≤ s.size) (w : World) : Calls Tryz.prog 12 #[.string s, .int .i64 a] w fun e w' => e = .returned (.int .i64 (beg s.data.toList a : Nat)) ∧ w = w' := by
  go_enter Tryz.func12, Tryz.ntmps12
  go_wp2
  go_loopg [1] (s.size - a) (fun n s1 wr => ∃ k : Nat, k ≤ s.size ∧ s.size - k ≤ n ∧ s1 = .int .i64 k ∧ Hid (begM false s.data.toList k = beg s.data.toList a) ∧ wr = w)
  case atStart => exact ⟨a, ha, Nat.le_refl _, rfl, rfl, rfl⟩
  case round =>
    obtain ⟨k, hk, hkn, rfl, HB, rfl⟩ := hrel
    by_cases hlt : k < s.size
    · obtain ⟨n, rfl⟩ : ∃ n, gk = n + 1 := ⟨gk - 1, by omega⟩
      have CB := Lib.hid (fun w => r_isBlank s[k] w)
      cases hb : Lx.blank s[k] with
      | true =>
        have HB2 := Lib.hid ((begM_blank hlt hb).symm.trans HB.out)
        have CB2 := CB.out
        rw [hb] at CB2
        have CB2 := Lib.hid CB2
        clear CB hb HB
        go_wp2_with fail
        refine (CB2.out _).mono ?_
        rintro e w1 ⟨rfl, rfl⟩
        go_wp2
        go_roundg n
        case measure => omega
        case rel => exact ⟨k + 1, by omega, by omega, by go_num, HB2, rfl⟩
      | false =>
        have CB2 := CB.out
        rw [hb] at CB2
        have CB2 := Lib.hid CB2
        have HBL := Lib.hid hb
        clear CB hb
        by_cases h1 : k + 1 < s.size
        · by_cases h45 : s[k] = 45
          · have g1 : ((s[k].toNat : Int) != 45) = false := by rw [h45]; rfl
            by_cases h46 : s[k + 1] = 45
            · have g2 : ((s[k + 1].toNat : Int) != 45) = false := by rw [h46]; rfl
              have HT := Lib.hid ((begM_rem h1 h45 h46).symm.trans HB.out)
              have HNB : Hid (s[k] ≠ 10) := by show _ ≠ _; rw [h45]; decide
              clear h45 h46 HB
              go_wp2_with fail
              refine (CB2.out _).mono ?_
              rintro e w1 ⟨rfl, rfl⟩
              clear CB2
              go_wp2
              clear g1 g2
              go_loopg [1] (s.size - k) (fun m s1 wy => ∃ j : Nat, j + m = s.size ∧ k ≤ j ∧ s1 = .int .i64 j ∧ Hid (begM true s.data.toList j = beg s.data.toList a) ∧ wy = wr)
              case atStart => exact ⟨k, by omega, Nat.le_refl _, rfl, HT, rfl⟩
              case round =>
                obtain ⟨j, hj, hkj, rfl, HJ, rfl⟩ := hrel
                clear HT
                cases gk with
                | zero =>
                  have hjz : ¬ ((j : Int) < (s.size : Int)) := by omega
                  have HE := Lib.hid (((begM_end (s := s) (m := false) (k := j) (by omega)).trans (begM_end (s := s) (m := true) (k := j) (by omega)).symm).trans HJ.out)
                  clear HJ
                  go_wp2
                  go_roundg n
                  case measure => omega
                  case rel => exact ⟨j, by omega, by omega, rfl, HE, rfl⟩
                | succ m =>
                  have hjl : j < s.size := by omega
                  by_cases h10 : s[j] = 10
                  · have g1 : ((s[j].toNat : Int) != 10) = false := by rw [h10]; rfl
                    have HE := Lib.hid ((begM_out hjl h10).symm.trans HJ.out)
                    have hjk : k < j := by
                      rcases Nat.lt_or_ge k j with h | h
                      · exact h
                      · obtain rfl : k = j := by omega
                        exact absurd h10 HNB.out
                    clear HJ h10
                    go_wp2
                    go_roundg n
                    case measure => omega
                    case rel => exact ⟨j, by omega, by omega, rfl, HE, rfl⟩
                  · have g1 : ((s[j].toNat : Int) != 10) = true := ne_bool h10
                    have HE := Lib.hid ((begM_in hjl h10).symm.trans HJ.out)
                    clear HJ h10
                    go_wp2
                    go_roundg m
                    case measure => omega
                    case rel => exact ⟨j + 1, by omega, by omega, by go_num, HE, rfl⟩
            · have g2 : ((s[k + 1].toNat : Int) != 45) = true := ne_bool h46
              have HE := Lib.hid (begM_stop hlt HBL.out (fun _ h => h46 h.2))
              clear h45 h46
              go_wp2_with fail
              refine (CB2.out _).mono ?_
              rintro e w1 ⟨rfl, rfl⟩
              go_wp2
              go_ret
              exact ⟨ret_int (by rw [← HB.out, HE.out]), rfl⟩
          · have g1 : ((s[k].toNat : Int) != 45) = true := ne_bool h45
            have HE := Lib.hid (begM_stop hlt HBL.out (fun _ h => h45 h.1))
            clear h45
            go_wp2_with fail
            refine (CB2.out _).mono ?_
            rintro e w1 ⟨rfl, rfl⟩
            go_wp2
            go_ret
            exact ⟨ret_int (by rw [← HB.out, HE.out]), rfl⟩
        · have HE := Lib.hid (begM_stop hlt HBL.out (fun h => absurd h h1))
          have h1' : (s.size : Int) ≤ (k : Int) + 1 := by omega
          clear h1
          go_wp2_with fail
          refine (CB2.out _).mono ?_
          rintro e w1 ⟨rfl, rfl⟩
          go_wp2
          go_ret
          exact ⟨ret_int (by rw [← HB.out, HE.out]), rfl⟩
    · have HE := Lib.hid (begM_end (s := s) (m := false) (k := k) (by omega))
      go_wp2
      go_ret
      exact ⟨ret_int (by rw [← HB.out, HE.out]), rfl⟩
end Go.Proofs.YtdcanjfdgfpdfaaGreatDoor.V
