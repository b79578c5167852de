/- The reference's IsName, and the law LexNames, walked. -/
import Derived.Test.YtdcanjfdgfpdfaaGreatDoorNm
namespace Go.Proofs.YtdcanjfdgfpdfaaGreatDoor.V
open Go.ChangeShapes Go.WideShapes Go.ChangeAt Go.RowKit Go.Shelf
set_option maxHeartbeats 2000000 in
theorem r_IsName (x : ByteArray) (hx : x.size ≤ 9223372036854775000) (w : World) : Calls Tryz.prog 42 #[.string x] w fun e w' => e = .returned (.bool (Lx.isName x.data.toList)) ∧ Below w.heap.size w w' := by
  cases hl : x.data.toList with
  | nil =>
    have e1 : x.toList = [] := by rw [ByteArray.toList_eq, hl]
    have HK := Lib.hid isName_empty
    clear hl
    go_enter Tryz.func42, Tryz.ntmps42
    go_wp2
    go_ret
    exact ⟨ret_bool HK.out.symm, Below.refl _ _⟩
  | cons c0 r0 =>
    have e1 : ¬ x.toList = [] := by rw [ByteArray.toList_eq, hl]; simp
    have e2 : x.toList.isEmpty = false := by rw [ByteArray.toList_eq, hl]; rfl
    have hne : x.data.toList ≠ [] := by rw [hl]; simp
    have h0 : 0 < x.size := by rw [← lenL, hl]; simp
    rw [← hl]
    clear hl
    by_cases h20 : 20 < x.size
    · have HK := Lib.hid (isName_long (s := x.data.toList) (by rw [lenL]; exact h20))
      clear hne
      go_enter Tryz.func42, Tryz.ntmps42
      go_wp2
      go_ret
      exact ⟨ret_bool HK.out.symm, Below.refl _ _⟩
    · have hh := head_at x h0
      have CC := Lib.hid (fun w => r_isDigit x[0] w)
      cases hd : Lx.digit x[0] with
      | true =>
        have HK := Lib.hid (isName_digit (s := x.data.toList) (by rw [hh]; simpa using hd))
        have CC2 := CC.out
        rw [hd] at CC2
        have CC2 := Lib.hid CC2
        clear hne hh hd CC
        go_enter Tryz.func42, Tryz.ntmps42
        go_wp2_with fail
        refine (CC2.out _).mono ?_
        rintro e w1 ⟨rfl, rfl⟩
        go_wp2
        go_ret
        exact ⟨ret_bool HK.out.symm, Below.refl _ _⟩
      | false =>
        have hdig : x.data.toList.head?.any Lx.digit = false := by rw [hh, Option.any_some, hd]
        have HEND : Hid (x.data.toList.all nameB = true → Lx.isName x.data.toList = !Lx.isKw (x.data.toList.map Lx.up)) := fun h3 => isName_end hne (by rw [lenL]; omega) hdig h3
        have CC2 := CC.out
        rw [hd] at CC2
        have CC2 := Lib.hid CC2
        clear hne hh hd CC hdig
        go_enter Tryz.func42, Tryz.ntmps42
        go_wp2_with fail
        refine (CC2.out _).mono ?_
        rintro e w1 ⟨rfl, rfl⟩
        clear CC2
        go_wp2
        go_loop [3] (fun s3 => ∃ k : Nat, k ≤ x.size ∧ s3 = .int .i64 k ∧ Hid ((x.data.toList.take k).all nameB = true)) (fun s3 => x.size - (intOf s3).toNat)
        case atStart => exact ⟨0, by omega, rfl, rfl⟩
        case round =>
          obtain ⟨k, hk, rfl, HA⟩ := hrel
          by_cases hlt : k < x.size
          · have cl := fun w => r_isLetter x[k] w
            have cd := fun w => r_isDigit x[k] w
            obtain ⟨lb, hlb⟩ : ∃ lb, Lx.letter x[k] = lb := ⟨_, rfl⟩
            obtain ⟨db, hdb⟩ : ∃ db, Lx.digit x[k] = db := ⟨_, rfl⟩
            rw [hlb] at cl
            rw [hdb] at cd
            have CL := Lib.hid cl
            have CD := Lib.hid cd
            rw [letter_n] at hlb
            rw [digit_n] at hdb
            by_cases hb : nameB x[k] = true
            · have HA2 := Lib.hid (take_all hlt HA.out hb)
              rw [nameB_n] at hb
              clear HA cl cd
              by_cases h97 : 97 ≤ x[k].toNat ∧ x[k].toNat ≤ 122 ∨ x[k].toNat = 95
              · obtain rfl : lb = true := by rw [← hlb, decide_eq_true_eq]; omega
                have g1 : ¬ ((x[k].toNat : Int) ≤ 90) := by omega
                have g2 : (90 : Int) < x[k].toNat := by omega
                have g3 : (65 : Int) ≤ x[k].toNat := by omega
                clear hlb hdb hb h97 g1
                go_wp2_with fail
                refine (CL.out _).mono ?_
                rintro e w2 ⟨rfl, rfl⟩
                go_wp2
                go_round
                case rel => exact ⟨k + 1, by omega, by go_num, HA2⟩
                case measure => simp [intOf]; omega
              · obtain rfl : lb = false := by rw [← hlb, decide_eq_false_iff_not]; omega
                obtain rfl : db = true := by rw [← hdb, decide_eq_true_eq]; omega
                have g2 : (x[k].toNat : Int) < 65 := by omega
                clear hlb hdb hb h97
                go_wp2_with fail
                refine (CL.out _).mono ?_
                rintro e w2 ⟨rfl, rfl⟩
                go_wp2_with fail
                refine (CD.out _).mono ?_
                rintro e w2 ⟨rfl, rfl⟩
                go_wp2
                go_round
                case rel => exact ⟨k + 1, by omega, by go_num, HA2⟩
                case measure => simp [intOf]; omega
            · have HK := Lib.hid (isName_bad (List.mem_of_getElem? (at_get x k hlt)) hb)
              rw [nameB_n] at hb
              clear HA cl cd
              by_cases h65 : 65 ≤ x[k].toNat ∧ x[k].toNat ≤ 90
              · obtain rfl : lb = true := by rw [← hlb, decide_eq_true_eq]; omega
                have g2 : (65 : Int) ≤ x[k].toNat := by omega
                have g3 : (x[k].toNat : Int) ≤ 90 := by omega
                clear hlb hdb hb h65
                go_wp2_with fail
                refine (CL.out _).mono ?_
                rintro e w2 ⟨rfl, rfl⟩
                go_wp2
                go_ret
                exact ⟨ret_bool HK.out.symm, Below.refl _ _⟩
              · obtain rfl : lb = false := by rw [← hlb, decide_eq_false_iff_not]; omega
                obtain rfl : db = false := by rw [← hdb, decide_eq_false_iff_not]; omega
                clear hlb hdb hb h65
                go_wp2_with fail
                refine (CL.out _).mono ?_
                rintro e w2 ⟨rfl, rfl⟩
                go_wp2_with fail
                refine (CD.out _).mono ?_
                rintro e w2 ⟨rfl, rfl⟩
                go_wp2
                go_ret
                exact ⟨ret_bool HK.out.symm, Below.refl _ _⟩
          · obtain rfl : k = x.size := by omega
            have HA2 : Hid (x.data.toList.all nameB = true) := by
              have := HA.out
              rwa [List.take_of_length_le (by rw [lenL]; exact Nat.le_refl _)] at this
            clear HA
            go_wp2_with fail
            refine (r_foldedUp x (by omega) _).mono ?_
            rintro e w2 ⟨rfl, hb2⟩
            obtain ⟨u, hu⟩ : ∃ u : ByteArray, (⟨(x.data.toList.map Lx.up).toArray⟩ : ByteArray) = u := ⟨_, rfl⟩
            have hul : u.data.toList = x.data.toList.map Lx.up := by rw [← hu]
            have hus : u.size ≤ 20 := by rw [← lenL, hul, List.length_map, lenL]; omega
            have HU := Lib.hid hul
            rw [hu]
            clear hu hul
            go_wp2_with fail
            refine (r_IsKeyword u (by omega) _).mono ?_
            rintro e w3 ⟨rfl, rfl⟩
            rw [HU.out]
            have HR := Lib.hid (HEND.out HA2.out)
            go_wp2
            go_ret
            exact ⟨ret_bool HR.out.symm, hb2⟩
end Go.Proofs.YtdcanjfdgfpdfaaGreatDoor.V
