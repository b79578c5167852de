/- The law LexMoves, walked. -/
import Derived.Test.YtdcanjfdgfpdfaaDoorTx
import Derived.Test.YtdcanjfdgfpdfaaDoorCu
namespace Go.Proofs.YtdcanjfdgfpdfaaDoor.V
open Go.ChangeShapes Go.WideShapes Go.ChangeAt Go.RowKit Go.Shelf
/-- The blank that a kind stands for. -/
def blankOf (kind : Int) : UInt8 := if kind = 0 then 32 else if kind = 1 then 9 else if kind = 2 then 13 else 10
theorem rep_snoc (k : Nat) (c : UInt8) : List.replicate k c ++ [c] = List.replicate (k + 1) c := by
  rw [List.replicate_succ']
set_option maxHeartbeats 1000000 in
theorem l_blanks (n : Nat) (hn : n ≤ 255) (kind : Int) (w : World) : Calls Tryd.prog 16 #[.int .i64 n, .int .i64 kind] w fun e w' => (∃ x : ByteArray, e = .returned (.string x) ∧ x.data.toList = List.replicate n (blankOf kind)) ∧ w = w' := by
  obtain ⟨c, hc⟩ : ∃ c, blankOf kind = c := ⟨_, rfl⟩
  rw [hc]
  by_cases h0 : kind = 0
  · subst h0
    have HC : Hid (c = 32) := hc.symm
    clear hc
    go_enter Tryd.func16, Tryd.ntmps16
    go_wp2
    go_loop [5, 6] (fun s5 s6 => ∃ (k : Nat) (o : ByteArray), k ≤ n ∧ s6 = .int .i64 k ∧ s5 = .string o ∧ o.size ≤ k ∧ Hid (o.data.toList = List.replicate k c)) (fun _ s6 => n - (intOf s6).toNat)
    case atStart => exact ⟨0, ⟨#[]⟩, by omega, rfl, rfl, by decide, rfl⟩
    case round =>
      obtain ⟨k, o, hk, rfl, rfl, ho, HO⟩ := hrel
      have HN : Hid ((o ++ ⟨#[32]⟩).data.toList = List.replicate (k + 1) c) := by show _ = _; rw [app_list, HO.out, ← rep_snoc, HC.out]
      by_cases hlt : k < n
      · go_wp2
        go_round
        case rel => exact ⟨k + 1, _, by omega, by go_num, rfl, by simp only [ByteArray.size_append]; have : (⟨#[32]⟩ : ByteArray).size = 1 := rfl; omega, HN⟩
        case measure => simp [intOf]; omega
      · obtain rfl : k = n := by omega
        go_wp2
        go_ret
        exact ⟨⟨o, rfl, HO.out⟩, rfl⟩
  by_cases h1 : kind = 1
  · subst h1
    have HC : Hid (c = 9) := hc.symm
    clear hc h0
    go_enter Tryd.func16, Tryd.ntmps16
    go_wp2
    go_loop [5, 6] (fun s5 s6 => ∃ (k : Nat) (o : ByteArray), k ≤ n ∧ s6 = .int .i64 k ∧ s5 = .string o ∧ o.size ≤ k ∧ Hid (o.data.toList = List.replicate k c)) (fun _ s6 => n - (intOf s6).toNat)
    case atStart => exact ⟨0, ⟨#[]⟩, by omega, rfl, rfl, by decide, rfl⟩
    case round =>
      obtain ⟨k, o, hk, rfl, rfl, ho, HO⟩ := hrel
      have HN : Hid ((o ++ ⟨#[9]⟩).data.toList = List.replicate (k + 1) c) := by show _ = _; rw [app_list, HO.out, ← rep_snoc, HC.out]
      by_cases hlt : k < n
      · go_wp2
        go_round
        case rel => exact ⟨k + 1, _, by omega, by go_num, rfl, by simp only [ByteArray.size_append]; have : (⟨#[9]⟩ : ByteArray).size = 1 := rfl; omega, HN⟩
        case measure => simp [intOf]; omega
      · obtain rfl : k = n := by omega
        go_wp2
        go_ret
        exact ⟨⟨o, rfl, HO.out⟩, rfl⟩
  by_cases h2 : kind = 2
  · subst h2
    have HC : Hid (c = 13) := hc.symm
    clear hc h0 h1
    go_enter Tryd.func16, Tryd.ntmps16
    go_wp2
    go_loop [5, 6] (fun s5 s6 => ∃ (k : Nat) (o : ByteArray), k ≤ n ∧ s6 = .int .i64 k ∧ s5 = .string o ∧ o.size ≤ k ∧ Hid (o.data.toList = List.replicate k c)) (fun _ s6 => n - (intOf s6).toNat)
    case atStart => exact ⟨0, ⟨#[]⟩, by omega, rfl, rfl, by decide, rfl⟩
    case round =>
      obtain ⟨k, o, hk, rfl, rfl, ho, HO⟩ := hrel
      have HN : Hid ((o ++ ⟨#[13]⟩).data.toList = List.replicate (k + 1) c) := by show _ = _; rw [app_list, HO.out, ← rep_snoc, HC.out]
      by_cases hlt : k < n
      · go_wp2
        go_round
        case rel => exact ⟨k + 1, _, by omega, by go_num, rfl, by simp only [ByteArray.size_append]; have : (⟨#[13]⟩ : ByteArray).size = 1 := rfl; omega, HN⟩
        case measure => simp [intOf]; omega
      · obtain rfl : k = n := by omega
        go_wp2
        go_ret
        exact ⟨⟨o, rfl, HO.out⟩, rfl⟩
  · have HC : Hid (c = 10) := by show _ = _; rw [← hc, blankOf, if_neg h0, if_neg h1, if_neg h2]
    have e0 : (kind == 0) = false := by simpa using h0
    have e1 : (kind == 1) = false := by simpa using h1
    have e2 : (kind == 2) = false := by simpa using h2
    clear hc h0 h1 h2
    go_enter Tryd.func16, Tryd.ntmps16
    go_wp2
    go_loop [5, 6] (fun s5 s6 => ∃ (k : Nat) (o : ByteArray), k ≤ n ∧ s6 = .int .i64 k ∧ s5 = .string o ∧ o.size ≤ k ∧ Hid (o.data.toList = List.replicate k c)) (fun _ s6 => n - (intOf s6).toNat)
    case atStart => exact ⟨0, ⟨#[]⟩, by omega, rfl, rfl, by decide, rfl⟩
    case round =>
      obtain ⟨k, o, hk, rfl, rfl, ho, HO⟩ := hrel
      have HN : Hid ((o ++ ⟨#[10]⟩).data.toList = List.replicate (k + 1) c) := by show _ = _; rw [app_list, HO.out, ← rep_snoc, HC.out]
      by_cases hlt : k < n
      · go_wp2
        go_round
        case rel => exact ⟨k + 1, _, by omega, by go_num, rfl, by simp only [ByteArray.size_append]; have : (⟨#[10]⟩ : ByteArray).size = 1 := rfl; omega, HN⟩
        case measure => simp [intOf]; omega
      · obtain rfl : k = n := by omega
        go_wp2
        go_ret
        exact ⟨⟨o, rfl, HO.out⟩, rfl⟩
theorem blank_all (n : Nat) (kind : Int) : (List.replicate n (blankOf kind)).all Lx.blank = true := by
  rw [List.all_eq_true]
  intro b hb
  rw [List.eq_of_mem_replicate hb]
  unfold blankOf
  split
  · decide
  · split
    · decide
    · split <;> decide
theorem run_place : ∀ (f p : Nat) (l : Lx.Bs), (Lx.run f p l).p ≤ p + l.length
  | 0, p, l => by rw [Lx.run]; exact Nat.zero_le _
  | f + 1, p, l => by
    rw [Lx.run]
    split
    · exact Nat.zero_le _
    · cases ht : Lx.tok l with
      | err e => simp
      | ok k s n =>
        have h1 := run_place f (p + n + Lx.skip false (l.drop n)) (l.drop (n + Lx.skip false (l.drop n)))
        have h2 := Lx.tok_ok ht
        have h3 := Lx.skip_le false (l.drop n)
        rw [List.length_drop] at h1 h3
        dsimp only
        split
        · exact Nat.zero_le _
        · omega
theorem toks_place (l : Lx.Bs) : (Lx.toks l).p ≤ l.length := by
  rw [Lx.toks]
  split
  · exact Nat.zero_le _
  · have h1 := run_place (l.length + 1) (Lx.skip false l) (l.drop (Lx.skip false l))
    have h3 := Lx.skip_le false l
    rw [List.length_drop] at h1
    omega
theorem toks_end (l : Lx.Bs) : ((Lx.toks l).e = 0 → (Lx.toks l).p = 0) ∧ ((Lx.toks l).e ≠ 0 → (Lx.toks l).l = []) := by
  rw [Lx.toks]
  split
  · exact ⟨fun h => absurd h (by decide), fun _ => rfl⟩
  · exact ⟨Lx.run_ok _ _ _, Lx.run_bad _ _ _⟩
set_option maxHeartbeats 4000000 in
theorem walk_moves (s wd : ByteArray) (n : Nat) (kind : Int) (hs : s.size ≤ 140737488351232) (hwd : wd.size ≤ 140737488351232) (hn : n ≤ 255) (w : World) (E : Env w) :
    Calls Tryd.prog 5 #[.string s, .string wd, .int .u8 n, .int .i64 kind] w fun e w' => e = .returned (.bool true) ∧ Below w.heap.size w w' := by
  obtain ⟨v, hv⟩ : ∃ v : ByteArray, v = (if (10 : UInt8) ∈ wd.data.toList then ⟨#[]⟩ else wd) := ⟨_, rfl⟩
  have hv10 : (10 : UInt8) ∉ v.data.toList := by
    rw [hv]; split
    · exact List.not_mem_nil
    · assumption
  have hvs : v.size ≤ 140737488351232 := by
    rw [hv]; split
    · decide
    · exact hwd
  have HV := Lib.hid hv
  have HV10 := Lib.hid hv10
  have HE := Lib.hid E
  have AW : Hid (∀ w, Env w → Calls Tryd.prog 13 #[] w fun e w' => e = .returned (.bool true) ∧ Below w.heap.size w w') := fun w E => awake w E
  clear hv hv10 E
  go_enter Tryd.func5, Tryd.ntmps5
  go_wp2_with fail
  refine (l_blanks n hn kind _).mono ?_
  rintro e w1 ⟨⟨x, rfl, hx⟩, rfl⟩
  have hxs : x.size = n := by rw [← len_list, hx]; simp
  have HX := Lib.hid hx
  have hxs2 : x.size ≤ 255 := by omega
  clear hx hxs
  go_wp2
  go_loop [1, 10] (fun s1 s10 => ∃ (k : Nat) (y : ByteArray), s10 = .int .i64 k ∧ s1 = .string y ∧ k ≤ wd.size + 1 ∧ y.size ≤ wd.size ∧ Hid ((y = wd ∧ (10 : UInt8) ∉ wd.data.toList.take k) ∨ (y = ⟨#[]⟩ ∧ (10 : UInt8) ∈ wd.data.toList))) (fun _ s10 => wd.size + 1 - (intOf s10).toNat)
  case atStart => exact ⟨0, wd, rfl, rfl, by omega, Nat.le_refl _, .inl ⟨rfl, by simp⟩⟩
  case round =>
    obtain ⟨k, y, rfl, rfl, hk, hy, HY⟩ := hrel
    by_cases hlt : k < y.size
    · have hyw : y = wd ∧ (10 : UInt8) ∉ wd.data.toList.take k := by
        rcases HY.out with h | h
        · exact h
        · rw [h.1] at hlt; exact absurd hlt (Nat.not_lt_zero _)
      obtain ⟨rfl, hnot⟩ := hyw
      by_cases h10 : y[k] = 10
      · have g1 : ((y[k].toNat : Int) == 10) = true := by rw [h10]; rfl
        have HY2 : Hid (((⟨#[]⟩ : ByteArray) = y ∧ (10 : UInt8) ∉ y.data.toList.take (k + 1)) ∨ ((⟨#[]⟩ : ByteArray) = ⟨#[]⟩ ∧ (10 : UInt8) ∈ y.data.toList)) := .inr ⟨rfl, h10 ▸ List.mem_of_getElem? (at_get y k hlt)⟩
        clear HY hnot h10
        go_wp2
        go_round
        case rel => exact ⟨k + 1, ⟨#[]⟩, by go_num, rfl, by omega, Nat.zero_le _, HY2⟩
        case measure => simp [intOf]; omega
      · have g1 : ((y[k].toNat : Int) == 10) = false := by
          rw [beq_eq_false_iff_ne]
          intro e
          exact h10 (UInt8.toNat_inj.1 (show y[k].toNat = 10 by omega))
        have HY2 : Hid ((y = y ∧ (10 : UInt8) ∉ y.data.toList.take (k + 1)) ∨ (y = ⟨#[]⟩ ∧ (10 : UInt8) ∈ y.data.toList)) := by
          refine .inl ⟨rfl, ?_⟩
          rw [take_at y k hlt, List.mem_append, not_or]
          exact ⟨hnot, by simpa using Ne.symm h10⟩
        clear HY hnot h10
        go_wp2
        go_round
        case rel => exact ⟨k + 1, y, by go_num, rfl, by omega, Nat.le_refl _, HY2⟩
        case measure => simp [intOf]; omega
    · have hyv : y = v := by
        rw [HV.out]
        rcases HY.out with ⟨h1, h2⟩ | ⟨h1, h2⟩
        · rw [if_neg]
          · exact h1
          · rwa [List.take_of_length_le (by rw [len_list, ← h1]; omega)] at h2
        · rw [if_pos h2]; exact h1
      subst hyv
      clear HY HV
      cases hvl : y.data.toList with
      | nil =>
        have e1 : y.toList = [] := by rw [ByteArray.toList_eq, hvl]
        obtain ⟨F, hF⟩ : ∃ F, x = F := ⟨_, rfl⟩
        obtain ⟨RM, hRM⟩ : ∃ RM : List UInt8, RM = [] := ⟨_, rfl⟩
        have HF : Hid (F.data.toList = List.replicate n (blankOf kind) ++ RM) := by show _ = _; rw [← hF, HX.out, hRM, List.append_nil]
        have HRM : Hid (RM = [] ∨ ∃ ws, (10 : UInt8) ∉ ws ∧ RM = 45 :: 45 :: (ws ++ [10])) := .inl hRM
        subst hF
        clear hvl hRM
        go_upto_region 9 with (fail)
        by_cases hL : (4000 : Int) < (x.size : Int) + s.size
        · go_wp2_with fail
          refine (AW.out _ HE.out).mono ?_
          rintro e w2 ⟨rfl, hb2⟩
          go_wp2
          go_ret
          exact ⟨rfl, hb2⟩
        · have hL2 : x.size + s.size ≤ 4000 := by omega
          have hm := Lx.moves (List.replicate n (blankOf kind)) RM s.data.toList (blank_all n kind) HRM.out (by rw [← HF.out, len_list, len_list]; exact hL2)
          rw [← HF.out, len_list, ← app_list] at hm
          have CT2 := Lib.hid (fun w E => hm ▸ c_Tokens (x ++ s) w E)
          have hd : x.size ≤ 4000 := by omega
          have hss : s.size ≤ 4000 := by omega
          clear hm
          go_wp2_with fail
          refine (c_Tokens s _ HE.out).mono ?_
          intro e w2 h2
          have HO := Lib.hid (toks_end s.data.toList)
          have HPP : Hid (∀ t ∈ (Lx.toks s.data.toList).l, (Lx.toks s.data.toList).e = 0 → t.p ≤ 4000) := fun t ht he => by have := toks_pos he ht; rw [len_list] at this; omega
          have HPE := Lib.hid (toks_place s.data.toList)
          have CT3 := CT2.out
          generalize Lx.toks s.data.toList = o at h2 HO HPP HPE CT3
          obtain ⟨ol, op, oe⟩ := o
          obtain ⟨a, ca, rfl, hr, hca, hcm, hb⟩ := h2.reads
          have HE2 := HE.out.below hb
          have CT4 := Lib.hid (CT3 _ HE2)
          have HB := Lib.hid hb
          dsimp only at hr hca hcm
          have hple : op ≤ s.size := by have := HPE.out; rw [len_list] at this; exact this
          by_cases he : oe = 0
          · subst he
            obtain rfl : op = 0 := HO.out.1 rfl
            have HR := Lib.hid hr
            have HP : Hid (∀ t ∈ ol, t.p ≤ 4000) := fun t ht => HPP.out t ht rfl
            clear h2 hr HPP HPE HO CT2 CT3 HE2 hb
            go_wp2_with fail
            refine CT4.out.mono ?_
            intro e w3 h3
            obtain ⟨b, cb, rfl, hr3, hca3, hcm3, hb3⟩ := h3.reads
            have HR3 := Lib.hid hr3
            have HE3 := HE.out.below (bel_trans HB.out hb3)
            have HB3 := Lib.hid hb3
            have HR1 := Lib.hid (HR.out.below hb3)
            clear h3 hr3 CT4 hb3
            have HLN : Hid (((Lx.Out.later x.size ⟨ol, 0, 0⟩).l).length = ol.length) := by show _ = _; simp [Lx.Out.later]
            rw [HLN.out] at HR3 hca3 ⊢
            have hp0 : ((Lx.Out.later x.size ⟨ol, 0, 0⟩).p : Int) = 0 := rfl
            have he0 : (Lx.Out.later x.size ⟨ol, 0, 0⟩).e = 0 := rfl
            rw [hp0, he0]
            clear hp0 he0
            unfold maxLen at hcm
            go_wp2_with fail
            refine (l_same _ _ ol.length ca cb x.size ol _ (by omega) hd HP.out HR1.out HR3.out).mono ?_
            rintro e w4 ⟨rfl, hb4⟩
            have HE4 := Lib.hid (HE3.below hb4)
            have HB4 := Lib.hid (bel_trans (bel_trans HB.out HB3.out) hb4)
            clear HE3 hb4 HR1 HR3 HB HB3 HR
            go_wp2_with fail
            refine (AW.out _ HE4.out).mono ?_
            rintro e w5 ⟨rfl, hb5⟩
            go_wp2
            go_ret
            exact ⟨rfl, bel_trans HB4.out hb5⟩
          · have hne : (oe != 0) = true := by simpa using he
            obtain rfl : ol = [] := HO.out.2 he
            have HL : Hid (Lx.Out.later x.size ⟨[], op, oe⟩ = ⟨[], op + x.size, oe⟩) := by show _ = _; simp [Lx.Out.later, he]
            have HEE := Lib.hid he
            have CT5 := CT4.out
            rw [HL.out] at CT5
            have CT5 := Lib.hid CT5
            clear h2 hr HPP HPE HO CT2 CT3 CT4 HE2 hb he HL
            dsimp only [List.length_nil]
            go_wp2_with fail
            refine CT5.out.mono ?_
            intro e w3 h3
            obtain ⟨b, cb, rfl, hr3, hca3, hcm3, hb3⟩ := h3.reads
            have HE3 := Lib.hid (HE.out.below (bel_trans HB.out hb3))
            have HB3 := Lib.hid (bel_trans HB.out hb3)
            clear h3 hr3 CT5 hb3 HB
            dsimp only [List.length_nil]
            have gg : ((oe != oe) = false) := by simp
            go_wp2_with fail
            refine (AW.out _ HE3.out).mono ?_
            rintro e w5 ⟨rfl, hb5⟩
            go_wp2
            go_ret
            exact ⟨rfl, bel_trans HB3.out hb5⟩
      | cons c0 r0 =>
        have e1 : ¬ y.toList = [] := by rw [ByteArray.toList_eq, hvl]; simp
        have e2 : y.toList.isEmpty = false := by rw [ByteArray.toList_eq, hvl]; rfl
        obtain ⟨F, hF⟩ : ∃ F, x ++ (⟨#[45, 45]⟩ ++ y ++ ⟨#[10]⟩) = F := ⟨_, rfl⟩
        obtain ⟨RM, hRM⟩ : ∃ RM : List UInt8, RM = 45 :: 45 :: (y.data.toList ++ [10]) := ⟨_, rfl⟩
        have HF : Hid (F.data.toList = List.replicate n (blankOf kind) ++ RM) := by
          show _ = _
          rw [← hF, app_list, app_list, app_list, HX.out, hRM]; rfl
        have HRM : Hid (RM = [] ∨ ∃ ws, (10 : UInt8) ∉ ws ∧ RM = 45 :: 45 :: (ws ++ [10])) := .inr ⟨_, HV10.out, hRM⟩
        have hFs : F.size ≤ 140737488352000 := by
          rw [← hF]
          simp only [ByteArray.size_append]
          have i1 : (⟨#[45, 45]⟩ : ByteArray).size = 2 := rfl
          have i2 : (⟨#[10]⟩ : ByteArray).size = 1 := rfl
          omega
        have HFF := Lib.hid hF
        clear hvl hRM hF
        go_upto_region 9 with (fail)
        rw [HFF.out]
        by_cases hL : (4000 : Int) < (F.size : Int) + s.size
        · go_wp2_with fail
          refine (AW.out _ HE.out).mono ?_
          rintro e w2 ⟨rfl, hb2⟩
          go_wp2
          go_ret
          exact ⟨rfl, hb2⟩
        · have hL2 : F.size + s.size ≤ 4000 := by omega
          have hm := Lx.moves (List.replicate n (blankOf kind)) RM s.data.toList (blank_all n kind) HRM.out (by rw [← HF.out, len_list, len_list]; exact hL2)
          rw [← HF.out, len_list, ← app_list] at hm
          have CT2 := Lib.hid (fun w E => hm ▸ c_Tokens (F ++ s) w E)
          have hd : F.size ≤ 4000 := by omega
          have hss : s.size ≤ 4000 := by omega
          clear hm
          go_wp2_with fail
          refine (c_Tokens s _ HE.out).mono ?_
          intro e w2 h2
          have HO := Lib.hid (toks_end s.data.toList)
          have HPP : Hid (∀ t ∈ (Lx.toks s.data.toList).l, (Lx.toks s.data.toList).e = 0 → t.p ≤ 4000) := fun t ht he => by have := toks_pos he ht; rw [len_list] at this; omega
          have HPE := Lib.hid (toks_place s.data.toList)
          have CT3 := CT2.out
          generalize Lx.toks s.data.toList = o at h2 HO HPP HPE CT3
          obtain ⟨ol, op, oe⟩ := o
          obtain ⟨a, ca, rfl, hr, hca, hcm, hb⟩ := h2.reads
          have HE2 := HE.out.below hb
          have CT4 := Lib.hid (CT3 _ HE2)
          have HB := Lib.hid hb
          dsimp only at hr hca hcm
          have hple : op ≤ s.size := by have := HPE.out; rw [len_list] at this; exact this
          by_cases he : oe = 0
          · subst he
            obtain rfl : op = 0 := HO.out.1 rfl
            have HR := Lib.hid hr
            have HP : Hid (∀ t ∈ ol, t.p ≤ 4000) := fun t ht => HPP.out t ht rfl
            clear h2 hr HPP HPE HO CT2 CT3 HE2 hb
            go_wp2_with fail
            refine CT4.out.mono ?_
            intro e w3 h3
            obtain ⟨b, cb, rfl, hr3, hca3, hcm3, hb3⟩ := h3.reads
            have HR3 := Lib.hid hr3
            have HE3 := HE.out.below (bel_trans HB.out hb3)
            have HB3 := Lib.hid hb3
            have HR1 := Lib.hid (HR.out.below hb3)
            clear h3 hr3 CT4 hb3
            have HLN : Hid (((Lx.Out.later F.size ⟨ol, 0, 0⟩).l).length = ol.length) := by show _ = _; simp [Lx.Out.later]
            rw [HLN.out] at HR3 hca3 ⊢
            have hp0 : ((Lx.Out.later F.size ⟨ol, 0, 0⟩).p : Int) = 0 := rfl
            have he0 : (Lx.Out.later F.size ⟨ol, 0, 0⟩).e = 0 := rfl
            rw [hp0, he0]
            clear hp0 he0
            unfold maxLen at hcm
            go_wp2_with fail
            refine (l_same _ _ ol.length ca cb F.size ol _ (by omega) hd HP.out HR1.out HR3.out).mono ?_
            rintro e w4 ⟨rfl, hb4⟩
            have HE4 := Lib.hid (HE3.below hb4)
            have HB4 := Lib.hid (bel_trans (bel_trans HB.out HB3.out) hb4)
            clear HE3 hb4 HR1 HR3 HB HB3 HR
            go_wp2_with fail
            refine (AW.out _ HE4.out).mono ?_
            rintro e w5 ⟨rfl, hb5⟩
            go_wp2
            go_ret
            exact ⟨rfl, bel_trans HB4.out hb5⟩
          · have hne : (oe != 0) = true := by simpa using he
            obtain rfl : ol = [] := HO.out.2 he
            have HL : Hid (Lx.Out.later F.size ⟨[], op, oe⟩ = ⟨[], op + F.size, oe⟩) := by show _ = _; simp [Lx.Out.later, he]
            have HEE := Lib.hid he
            have CT5 := CT4.out
            rw [HL.out] at CT5
            have CT5 := Lib.hid CT5
            clear h2 hr HPP HPE HO CT2 CT3 CT4 HE2 hb he HL
            dsimp only [List.length_nil]
            go_wp2_with fail
            refine CT5.out.mono ?_
            intro e w3 h3
            obtain ⟨b, cb, rfl, hr3, hca3, hcm3, hb3⟩ := h3.reads
            have HE3 := Lib.hid (HE.out.below (bel_trans HB.out hb3))
            have HB3 := Lib.hid (bel_trans HB.out hb3)
            clear h3 hr3 CT5 hb3 HB
            dsimp only [List.length_nil]
            have gg : ((oe != oe) = false) := by simp
            go_wp2_with fail
            refine (AW.out _ HE3.out).mono ?_
            rintro e w5 ⟨rfl, hb5⟩
            go_wp2
            go_ret
            exact ⟨rfl, bel_trans HB3.out hb5⟩
end Go.Proofs.YtdcanjfdgfpdfaaDoor.V
