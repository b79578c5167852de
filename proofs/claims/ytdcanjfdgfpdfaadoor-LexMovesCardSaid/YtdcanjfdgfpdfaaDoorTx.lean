/- The literal of a text, as the law makes it. -/
import Derived.Test.YtdcanjfdgfpdfaaDoorAw
namespace Go.Proofs.YtdcanjfdgfpdfaaDoor.V
open Go.ChangeShapes Go.WideShapes Go.ChangeAt Go.RowKit Go.Shelf
theorem app_list (a b : ByteArray) : (a ++ b).data.toList = a.data.toList ++ b.data.toList := by simp [ByteArray.data_append]
theorem dbl_snoc (l : List UInt8) (c : UInt8) : Lx.dbl (l ++ [c]) = Lx.dbl l ++ (if c = 39 then [39, 39] else [c]) := by
  induction l with
  | nil => simp only [List.nil_append, Lx.dbl]
  | cons d l ih =>
    rw [List.cons_append, Lx.dbl, Lx.dbl, ih]
    split <;> rfl
theorem take_at (s : ByteArray) (k : Nat) (h : k < s.size) : s.data.toList.take (k + 1) = s.data.toList.take k ++ [s[k]] := by
  rw [List.take_add_one, at_get s k h]; rfl
theorem ext_one (s : ByteArray) (k : Nat) (h : k < s.size) : (s.extract k (k + 1)).data.toList = [s[k]] := by
  rw [Lib.extract_data, drop_at s k h]; simp
theorem len_list (s : ByteArray) : s.data.toList.length = s.size := by simp
set_option maxHeartbeats 1000000 in
theorem l_quoted (s : ByteArray) (hs : s.size ≤ 140737488351232) (w : World) : Calls Tryd.prog 18 #[.string s] w fun e w' => e = .returned (.string ⟨(39 :: (Lx.dbl s.data.toList ++ [39])).toArray⟩) ∧ w = w' := by
  go_enter Tryd.func18, Tryd.ntmps18
  go_wp2
  go_loop [3, 4] (fun s3 s4 => ∃ (k : Nat) (o : ByteArray), k ≤ s.size ∧ s4 = .int .i64 k ∧ s3 = .string o ∧ o.size ≤ 1 + 2 * k ∧ Hid (o.data.toList = 39 :: Lx.dbl (s.data.toList.take k))) (fun _ s4 => s.size - (intOf s4).toNat)
  case atStart => exact ⟨0, ⟨#[39]⟩, by omega, rfl, rfl, by decide, rfl⟩
  case round =>
    obtain ⟨k, o, hk, rfl, rfl, ho, HO⟩ := hrel
    by_cases hlt : k < s.size
    · have hx : (s.extract k (k + 1)).size = 1 := by rw [ByteArray.size_extract]; omega
      by_cases h39 : s[k] = 39
      · have g1 : ((s[k].toNat : Int) == 39) = true := by rw [h39]; rfl
        have HN : Hid ((o ++ ⟨#[39]⟩ ++ s.extract k (k + 1)).data.toList = 39 :: Lx.dbl (s.data.toList.take (k + 1))) := by
          show _ = _
          rw [app_list, app_list, HO.out, take_at s k hlt, dbl_snoc, ext_one s k hlt, h39]; simp
        have HX := Lib.hid hx
        clear h39 hx
        go_wp2
        go_round
        case rel => exact ⟨k + 1, _, by omega, by go_num, rfl, by simp only [ByteArray.size_append, HX.out]; have : (⟨#[39]⟩ : ByteArray).size = 1 := rfl; omega, HN⟩
        case measure => simp [intOf]; omega
      · have g1 : ((s[k].toNat : Int) == 39) = false := by
          rw [beq_eq_false_iff_ne]
          intro e
          exact h39 (UInt8.toNat_inj.1 (show s[k].toNat = 39 by omega))
        have HN : Hid ((o ++ s.extract k (k + 1)).data.toList = 39 :: Lx.dbl (s.data.toList.take (k + 1))) := by
          show _ = _
          rw [app_list, HO.out, take_at s k hlt, dbl_snoc, ext_one s k hlt, if_neg h39]; simp
        have HX := Lib.hid hx
        clear h39 hx
        go_wp2
        go_round
        case rel => exact ⟨k + 1, _, by omega, by go_num, rfl, by simp only [ByteArray.size_append, HX.out]; omega, HN⟩
        case measure => simp [intOf]; omega
    · obtain rfl : k = s.size := by omega
      have HN : Hid (o ++ ⟨#[39]⟩ = ⟨(39 :: (Lx.dbl s.data.toList ++ [39])).toArray⟩) := by
        show _ = _
        have h : (o ++ ⟨#[39]⟩).data.toList = 39 :: (Lx.dbl s.data.toList ++ [39]) := by
          rw [app_list, HO.out, List.take_of_length_le (by simp)]; rfl
        rw [← h]
      go_wp2
      go_ret
      exact ⟨by rw [HN.out]; rfl, rfl⟩
theorem dbl_len (l : List UInt8) : l.length ≤ (Lx.dbl l).length := by
  induction l with
  | nil => exact Nat.le_refl _
  | cons c l ih => rw [Lx.dbl]; split <;> simp <;> omega
theorem dbl_le (l : List UInt8) : (Lx.dbl l).length ≤ 2 * l.length := by
  induction l with
  | nil => exact Nat.le_refl _
  | cons c l ih => rw [Lx.dbl]; split <;> simp <;> omega
set_option maxHeartbeats 1000000 in
theorem walk_texts (s : ByteArray) (hs : s.size ≤ 140737488351232) (w : World) (E : Env w) : Calls Tryd.prog 7 #[.string s] w fun e w' => e = .returned (.bool true) ∧ Below w.heap.size w w' := by
  obtain ⟨q, hq⟩ : ∃ q : ByteArray, q = ⟨(39 :: (Lx.dbl s.data.toList ++ [39])).toArray⟩ := ⟨_, rfl⟩
  have hql : q.data.toList = 39 :: (Lx.dbl s.data.toList ++ [39]) := by rw [hq]
  have hqs : q.size = (Lx.dbl s.data.toList).length + 2 := by rw [← len_list, hql]; simp
  have l1 := dbl_len s.data.toList
  have l2 := dbl_le s.data.toList
  rw [len_list] at l1 l2
  have CQ := l_quoted s hs w
  rw [← hq] at CQ
  have CQ := Lib.hid CQ
  have ct := c_Tokens q w E
  by_cases h4 : 4000 < q.size
  · have ht : Lx.toks q.data.toList = ⟨[], 0, 2⟩ := by rw [Lx.toks, if_pos (by rw [len_list]; exact h4)]
    rw [ht] at ct
    have CT := Lib.hid ct
    have HE := Lib.hid E
    have hq2 : (q.size : Int) ≤ 281474976710656 := by omega
    clear ct ht hq hql E hqs l1 l2
    go_enter Tryd.func7, Tryd.ntmps7
    go_wp2_with fail
    refine CQ.out.mono ?_
    rintro e w1 ⟨rfl, rfl⟩
    go_wp2_with fail
    refine CT.out.mono ?_
    intro e w1 h
    obtain ⟨a, ca, rfl, hr, hca, hcm, hb⟩ := h.reads
    have HE1 := HE.out.below hb
    clear hr h CT
    dsimp only [List.length_nil]
    go_wp2_with fail
    refine (awake _ HE1).mono ?_
    rintro e w2 ⟨rfl, hb2⟩
    go_wp2
    go_ret
    exact ⟨rfl, bel_trans hb hb2⟩
  · have ht : Lx.toks q.data.toList = if 100 < s.size then ⟨[], 0, 5⟩ else ⟨[⟨4, s.data.toList, 0⟩], 0, 0⟩ := by
      rw [hql, Lx.texts _ (by omega), len_list]
    by_cases h1 : 100 < s.size
    · rw [if_pos h1] at ht
      rw [ht] at ct
      have CT := Lib.hid ct
      have HE := Lib.hid E
      clear ct ht hq hql E hqs l1 l2
      go_enter Tryd.func7, Tryd.ntmps7
      go_wp2_with fail
      refine CQ.out.mono ?_
      rintro e w1 ⟨rfl, rfl⟩
      go_wp2_with fail
      refine CT.out.mono ?_
      intro e w1 h
      obtain ⟨a, ca, rfl, hr, hca, hcm, hb⟩ := h.reads
      have HE1 := HE.out.below hb
      clear hr h CT
      dsimp only [List.length_nil]
      go_wp2_with fail
      refine (awake _ HE1).mono ?_
      rintro e w2 ⟨rfl, hb2⟩
      go_wp2
      go_ret
      exact ⟨rfl, bel_trans hb hb2⟩
    · rw [if_neg h1] at ht
      rw [ht] at ct
      have CT := Lib.hid ct
      have HE := Lib.hid E
      clear ct ht hq hql E hqs l1 l2
      go_enter Tryd.func7, Tryd.ntmps7
      go_wp2_with fail
      refine CQ.out.mono ?_
      rintro e w1 ⟨rfl, rfl⟩
      go_wp2_with fail
      refine CT.out.mono ?_
      intro e w1 h
      obtain ⟨a, ca, rfl, hr, hca, hcm, hb⟩ := h.reads
      obtain ⟨g, o, t, rfl, ht, c0, c1, c2⟩ := hr.fields (k := 0) (by simp)
      have ht2 : t = ⟨4, s.data.toList, 0⟩ := by simpa using ht.symm
      subst ht2
      have HE1 := HE.out.below hb
      have c0' : w1.cell? ⟨g, o, none⟩ = some (.int .u8 4) := by simpa using c0
      have c1' : w1.cell? ⟨g, o + 1, none⟩ = some (.string s) := by simpa using c1
      have c2' : w1.cell? ⟨g, o + 2, none⟩ = some (.int .i64 0) := by simpa using c2
      have gs : (s.toList == s.toList) = true := by simp
      clear hr h CT c0 c1 c2 ht
      dsimp only [List.length_nil, List.length_cons]
      go_wp2_with fail
      refine (awake _ HE1).mono ?_
      rintro e w2 ⟨rfl, hb2⟩
      go_wp2
      go_ret
      exact ⟨rfl, bel_trans hb hb2⟩
end Go.Proofs.YtdcanjfdgfpdfaaDoor.V
