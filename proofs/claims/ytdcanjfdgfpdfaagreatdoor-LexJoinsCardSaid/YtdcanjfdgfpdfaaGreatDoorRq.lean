/- The reference's isSmall. -/
import Derived.Test.YtdcanjfdgfpdfaaGreatDoorRs
import Derived.BigQuiet
namespace Go.Proofs.YtdcanjfdgfpdfaaGreatDoor.V
open Go.ChangeShapes Go.WideShapes Go.ChangeAt Go.RowKit Go.Shelf
def most : ByteArray := ⟨#[57, 50, 50, 51, 51, 55, 50, 48, 51, 54, 56, 53, 52, 55, 55, 53, 56, 48, 56]⟩
theorem most_num : Lx.num 0 most.data.toList = 9223372036854775808 := by decide
theorem most_dig : most.data.toList.all Lx.digit = true := by decide
theorem most_size : most.size = 19 := rfl
theorem num_app : ∀ (l : List UInt8) (a : Nat), Lx.num a l = a * 10 ^ l.length + Lx.num 0 l
  | [], a => by simp [Lx.num]
  | b :: t, a => by
    rw [Lx.num_cons, num_app t (a * 10 + _), Lx.num_cons, num_app t (0 * 10 + _), List.length_cons, Nat.pow_succ, Nat.add_mul, Nat.zero_mul, Nat.zero_add, Nat.mul_assoc, Nat.mul_comm 10, Nat.add_assoc]
theorem num_lt : ∀ l : List UInt8, l.all Lx.digit = true → Lx.num 0 l < 10 ^ l.length
  | [], _ => by simp [Lx.num]
  | b :: t, h => by
    rw [List.all_cons, Bool.and_eq_true] at h
    have ih := num_lt t h.2
    have hb := h.1
    simp only [Lx.digit, Bool.and_eq_true, decide_eq_true_eq] at hb
    rw [Lx.num_cons, num_app, List.length_cons, Nat.pow_succ]
    have : (0 * 10 + (b.toNat - 48)) * 10 ^ t.length ≤ 9 * 10 ^ t.length := Nat.mul_le_mul_right _ (by omega)
    omega
theorem num_lex {p t u : List UInt8} {b c : UInt8} (ht : t.all Lx.digit = true) (hb : Lx.digit b = true) (hc : Lx.digit c = true) (hl : t.length = u.length) (hbc : b.toNat < c.toNat) : Lx.num 0 (p ++ b :: t) < Lx.num 0 (p ++ c :: u) := by
  have e : ∀ (r : List UInt8), Lx.num 0 (p ++ r) = Lx.num (Lx.num 0 p) r := fun r => List.foldl_append ..
  simp only [Lx.digit, Bool.and_eq_true, decide_eq_true_eq] at hb hc
  rw [e, e, Lx.num_cons, Lx.num_cons, num_app t, num_app u, ← hl]
  have h1 := num_lt t ht
  have h2 : (Lx.num 0 p * 10 + (b.toNat - 48) + 1) * 10 ^ t.length ≤ (Lx.num 0 p * 10 + (c.toNat - 48)) * 10 ^ t.length := Nat.mul_le_mul_right _ (by omega)
  rw [Nat.add_mul, Nat.one_mul] at h2
  omega
theorem small_short {l : List UInt8} (hd : l.all Lx.digit = true) (h : l.length < 19) : Lx.small63 (Lx.num 0 l) = true := by
  have h1 := num_lt l hd
  have h2 : 10 ^ l.length ≤ 10 ^ 18 := Nat.pow_le_pow_right (by omega) (by omega)
  rw [Lx.small63, decide_eq_true_eq]
  have h3 : (10 : Nat) ^ 18 = 1000000000000000000 := by decide
  omega
theorem small_long {b : UInt8} {t : List UInt8} (hb : Lx.digit b = true) (h0 : b ≠ 48) (h : 19 ≤ t.length) : Lx.small63 (Lx.num 0 (b :: t)) = false := by
  simp only [Lx.digit, Bool.and_eq_true, decide_eq_true_eq] at hb
  have hb1 : b.toNat ≠ 48 := fun e => h0 (UInt8.toNat_inj.1 e)
  rw [Lx.num_cons, num_app, Lx.small63, decide_eq_false_iff_not]
  have h2 : 1 * 10 ^ 19 ≤ (0 * 10 + (b.toNat - 48)) * 10 ^ t.length := Nat.mul_le_mul (by omega) (Nat.pow_le_pow_right (by omega) h)
  have h3 : (10 : Nat) ^ 19 = 10000000000000000000 := by decide
  omega
theorem split_at (x : ByteArray) (k : Nat) (h : k < x.size) : x.data.toList = x.data.toList.take k ++ x[k] :: x.data.toList.drop (k + 1) := by
  rw [← drop_at x k h, List.take_append_drop]
theorem all_drop {l : List UInt8} {p : UInt8 → Bool} (h : l.all p = true) (k : Nat) : (l.drop k).all p = true := by
  rw [List.all_eq_true] at h ⊢
  exact fun b hb => h b (List.mem_of_mem_drop hb)
theorem all_get {x : ByteArray} {p : UInt8 → Bool} (h : x.data.toList.all p = true) (k : Nat) (hk : k < x.size) : p x[k] = true := List.all_eq_true.1 h _ (List.mem_of_getElem? (at_get x k hk))
/-- Two numbers of as many digits, by the first byte that differs. -/
theorem small_diff {x : ByteArray} {k : Nat} (hx : x.size = 19) (hd : x.data.toList.all Lx.digit = true) (hk : k < x.size) (hk2 : k < most.size) (he : x.data.toList.take k = most.data.toList.take k) (hne : x[k] ≠ most[k]) :
    Lx.small63 (Lx.num 0 x.data.toList) = decide (x[k].toNat < most[k].toNat) := by
  have hn : x[k].toNat ≠ most[k].toNat := fun e => hne (UInt8.toNat_inj.1 e)
  have hl : (x.data.toList.drop (k + 1)).length = (most.data.toList.drop (k + 1)).length := by rw [List.length_drop, List.length_drop, lenL, lenL, hx, most_size]
  have h1 := all_get hd k hk
  have h2 := all_get most_dig k hk2
  rw [Lx.small63, ← most_num]
  rcases Nat.lt_or_gt_of_ne hn with h | h
  · have := num_lex (p := x.data.toList.take k) (all_drop hd (k + 1)) h1 h2 hl h
    rw [← split_at x k hk, he, ← split_at most k hk2] at this
    rw [decide_eq_true h, decide_eq_true_eq]; omega
  · have := num_lex (p := x.data.toList.take k) (all_drop most_dig (k + 1)) h2 h1 hl.symm h
    rw [← split_at x k hk, he, ← split_at most k hk2] at this
    rw [decide_eq_false (by omega : ¬ Lx.num 0 x.data.toList ≤ Lx.num 0 most.data.toList)]
    exact (decide_eq_false (by omega)).symm
theorem small_same {x : ByteArray} (he : x.data.toList = most.data.toList) : Lx.small63 (Lx.num 0 x.data.toList) = true := by
  rw [he, most_num]; rfl
set_option maxHeartbeats 4000000 in
theorem r_isSmall (x : ByteArray) (hx : x.size ≤ 4000) (hd : x.data.toList.all Lx.digit = true) (w : World) : Calls Tryz.prog 43 #[.string x] w fun e w' => e = .returned (.bool (Lx.small63 (Lx.num 0 x.data.toList))) ∧ Below w.heap.size w w' := by
  obtain ⟨R, hR⟩ : ∃ R, Lx.small63 (Lx.num 0 x.data.toList) = R := ⟨_, rfl⟩
  rw [hR]
  have HR := Lib.hid hR
  have HD := Lib.hid hd
  clear hR hd
  go_enter Tryz.func43, Tryz.ntmps43
  go_wp2
  go_loopg [0] x.size (fun n s0 wr => ∃ y : ByteArray, y.size ≤ n ∧ y.size ≤ 4000 ∧ s0 = .string y ∧ Hid (y.data.toList.all Lx.digit = true) ∧ Hid (Lx.small63 (Lx.num 0 y.data.toList) = R) ∧ wr = w)
  case atStart => exact ⟨x, Nat.le_refl _, hx, rfl, HD, HR, rfl⟩
  case round =>
    obtain ⟨y, hyn, hy, rfl, HY, HS, rfl⟩ := hrel
    clear HR HD
    by_cases h19 : 19 < y.size
    · have h0 : 0 < y.size := by omega
      by_cases h48 : y[0] = 48
      · obtain ⟨n, rfl⟩ : ∃ n, gk = n + 1 := ⟨gk - 1, by omega⟩
        have g1 : ((y[0].toNat : Int) == 48) = true := by rw [h48]; rfl
        have hy2 : (y.extract 1 y.size).data.toList = y.data.toList.drop 1 := ext_drop y 1
        have hsz : (y.extract 1 y.size).size = y.size - 1 := by rw [ByteArray.size_extract]; omega
        have HY2 : Hid ((y.extract 1 y.size).data.toList.all Lx.digit = true) := by
          show _ = _
          rw [hy2]; exact all_drop HY.out 1
        have HS2 : Hid (Lx.small63 (Lx.num 0 (y.extract 1 y.size).data.toList) = R) := by
          show _ = _
          rw [hy2, ← HS.out]
          conv => rhs; rw [← List.drop_zero (l := y.data.toList), drop_at y 0 h0, h48]
          rfl
        clear h48 HY HS hy2
        go_wp2
        go_roundg n
        case measure => omega
        case rel => exact ⟨_, by omega, by omega, rfl, HY2, HS2, rfl⟩
      · have g1 : ((y[0].toNat : Int) == 48) = false := by
          have := ne_bool h48
          simpa using this
        have HE : Hid (R = false) := by
          show _ = _
          have e : y.data.toList = y[0] :: y.data.toList.drop 1 := by rw [← drop_at y 0 h0, List.drop_zero]
          rw [← HS.out, e]
          exact small_long (all_get HY.out 0 h0) h48 (by rw [List.length_drop, lenL]; omega)
        have g2 : ((y.size : Int) != 19) = true := by rw [bne_iff_ne]; omega
        clear h48 HY HS
        go_wp2
        go_ret
        exact ⟨ret_bool (by rw [HE.out, decide_eq_false_iff_not]; omega), Below.refl _ _⟩
    · by_cases he : y.size = 19
      · have g2 : ((y.size : Int) != 19) = false := by rw [he]; rfl
        go_wp2
        go_loopw [3] (fun s3 wr2 => ∃ (k q : Nat), k ≤ 19 ∧ s3 = .int .i64 k ∧ Hid (y.data.toList.take k = most.data.toList.take k) ∧ wr2 = wr.drewN q) (fun s3 _ => 19 - (intOf s3).toNat)
        case atStart => exact ⟨0, 0, by omega, rfl, rfl, rfl⟩
        case round =>
          obtain ⟨k, q, hk, rfl, HT, rfl⟩ := hrel
          by_cases hlt : k < 19
          · have hky : k < y.size := by omega
            have hkm : k < most.size := hlt
            by_cases hq : y[k] = most[k]
            · have g1 : ((y[k].toNat : Int) != (most[k].toNat : Int)) = false := by rw [hq]; simp
              have HT2 : Hid (y.data.toList.take (k + 1) = most.data.toList.take (k + 1)) := by
                show _ = _
                rw [List.take_add_one, List.take_add_one, HT.out, at_get y k hky, at_get most k hkm, hq]
              clear hq HT HS HY
              unfold most at g1
              go_wp2
              go_quiet (fail)
              go_wp2
              go_roundw
              case rel => exact ⟨k + 1, _, by omega, by go_num, HT2, rfl⟩
              case measure => simp [intOf]; omega
            · have g1 : ((y[k].toNat : Int) != (most[k].toNat : Int)) = true := ne_bool hq
              have HE := Lib.hid (HS.out.symm.trans (small_diff he HY.out hky hkm HT.out hq))
              clear hq HT HS HY
              unfold most at g1
              go_wp2
              go_quiet (fail)
              go_wp2
              go_quiet (fail)
              go_wp2
              go_ret
              exact ⟨ret_bool (by rw [HE.out]; unfold most; exact decide_eq_decide.2 (by omega)), bel_trans (bel_trans (below_drewN _ _) (below_drewN _ _)) (below_drewN _ _)⟩
          · have HE : Hid (R = true) := by
              show _ = _
              rw [← HS.out]
              refine small_same ?_
              have h1 := HT.out
              rw [List.take_of_length_le (by rw [lenL]; omega), List.take_of_length_le (by rw [lenL, most_size]; omega)] at h1
              exact h1
            clear HT HS HY
            go_wp2
            go_ret
            exact ⟨ret_bool HE.out.symm, below_drewN _ _⟩
      · have HE : Hid (R = true) := by
          show _ = _
          rw [← HS.out]
          exact small_short HY.out (by rw [lenL]; omega)
        have g2 : ((y.size : Int) != 19) = true := by rw [bne_iff_ne]; omega
        clear HY HS
        go_wp2
        go_ret
        exact ⟨ret_bool (by rw [HE.out, decide_eq_true_eq]; omega), Below.refl _ _⟩
end Go.Proofs.YtdcanjfdgfpdfaaGreatDoor.V
