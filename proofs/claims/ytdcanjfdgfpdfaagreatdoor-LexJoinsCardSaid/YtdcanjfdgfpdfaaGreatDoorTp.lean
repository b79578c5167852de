/- Contracts of the functions of package lex that read a text, a token, and all tokens. -/
import Derived.Test.YtdcanjfdgfpdfaaGreatDoorTo
import Derived.Test.YtdcanjfdgfpdfaaGreatDoorRp
namespace Go.Proofs.YtdcanjfdgfpdfaaGreatDoor.V
open Go.ChangeShapes Go.WideShapes Go.ChangeAt Go.RowKit Go.Shelf
theorem l_Replace (i o : ByteArray) (ho : Lib.replaceAll i.data.toList [39, 39] [39] = o.data.toList) (hi : i.size ≤ 1048576) (w : World) (E : Env w) :
    Calls Tryz.prog 51 #[.string i, .string ⟨#[39, 39]⟩, .string ⟨#[39]⟩] w fun e w' => e = .returned (.string o) ∧ Below w.heap.size w w' := by
  have room : i.size + Lib.countB i ⟨#[39, 39]⟩ * (⟨#[39]⟩ : ByteArray).size ≤ 140737488355328 := by
    have h2 := Lib.countB_mul_le ⟨#[39, 39]⟩ (by decide) i.size i (Nat.le_refl _)
    have e1 : (⟨#[39]⟩ : ByteArray).size = 1 := rfl
    have e2 : (⟨#[39, 39]⟩ : ByteArray).size = 2 := rfl
    rw [e1]
    rw [e2] at h2
    omega
  obtain ⟨m, hm⟩ := E.most
  have h := Tryz.strings_ReplaceAll i ⟨#[39, 39]⟩ ⟨#[39]⟩ m w (by omega) hm (by decide) room
  rw [show (⟨#[39, 39]⟩ : ByteArray).data.toList = [39, 39] from rfl, show (⟨#[39]⟩ : ByteArray).data.toList = [39] from rfl, ho] at h
  exact h
set_option maxHeartbeats 1000000 in
theorem c_textAt (s : ByteArray) (a : Nat) (hs : s.size ≤ 4000) (ha : a < s.size) (w : World) (E : Env w) :
    Calls Tryz.prog 39 #[.string s, .int .i64 a] w fun e w' => e = .returned (tv (Lx.text (s.data.toList.drop a)) a) ∧ Below w.heap.size w w' := by
  have ht : (s.data.toList.drop a).tail = s.data.toList.drop (a + 1) := by rw [drop_at s a ha]; rfl
  have CQ := Lib.hid (fun w => c_lastQuote s a w hs ha)
  cases hb : Lx.body (s.data.toList.drop (a + 1)) with
  | none =>
    have HQ : Hid (lastQ s.data.toList (a + 1) = -1) := by show _ = _; rw [lastQ, hb]
    have HR : Hid (Lx.text (s.data.toList.drop a) = .err 21) := by show _ = _; rw [Lx.text, ht, hb]
    clear hb ht
    go_enter Tryz.func39, Tryz.ntmps39
    go_wp2_with fail
    refine (CQ.out _).mono ?_
    rintro e w1 ⟨rfl, rfl⟩
    rw [HQ.out]
    go_wp2
    refine bodyPost_ret (v := tv (.err 21) a) ?_ rfl ⟨by rw [HR.out], by repeat (first | exact Below.refl _ _ | apply bel_alloc | refine bel_set ?_ (by simp) _)⟩
    simp [results, Tryz.results39, go_sem, tv]
  | some x =>
    obtain ⟨t, n⟩ := x
    have hn := Lx.body_some hb
    rw [List.length_drop] at hn
    have hn2 : a + 1 + n ≤ s.size := by have : s.data.toList.length = s.size := by simp
                                        omega
    have hn1 : 1 ≤ n := hn.1
    have HQ : Hid (lastQ s.data.toList (a + 1) = ((a + n : Nat) : Int)) := by show _ = _; rw [lastQ, hb]; dsimp only; omega
    have hpart : (s.extract (a + 1) (a + n)).data.toList = Lx.dbl t := by
      rw [Lib.extract_data, ← Lx.body_dbl_of hb]
      congr 1; omega
    obtain ⟨i, hi⟩ : ∃ i, s.extract (a + 1) (a + n) = i := ⟨_, rfl⟩
    obtain ⟨o, ho⟩ : ∃ o : ByteArray, o = ⟨t.toArray⟩ := ⟨_, rfl⟩
    have hol : o.data.toList = t := by rw [ho]
    have hos : o.size = t.length := by rw [← hol]; simp
    have his : i.size ≤ 4000 := by rw [← hi, ByteArray.size_extract]; omega
    rw [hi] at hpart
    have CP := Lib.hid (fun w E => l_Replace i o (by rw [hpart, Lx.rep_undbl, hol]) (by omega) w E)
    have hw : Lx.text (s.data.toList.drop a) = if 100 < o.size then .err 5 else .ok 4 t (n + 1) := by rw [Lx.text, ht, hb, hos]
    have HW := Lib.hid hw
    have HI := Lib.hid hi
    have HO := Lib.hid ho
    clear hb ht hpart hw hol hos hi hn ho
    go_enter Tryz.func39, Tryz.ntmps39
    go_wp2_with fail
    refine (CQ.out _).mono ?_
    rintro e w1 ⟨rfl, rfl⟩
    rw [HQ.out]
    go_wp2_with fail
    rw [HI.out]
    refine (CP.out _ (E.alloc tok0)).mono ?_
    rintro e w2 ⟨rfl, hb2⟩
    have HB := Lib.hid (box_below hb2)
    obtain ⟨⟨c0, f0⟩, ⟨c1, f1⟩, ⟨c2, f2⟩⟩ := box3 hb2
    clear hb2
    by_cases h100 : 100 < o.size
    · have HR : Hid (Lx.text (s.data.toList.drop a) = .err 5) := by show _ = _; rw [HW.out, if_pos h100]
      go_wp2
      refine bodyPost_ret (v := tv (.err 5) a) ?_ rfl ⟨by rw [HR.out], bel3 HB.out _ _ _⟩
      simp [results, Tryz.results39, go_sem, tv, c0, c1, c2]
    · have HR : Hid (Lx.text (s.data.toList.drop a) = .ok 4 t (n + 1)) := by show _ = _; rw [HW.out, if_neg h100]
      go_wp2
      refine bodyPost_ret (v := tv (.ok 4 t (n + 1)) a) ?_ rfl ⟨by rw [HR.out], bel3 HB.out _ _ _⟩
      have HO := HO.out
      simp [results, Tryz.results39, go_sem, tv, c0, c1, c2, HO]
      omega
/-- What stands at a place, by its first byte. -/
theorem tok_at (s : ByteArray) (a : Nat) (ha : a < s.size) : Lx.tok (s.data.toList.drop a) = if cls s[a] = 2 ∨ cls s[a] = 3 ∨ cls s[a] = 4 then Lx.word (s.data.toList.drop a) else if cls s[a] = 5 then Lx.number (s.data.toList.drop a) else if cls s[a] = 6 then Lx.text (s.data.toList.drop a) else Lx.mark (s.data.toList.drop a) := by
  have h := cls_n s[a]
  have e : ∀ c : UInt8, (s[a] = c) = (s[a].toNat = c.toNat) := fun c => propext UInt8.toNat_inj.symm
  have e39 : (39 : UInt8).toNat = 39 := rfl
  have e95 : (95 : UInt8).toNat = 95 := rfl
  rw [drop_at s a ha, Lx.tok]
  simp only [Lx.letter, Lx.small, Lx.cap, Lx.digit, Bool.or_eq_true, Bool.and_eq_true, decide_eq_true_eq, beq_iff_eq, e, e39, e95]
  rw [h]
  by_cases h1 : 97 ≤ s[a].toNat ∧ s[a].toNat ≤ 122
  · simp [h1]
  by_cases h2 : 65 ≤ s[a].toNat ∧ s[a].toNat ≤ 90
  · simp [h1, h2]
  by_cases h3 : 48 ≤ s[a].toNat ∧ s[a].toNat ≤ 57
  · have : ¬ s[a].toNat = 95 := by omega
    simp [h1, h2, h3, this]
  by_cases h4 : s[a].toNat = 95
  · simp [h4]
  by_cases h5 : s[a].toNat = 39
  · simp [h5]
  by_cases h6 : s[a].toNat = 32 ∨ s[a].toNat = 9 ∨ s[a].toNat = 10 ∨ s[a].toNat = 13
  · simp [h1, h2, h3, h4, h5, h6]
  · simp [h1, h2, h3, h4, h5, h6]
end Go.Proofs.YtdcanjfdgfpdfaaGreatDoor.V
