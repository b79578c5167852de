/- Contracts of the functions of package lex that skip blanks and remarks and find a text's end. -/
import Derived.Test.YtdcanjfdgfpdfaaGreatDoorCa
import Derived.Test.YtdcanjfdgfpdfaaGreatDoorShelf
namespace Go.Proofs.YtdcanjfdgfpdfaaGreatDoor.V
open Go.ChangeShapes Go.WideShapes Go.ChangeAt Go.RowKit
theorem ext_drop (s : ByteArray) (k : Nat) : (s.extract k s.size).data.toList = s.data.toList.drop k := by
  rw [Lib.extract_to_end]
theorem pre_at (s p : ByteArray) (k : Nat) (b : Bool) (h : Lib.hasPrefix (s.data.toList.drop k) p.data.toList = b) (w : World) :
    Calls Tryz.prog 34 #[.string (s.extract k s.size), .string p] w fun e w' => e = .returned (.bool b) ∧ w = w' :=
  (Tryz.strings_HasPrefix _ p w).mono fun _ _ ⟨he, hw⟩ => ⟨by rw [he, ext_drop, h], hw.symm⟩
theorem idx_at (s : ByteArray) (k : Nat) (i : Int) (h : Lib.indexByte (s.data.toList.drop k) 10 = i) (w : World) :
    Calls Tryz.prog 35 #[.string (s.extract k s.size), .int .u8 10] w fun e w' => e = .returned (.int .i64 i) ∧ w = w' :=
  (Tryz.strings_IndexByte _ 10 w).mono fun _ _ ⟨he, hw⟩ => ⟨by rw [he, ext_drop, ← h]; rfl, hw.symm⟩
theorem among_blank : among [1] = Lx.blank := by
  funext b
  have h := cls_n b
  have e : ∀ c : UInt8, (b = c) = (b.toNat = c.toNat) := fun c => propext UInt8.toNat_inj.symm
  rw [Bool.eq_iff_iff]
  simp only [among, List.contains_cons, List.contains_nil, Bool.or_false, beq_iff_eq, Lx.blank, Bool.or_eq_true, e, h]
  show _ ↔ (((b.toNat = 32 ∨ b.toNat = 9) ∨ b.toNat = 10) ∨ b.toNat = 13)
  repeat' split
  all_goals omega
/-- The first place from k on that belongs to no blank and no remark. -/
def beg (l : List UInt8) (k : Nat) : Nat := k + Lx.skip false (l.drop k)
theorem one_at {x c : Int} {j : Nat} (h : [x][j]? = some c) : j = 0 ∧ c = x := by
  cases j with
  | zero => exact ⟨rfl, (Option.some.inj h).symm⟩
  | succ j => simp at h
theorem beg_run {l : List UInt8} {k m : Nat} (h : runE Lx.blank l k = m) : beg l k = beg l m := by
  unfold runE at h
  unfold beg
  rw [Lx.skip_blank, ← h, Lx.dw_eq, List.drop_drop]; omega
theorem beg_stop {l : List UInt8} {k m : Nat} (h : runE Lx.blank l k = m) (hp : Lib.hasPrefix (l.drop m) [45, 45] = false) : m = beg l k := by
  rw [beg_run h]
  unfold beg
  rw [Lx.skip_stop _ hp]; rfl
  unfold runE at h
  rw [← h, ← List.drop_drop, ← Lx.dw_eq]
  exact Lx.dw_head _ _
theorem beg_rem {l : List UInt8} {m : Nat} (hp : Lib.hasPrefix (l.drop m) [45, 45] = true) (hm : m ≤ l.length) : (Lib.indexByte (l.drop m) 10 = -1 → beg l m = l.length) ∧
    (∀ i : Nat, Lib.indexByte (l.drop m) 10 = i → beg l m = beg l (m + i) ∧ m + i < l.length ∧ 1 ≤ i) := by
  unfold beg
  rw [Lx.skip_rem hp]
  refine ⟨fun h => ?_, fun i h => ?_⟩
  · rw [Lx.skip_true_none h, List.length_drop]; omega
  · obtain ⟨h1, h2⟩ := Lx.skip_true_some h
    rw [h1, List.drop_drop]
    rw [List.length_drop] at h2
    refine ⟨by omega, by omega, ?_⟩
    cases hd : l.drop m with
    | nil => rw [hd] at hp; cases hp
    | cons b t =>
      rw [hd] at hp h
      simp only [Lib.hasPrefix, List.isPrefixOf, Bool.and_eq_true, beq_iff_eq] at hp
      rw [Lib.indexByte, ← hp.1, if_neg (by decide)] at h
      have ge := Lib.indexByte_ge t 10
      split at h
      · omega
      · rename_i hne
        have : Lib.indexByte t 10 ≠ -1 := by simpa using hne
        omega
set_option maxHeartbeats 1000000 in
theorem c_begin (s : ByteArray) (a : Nat) (w : World) (hs : s.size ≤ 4000) (ha : a ≤ s.size) :
    Calls Tryz.prog 14 #[.string s, .int .i64 a] w fun e w' => e = .returned (.int .i64 (beg s.data.toList a : Nat)) ∧ Below w.heap.size w w' := by
  go_enter Tryz.func14, Tryz.ntmps14
  go_wp2
  go_loopw [1] (fun s1 wr => ∃ k : Nat, k ≤ s.size ∧ s1 = .int .i64 k ∧ Hid (beg s.data.toList k = beg s.data.toList a) ∧ Below w.heap.size w wr) (fun s1 _ => s.size - (intOf s1).toNat)
  case atStart => exact ⟨a, ha, rfl, rfl, Below.refl _ _⟩
  case round =>
    obtain ⟨k, hk, rfl, HB, hb⟩ := hrel
    obtain ⟨m, hm⟩ : ∃ m, runE (among [1]) s.data.toList k = m := ⟨_, rfl⟩
    have hm2 := runE_le (p := among [1]) (l := s.data.toList) (k := k) (by simpa using hk)
    rw [hm] at hm2
    have hml : m ≤ s.size := by simpa using hm2.2
    have hkm : k ≤ m := hm2.1
    have cR := fun g cap w hc => c_runEnd s k g cap [1] w hs hk (by decide) hc
    rw [hm] at cR
    have CR := Lib.hid cR
    have HM := Lib.hid hm
    clear cR hm hm2
    cases hp : Lib.hasPrefix (s.data.toList.drop m) [45, 45] with
    | false =>
      have cP := Lib.hid (pre_at s ⟨#[45, 45]⟩ m false hp)
      have HE : Hid (m = beg s.data.toList a) := by
        rw [← HB.out]
        exact beg_stop (among_blank ▸ HM.out) hp
      clear hp
      go_wp2_with fail
      refine (CR.out _ _ _ ?_).mono ?_
      · intro j c hc
        obtain ⟨rfl, rfl⟩ := one_at hc
        simp [go_sem]
      rintro e w1 ⟨rfl, rfl⟩
      go_wp2_with (first | (go_at_call 34; refine (cP.out _).mono ?_; rintro e w2 ⟨rfl, rfl⟩))
      go_ret
      exact ⟨ret_int (by rw [← HE.out]), bel_trans hb (Below.refl _ _ |>.alloc (Nat.le_refl _) _)⟩
    | true =>
      have cP := Lib.hid (pre_at s ⟨#[45, 45]⟩ m true hp)
      obtain ⟨r1, r2⟩ := beg_rem hp (by simpa using hml)
      have HK : Hid (beg s.data.toList m = beg s.data.toList a) := by
        rw [← HB.out]
        exact (beg_run (among_blank ▸ HM.out)).symm
      clear hp
      by_cases hi : Lib.indexByte (s.data.toList.drop m) 10 = -1
      · have cI := Lib.hid (idx_at s m (-1) hi)
        have HE := Lib.hid (r1 hi)
        clear hi r1 r2
        go_wp2_with fail
        refine (CR.out _ _ _ ?_).mono ?_
        · intro j c hc
          obtain ⟨rfl, rfl⟩ := one_at hc
          simp [go_sem]
        rintro e w1 ⟨rfl, rfl⟩
        go_wp2_with (first | (go_at_call 34; refine (cP.out _).mono ?_; rintro e w2 ⟨rfl, rfl⟩) | (go_at_call 35; refine (cI.out _).mono ?_; rintro e w2 ⟨rfl, rfl⟩))
        go_ret
        exact ⟨ret_int (by rw [← HK.out, HE.out]; simp), bel_trans hb (Below.refl _ _ |>.alloc (Nat.le_refl _) _)⟩
      · obtain ⟨i, hi'⟩ : ∃ i : Nat, Lib.indexByte (s.data.toList.drop m) 10 = i := ⟨(Lib.indexByte (s.data.toList.drop m) 10).toNat, by
          have := Lib.indexByte_ge (s.data.toList.drop m) 10
          omega⟩
        have cI := Lib.hid (idx_at s m i hi')
        obtain ⟨g1, g2, g3⟩ := r2 i hi'
        have g2' : m + i < s.size := by simpa using g2
        have HE := Lib.hid g1
        clear hi hi' r1 r2 g1 g2
        go_wp2_with fail
        refine (CR.out _ _ _ ?_).mono ?_
        · intro j c hc
          obtain ⟨rfl, rfl⟩ := one_at hc
          simp [go_sem]
        rintro e w1 ⟨rfl, rfl⟩
        go_wp2_with (first | (go_at_call 34; refine (cP.out _).mono ?_; rintro e w2 ⟨rfl, rfl⟩) | (go_at_call 35; refine (cI.out _).mono ?_; rintro e w2 ⟨rfl, rfl⟩))
        go_roundw
        case rel => exact ⟨m + i, by omega, by go_num, (HE.out.symm.trans HK.out), bel_trans hb (Below.refl _ _ |>.alloc (Nat.le_refl _) _)⟩
        case measure => simp [intOf]; omega
/-- The place of the byte ' that ends a text whose bytes begin at k. -/
def lastQ (l : List UInt8) (k : Nat) : Int := match Lx.body (l.drop k) with
  | none => -1
  | some x => k + x.2 - 1
theorem lastQ_end {l : List UInt8} {k : Nat} (h : l.length ≤ k) : lastQ l k = -1 := by
  unfold lastQ
  rw [List.drop_of_length_le h, Lx.body]
theorem lastQ_other {s : ByteArray} {k : Nat} (h : k < s.size) (h39 : s[k] ≠ 39) : lastQ s.data.toList k = lastQ s.data.toList (k + 1) := by
  unfold lastQ
  rw [drop_at s k h, Lx.body_cons, if_neg h39]
  cases Lx.body (s.data.toList.drop (k + 1)) with
  | none => rfl
  | some x => simp only [Option.map_some]; omega
theorem lastQ_stop {s : ByteArray} {k : Nat} (h : k < s.size) (h39 : s[k] = 39) (hp : Lib.hasPrefix (s.data.toList.drop k) [39, 39] = false) : lastQ s.data.toList k = k := by
  unfold lastQ
  rw [drop_at s k h] at hp ⊢
  rw [Lx.body_cons, if_pos h39]
  cases hd : s.data.toList.drop (k + 1) with
  | nil => simp
  | cons c u =>
    rw [hd, h39] at hp
    have : ¬ c = 39 := by
      rintro rfl
      simp [Lib.hasPrefix, List.isPrefixOf] at hp
    simp only [if_neg this]
    omega
theorem lastQ_two {s : ByteArray} {k : Nat} (h : k < s.size) (hp : Lib.hasPrefix (s.data.toList.drop k) [39, 39] = true) : lastQ s.data.toList k = lastQ s.data.toList (k + 2) ∧ k + 1 < s.size := by
  unfold lastQ
  rw [drop_at s k h] at hp ⊢
  cases hd : s.data.toList.drop (k + 1) with
  | nil => rw [hd] at hp; simp [Lib.hasPrefix, List.isPrefixOf] at hp
  | cons c u =>
    rw [hd] at hp
    simp only [Lib.hasPrefix, List.isPrefixOf, Bool.and_true, Bool.and_eq_true, beq_iff_eq] at hp
    obtain ⟨e1, e2⟩ := hp
    have hl : k + 1 < s.size := by
      rcases Nat.lt_or_ge (k + 1) s.size with h' | h'
      · exact h'
      · rw [List.drop_of_length_le (by simpa using h')] at hd; cases hd
    have e3 : s.data.toList.drop (k + 2) = u := by
      rw [drop_at s (k + 1) hl] at hd
      exact (List.cons.inj hd).2
    refine ⟨?_, hl⟩
    rw [Lx.body_cons, if_pos e1.symm, e3]
    simp only [if_pos e2.symm]
    cases Lx.body u with
    | none => rfl
    | some x => simp only [Option.map_some]; omega
set_option maxHeartbeats 1000000 in
theorem c_lastQuote (s : ByteArray) (a : Nat) (w : World) (hs : s.size ≤ 4000) (ha : a < s.size) :
    Calls Tryz.prog 57 #[.string s, .int .i64 a] w fun e w' => e = .returned (.int .i64 (lastQ s.data.toList (a + 1))) ∧ w = w' := by
  go_enter Tryz.func57, Tryz.ntmps57
  go_wp2
  go_loop [5] (fun s5 => ∃ k : Nat, k ≤ s.size + 1 ∧ s5 = .int .i64 k ∧ Hid (lastQ s.data.toList k = lastQ s.data.toList (a + 1))) (fun s5 => s.size + 1 - (intOf s5).toNat)
  case atStart => exact ⟨a + 1, by omega, by go_num, rfl⟩
  case round =>
    obtain ⟨k, hk, rfl, HQ⟩ := hrel
    by_cases hlt : k < s.size
    · by_cases h39 : s[k] = 39
      · have hb : ((s[k].toNat : Int) != 39) = false := by rw [h39]; rfl
        cases hp : Lib.hasPrefix (s.data.toList.drop k) [39, 39] with
        | false =>
          have cP := Lib.hid (pre_at s ⟨#[39, 39]⟩ k false hp)
          have HE := Lib.hid (lastQ_stop hlt h39 hp)
          clear hp h39
          go_wp2_with (first | (go_at_call 34; refine (cP.out _).mono ?_; rintro e w2 ⟨rfl, rfl⟩))
          go_ret
          exact ⟨ret_int (by rw [← HQ.out, HE.out]), rfl⟩
        | true =>
          have cP := Lib.hid (pre_at s ⟨#[39, 39]⟩ k true hp)
          obtain ⟨g1, g2⟩ := lastQ_two hlt hp
          have HE := Lib.hid g1
          clear hp h39 g1
          go_wp2_with (first | (go_at_call 34; refine (cP.out _).mono ?_; rintro e w2 ⟨rfl, rfl⟩))
          go_round
          case rel => exact ⟨k + 2, by omega, by go_num, HE.out.symm.trans HQ.out⟩
          case measure => simp [intOf]; omega
      · have hb : ((s[k].toNat : Int) != 39) = true := by
          rw [bne_iff_ne]
          intro e
          exact h39 (UInt8.toNat_inj.1 (show s[k].toNat = 39 by omega))
        have HE := Lib.hid (lastQ_other hlt h39)
        clear h39
        go_wp2
        go_round
        case rel => exact ⟨k + 1, by omega, by go_num, HE.out.symm.trans HQ.out⟩
        case measure => simp [intOf]; omega
    · have HE := Lib.hid (lastQ_end (l := s.data.toList) (k := k) (by simp; omega))
      go_wp2
      go_ret
      exact ⟨ret_int (by rw [← HQ.out, HE.out]), rfl⟩
end Go.Proofs.YtdcanjfdgfpdfaaGreatDoor.V
