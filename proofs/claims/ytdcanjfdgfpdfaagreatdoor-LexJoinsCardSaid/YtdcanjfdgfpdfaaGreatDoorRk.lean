/- The reference's IsKeyword: a word between two blanks of one long text. -/
import Derived.Test.YtdcanjfdgfpdfaaGreatDoorRa
namespace Go.Proofs.YtdcanjfdgfpdfaaGreatDoor.Lx
/-- Words, each behind a blank, and a blank at the end. -/
def row : List Bs → Bs
  | [] => [32]
  | w :: ws => 32 :: (w ++ row ws)
theorem row_head (ws : List Bs) : ∃ r, row ws = 32 :: r := by
  cases ws with
  | nil => exact ⟨[], rfl⟩
  | cons w ws => exact ⟨_, rfl⟩
theorem sep : ∀ {s w a b : Bs}, (32 : UInt8) ∉ s → (32 : UInt8) ∉ w → s ++ 32 :: a = w ++ 32 :: b → s = w
  | [], [], _, _, _, _, _ => rfl
  | [], c :: w, _, _, _, hw, h => by
    have := (List.cons.inj h).1
    exact absurd (this ▸ List.mem_cons_self) hw
  | c :: s, [], _, _, hs, _, h => by
    have := (List.cons.inj h).1
    exact absurd (this ▸ List.mem_cons_self) hs
  | c :: s, d :: w, a, b, hs, hw, h => by
    obtain ⟨h1, h2⟩ := List.cons.inj h
    rw [h1, sep (fun e => hs (List.mem_cons_of_mem _ e)) (fun e => hw (List.mem_cons_of_mem _ e)) h2]
def hit (k : Bs) (s : Bs) (i : Nat) : Prop := 32 :: (s ++ [32]) <+: k.drop i
theorem hit_mem : ∀ (ws : List Bs) (s : Bs), s ≠ [] → (32 : UInt8) ∉ s → (∀ w ∈ ws, (32 : UInt8) ∉ w) → ∀ i, hit (row ws) s i → s ∈ ws
  | [], s, h0, _, _, i, h => by
    have := h.length_le
    have hl : 0 < s.length := by cases s with
      | nil => exact absurd rfl h0
      | cons => simp
    simp [row] at this
    omega
  | w :: ws, s, h0, hs, hw, i, h => by
    obtain ⟨r, hr⟩ := row_head ws
    unfold hit at h
    rw [row] at h
    cases i with
    | zero =>
      obtain ⟨t, ht⟩ := h
      rw [List.drop_zero] at ht
      have h2 : s ++ 32 :: t = w ++ 32 :: r := by
        have h3 : (s ++ [32]) ++ t = w ++ row ws := (List.cons.inj ht).2
        rw [hr, List.append_assoc] at h3
        exact h3
      rw [sep hs (hw w (List.mem_cons_self)) h2]
      exact List.mem_cons_self
    | succ j =>
      rw [List.drop_succ_cons] at h
      rcases Nat.lt_or_ge j w.length with hj | hj
      · obtain ⟨t, ht⟩ := h
        rw [List.drop_append_of_le_length (by omega), List.drop_eq_getElem_cons hj] at ht
        have := (List.cons.inj ht).1
        exact absurd (this ▸ List.getElem_mem hj) (hw w List.mem_cons_self)
      · rw [List.drop_append, List.drop_of_length_le hj, List.nil_append] at h
        exact List.mem_cons_of_mem _ (hit_mem ws s h0 hs (fun x hx => hw x (List.mem_cons_of_mem _ hx)) _ h)
theorem mem_hit : ∀ (ws : List Bs) (s : Bs), s ∈ ws → ∃ i, hit (row ws) s i
  | w :: ws, s, h => by
    rcases List.mem_cons.1 h with rfl | h
    · obtain ⟨r, hr⟩ := row_head ws
      refine ⟨0, r, ?_⟩
      rw [row, hr]; simp
    · obtain ⟨i, hi⟩ := mem_hit ws s h
      refine ⟨i + (w.length + 1), ?_⟩
      unfold hit at hi ⊢
      rw [row, Nat.add_comm i, ← List.drop_drop]
      have : (32 :: (w ++ row ws)).drop (w.length + 1) = row ws := by rw [List.drop_succ_cons, List.drop_left]
      rw [this]
      exact hi
theorem words_no : ∀ w ∈ words, (32 : UInt8) ∉ w := by decide +kernel
theorem words_cap : ∀ w ∈ words, w.all cap = true ∧ w ≠ [] := by decide +kernel
theorem kw_cap {s : Bs} (h : isKw s = true) : s.all cap = true ∧ s ≠ [] := words_cap s (List.contains_iff_mem.1 h)
theorem cap_no {s : Bs} (h : s.all cap = true) : (32 : UInt8) ∉ s := fun hm => by
  have := List.all_eq_true.1 h 32 hm
  exact absurd this (by decide)
theorem kw_of_hit {s : Bs} (h : s.all cap = true) (h0 : s ≠ []) {i : Nat} (hi : hit (row words) s i) : isKw s = true :=
  List.contains_iff_mem.2 (hit_mem words s h0 (cap_no h) words_no i hi)
theorem no_kw {s : Bs} (h : ∀ i, ¬ hit (row words) s i) : isKw s = false := by
  rw [Bool.eq_false_iff]
  intro hk
  obtain ⟨i, hi⟩ := mem_hit words s (List.contains_iff_mem.1 hk)
  exact h i hi
theorem row_len : (row words).length = 372 := by decide +kernel
theorem hit_len {s : Bs} {i : Nat} (h : hit (row words) s i) : i + s.length + 2 ≤ 372 := by
  have := h.length_le
  rw [List.length_drop, row_len] at this
  simp at this
  omega
theorem hit_iff {k s : Bs} {i : Nat} : hit k s i ↔ (k.drop i).take (s.length + 2) = 32 :: (s ++ [32]) := by
  unfold hit
  have e : (32 :: (s ++ [32])).length = s.length + 2 := by simp
  rw [List.prefix_iff_eq_take, e]
  exact ⟨fun h => h.symm, fun h => h.symm⟩
end Go.Proofs.YtdcanjfdgfpdfaaGreatDoor.Lx
namespace Go.Proofs.YtdcanjfdgfpdfaaGreatDoor.V
open Go.ChangeShapes Go.WideShapes Go.ChangeAt Go.RowKit Go.Shelf
theorem cap_n (b : UInt8) : Lx.cap b = decide (65 ≤ b.toNat ∧ b.toNat ≤ 90) := by
  rw [Bool.eq_iff_iff]
  simp only [Lx.cap, Bool.and_eq_true, decide_eq_true_eq]
/-- The text of all keywords. -/
def kwText : ByteArray := ⟨#[32, 65, 76, 76, 32, 65, 78, 65, 76, 89, 90, 69, 32, 65, 78, 68, 32, 65, 83, 32, 65, 83, 67, 32, 65, 86, 71, 32, 66, 69, 84, 87, 69, 69, 78, 32, 66, 73, 71, 73, 78, 84, 32, 66, 79, 79, 76, 32, 66, 89, 32, 67, 65, 83, 69, 32, 67, 79, 65, 76, 69, 83, 67, 69, 32, 67, 79, 85, 78, 84, 32, 67, 82, 69, 65, 84, 69, 32, 67, 82, 79, 83, 83, 32, 68, 69, 76, 69, 84, 69, 32, 68, 69, 83, 67, 32, 68, 73, 83, 84, 73, 78, 67, 84, 32, 68, 82, 79, 80, 32, 69, 76, 83, 69, 32, 69, 78, 68, 32, 69, 88, 67, 69, 80, 84, 32, 69, 88, 73, 83, 84, 83, 32, 69, 88, 80, 76, 65, 73, 78, 32, 70, 65, 76, 83, 69, 32, 70, 79, 82, 69, 73, 71, 78, 32, 70, 82, 79, 77, 32, 70, 85, 76, 76, 32, 71, 82, 79, 85, 80, 32, 72, 65, 86, 73, 78, 71, 32, 73, 78, 32, 73, 78, 68, 69, 88, 32, 73, 78, 78, 69, 82, 32, 73, 78, 83, 69, 82, 84, 32, 73, 78, 84, 32, 73, 78, 84, 69, 82, 83, 69, 67, 84, 32, 73, 78, 84, 79, 32, 73, 83, 32, 74, 79, 73, 78, 32, 75, 69, 89, 32, 76, 69, 70, 84, 32, 76, 69, 78, 71, 84, 72, 32, 76, 73, 75, 69, 32, 76, 73, 77, 73, 84, 32, 77, 65, 88, 32, 77, 73, 78, 32, 78, 79, 84, 32, 78, 85, 76, 76, 32, 79, 70, 70, 83, 69, 84, 32, 79, 78, 32, 79, 82, 32, 79, 82, 68, 69, 82, 32, 79, 85, 84, 69, 82, 32, 82, 69, 70, 69, 82, 69, 78, 67, 69, 83, 32, 82, 73, 71, 72, 84, 32, 83, 69, 76, 69, 67, 84, 32, 83, 85, 77, 32, 84, 65, 66, 76, 69, 32, 84, 69, 88, 84, 32, 84, 72, 69, 78, 32, 84, 79, 32, 84, 82, 85, 69, 32, 85, 78, 73, 79, 78, 32, 86, 65, 76, 85, 69, 83, 32, 87, 72, 69, 78, 32, 87, 72, 69, 82, 69, 32]⟩
theorem kwText_is : kwText.data.toList = Lx.row Lx.words := by decide +kernel
theorem kwText_size : kwText.size = 372 := by decide +kernel
theorem kw_part (x : ByteArray) (i : Nat) : (kwText.extract i (i + x.size + 2)).toList = (⟨#[32]⟩ ++ x ++ ⟨#[32]⟩ : ByteArray).toList ↔ Lx.hit (Lx.row Lx.words) x.data.toList i := by
  rw [Lx.hit_iff, ByteArray.toList_eq, ByteArray.toList_eq, Lib.extract_data, kwText_is, Joins.data_append, Joins.data_append, lenL]
  have : i + x.size + 2 - i = x.size + 2 := by omega
  rw [this]
  exact Iff.rfl
set_option maxRecDepth 100000 in
set_option maxHeartbeats 2000000 in
theorem r_IsKeyword (x : ByteArray) (hx : x.size ≤ 9223372036854775000) (w : World) : Calls Tryz.prog 41 #[.string x] w fun e w' => e = .returned (.bool (Lx.isKw x.data.toList)) ∧ w = w' := by
  cases hl : x.data.toList with
  | nil =>
    have e1 : x.toList = [] := by rw [ByteArray.toList_eq, hl]
    have HK : Hid (Lx.isKw [] = false) := by show _ = _; rw [Bool.eq_false_iff]; intro h; exact (Lx.kw_cap h).2 rfl
    clear hl
    go_enter Tryz.func41, Tryz.ntmps41
    go_wp2
    go_ret
    exact ⟨ret_bool HK.out.symm, rfl⟩
  | cons c0 r0 =>
    have e1 : ¬ x.toList = [] := by rw [ByteArray.toList_eq, hl]; simp
    have e2 : x.toList.isEmpty = false := by rw [ByteArray.toList_eq, hl]; rfl
    have HN : Hid (x.data.toList ≠ []) := by show _ ≠ _; rw [hl]; simp
    rw [← hl]
    clear hl
    go_enter Tryz.func41, Tryz.ntmps41
    go_wp2
    go_loop [3] (fun s3 => ∃ k : Nat, k ≤ x.size ∧ s3 = .int .i64 k ∧ Hid ((x.data.toList.take k).all Lx.cap = true)) (fun s3 => x.size - (intOf s3).toNat)
    case atStart => exact ⟨0, by omega, rfl, rfl⟩
    case round =>
      obtain ⟨k, hk, rfl, HC⟩ := hrel
      by_cases hlt : k < x.size
      · by_cases hc : Lx.cap x[k] = true
        · have HC2 : Hid ((x.data.toList.take (k + 1)).all Lx.cap = true) := by
            show _ = _
            rw [List.take_add_one, at_get x k hlt, List.all_append, HC.out]; simpa using hc
          rw [cap_n, decide_eq_true_eq] at hc
          have h1 : (65 : Int) ≤ x[k].toNat := by omega
          have h2 : (x[k].toNat : Int) ≤ 90 := by omega
          clear hc HC
          go_wp2
          go_round
          case rel => exact ⟨k + 1, by omega, by go_num, HC2⟩
          case measure => simp [intOf]; omega
        · have HK : Hid (Lx.isKw x.data.toList = false) := by
            show _ = _
            rw [Bool.eq_false_iff]
            intro h
            have := List.all_eq_true.1 (Lx.kw_cap h).1 x[k] (List.mem_of_getElem? (at_get x k hlt))
            exact hc this
          rw [cap_n, decide_eq_true_eq] at hc
          clear HC
          by_cases h1 : (x[k].toNat : Int) < 65
          · clear hc
            go_wp2
            go_ret
            exact ⟨ret_bool HK.out.symm, rfl⟩
          · have h2 : (90 : Int) < x[k].toNat := by omega
            have h1' : (65 : Int) ≤ x[k].toNat := by omega
            clear hc h1
            go_wp2
            go_ret
            exact ⟨ret_bool HK.out.symm, rfl⟩
      · obtain rfl : k = x.size := by omega
        have HA : Hid (x.data.toList.all Lx.cap = true) := by
          have := HC.out
          rwa [List.take_of_length_le (by rw [lenL]; exact Nat.le_refl _)] at this
        clear HC
        go_wp2_with fail
        go_loop [4] (fun s4 => ∃ k : Nat, k ≤ 373 ∧ s4 = .int .i64 k ∧ Hid (∀ i, i < k → ¬ Lx.hit (Lx.row Lx.words) x.data.toList i)) (fun s4 => 373 - (intOf s4).toNat)
        case atStart => exact ⟨0, by omega, rfl, fun i hi => absurd hi (Nat.not_lt_zero _)⟩
        case round =>
          obtain ⟨k, hk, rfl, HH⟩ := hrel
          by_cases hb : k + x.size + 2 ≤ 372
          · have hb' : (k : Int) + x.size + 2 ≤ 372 := by omega
            cases hq : ((kwText.extract k (k + x.size + 2)).toList == (⟨#[32]⟩ ++ x ++ ⟨#[32]⟩ : ByteArray).toList) with
            | true =>
              have HK : Hid (Lx.isKw x.data.toList = true) := Lx.kw_of_hit HA.out HN.out ((kw_part x k).1 (eq_of_beq hq))
              unfold kwText at hq
              go_wp2
              go_ret
              exact ⟨ret_bool HK.out.symm, rfl⟩
            | false =>
              have HH2 : Hid (∀ i, i < k + 1 → ¬ Lx.hit (Lx.row Lx.words) x.data.toList i) := by
                intro i hi
                by_cases e : i = k
                · subst e
                  intro h
                  rw [beq_eq_false_iff_ne] at hq
                  exact hq ((kw_part x i).2 h)
                · exact HH.out i (by omega)
              clear HH
              unfold kwText at hq
              go_wp2
              go_round
              case rel => exact ⟨k + 1, by omega, by go_num, HH2⟩
              case measure => simp [intOf]; omega
          · have hb' : (372 : Int) < (k : Int) + x.size + 2 := by omega
            have HK : Hid (Lx.isKw x.data.toList = false) := Lx.no_kw fun i hi => by
              have hl := Lx.hit_len hi
              rw [lenL] at hl
              exact HH.out i (by omega) hi
            clear HH
            go_wp2
            go_ret
            exact ⟨ret_bool HK.out.symm, rfl⟩
end Go.Proofs.YtdcanjfdgfpdfaaGreatDoor.V
