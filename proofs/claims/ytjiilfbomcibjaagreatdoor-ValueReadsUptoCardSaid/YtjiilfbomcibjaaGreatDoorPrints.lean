/- The law ValuePrints returns true for any value. No condition. -/
import Derived.Test.YtjiilfbomcibjaaGreatDoorPrint
import Derived.Test.YtjiilfbomcibjaaGreatDoorCards
import Derived.Lib.ItoaLen
import Derived.Lib.ReplaceLaws
namespace Go.Proofs.YtjiilfbomcibjaaGreatDoor.valuePrints
open Go.ChangeShapes Go.WideShapes Go.ChangeAt Go.RowKit Go.Proofs.YtjiilfbomcibjaaGreatDoor.V Go.Proofs.YtjiilfbomcibjaaGreatDoor.L Go.Joins
theorem laidOut : laidOutB Tryz.prog = true := by kernel_rfl
theorem own : ownKnob Tryz.prog.godebug = none := by kernel_rfl
set_option maxHeartbeats 1000000 in
theorem walk_bad (k n : Int) (s : ByteArray) (hv : valid k n s = false) (w : World) (E : Env w) :
    Calls Tryz.prog 10 #[val k n s] w fun e w' => e = .returned (.bool true) ∧ Below w.heap.size w w' := by
  have H1 := Lib.hid (rprint_bad k n s (rvalid_is k n s false hv))
  have H2 := Lib.hid (print_bad k n s (valid_is k n s false hv))
  clear hv
  go_enter Tryz.func10, Tryz.ntmps10
  go_wp2_with fail
  refine (H1.out _).mono ?_
  rintro e w1 ⟨rfl, hb1⟩; have E1 := (E.alloc _).below hb1; obtain ⟨hc, hf⟩ := bcell hb1; have z1 : w.heap.size < w1.heap.size := Nat.lt_of_lt_of_le (by simp) hb1.size
  go_wp2_with fail
  refine (H2.out _).mono ?_
  rintro e w2 ⟨rfl, hb2⟩; have E2 := E1.below hb2
  go_wp2_with fail
  refine (awake _ (by first | exact E2 | exact E2.alloc _)).mono ?_
  rintro e wz ⟨rfl, hbz⟩
  go_wp2
  go_ret
  exact ⟨rfl, by repeat (first | exact Below.refl _ _ | (refine bel_trans ?_ (by assumption)) | apply bel_alloc | apply Below.drew | refine bel_set ?_ (by simp) _)⟩
set_option maxHeartbeats 1000000 in
theorem walk_ok (k n : Int) (s q : ByteArray) (h1 : ∀ w, Env w → Calls Tryz.prog 32 #[val k n s] w fun e w' => e = .returned (.tuple #[.string q, .int .i64 0]) ∧ Below w.heap.size w w')
    (h2 : ∀ w, Env w → Calls Tryz.prog 33 #[val k n s] w fun e w' => e = .returned (.tuple #[.string q, .int .i64 0]) ∧ Below w.heap.size w w')
    (h3 : ∀ w, Env w → Calls Tryz.prog 34 #[.string q] w fun e w' => e = .returned (.tuple #[val k n s, .int .i64 0]) ∧ Below w.heap.size w w') (w : World) (E : Env w) :
    Calls Tryz.prog 10 #[val k n s] w fun e w' => e = .returned (.bool true) ∧ Below w.heap.size w w' := by
  have H1 := Lib.hid h1
  have H2 := Lib.hid h2
  have H3 := Lib.hid h3
  have H4 := Lib.hid (fun w => (show same k n s k n s = true by simp [same]) ▸ r_Same k n s k n s w)
  clear h1 h2 h3
  go_enter Tryz.func10, Tryz.ntmps10
  go_wp2_with fail
  refine (H1.out _ (by first | exact E | exact E.alloc _ | exact (E.alloc _).alloc _)).mono ?_
  rintro e w1 ⟨rfl, hb1⟩; have E1 := (by first | exact E.below hb1 | exact (E.alloc _).below hb1 | exact ((E.alloc _).alloc _).below hb1 : Env w1); obtain ⟨hc, hf⟩ := bcell hb1; have z1 : w.heap.size < w1.heap.size := Nat.lt_of_lt_of_le (by simp) hb1.size
  go_wp2_with fail
  refine (H2.out _ E1).mono ?_
  rintro e w2 ⟨rfl, hb2⟩; have E2 := E1.below hb2; obtain ⟨hc, hf⟩ := bcell hb2; have z2 : w.heap.size < w2.heap.size := Nat.lt_of_lt_of_le z1 hb2.size
  go_wp2_with fail
  refine (H3.out _ (by first | exact E2 | exact E2.alloc _)).mono ?_
  rintro e w3 ⟨rfl, hb3⟩
  have E3 := E2.below hb3
  obtain ⟨hc, hf⟩ := bcell hb3
  have z3 : w.heap.size < w3.heap.size := Nat.lt_of_lt_of_le z2 hb3.size
  go_wp2_with fail
  refine (H4.out _).mono ?_
  rintro e w4 ⟨rfl, hb4⟩
  have E4 := (E3.alloc _).below hb4
  go_wp2_with fail
  refine (awake _ E4).mono ?_
  rintro e wz ⟨rfl, hbz⟩
  go_wp2
  go_ret
  exact ⟨rfl, by repeat (first | exact Below.refl _ _ | (refine bel_trans ?_ (by assumption)) | apply bel_alloc | apply Below.drew | refine bel_set ?_ (by simp) _)⟩
/-! ### The literals -/
theorem toList_ne (q : ByteArray) (l : List UInt8) (h : q.data.toList ≠ l) : (q.toList == l) = false := by rw [ByteArray.toList_eq]; simpa using h
theorem not_empty (q : ByteArray) (h : q.data.toList ≠ []) : q.toList.isEmpty = false := by rw [ByteArray.toList_eq]; simpa using h
theorem lit_list (s : ByteArray) : (litT s).data.toList = 39 :: (T.dbl s.data.toList ++ [39]) := rfl
theorem size_list (s : ByteArray) : s.size = s.data.toList.length := by simp
theorem back (q : ByteArray) (l : List UInt8) (h : q.data.toList = l) : (⟨l.toArray⟩ : ByteArray) = q := bytes_inj (by rw [h])
/-- The text between the bytes '. -/
def mid (s : ByteArray) : ByteArray := ⟨(T.dbl s.data.toList).toArray⟩
theorem mid_size (s : ByteArray) (hs : s.size ≤ 100) : (mid s).size ≤ 200 := by
  have h := T.dbl_length s.data.toList
  rw [size_list] at hs ⊢
  show (T.dbl s.data.toList).length ≤ 200
  omega
theorem lit_size (s : ByteArray) (hs : s.size ≤ 100) : 1 < (litT s).size ∧ (litT s).size ≤ 202 := by
  have h := T.dbl_length s.data.toList
  rw [size_list] at hs
  have e : (litT s).size = (T.dbl s.data.toList).length + 2 := by rw [size_list, lit_list]; simp
  omega
theorem rep_room (s old new : ByteArray) (h1 : 1 ≤ old.size) (hs : s.size ≤ 1000) (hn : new.size ≤ 1000) : s.size + Lib.countB s old * new.size ≤ 140737488355328 := by
  have h := Lib.countB_mul_le old h1 s.size s (Nat.le_refl _)
  have h2 : Lib.countB s old ≤ 1000 := by
    have : Lib.countB s old * 1 ≤ Lib.countB s old * old.size := Nat.mul_le_mul_left _ h1
    omega
  have h3 : Lib.countB s old * new.size ≤ 1000 * 1000 := Nat.mul_le_mul h2 hn
  omega
theorem cut_no (q : ByteArray) (l : List UInt8) (hq : q.data.toList = 39 :: l) (w : World) : Calls Tryz.prog 72 #[.string q, .string ⟨#[45]⟩] w fun e w' => e = .returned (.tuple #[.string q, .bool false]) ∧ w = w' := by
  have h := l_CutPrefix q ⟨#[45]⟩ w
  have p : Lib.hasPrefix (39 :: l) [45] = false := by simp [Lib.hasPrefix, List.isPrefixOf]
  have t : Lib.trimPrefix (39 :: l) [45] = 39 :: l := by rw [Lib.trimPrefix, p]; rfl
  rw [hq, show (⟨#[45]⟩ : ByteArray).data.toList = [45] from rfl, p, t] at h
  rwa [back q _ hq] at h
theorem cut_start (q r : ByteArray) (hq : q.data.toList = 39 :: r.data.toList) (w : World) : Calls Tryz.prog 72 #[.string q, .string ⟨#[39]⟩] w fun e w' => e = .returned (.tuple #[.string r, .bool true]) ∧ w = w' := by
  have h := l_CutPrefix q ⟨#[39]⟩ w
  have p : Lib.hasPrefix (39 :: r.data.toList) [39] = true := by simp [Lib.hasPrefix, List.isPrefixOf]
  have t : Lib.trimPrefix (39 :: r.data.toList) [39] = r.data.toList := by rw [Lib.trimPrefix, p]; rfl
  rw [hq, show (⟨#[39]⟩ : ByteArray).data.toList = [39] from rfl, p, t] at h
  rwa [back r _ rfl] at h
theorem trim_no (q : ByteArray) (m : List UInt8) (hq : q.data.toList = 39 :: (m ++ [39])) (hz : q.size ≤ 9223372036854775807) (w : World) :
    Calls Tryz.prog 73 #[.string q, .string ⟨#[48, 49, 50, 51, 52, 53, 54, 55, 56, 57]⟩] w fun e w' => e = .returned (.string q) ∧ Below w.heap.size w w' := by
  have h := l_Trim q hz w
  rw [hq, T.trim_quote] at h
  rwa [back q _ hq] at h
theorem rep_is (i old new o : ByteArray) (ho : Lib.replaceAll i.data.toList old.data.toList new.data.toList = o.data.toList) (h1 : 1 ≤ old.size) (hi : i.size ≤ 1000) (hn : new.size ≤ 1000) (w : World) (E : Env w) :
    Calls Tryz.prog 52 #[.string i, .string old, .string new] w fun e w' => e = .returned (.string o) ∧ Below w.heap.size w w' := by
  have h := l_ReplaceAll i old new w E (by omega) h1 (rep_room _ _ _ h1 hi hn)
  rw [ho] at h
  rwa [back o _ rfl] at h
theorem con_no (g : ByteArray) (h : Lib.indexByte g.data.toList 39 = -1) (w : World) : Calls Tryz.prog 76 #[.string g, .string ⟨#[39]⟩] w fun e w' => e = .returned (.bool false) ∧ w = w' := by
  have k := l_Contains g 39 w
  rwa [h, show decide ((0 : Int) ≤ -1) = false by decide] at k
theorem cut_end (r i : ByteArray) (hl : r.data.toList = i.data.toList ++ [39]) (hr : r.size ≤ 9223372036854775807) (w : World) :
    Calls Tryz.prog 75 #[.string r, .string ⟨#[39]⟩] w fun e w' => e = .returned (.tuple #[.string i, .bool true]) ∧ w = w' := by
  have h := l_CutSuffix r ⟨#[39]⟩ w hr
  have p : Lib.hasSuffix (i.data.toList ++ [39]) [39] = true := by simp [Lib.hasSuffix, List.isSuffixOf, List.isPrefixOf]
  have q : Lib.trimSuffix (i.data.toList ++ [39]) [39] = i.data.toList := by
    rw [Lib.trimSuffix, p, if_pos rfl]
    simp
  rw [hl, show (⟨#[39]⟩ : ByteArray).data.toList = [39] from rfl, p, q] at h
  rwa [back i _ rfl] at h
theorem text_print_at (s i q : ByteArray) (hi : i.data.toList = T.dbl s.data.toList) (hq : q.data.toList = 39 :: (i.data.toList ++ [39])) (hs : s.size ≤ 100) (zi : i.size ≤ 200) (w : World) (E : Env w) :
    Calls Tryz.prog 33 #[val 2 0 s] w fun e w' => e = .returned (.tuple #[.string q, .int .i64 0]) ∧ Below w.heap.size w w' := by
  have h := print_text s i hs zi (rep_is s ⟨#[39]⟩ ⟨#[39, 39]⟩ i (by rw [hi]; exact T.rep_dbl _) (by decide) (by omega) (by decide)) w E
  have e : (⟨#[39]⟩ ++ i ++ ⟨#[39]⟩ : ByteArray) = q := bytes_inj (by
    rw [bytes_append, bytes_append, hq]
    rfl)
  rwa [e] at h
theorem text_read_at (s i r q g : ByteArray) (hi : i.data.toList = T.dbl s.data.toList) (hr : r.data.toList = i.data.toList ++ [39]) (hq : q.data.toList = 39 :: r.data.toList)
    (hg : g.data.toList = Lib.replaceAll (T.dbl s.data.toList) [39, 39] []) (hs : s.size ≤ 100) (zi : i.size ≤ 200) (zr : r.size ≤ 201) (zq : q.size ≤ 202) (zq' : 1 < q.size) (w : World) (E : Env w) :
    Calls Tryz.prog 34 #[.string q] w fun e w' => e = .returned (.tuple #[val 2 0 s, .int .i64 0]) ∧ Below w.heap.size w w' := by
  have hq2 : q.data.toList = 39 :: (i.data.toList ++ [39]) := by rw [hq, hr]
  have ne : ∀ (c : UInt8) (l : List UInt8), c ≠ 39 → (q.toList == c :: l) = false := fun c l hc => toList_ne _ _ (by rw [hq]; exact fun e => hc (List.cons.inj e).1.symm)
  have i0 := isInt_quote q (cut_no q _ hq) (trim_no q _ hq2 (by omega)) zq' (ne 48 [] (by decide)) (not_empty _ (by rw [hq]; simp))
  have q3 := rep_is i ⟨#[39, 39]⟩ ⟨#[]⟩ g (by rw [hg, hi]) (by decide) (by omega) (by decide)
  have q5 := rep_is i ⟨#[39, 39]⟩ ⟨#[39]⟩ s (by rw [hi]; exact T.rep_undbl _) (by decide) (by omega) (by decide)
  have q4 := con_no g (by rw [hg]; exact T.rep_gone _)
  have tx : ∀ w, Calls Tryz.prog 56 #[.string s] w fun e w' => e = .returned (.tuple #[val 2 0 s, .int .i64 0]) ∧ Below w.heap.size w w' := fun w => by
    have h := c_Text s w
    rwa [textOf, if_neg (by omega)] at h
  exact read_text q i s i0 (quoted_of q r i g (cut_start q r hq) (cut_end r i hr (by omega)) q3 q4) q5 tx (ne 78 _ (by decide)) (ne 84 _ (by decide)) (ne 70 _ (by decide)) w E
theorem text_print (s : ByteArray) (hs : s.size ≤ 100) (w : World) (E : Env w) : Calls Tryz.prog 33 #[val 2 0 s] w fun e w' => e = .returned (.tuple #[.string (litT s), .int .i64 0]) ∧ Below w.heap.size w w' :=
  text_print_at s (mid s) (litT s) rfl rfl hs (mid_size s hs) w E
theorem text_read (s : ByteArray) (hs : s.size ≤ 100) (w : World) (E : Env w) : Calls Tryz.prog 34 #[.string (litT s)] w fun e w' => e = .returned (.tuple #[val 2 0 s, .int .i64 0]) ∧ Below w.heap.size w w' := by
  have z := lit_size s hs
  have zm := mid_size s hs
  have zr : (mid s ++ ⟨#[39]⟩).size ≤ 201 := by
    have h1 := ByteArray.size_append (a := mid s) (b := ⟨#[39]⟩)
    have h2 : (⟨#[39]⟩ : ByteArray).size = 1 := rfl
    omega
  exact text_read_at s (mid s) (mid s ++ ⟨#[39]⟩) (litT s) ⟨(Lib.replaceAll (T.dbl s.data.toList) [39, 39] []).toArray⟩ rfl (bytes_append _ _) (by rw [bytes_append]; rfl) rfl hs zm zr z.2 z.1 w E
/-! ### Integers -/
theorem itoa_ne (n : Int) (c : UInt8) (l : List UInt8) (h1 : c.toNat ≠ 45) (h2 : ¬ (48 ≤ c.toNat ∧ c.toNat ≤ 57)) : Lib.itoa n ≠ c :: l := by
  intro e
  unfold Lib.itoa at e
  split at e
  · obtain ⟨rfl, -⟩ := List.cons.inj e
    exact h1 rfl
  · obtain ⟨d, t, e2, a1, a2, _⟩ := T.digits_head n.toNat n.toNat (Nat.le_refl _)
    rw [e2] at e
    obtain ⟨rfl, -⟩ := List.cons.inj e
    exact h2 ⟨a1, a2⟩
theorem digits_size (u : Nat) : 0 < (⟨(Lib.decDigits u).toArray⟩ : ByteArray).size := by
  obtain ⟨d, t, e, _⟩ := T.digits_head u u (Nat.le_refl _)
  rw [size_list]
  show 0 < (Lib.decDigits u).length
  rw [e]
  simp
theorem dig_len (u : Nat) (hu : u ≤ 9223372036854775808) : (Lib.decDigits u).length ≤ 21 := by
  have h := Lib.itoa_length_le (-(u : Int)) (by omega) (by omega)
  unfold Lib.itoa at h
  by_cases h0 : -(u : Int) < 0
  · rw [if_pos h0, show (-(u : Int)).natAbs = u by omega] at h
    simp only [List.length_cons] at h
    omega
  · rw [if_neg h0, show (-(u : Int)).toNat = u by omega] at h
    exact h
/-- The digits as a text. -/
def digT (u : Nat) : ByteArray := ⟨(Lib.decDigits u).toArray⟩
theorem digT_size (u : Nat) (hu : u ≤ 9223372036854775808) : 0 < (digT u).size ∧ (digT u).size ≤ 21 := by
  have h1 := digits_size u
  have h2 := dig_len u hu
  refine ⟨h1, ?_⟩
  rw [size_list]
  exact h2
theorem trim_dig (u : Nat) (hu : u ≤ 9223372036854775808) (w : World) : Calls Tryz.prog 73 #[.string (digT u), .string ⟨#[48, 49, 50, 51, 52, 53, 54, 55, 56, 57]⟩] w fun e w' => e = .returned (.string ⟨#[]⟩) ∧ Below w.heap.size w w' := by
  have z := digT_size u hu
  refine (l_Trim (digT u) (by omega) w).mono fun e w' h => ?_
  refine ⟨h.1.trans ?_, h.2⟩
  show Ending.returned (.string ⟨(Lib.trimS (Lib.decDigits u) [48, 49, 50, 51, 52, 53, 54, 55, 56, 57]).toArray⟩) = _
  rw [T.trim_digits _ (T.digits_all u u (Nat.le_refl _))]
theorem dig_facts (u : Nat) (h1 : 1 ≤ u) (h : 0 < (digT u).size) : ((digT u).toList == [48]) = false ∧ (digT u).toList.isEmpty = false ∧ ¬ (((digT u)[0].toNat : Int) = 48) ∧ Lib.hasPrefix (Lib.decDigits u) [45] = false := by
  obtain ⟨d, t, e, a1, a2, a3, _⟩ := T.digits_head u u (Nat.le_refl _)
  have hl : (digT u).data.toList = d :: t := e
  have hd : (digT u)[0] = d := by
    have h2 : (digT u).data.toList[0]'(by rw [hl]; simp) = d := by simp only [hl]; rfl
    exact h2
  refine ⟨toList_ne _ _ ?_, not_empty _ ?_, ?_, ?_⟩
  · rw [hl]
    intro e2
    obtain ⟨rfl, -⟩ := List.cons.inj e2
    exact a3 h1 rfl
  · rw [hl]; simp
  · rw [hd]
    have := a3 h1
    omega
  · rw [e]
    simp only [Lib.hasPrefix, List.isPrefixOf, Bool.and_eq_false_iff, beq_eq_false_iff_ne]
    refine .inl fun e2 => ?_
    subst e2
    exact absurd a1 (by decide)
/-- The literal of an integer. -/
def litI (n : Int) : ByteArray := ⟨(Lib.itoa n).toArray⟩
theorem int_is (n : Int) (h : Fits n) (w : World) : Calls Tryz.prog 53 #[.string (litI n)] w fun e w' => e = .returned (.bool true) ∧ Below w.heap.size w w' := by
  unfold Fits at h
  by_cases hz : n = 0
  · subst hz
    rw [show litI 0 = ⟨#[48]⟩ from bytes_inj (by show Lib.itoa 0 = [48]; decide +kernel)]
    exact isInt_zero w
  by_cases hn : n < 0
  · have z := digT_size n.natAbs (by omega)
    have f := dig_facts n.natAbs (by omega) z.1
    have el : (litI n).data.toList = 45 :: Lib.decDigits n.natAbs := by show Lib.itoa n = _; rw [Lib.itoa, if_pos hn]
    refine isInt_num (litI n) (digT n.natAbs) true (fun w => ?_) (trim_dig n.natAbs (by omega)) z.1 f.1 f.2.1 f.2.2.1 w
    refine (l_CutPrefix (litI n) ⟨#[45]⟩ w).mono fun e w' h => ?_
    refine ⟨h.1.trans ?_, h.2⟩
    have p : Lib.hasPrefix (litI n).data.toList [45] = true := by rw [el]; simp [Lib.hasPrefix, List.isPrefixOf]
    show Ending.returned (.tuple #[.string ⟨(Lib.trimPrefix (litI n).data.toList [45]).toArray⟩, .bool (Lib.hasPrefix (litI n).data.toList [45])]) = _
    rw [Lib.trimPrefix, p, if_pos rfl, el]
    rfl
  · have z := digT_size n.toNat (by omega)
    have f := dig_facts n.toNat (by omega) z.1
    have eq : litI n = digT n.toNat := bytes_inj (by show Lib.itoa n = _; rw [Lib.itoa, if_neg hn]; rfl)
    rw [eq]
    refine isInt_num (digT n.toNat) (digT n.toNat) false (fun w => ?_) (trim_dig n.toNat (by omega)) z.1 f.1 f.2.1 f.2.2.1 w
    refine (l_CutPrefix (digT n.toNat) ⟨#[45]⟩ w).mono fun e w' h => ?_
    refine ⟨h.1.trans ?_, h.2⟩
    show Ending.returned (.tuple #[.string ⟨(Lib.trimPrefix (Lib.decDigits n.toNat) [45]).toArray⟩, .bool (Lib.hasPrefix (Lib.decDigits n.toNat) [45])]) = _
    rw [Lib.trimPrefix, f.2.2.2]
    rfl
theorem int_read (n : Int) (h : Fits n) (w : World) : Calls Tryz.prog 34 #[.string (litI n)] w fun e w' => e = .returned (.tuple #[val 1 n ⟨#[]⟩, .int .i64 0]) ∧ Below w.heap.size w w' := by
  have hl : (litI n).data.toList = Lib.itoa n := rfl
  have hz : (litI n).size ≤ 9223372036854775806 := by
    have := Lib.itoa_length_le n h.1 h.2
    rw [size_list, hl]
    omega
  exact read_int (litI n) n (int_is n h) hz (T.parse_itoa n h.1 h.2) (toList_ne _ _ (by rw [hl]; exact itoa_ne n _ _ (by decide) (by decide))) (toList_ne _ _ (by rw [hl]; exact itoa_ne n _ _ (by decide) (by decide))) (toList_ne _ _ (by rw [hl]; exact itoa_ne n _ _ (by decide) (by decide))) w
theorem walk (k n : Int) (s : ByteArray) (hn : Fits n) (w : World) (E : Env w) : Calls Tryz.prog 10 #[val k n s] w fun e w' => e = .returned (.bool true) ∧ Below w.heap.size w w' := by
  cases hv : valid k n s with
  | false => exact walk_bad k n s hv w E
  | true =>
    have es : ∀ t : ByteArray, t.toList.isEmpty = true → t = ⟨#[]⟩ := fun t h => by
      rw [List.isEmpty_iff, ByteArray.toList_eq] at h
      exact bytes_inj h
    unfold valid at hv
    by_cases k0 : k = 0
    · subst k0
      simp only [if_true, Bool.and_eq_true, beq_iff_eq] at hv
      obtain ⟨rfl, hs⟩ := hv
      rw [es s hs]
      exact walk_ok 0 0 ⟨#[]⟩ _ (fun w _ => rprint_null w) (fun w _ => print_null w) (fun w _ => read_null w) w E
    by_cases k1 : k = 1
    · subst k1
      rw [if_neg (by omega), if_pos rfl] at hv
      rw [es s hv]
      exact walk_ok 1 n ⟨#[]⟩ (litI n) (rprint_int n hn) (p_int n hn) (fun w _ => int_read n hn w) w E
    by_cases k2 : k = 2
    · subst k2
      rw [if_neg (by omega), if_neg (by omega), if_pos rfl, Bool.and_eq_true, beq_iff_eq, decide_eq_true_eq] at hv
      obtain ⟨rfl, hs⟩ := hv
      exact walk_ok 2 0 s (litT s) (fun w _ => rprint_text s hs w) (text_print s hs) (text_read s hs) w E
    by_cases k3 : k = 3
    · subst k3
      rw [if_neg (by omega), if_neg (by omega), if_neg (by omega), if_pos rfl, Bool.and_eq_true, Bool.or_eq_true, beq_iff_eq, beq_iff_eq] at hv
      obtain ⟨hn, hs⟩ := hv
      rw [es s hs]
      rcases hn with rfl | rfl
      · exact walk_ok 3 0 ⟨#[]⟩ _ (fun w _ => rprint_false w) (fun w _ => print_false w) (fun w _ => read_false w) w E
      · exact walk_ok 3 1 ⟨#[]⟩ _ (fun w _ => rprint_true w) (fun w _ => print_true w) (fun w _ => read_true w) w E
    rw [if_neg k0, if_neg k1, if_neg k2, if_neg k3] at hv
    cases hv
set_option maxRecDepth 100000 in
theorem lifted (os : Os) (started : os.Started) (H : Type) (enc : TypeId × Value → H) :
    ReturnsInHanded {} Tryz.checked os 10 .any (fun w args => (Rows.valuePrintsSpec.pre enc Tryz.prog Tryz.f10 Rows.valuePrintsRow.domain false w args ∧ laidMetH Tryz.prog laidList w) ∧ sizedMet enc Tryz.prog Tryz.f10 (OpenSpec.ofChange Rows.valuePrintsSpec) false w args)
      (Rows.valuePrintsSpec.post enc Tryz.prog Tryz.f10 false true false false) := by
  refine returnsInHanded_of_change_all (C := Tryz.checked) (X := fun w _ => laidMetH Tryz.prog laidList w) (fun _ _ _ hh h => h.of_heap hh) own started (by kernel_rfl) Tryz.func10
    (ChangeSpec.witness_shaped (enc := enc) (C := Tryz.checked) (os := os) (X := fun w _ => laidMetH Tryz.prog laidList w) false (World.laidAll Tryz.prog os laidList) #[val 0 0 ⟨#[]⟩] 8 (World.laidAll_os _ _ _)
      (World.shaped_of_ZipB (by kernel_rfl) (by kernel_rfl)) (by kernel_rfl) (by kernel_rfl) (by kernel_rfl)
      (by rw [MakeChecks.laidMetH_plain _ _ _ plainList]; exact laidMet_laidAll _ (by kernel_rfl) (by kernel_rfl))) ?_
  intro W base args ds gs before hval0 hW hcnd _ hL hS _
  have E : Env W := env_of hL hS
  have hval : ∀ (j : Nat) t v, Tryz.f10.params[j]? = some t → args[j]? = some v → Value.okWide Tryz.prog W .any base t v := hval0
  have hW' := hW
  obtain ⟨p, q, hA0, hV, rfl, hfz, hnd⟩ := hW
  have hA : DataW.TrodAll enc Tryz.prog W 0 (fun _ => true) true Tryz.f10.params.toList args.toList ds p := hA0
  rw [Tryz.params10] at hA hval
  obtain ⟨v0, vs0, d0, ds0, p0, q0, hargs, rfl, rfl, h0, r0⟩ := trodAll_cons hA
  obtain ⟨rfl, rfl, rfl⟩ := trodAll_nil r0
  obtain rfl : args = #[v0] := by cases args; simp_all
  obtain ⟨rfl, rfl⟩ := trodVars_none hV
  obtain ⟨k0, n0, s0, rfl, rfl, wk0, wn0, hs0⟩ := open_val (hval 0 24 v0 rfl rfl) h0
  refine (walk k0 n0 s0 (bounds_i64 wn0) W E).mono fun e W' ⟨he, hb⟩ => ?_
  subst he
  exact ⟨_, rfl, law_post laidOut (by kernel_rfl) rfl Tryz.underlying4 rfl rfl hW' hb⟩

theorem over : Rows.valuePrintsRow.holds Tryz.pinned (OpenSpec.ofChange Rows.valuePrintsSpec) :=
  OpenClaim.holds_of_wide 10 Tryz.f10 rfl rfl rfl rfl rfl rfl rfl ⟨rfl, rfl, rfl, rfl, rfl⟩ rfl rfl rfl rfl rfl (by kernel_rfl) Tryz.func10 (by kernel_rfl)
    (of_decide_eq_true (by kernel_rfl)) (by unfold Func.isWrapper; first | (rw [if_pos (by decide +kernel)]; kernel_rfl) | (rw [if_neg (by decide +kernel)]; exact ⟨rfl, rfl⟩))
    (fun os started H enc _ => lifted os started H enc)
set_option maxRecDepth 100000 in
theorem proved : Rows.ValuePrintsCardSaid :=
  Claim7.holds_tied_plain_at .later [] [.data, .data, .data, .data, .sentinel, .sentinel, .pinned] true (true, "dc76aaaa3d15237a26b491520c5f0f51c4edc92f79f60971654b9608da9ea080") true over (fun _ h => by cases h) (by kernel_rfl) (fun _ h => by cases h) valuePrints_row_tie rfl ⟨rfl, rfl⟩ (by kernel_rfl) rfl
    (fun f fn hf hfn => by
      obtain rfl : f = 10 := Option.some.inj ((show Tryz.prog.funcNamed "jointer/jointerlaw01.ValuePrints" = some 10 by kernel_rfl).symm.trans hf) |>.symm
      obtain rfl : fn = Tryz.f10 := (Option.some.inj (Tryz.func10.symm.trans hfn)).symm
      exact ⟨by kernel_rfl, fun j t ht => by
        rw [Tryz.params10] at ht
        have hm : t ∈ [24] := by simpa using Array.mem_of_getElem? ht
        have hall : ([24].all fun u => !Tryz.prog.wantsStandIn u) = true := by kernel_rfl
        exact (show Tryz.prog.wantsStandIn t = false by simpa using List.all_eq_true.1 hall t hm)⟩)
    (by kernel_rfl)
end Go.Proofs.YtjiilfbomcibjaaGreatDoor.valuePrints
