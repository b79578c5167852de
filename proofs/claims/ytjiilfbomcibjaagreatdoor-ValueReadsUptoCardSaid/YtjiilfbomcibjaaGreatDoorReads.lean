/- The law ValueReads returns true for any text of the bulk that the narrower row admits. -/
import Derived.Test.YtjiilfbomcibjaaGreatDoorReadC
import Derived.Test.YtjiilfbomcibjaaGreatDoorPrints
import Derived.Test.YtjiilfbomcibjaaGreatDoorCards
import Derived.JoinedCond
namespace Go.Proofs.YtjiilfbomcibjaaGreatDoor.valueReads
open Go.ChangeShapes Go.WideShapes Go.ChangeAt Go.RowKit Go.Proofs.YtjiilfbomcibjaaGreatDoor.V Go.Proofs.YtjiilfbomcibjaaGreatDoor.L Go.Joins
open Go.ChangeMaps (open_string)
open Go.Proofs.YtjiilfbomcibjaaGreatDoor.valuePrints (toList_ne not_empty size_list back litI int_read text_print cut_no cut_start cut_end rep_is con_no itoa_ne)
theorem laidOut : laidOutB Tryz.prog = true := by kernel_rfl
theorem own : ownKnob Tryz.prog.godebug = none := by kernel_rfl
/-- A text whose list begins so. -/
theorem of_cons (d : ByteArray) (c : UInt8) (t : List UInt8) (h : d.data.toList = c :: t) : ∃ h0 : 0 < d.size, d[0] = c := by
  have h0 : 0 < d.size := by rw [size_list, h]; simp
  refine ⟨h0, ?_⟩
  have := list_head d h0
  rw [h] at this
  exact (List.cons.inj this).1.symm
theorem c_isInteger (q : ByteArray) (hq : q.size ≤ 9223372036854775807) (w : World) : Calls Tryz.prog 53 #[.string q] w fun e w' => e = .returned (.bool (T.isNum q.data.toList)) ∧ Below w.heap.size w w' := by
  obtain ⟨d, hd⟩ : ∃ d : ByteArray, d.data.toList = T.dig q.data.toList := ⟨⟨(T.dig q.data.toList).toArray⟩, rfl⟩
  have hcut : ∀ w, Calls Tryz.prog 72 #[.string q, .string ⟨#[45]⟩] w fun e w' => e = .returned (.tuple #[.string d, .bool (T.sgn q.data.toList)]) ∧ w = w' := fun w => by
    have h := l_CutPrefix q ⟨#[45]⟩ w
    have e1 : Lib.trimPrefix q.data.toList (⟨#[45]⟩ : ByteArray).data.toList = T.dig q.data.toList := rfl
    have e2 : Lib.hasPrefix q.data.toList (⟨#[45]⟩ : ByteArray).data.toList = T.sgn q.data.toList := rfl
    rw [e1, e2, back d _ hd] at h
    exact h
  have hds : d.size ≤ 9223372036854775807 := by
    rw [size_list, hd]
    rw [size_list] at hq
    have : (T.dig q.data.toList).length ≤ q.data.toList.length := by unfold T.dig; split <;> simp
    omega
  by_cases hz : T.dig q.data.toList = [48]
  · have e : d = ⟨#[48]⟩ := bytes_inj (by rw [hd, hz])
    subst e
    rw [show T.isNum q.data.toList = !T.sgn q.data.toList by unfold T.isNum; rw [if_pos hz]]
    exact isInt_z q _ hcut w
  cases hl : T.dig q.data.toList with
  | nil =>
    have e : d = ⟨#[]⟩ := bytes_inj (by rw [hd, hl])
    subst e
    rw [num_empty hl]
    exact isInt_empty q _ hcut w
  | cons c t =>
    obtain ⟨h0, hc⟩ := of_cons d c t (hd.trans hl)
    have n0 := (ne_list d h0).1
    have n1 : (d.toList == [48]) = false := toList_ne _ _ (by rw [hd]; exact hz)
    by_cases h48 : c = 48
    · rw [num_lead (by rw [hl, h48]; rfl) (.inr hz)]
      exact isInt_lead q d _ hcut h0 n1 n0 (by rw [hc, h48]; rfl) w
    · have hb := num_all (l := q.data.toList) (by rw [hl]; simp) (.inl (by rw [hl]; exact fun e => h48 (Option.some.inj e)))
      refine isInt_tail q d ⟨(Lib.trimS d.data.toList [48, 49, 50, 51, 52, 53, 54, 55, 56, 57]).toArray⟩ _ _ hcut (l_Trim d hds) h0 n1 n0 ?_ ?_ w
      · rw [hc]
        intro e
        exact h48 (UInt8.toNat_inj.1 (by show c.toNat = 48; omega))
      · rw [hb, ByteArray.toList_eq]
        show (Lib.trimS d.data.toList [48, 49, 50, 51, 52, 53, 54, 55, 56, 57]).isEmpty = _
        rw [T.trim_is, hd]
theorem r_number (q : ByteArray) (hq : q.size ≤ 140737488351232) (hn : T.isNum q.data.toList = true) (w : World) : Calls Tryz.prog 59 #[.string q] w fun e w' => e = .returned (exact (T.num q.data.toList)) ∧ Below w.heap.size w w' := by
  obtain ⟨g, g0⟩ := T.isNum_digs hn
  have h : 0 < q.size := by
    rw [size_list]
    cases e : q.data.toList with
    | nil => rw [e] at g0; exact absurd rfl g0
    | cons => simp
  by_cases h45 : (q[0].toNat : Int) = 45
  · obtain ⟨g1, g2⟩ := dig_minus q h h45
    obtain ⟨d, hd⟩ : ∃ d, q.extract 1 q.size = d := ⟨_, rfl⟩
    have hdl : d.data.toList = T.dig q.data.toList := by rw [← hd, ext_list, g2]
    have hz : d.size = q.size - 1 := by rw [← hd, ByteArray.size_extract]; omega
    have k := number_minus q d hd hq h h45 hz (by rw [hdl]; exact g) w
    rw [hdl] at k
    rwa [show T.num q.data.toList = -(T.dv 0 (T.dig q.data.toList) : Int) by rw [T.num, g1]; rfl]
  · obtain ⟨g1, g2⟩ := dig_plain q h h45
    have k := number_plus q hq h h45 (by rw [← g2]; exact g) w
    rwa [show T.num q.data.toList = (T.dv 0 q.data.toList : Int) by rw [T.num, g1, g2]; rfl]
/-- Both readers answer the same: an error, or a value whose literal is the text. -/
def Both (q : ByteArray) : Prop := ∃ (a b : Int) (c : ByteArray) (x : Int),
  (∀ w, Env w → Calls Tryz.prog 35 #[.string q] w fun e w' => e = .returned (.tuple #[val a b c, .int .i64 x]) ∧ Below w.heap.size w w') ∧
  (∀ w, Env w → Calls Tryz.prog 34 #[.string q] w fun e w' => e = .returned (.tuple #[val a b c, .int .i64 x]) ∧ Below w.heap.size w w') ∧
  (x ≠ 0 ∨ (x = 0 ∧ ∀ w, Env w → Calls Tryz.prog 33 #[val a b c] w fun e w' => e = .returned (.tuple #[.string q, .int .i64 0]) ∧ Below w.heap.size w w'))
theorem both_num (q : ByteArray) (hq : q.size ≤ 1048576) (hn : T.isNum q.data.toList = true) (n1 : (q.toList == [78, 85, 76, 76]) = false) (n2 : (q.toList == [84, 82, 85, 69]) = false) (n3 : (q.toList == [70, 65, 76, 83, 69]) = false) : Both q := by
  have i1 : ∀ w, Calls Tryz.prog 58 #[.string q] w fun e w' => e = .returned (.bool true) ∧ Below w.heap.size w w' := fun w => hn ▸ r_isNumber q (by omega) w
  have i2 : ∀ w, Calls Tryz.prog 53 #[.string q] w fun e w' => e = .returned (.bool true) ∧ Below w.heap.size w w' := fun w => hn ▸ c_isInteger q (by omega) w
  have p := T.parse_num hn
  by_cases hf : Fits (T.num q.data.toList)
  · rw [if_pos (show _ ∧ _ from hf)] at p
    refine ⟨1, T.num q.data.toList, ⟨#[]⟩, 0, fun w _ => rread_int q _ i1 (fun w => exact_in _ hf ▸ r_number q (by omega) hn w) n1 n2 n3 w, fun w E => read_any_int q _ _ _ _ i2 (fun w _ => readInt q _ (by omega) p w) n1 n2 n3 w E, .inr ⟨rfl, fun w E => ?_⟩⟩
    have h := p_int _ hf w E
    rwa [T.itoa_num hn, back q _ rfl] at h
  · rw [if_neg (show ¬ (_ ∧ _) from hf)] at p
    exact ⟨0, 0, ⟨#[]⟩, 4, fun w _ => rread_over q i1 (fun w => exact_out _ hf ▸ r_number q (by omega) hn w) n1 n2 n3 w, fun w E => read_any_int q _ _ _ _ i2 (readInt_over q (by omega) p) n1 n2 n3 w E, .inl (by decide)⟩
/-! ### Texts that are no numbers -/
theorem v_open (q : ByteArray) (hq : q.size ≤ 1048576) (h : Lib.hasPrefix q.data.toList [39] = false) (w : World) : Calls Tryz.prog 55 #[.string q] w fun e w' => e = .returned (.tuple #[.string ⟨#[]⟩, .bool false]) ∧ Below w.heap.size w w' := by
  refine quoted_open q q ⟨(Lib.trimSuffix q.data.toList [39]).toArray⟩ (Lib.hasSuffix q.data.toList [39]) (fun w => ?_) (fun w => l_CutSuffix q ⟨#[39]⟩ w (by omega)) w
  have k := l_CutPrefix q ⟨#[39]⟩ w
  have t : Lib.trimPrefix q.data.toList [39] = q.data.toList := by rw [Lib.trimPrefix, h]; rfl
  rw [show (⟨#[39]⟩ : ByteArray).data.toList = [39] from rfl, h, t] at k
  rwa [back q _ rfl] at k
theorem v_shut (q r : ByteArray) (hr : r.size ≤ 1048576) (h : q.data.toList = 39 :: r.data.toList) (h2 : Lib.hasSuffix r.data.toList [39] = false) (w : World) : Calls Tryz.prog 55 #[.string q] w fun e w' => e = .returned (.tuple #[.string ⟨#[]⟩, .bool false]) ∧ Below w.heap.size w w' := by
  refine quoted_shut q r ⟨(Lib.trimSuffix r.data.toList [39]).toArray⟩ (cut_start q r h) (fun w => ?_) w
  have k := l_CutSuffix r ⟨#[39]⟩ w (by omega)
  rw [show (⟨#[39]⟩ : ByteArray).data.toList = [39] from rfl, h2] at k
  exact k
theorem con_yes (g : ByteArray) (h : 0 ≤ Lib.indexByte g.data.toList 39) (w : World) : Calls Tryz.prog 76 #[.string g, .string ⟨#[39]⟩] w fun e w' => e = .returned (.bool true) ∧ w = w' := by
  have k := l_Contains g 39 w
  rwa [decide_eq_true h] at k
theorem rep_big (i old new o : ByteArray) (ho : Lib.replaceAll i.data.toList old.data.toList new.data.toList = o.data.toList) (h1 : 1 ≤ old.size) (hi : i.size ≤ 1048576) (hn : new.size ≤ 2) (w : World) (E : Env w) :
    Calls Tryz.prog 52 #[.string i, .string old, .string new] w fun e w' => e = .returned (.string o) ∧ Below w.heap.size w w' := by
  have room : i.size + Lib.countB i old * new.size ≤ 140737488355328 := by
    have h := Lib.countB_mul_le old h1 i.size i (Nat.le_refl _)
    have h2 : Lib.countB i old ≤ 1048576 := by
      have : Lib.countB i old * 1 ≤ Lib.countB i old * old.size := Nat.mul_le_mul_left _ h1
      omega
    have h3 : Lib.countB i old * new.size ≤ 1048576 * 2 := Nat.mul_le_mul h2 hn
    omega
  have h := l_ReplaceAll i old new w E (by omega) h1 room
  rw [ho] at h
  rwa [back o _ rfl] at h
theorem last_of (q : ByteArray) (m : List UInt8) (z : UInt8) (h : q.data.toList = 39 :: (m ++ [z])) : ∃ h0 : 2 ≤ q.size, q[q.size - 1]'(by omega) = z ∧ q[0]'(by omega) = 39 ∧ from' q 1 = m := by
  have hz : q.size = m.length + 2 := by rw [size_list, h]; simp
  have h0 : 2 ≤ q.size := by omega
  refine ⟨h0, ?_, ?_, ?_⟩
  · have e : q.data.toList[q.size - 1]? = some z := by
      rw [h, hz]
      simp
    have e2 : q.data.toList[q.size - 1]? = some (q[q.size - 1]'(by omega)) := by
      rw [List.getElem?_eq_getElem (by simp; omega)]
      rfl
    rw [e2] at e
    exact Option.some.inj e
  · obtain ⟨_, e⟩ := of_cons q 39 _ h
    exact e
  · unfold from'
    rw [h, hz]
    simp
theorem both_text (q : ByteArray) (hq : q.size ≤ 1048576) (hn : T.isNum q.data.toList = false) (n1 : (q.toList == [78, 85, 76, 76]) = false) (n2 : (q.toList == [84, 82, 85, 69]) = false) (n3 : (q.toList == [70, 65, 76, 83, 69]) = false) : Both q := by
  have i1 : ∀ w, Calls Tryz.prog 58 #[.string q] w fun e w' => e = .returned (.bool false) ∧ Below w.heap.size w w' := fun w => hn ▸ r_isNumber q (by omega) w
  have i2 : ∀ w, Calls Tryz.prog 53 #[.string q] w fun e w' => e = .returned (.bool false) ∧ Below w.heap.size w w' := fun w => hn ▸ c_isInteger q (by omega) w
  have bad : (∀ w, Calls Tryz.prog 61 #[.string q] w fun e w' => e = .returned (.tuple #[.string ⟨#[]⟩, .bool false]) ∧ Below w.heap.size w w') →
      (∀ w, Env w → Calls Tryz.prog 55 #[.string q] w fun e w' => e = .returned (.tuple #[.string ⟨#[]⟩, .bool false]) ∧ Below w.heap.size w w') → Both q := fun a b =>
    ⟨0, 0, ⟨#[]⟩, 1, fun w _ => rread_bad q i1 a n1 n2 n3 w, fun w E => read_bad q i2 b n1 n2 n3 w E, .inl (by decide)⟩
  cases hl : q.data.toList with
  | nil => exact bad (unq_short q (by rw [size_list, hl]; simp)) (fun w _ => v_open q hq (by rw [hl]; rfl) w)
  | cons c r' =>
    obtain ⟨h0, hc⟩ := of_cons q c r' hl
    by_cases c39 : c = 39
    · subst c39
      rcases List.eq_nil_or_concat r' with rfl | ⟨m, z, e⟩
      · exact bad (unq_short q (by rw [size_list, hl]; simp)) (fun w _ => v_shut q ⟨#[]⟩ (by decide) hl (by decide) w)
      · rw [List.concat_eq_append] at e
        subst e
        obtain ⟨h2, hz, hf, hm⟩ := last_of q m z hl
        have zl : m.length + 2 ≤ 1048576 := by rw [size_list, hl] at hq; simpa using hq
        obtain ⟨i, hi⟩ : ∃ i : ByteArray, i.data.toList = m := ⟨⟨m.toArray⟩, rfl⟩
        obtain ⟨r, hr⟩ : ∃ r : ByteArray, r.data.toList = m ++ [z] := ⟨⟨(m ++ [z]).toArray⟩, rfl⟩
        have si : i.size ≤ 1048576 := by rw [size_list, hi]; omega
        have sr : r.size ≤ 1048576 := by rw [size_list, hr]; simp; omega
        by_cases z39 : z = 39
        · subst z39
          have ru := unq_mid q (by omega) h2 (by rw [hf]; rfl) (by rw [hz]; rfl)
          rw [hm] at ru
          have c1 := cut_start q r (by rw [hl, hr])
          have c2 := cut_end r i (by rw [hr, hi]) (by omega)
          obtain ⟨g, hg⟩ : ∃ g : ByteArray, g.data.toList = Lib.replaceAll m [39, 39] [] := ⟨⟨(Lib.replaceAll m [39, 39] []).toArray⟩, rfl⟩
          have c3 := rep_big i ⟨#[39, 39]⟩ ⟨#[]⟩ g (by rw [hi, hg]) (by decide) si (by decide)
          cases hu : T.und m with
          | none =>
            rw [hu] at ru
            exact bad ru (quoted_odd q r i g c1 c2 c3 (con_yes g (by rw [hg]; exact T.und_none m hu)))
          | some tl =>
            rw [hu] at ru
            have md := T.und_dbl m tl hu
            obtain ⟨t, ht⟩ : ∃ t : ByteArray, t.data.toList = tl := ⟨⟨tl.toArray⟩, rfl⟩
            have ru' : ∀ w, Calls Tryz.prog 61 #[.string q] w fun e w' => e = .returned (.tuple #[.string t, .bool true]) ∧ Below w.heap.size w w' := fun w => by
              have k := ru w
              rwa [unqV, back t _ ht] at k
            have c4 := con_no g (by rw [hg, md]; exact T.rep_gone tl)
            have c5 := rep_big i ⟨#[39, 39]⟩ ⟨#[39]⟩ t (by rw [hi, ht, md]; exact T.rep_undbl tl) (by decide) si (by decide)
            have cq := quoted_of q r i g c1 c2 c3 c4
            by_cases hs : 100 < t.size
            · have e1 : textOf t = .tuple #[val 0 0 ⟨#[]⟩, .int .i64 5] := by unfold textOf; rw [if_pos hs]
              have t1 : ∀ w, Calls Tryz.prog 62 #[.string t] w fun e w' => e = .returned (.tuple #[val 0 0 ⟨#[]⟩, .int .i64 5]) ∧ Below w.heap.size w w' := fun w => e1 ▸ r_Text t w
              have t2 : ∀ w, Calls Tryz.prog 56 #[.string t] w fun e w' => e = .returned (.tuple #[val 0 0 ⟨#[]⟩, .int .i64 5]) ∧ Below w.heap.size w w' := fun w => e1 ▸ c_Text t w
              exact ⟨0, 0, ⟨#[]⟩, 5, fun w _ => rread_text q t _ _ _ _ i1 ru' t1 n1 n2 n3 w, fun w E => read_any_text q i t _ _ _ _ i2 cq c5 t2 n1 n2 n3 w E, .inl (by decide)⟩
            · have e1 : textOf t = .tuple #[val 2 0 t, .int .i64 0] := by unfold textOf; rw [if_neg hs]
              have t1 : ∀ w, Calls Tryz.prog 62 #[.string t] w fun e w' => e = .returned (.tuple #[val 2 0 t, .int .i64 0]) ∧ Below w.heap.size w w' := fun w => e1 ▸ r_Text t w
              have t2 : ∀ w, Calls Tryz.prog 56 #[.string t] w fun e w' => e = .returned (.tuple #[val 2 0 t, .int .i64 0]) ∧ Below w.heap.size w w' := fun w => e1 ▸ c_Text t w
              have el : litT t = q := bytes_inj (by
                show 39 :: (T.dbl t.data.toList ++ [39]) = _
                rw [hl, ht, md])
              exact ⟨2, 0, t, 0, fun w _ => rread_text q t _ _ _ _ i1 ru' t1 n1 n2 n3 w, fun w E => read_any_text q i t _ _ _ _ i2 cq c5 t2 n1 n2 n3 w E, .inr ⟨rfl, fun w E => el ▸ text_print t (by omega) w E⟩⟩
        · have hz' : ¬ ((q[q.size - 1]'(by omega)).toNat : Int) = 39 := by
            rw [hz]
            intro e
            exact z39 (UInt8.toNat_inj.1 (by show z.toNat = 39; omega))
          refine bad (unq_last q (by omega) h2 (by rw [hf]; rfl) hz') (fun w _ => v_shut q r sr (by rw [hl, hr]) ?_ w)
          rw [hr]
          simp only [Lib.hasSuffix, List.isSuffixOf, List.reverse_append, List.reverse_singleton, List.singleton_append, List.isPrefixOf, Bool.and_true, beq_eq_false_iff_ne]
          exact fun e => z39 e.symm
    · have hc' : ¬ (q[0].toNat : Int) = 39 := by
        rw [hc]
        intro e
        exact c39 (UInt8.toNat_inj.1 (by show c.toNat = 39; omega))
      have vo : ∀ w, Env w → Calls Tryz.prog 55 #[.string q] w fun e w' => e = .returned (.tuple #[.string ⟨#[]⟩, .bool false]) ∧ Below w.heap.size w w' := fun w _ => v_open q hq (by
        rw [hl]
        simp only [Lib.hasPrefix, List.isPrefixOf, Bool.and_true, beq_eq_false_iff_ne]
        exact fun e => c39 e.symm) w
      by_cases h2 : q.size < 2
      · exact bad (unq_short q h2) vo
      · exact bad (unq_first q (by omega) (by omega) hc') vo
/-! ### The keywords -/
theorem both (q : ByteArray) (hq : q.size ≤ 1048576) : Both q := by
  have eq : ∀ t : List UInt8, (q.toList == t) = true → q = ⟨t.toArray⟩ := fun t h => by
    rw [beq_iff_eq, ByteArray.toList_eq] at h
    exact bytes_inj h
  cases n1 : (q.toList == [78, 85, 76, 76]) with
  | true =>
    rw [eq _ n1]
    exact ⟨0, 0, ⟨#[]⟩, 0, fun w _ => rread_null w, fun w _ => read_null w, .inr ⟨rfl, fun w _ => print_null w⟩⟩
  | false =>
    cases n2 : (q.toList == [84, 82, 85, 69]) with
    | true =>
      rw [eq _ n2]
      exact ⟨3, 1, ⟨#[]⟩, 0, fun w _ => rread_true w, fun w _ => read_true w, .inr ⟨rfl, fun w _ => print_true w⟩⟩
    | false =>
      cases n3 : (q.toList == [70, 65, 76, 83, 69]) with
      | true =>
        rw [eq _ n3]
        exact ⟨3, 0, ⟨#[]⟩, 0, fun w _ => rread_false w, fun w _ => read_false w, .inr ⟨rfl, fun w _ => print_false w⟩⟩
      | false =>
        cases hn : T.isNum q.data.toList with
        | true => exact both_num q hq hn n1 n2 n3
        | false => exact both_text q hq hn n1 n2 n3
set_option maxHeartbeats 1000000 in
theorem walk_err (q : ByteArray) (a b : Int) (c : ByteArray) (x : Int) (h1 : ∀ w, Env w → Calls Tryz.prog 35 #[.string q] w fun e w' => e = .returned (.tuple #[val a b c, .int .i64 x]) ∧ Below w.heap.size w w')
    (h2 : ∀ w, Env w → Calls Tryz.prog 34 #[.string q] w fun e w' => e = .returned (.tuple #[val a b c, .int .i64 x]) ∧ Below w.heap.size w w') (hx : (x != 0) = true) (w : World) (E : Env w) :
    Calls Tryz.prog 11 #[.string q] w fun e w' => e = .returned (.bool true) ∧ Below w.heap.size w w' := by
  have H1 := Lib.hid h1
  have H2 := Lib.hid h2
  have H4 := Lib.hid (fun w => (show same a b c a b c = true by simp [same]) ▸ r_Same a b c a b c w)
  clear h1 h2
  go_enter Tryz.func11, Tryz.ntmps11
  go_wp2_with fail
  refine (H1.out _ E).mono ?_
  rintro e w1 ⟨rfl, hb1⟩
  have E1 := E.below hb1
  go_wp2_with fail
  refine (H2.out _ (by first | exact E1 | exact E1.alloc _)).mono ?_
  rintro e w2 ⟨rfl, hb2⟩
  have E2 := (by first | exact (E1.alloc _).below hb2 | exact E1.below hb2 : Env w2)
  obtain ⟨hc2, hf2⟩ := bcell hb2
  have z2 : w1.heap.size < w2.heap.size := Nat.lt_of_lt_of_le (by simp) hb2.size
  go_wp2_with fail
  refine (H4.out _).mono ?_
  rintro e w3 ⟨rfl, hb3⟩
  have E3 := (E2.alloc _).below hb3
  obtain ⟨hc3, hf3⟩ := bcell hb3
  have z3 : w2.heap.size < w3.heap.size := Nat.lt_of_lt_of_le (by simp) hb3.size
  have z3' : w1.heap.size < w3.heap.size := by omega
  go_wp2_with fail
  refine (awake _ (by assumption)).mono ?_
  rintro e wz ⟨rfl, hbz⟩
  go_wp2
  go_ret
  exact ⟨rfl, by repeat (first | exact Below.refl _ _ | (refine bel_trans ?_ (by assumption)) | apply bel_alloc | apply Below.drew | refine bel_set ?_ (by simp) _)⟩
set_option maxHeartbeats 1000000 in
theorem walk_ok (q : ByteArray) (a b : Int) (c : ByteArray) (h1 : ∀ w, Env w → Calls Tryz.prog 35 #[.string q] w fun e w' => e = .returned (.tuple #[val a b c, .int .i64 0]) ∧ Below w.heap.size w w')
    (h2 : ∀ w, Env w → Calls Tryz.prog 34 #[.string q] w fun e w' => e = .returned (.tuple #[val a b c, .int .i64 0]) ∧ Below w.heap.size w w')
    (h3 : ∀ w, Env w → Calls Tryz.prog 33 #[val a b c] w fun e w' => e = .returned (.tuple #[.string q, .int .i64 0]) ∧ Below w.heap.size w w') (w : World) (E : Env w) :
    Calls Tryz.prog 11 #[.string q] w fun e w' => e = .returned (.bool true) ∧ Below w.heap.size w w' := by
  have H1 := Lib.hid h1
  have H2 := Lib.hid h2
  have H3 := Lib.hid h3
  have H4 := Lib.hid (fun w => (show same a b c a b c = true by simp [same]) ▸ r_Same a b c a b c w)
  clear h1 h2 h3
  go_enter Tryz.func11, Tryz.ntmps11
  go_wp2_with fail
  refine (H1.out _ E).mono ?_
  rintro e w1 ⟨rfl, hb1⟩
  have E1 := E.below hb1
  go_wp2_with fail
  refine (H2.out _ (by first | exact E1 | exact E1.alloc _)).mono ?_
  rintro e w2 ⟨rfl, hb2⟩
  have E2 := (by first | exact (E1.alloc _).below hb2 | exact E1.below hb2 : Env w2)
  obtain ⟨hc2, hf2⟩ := bcell hb2
  have z2 : w1.heap.size < w2.heap.size := Nat.lt_of_lt_of_le (by simp) hb2.size
  go_wp2_with fail
  refine (H4.out _).mono ?_
  rintro e w3 ⟨rfl, hb3⟩
  have E3 := (E2.alloc _).below hb3
  obtain ⟨hc3, hf3⟩ := bcell hb3
  have z3 : w2.heap.size < w3.heap.size := Nat.lt_of_lt_of_le (by simp) hb3.size
  have z3' : w1.heap.size < w3.heap.size := by omega
  go_wp2_with fail
  refine (H3.out _ E3).mono ?_
  rintro e w4 ⟨rfl, hb4⟩
  have E4 := E3.below hb4
  go_wp2_with fail
  refine (awake _ (by assumption)).mono ?_
  rintro e wz ⟨rfl, hbz⟩
  go_wp2
  go_ret
  exact ⟨rfl, by repeat (first | exact Below.refl _ _ | (refine bel_trans ?_ (by assumption)) | apply bel_alloc | apply Below.drew | refine bel_set ?_ (by simp) _)⟩
theorem walk (q : ByteArray) (hq : q.size ≤ 1048576) (w : World) (E : Env w) : Calls Tryz.prog 11 #[.string q] w fun e w' => e = .returned (.bool true) ∧ Below w.heap.size w w' := by
  obtain ⟨a, b, c, x, h1, h2, h3⟩ := both q hq
  rcases h3 with hx | ⟨rfl, h3⟩
  · exact walk_err q a b c x h1 h2 (by simpa using hx) w E
  · exact walk_ok q a b c h1 h2 h3 w E
/-! ### The narrower row -/
section
variable {H : Type} {enc : TypeId × Value → H}
/-- The wrap of a row that lists variables and bears a condition, the world's shape kept. -/
theorem handed_cond {a : Assume} {C : Checked} {os : Os} {f : FuncId} {fn : Func} {s : OpenSpec} {k : (H : Type) → List (DataW H) → Bool} (hk : s.cond = some k) {F : Stop.Interp} {conds : List PathCond} {apart fresh handsOn again : Bool} {X : World → Prop}
    (hX : ∀ (w w' : World), w.heap = w'.heap → X w → X w')
    (own : ownKnob C.prog.godebug = none) (started : os.Started) (noInit : C.prog.inits.idxOf? f = none) (hfn : C.prog.funcs[f]? = some fn)
    (witness : ∃ (w : World) (tape : Tape) (i : Input), w.os = os ∧ (w.forCall tape i).Shaped C.prog ∧ i.vars = [] ∧ Input.okWide C.prog (w.forCall tape i) .any w.heap.size f i ∧
      ((s.pre enc C.prog fn conds apart (w.forCall tape i).memory i.args ∧ X (w.forCall tape i).memory) ∧ sizedMet enc C.prog fn s apart (w.forCall tape i).memory i.args) ∧ a.holds C.prog (lone (Frame.enter C.prog f i.args .normal) [] (w.forCall tape i)))
    (contract : ∀ (W : World) (base : Nat) (args : Array Value) (ds gs : List (DataW H)) (before : List MemPlace),
      (∀ (j : Nat) t v, fn.params[j]? = some t → args[j]? = some v → Value.okWide C.prog W .any base t v) →
      DataW.Whole enc C.prog fn.params.toList s.vars apart W args.toList ds gs before →
      k H (ds ++ gs) = true → X W → W.ShapedOpen C.prog →
      Calls C.prog f args W fun e W' => ∃ v, e = .returned v ∧ (s.at F).post enc C.prog fn apart fresh handsOn again W args v W') :
    ReturnsInHanded a C os f .any (fun w args => (s.pre enc C.prog fn conds apart w args ∧ X w) ∧ sizedMet enc C.prog fn s apart w args) ((s.at F).post enc C.prog fn apart fresh handsOn again) := by
  refine returnsInHanded_of_calls own started noInit witness ?_
  intro w tape i _ hsh _ hok hpre _
  obtain ⟨_, _, _, fn', hfn', _, _, _, _, hval⟩ := hok
  have e : fn' = fn := Option.some.inj (hfn'.symm.trans hfn)
  subst e
  obtain ⟨⟨hp, hx⟩, _⟩ := hpre
  obtain ⟨ds, gs, before, hw, _, hkk⟩ := (OpenSpec.pre_some hk conds apart _ _).1 hp
  have hw' := DataW.Whole.of_heap (w' := w.forCall tape i) (by rfl) hw
  refine (contract (w.forCall tape i) w.heap.size i.args ds gs before hval hw' hkk (hX _ _ (by rfl) hx) hsh).mono fun e W' ⟨v, he, hq⟩ => ?_
  subst he
  exact ChangeSpec.post_blind hq
end
set_option maxRecDepth 100000 in
theorem wit (os : Os) (H : Type) (enc : TypeId × Value → H) : ∃ (w : World) (tape : Tape) (i : Input), w.os = os ∧ (w.forCall tape i).Shaped Tryz.checked.prog ∧ i.vars = [] ∧ Input.okWide Tryz.checked.prog (w.forCall tape i) .any w.heap.size 11 i ∧
    (((Rows.OpenSpec.upto Rows.valueReadsSpec).pre enc Tryz.checked.prog Tryz.f11 Rows.valueReadsUptoRow.domain false (w.forCall tape i).memory i.args ∧ laidMetH Tryz.prog laidList (w.forCall tape i).memory) ∧ sizedMet enc Tryz.checked.prog Tryz.f11 (Rows.OpenSpec.upto Rows.valueReadsSpec) false (w.forCall tape i).memory i.args) ∧
      ({} : Assume).holds Tryz.checked.prog (lone (Frame.enter Tryz.checked.prog 11 i.args .normal) [] (w.forCall tape i)) :=
  ⟨World.laidAll Tryz.prog os laidList, fun _ _ => 0, ⟨#[], #[.string ⟨#[]⟩], []⟩, World.laidAll_os _ _ _, World.shaped_of_ZipB (by kernel_rfl) (by kernel_rfl), rfl,
    (Input.okWide_of_okWideB (by kernel_rfl)).2,
    ⟨⟨(OpenSpec.pre_some rfl _ _ _ _).2 ⟨[.lit (.string [])], [], [], DataW.Whole_of_whole (x := ([.lit (.string [])], [], [])) (fuel := 8) (by kernel_rfl), by kernel_rfl, by kernel_rfl⟩,
      by rw [MakeChecks.laidMetH_plain _ _ _ plainList]; exact laidMet_laidAll _ (by kernel_rfl) (by kernel_rfl)⟩, sizedMet_of_sizedB (fuel := 8) (by kernel_rfl)⟩, by
    simp only [Assume.holds]
    exact ⟨by simp, by simp, fun _ => Modest.zero, by simp, by simp⟩⟩
set_option maxRecDepth 100000 in
theorem lifted (os : Os) (started : os.Started) (H : Type) (enc : TypeId × Value → H) (F : Stop.Interp) :
    ReturnsInHanded {} Tryz.checked os 11 .any (fun w args => ((Rows.OpenSpec.upto Rows.valueReadsSpec).pre enc Tryz.prog Tryz.f11 Rows.valueReadsUptoRow.domain false w args ∧ laidMetH Tryz.prog laidList w) ∧ sizedMet enc Tryz.prog Tryz.f11 (Rows.OpenSpec.upto Rows.valueReadsSpec) false w args)
      (((Rows.OpenSpec.upto Rows.valueReadsSpec).at F).post enc Tryz.prog Tryz.f11 false true false false) := by
  refine handed_cond (C := Tryz.checked) (s := Rows.OpenSpec.upto Rows.valueReadsSpec) (k := Rows.uptoSmall) (X := laidMetH Tryz.prog laidList) rfl (fun _ _ hh h => h.of_heap hh) own started (by kernel_rfl) Tryz.func11 (wit os H enc) ?_
  intro W base args ds gs before hval0 hW hkk hL hS
  have E : Env W := env_of hL hS
  have hval : ∀ (j : Nat) t v, Tryz.f11.params[j]? = some t → args[j]? = some v → Value.okWide Tryz.prog W .any base t v := hval0
  have hW' : DataW.Whole enc Tryz.prog Tryz.f11.params.toList Rows.valueReadsSpec.vars false W args.toList ds gs before := hW
  obtain ⟨p, q, hA0, hV0, rfl, hfz, hnd⟩ := hW
  have hA : DataW.TrodAll enc Tryz.prog W 0 (fun _ => true) true Tryz.f11.params.toList args.toList ds p := hA0
  have hV : DataW.TrodVars enc Tryz.prog W (fun _ => true) [] gs q := hV0
  rw [Tryz.params11] at hA hval
  obtain ⟨v0, vs0, d0, ds0, p0, q0, hargs, rfl, rfl, h0, r0⟩ := trodAll_cons hA
  obtain ⟨rfl, rfl, rfl⟩ := trodAll_nil r0
  obtain rfl : args = #[v0] := by cases args; simp_all
  obtain ⟨rfl, rfl⟩ := trodVars_none hV
  obtain ⟨s0, rfl, rfl, rfl, _⟩ := open_string Tryz.underlying9 (hval 0 9 v0 rfl rfl) h0
  have hz : s0.size ≤ 1048576 := by
    have h := of_decide_eq_true hkk
    simp only [List.append_nil, Rows.uptoBulkAll, Rows.uptoBulk] at h
    rw [size_list]
    omega
  refine (walk s0 hz W E).mono fun e W' ⟨he, hb⟩ => ?_
  subst he
  exact ⟨_, rfl, law_post (s := Rows.valueReadsSpec) laidOut (by kernel_rfl) rfl Tryz.underlying4 rfl rfl hW' hb⟩
theorem over : Rows.valueReadsUptoRow.holds Tryz.pinned (Rows.OpenSpec.upto Rows.valueReadsSpec) :=
  OpenClaim.holds_of_cond 11 Tryz.f11 rfl rfl rfl rfl rfl rfl rfl ⟨rfl, rfl, rfl, rfl, rfl⟩ rfl rfl rfl rfl rfl (by kernel_rfl) Tryz.func11 (by kernel_rfl)
    (of_decide_eq_true (by kernel_rfl)) (by unfold Func.isWrapper; first | (rw [if_pos (by decide +kernel)]; kernel_rfl) | (rw [if_neg (by decide +kernel)]; exact ⟨rfl, rfl⟩))
    (fun os started H enc _ F => lifted os started H enc F)
set_option maxRecDepth 100000 in
theorem proved : Rows.ValueReadsUptoCardSaid :=
  Claim7.holds_tied_plain_at .later [] [.data, .data, .data, .data, .sentinel, .sentinel, .pinned] true (true, "dc76aaaa3d15237a26b491520c5f0f51c4edc92f79f60971654b9608da9ea080") true over (fun _ h => by cases h) (by kernel_rfl) (fun _ h => by cases h) valueReadsUpto_row_tie rfl ⟨rfl, rfl⟩ (by kernel_rfl) rfl
    (fun f fn hf hfn => by
      obtain rfl : f = 11 := Option.some.inj ((show Tryz.prog.funcNamed "jointer/jointerlaw01.ValueReads" = some 11 by kernel_rfl).symm.trans hf) |>.symm
      obtain rfl : fn = Tryz.f11 := (Option.some.inj (Tryz.func11.symm.trans hfn)).symm
      exact ⟨by kernel_rfl, fun j t ht => by
        rw [Tryz.params11] at ht
        have hm : t ∈ [9] := by simpa using Array.mem_of_getElem? ht
        have hall : ([9].all fun u => !Tryz.prog.wantsStandIn u) = true := by kernel_rfl
        exact (show Tryz.prog.wantsStandIn t = false by simpa using List.all_eq_true.1 hall t hm)⟩)
    (by kernel_rfl)
end Go.Proofs.YtjiilfbomcibjaaGreatDoor.valueReads
