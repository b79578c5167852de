/- The law LexAgain, walked. -/
import Derived.Test.YtdcanjfdgfpdfaaDoorJo
import Derived.Test.YtdcanjfdgfpdfaaDoorAw
namespace Go.Proofs.YtdcanjfdgfpdfaaDoor.V
open Go.ChangeShapes Go.WideShapes Go.ChangeAt Go.RowKit Go.Shelf
theorem ReadsAs.keys {w : World} {a : Option Addr} {n : Nat} {l : List Lx.Tok} (h : ReadsAs w a n l) (hs : ∀ t ∈ l, Lx.valid (Lx.keyT t) = true) : ReadsK w a n (l.map Lx.keyT) :=
  ⟨by rw [List.length_map, h.len], fun k hk => by
    obtain ⟨g, o, t, ha, ht, c0, c1, c2⟩ := h.fields hk
    have hl := valid_len (hs t (List.mem_of_getElem? ht))
    have e : (⟨t.s.toArray⟩ : ByteArray).data.toList = t.s := by simp
    exact ⟨g, o, t.k, ⟨t.s.toArray⟩, t.p, ha, by rw [List.getElem?_map, ht, e]; rfl, by rw [← lenL, e]; omega, c0, c1, c2⟩⟩
set_option maxHeartbeats 4000000 in
theorem walk_again (s : ByteArray) (w : World) (E : Env w) : Calls Tryd.prog 4 #[.string s] w fun e w' => e = .returned (.bool true) ∧ Below w.heap.size w w' := by
  have ct := fun w E => c_Tokens s w E
  have hv : ∀ t ∈ (Lx.toks s.data.toList).l, Lx.valid (Lx.keyT t) = true := fun t ht => Lx.toks_valid ht
  obtain ⟨o, ho⟩ : ∃ o, Lx.toks s.data.toList = o := ⟨_, rfl⟩
  rw [ho] at ct hv
  obtain ⟨l, p, x⟩ := o
  have HE := Lib.hid E
  have AW : Hid (∀ w, Env w → Calls Tryd.prog 13 #[] w fun e w' => e = .returned (.bool true) ∧ Below w.heap.size w w') := fun w E => awake w E
  have CT := Lib.hid ct
  clear ct E ho
  by_cases hx : x = 0
  · subst hx
    obtain ⟨K, hK⟩ : ∃ K, l.map Lx.keyT = K := ⟨_, rfl⟩
    have hKv : ∀ t ∈ K, Lx.valid t = true := fun t ht => by
      rw [← hK] at ht
      obtain ⟨u, hu, rfl⟩ := List.mem_map.1 ht
      exact hv u hu
    have hall : K.all Lx.valid = true := List.all_eq_true.2 hKv
    have HK := Lib.hid hK
    have HV := Lib.hid hv
    by_cases h4 : (Lx.jn none K).length ≤ 4000
    · obtain ⟨src, hsrc⟩ : ∃ src : ByteArray, src = ⟨(Lx.jn none K).toArray⟩ := ⟨_, rfl⟩
      have hs2 : src.data.toList = Lx.jn none K := by rw [hsrc]
      have HJ : Hid (joinV K = .tuple #[.string src, .int .i64 0]) := by
        show _ = _
        rw [joinV_good hall h4, hsrc]
      have ct2 := fun w E => c_Tokens src w E
      have ht := Lx.toks_jn K hKv h4
      have hv2 : ∀ t ∈ (Lx.toks (Lx.jn none K)).l, Lx.valid (Lx.keyT t) = true := fun t ht => Lx.toks_valid ht
      rw [hs2] at ct2
      obtain ⟨o2, ho2⟩ : ∃ o, Lx.toks (Lx.jn none K) = o := ⟨_, rfl⟩
      rw [ho2] at ct2 ht hv2
      obtain ⟨l2, p2, x2⟩ := o2
      obtain ⟨hx2, hl2⟩ := ht
      dsimp only at hx2 hl2 hv2
      subst hx2
      have CT2 := Lib.hid ct2
      have HV2 := Lib.hid hv2
      have HL2 := Lib.hid hl2
      have hlen : l2.length = l.length := by
        have := congrArg List.length (hl2.trans hK.symm)
        rwa [List.length_map, List.length_map] at this
      have HLEN := Lib.hid hlen
      have gs : (src.toList == src.toList) = true := by simp
      clear ct2 ho2 hv2 hl2 hlen hs2 hsrc hK hv hKv hall h4
      go_enter Tryd.func4, Tryd.ntmps4
      go_wp2_with fail
      refine (CT.out _ HE.out).mono ?_
      intro e w1 h
      obtain ⟨a, ca, rfl, hra, hca, hma, hw1⟩ := h.reads
      dsimp only at hra hca ⊢
      have HE1 := Lib.hid (HE.out.below hw1)
      have HB1 := Lib.hid hw1
      have HRA := Lib.hid hra
      have hl9 : l.length ≤ 9223372036854775807 := by unfold maxLen at hma; omega
      clear h hw1 hra CT HE
      go_wp2_with fail
      refine (c_Join a l.length ca K _ HE1.out hl9 (by rw [← HK.out]; exact HRA.out.keys HV.out)).mono ?_
      rintro e w2 ⟨rfl, hw2⟩
      rw [HJ.out]
      have HE2 := Lib.hid (HE1.out.below hw2)
      have HB2 := Lib.hid (bel_trans HB1.out hw2)
      have HRA2 := Lib.hid (HRA.out.below hw2)
      clear hw2 HE1 HB1 HRA
      go_wp2_with fail
      refine (CT2.out _ HE2.out).mono ?_
      intro e w3 h
      obtain ⟨b, cb, he, hrb, hcb, hmb, hw3⟩ := h.reads
      dsimp only at he hrb hcb
      rw [HLEN.out] at he hrb hcb
      subst he
      have HE3 := Lib.hid (HE2.out.below hw3)
      have HB3 := Lib.hid (bel_trans HB2.out hw3)
      have HRA3 := Lib.hid (HRA2.out.below hw3)
      have HRB3 := Lib.hid hrb
      clear hw3 HE2 HB2 HRA2 hrb h CT2
      go_wp2_with fail
      refine (c_Join b l.length cb K _ HE3.out hl9 (by rw [← HL2.out]; exact HRB3.out.keys HV2.out)).mono ?_
      rintro e w4 ⟨rfl, hw4⟩
      rw [HJ.out]
      have HE4 := Lib.hid (HE3.out.below hw4)
      have HB4 := Lib.hid (bel_trans HB3.out hw4)
      have HRA4 := Lib.hid (HRA3.out.below hw4)
      have HRB4 := Lib.hid (HRB3.out.below hw4)
      clear hw4 HE3 HB3 HRA3 HRB3
      go_wp2_with fail
      refine (r_SameTokens a b l.length ca cb l l2 _ hl9 HRA4.out HRB4.out (HK.out.trans HL2.out.symm)).mono ?_
      rintro e w5 ⟨rfl, hw5⟩
      have HE5 := Lib.hid (HE4.out.below hw5)
      have HB5 := Lib.hid (bel_trans HB4.out hw5)
      clear hw5 HE4 HB4 HRA4 HRB4
      go_wp2_with fail
      refine (AW.out _ HE5.out).mono ?_
      rintro e w6 ⟨rfl, hw6⟩
      go_wp2
      go_ret
      exact ⟨rfl, bel_trans HB5.out hw6⟩
    · have HJ : Hid (joinV K = .tuple #[.string ⟨#[]⟩, .int .i64 2]) := by
        show _ = _
        rw [joinV, if_pos hall, if_neg h4]
      clear hK hv hKv hall h4
      go_enter Tryd.func4, Tryd.ntmps4
      go_wp2_with fail
      refine (CT.out _ HE.out).mono ?_
      intro e w1 h
      obtain ⟨a, ca, rfl, hra, hca, hma, hw1⟩ := h.reads
      dsimp only at hra hca ⊢
      have HE1 := Lib.hid (HE.out.below hw1)
      have HB1 := Lib.hid hw1
      have HRA := Lib.hid hra
      have hl9 : l.length ≤ 9223372036854775807 := by unfold maxLen at hma; omega
      clear h hw1 hra CT HE
      go_wp2_with fail
      refine (c_Join a l.length ca K _ HE1.out hl9 (by rw [← HK.out]; exact HRA.out.keys HV.out)).mono ?_
      rintro e w2 ⟨rfl, hw2⟩
      rw [HJ.out]
      have HE2 := Lib.hid (HE1.out.below hw2)
      have HB2 := Lib.hid (bel_trans HB1.out hw2)
      clear hw2 HE1 HB1 HRA
      go_wp2_with fail
      refine (AW.out _ HE2.out).mono ?_
      rintro e w3 ⟨rfl, hw3⟩
      go_wp2
      go_ret
      exact ⟨rfl, bel_trans HB2.out hw3⟩
  · have g : (x != 0) = true := by simpa using hx
    clear hx hv
    go_enter Tryd.func4, Tryd.ntmps4
    go_wp2_with fail
    refine (CT.out _ HE.out).mono ?_
    intro e w1 h
    obtain ⟨a, ca, rfl, hra, hca, hma, hw1⟩ := h.reads
    dsimp only at hra hca ⊢
    have HE1 := Lib.hid (HE.out.below hw1)
    have HB1 := Lib.hid hw1
    clear h hw1 hra CT HE
    go_wp2_with fail
    refine (AW.out _ HE1.out).mono ?_
    rintro e w2 ⟨rfl, hw2⟩
    go_wp2
    go_ret
    exact ⟨rfl, bel_trans HB1.out hw2⟩
end Go.Proofs.YtdcanjfdgfpdfaaDoor.V
