/- The law LexCuts, walked. -/
import Derived.Test.YtdcanjfdgfpdfaaDoorAw
namespace Go.Proofs.YtdcanjfdgfpdfaaDoor.V
open Go.ChangeShapes Go.WideShapes Go.ChangeAt Go.RowKit Go.Shelf
theorem ReadsAs.take {w : World} {a : Option Addr} {n : Nat} {l : List Lx.Tok} (h : ReadsAs w a n l) {k : Nat} (hk : k ≤ n) : ReadsAs w a k (l.take k) :=
  ⟨by rw [List.length_take, h.len]; omega, fun hp => by
    obtain ⟨g, o, ha, hc⟩ := h.at_ (by omega)
    refine ⟨g, o, ha, fun j u hu => hc j u ?_⟩
    have e : cellsOf l = cellsOf (l.take k) ++ cellsOf (l.drop k) := by
      rw [cellsOf, cellsOf, cellsOf, ← List.flatMap_append, List.take_append_drop]
    have hj : j < (cellsOf (l.take k)).length := by
      rcases Nat.lt_or_ge j (cellsOf (l.take k)).length with h' | h'
      · exact h'
      · rw [List.getElem?_eq_none h'] at hu; cases hu
    rw [e, List.getElem?_append_left hj]
    exact hu⟩
theorem later0 (l : List Lx.Tok) : l.map (Lx.Tok.later 0) = l := by
  have : Lx.Tok.later 0 = id := by funext t; rfl
  rw [this, List.map_id]
theorem toks_pos {l : Lx.Bs} (he : (Lx.toks l).e = 0) {t : Lx.Tok} (ht : t ∈ (Lx.toks l).l) : t.p ≤ l.length ∧ l.length ≤ 4000 := by
  obtain ⟨k, hk, rfl⟩ := List.getElem_of_mem ht
  refine ⟨(Lx.cuts l k he hk).1, ?_⟩
  rcases Nat.lt_or_ge 4000 l.length with h | h
  · rw [Lx.toks, if_pos h] at he; exact absurd he (by decide)
  · exact h
set_option maxHeartbeats 2000000 in
theorem walk_cuts (s : ByteArray) (k : Int) (w : World) (E : Env w) : Calls Tryd.prog 6 #[.string s, .int .i64 k] w fun e w' => e = .returned (.bool true) ∧ Below w.heap.size w w' := by
  obtain ⟨o, ho⟩ : ∃ o, Lx.toks s.data.toList = o := ⟨_, rfl⟩
  have ct := c_Tokens s w E
  rw [ho] at ct
  have CT := Lib.hid ct
  have HE := Lib.hid E
  clear ct E
  have aw : ∀ w, Env w → Calls Tryd.prog 13 #[] w fun e w' => e = .returned (.bool true) ∧ Below w.heap.size w w' := fun w E => awake w E
  have AW := Lib.hid aw
  clear aw
  by_cases he : o.e = 0
  · by_cases hk : 0 ≤ k ∧ k < o.l.length
    · obtain ⟨j, rfl⟩ := Int.eq_ofNat_of_zero_le hk.1
      have hj : j < o.l.length := by omega
      have hc := Lx.cuts s.data.toList j (by rw [ho]; exact he) (by rw [ho]; exact hj)
      have hpos : ∀ t ∈ o.l, t.p ≤ s.data.toList.length ∧ s.data.toList.length ≤ 4000 := fun t ht => toks_pos (by rw [ho]; exact he) (by rw [ho]; exact ht)
      simp only [ho] at hc
      obtain ⟨p, hp⟩ : ∃ p, (o.l[j]).p = p := ⟨_, rfl⟩
      rw [hp] at hc
      have hps : p ≤ s.size := by simpa using hc.1
      have hlen : (o.l.take j).length = j := by rw [List.length_take]; omega
      have hq : (s.extract 0 p).data.toList = s.data.toList.take p := by rw [Lib.extract_data]; simp
      have ct2 : ∀ w, Env w → Calls Tryd.prog 12 #[.string (s.extract 0 p)] w (TokPost w ⟨o.l.take j, 0, 0⟩) := fun w E => by
        have h := c_Tokens (s.extract 0 p) w E
        rw [hq, hc.2] at h
        exact h
      have CT2 := Lib.hid ct2
      have HP : Hid (∀ t ∈ o.l.take j, t.p ≤ 4000) := fun t ht => by have := hpos t (List.mem_of_mem_take ht); omega
      have HT : Hid (o.l[j]? = some o.l[j]) := List.getElem?_eq_getElem hj
      have HPP := Lib.hid hp
      have HEE := Lib.hid he
      have hjm : (j : Int) < o.l.length := by omega
      have HL := Lib.hid hlen
      clear ho ct2 hc hpos hp hq he hk hlen
      go_enter Tryd.func6, Tryd.ntmps6
      go_wp2_with fail
      refine CT.out.mono ?_
      intro e w1 h
      obtain ⟨a, ca, rfl, hr, hca, hcm, hb⟩ := h.reads
      rw [HEE.out]
      have HR := Lib.hid hr
      obtain ⟨g, q, t, rfl, ht, c0, c1, c2⟩ := hr.fields hj
      have htp : t.p = p := by rw [HT.out] at ht; rw [← Option.some.inj ht]; exact HPP.out
      rw [htp] at c2
      have HE1 := Lib.hid (HE.out.below hb)
      have HB := Lib.hid hb
      clear hr h CT c0 c1 ht htp hb
      unfold maxLen at hcm
      have c2' : w1.cell? ⟨g, q + j * 3 + 2, none⟩ = some (.int .i64 p) := c2
      clear c2
      go_wp2_with fail
      refine (CT2.out _ HE1.out).mono ?_
      intro e w2 h2
      obtain ⟨b, cb, he2, hr2, hca2, hcm2, hb2⟩ := h2.reads
      dsimp only at he2 hr2 hca2
      rw [HL.out] at he2 hr2 hca2
      subst he2
      have HE2 := Lib.hid (HE1.out.below hb2)
      have HR1 := Lib.hid ((HR.out.below hb2).take (Nat.le_of_lt hj))
      have HR2 := Lib.hid hr2
      have HB2 := Lib.hid (bel_trans HB.out hb2)
      clear h2 hr2 hb2 HR HE1 HB CT2 c2'
      go_wp2_with fail
      refine (l_same _ _ j ca cb 0 (o.l.take j) _ (by omega) (by omega) HP.out HR1.out (by rw [later0]; exact HR2.out)).mono ?_
      rintro e w3 ⟨rfl, hb3⟩
      have HE3 := Lib.hid (HE2.out.below hb3)
      have HB3 := Lib.hid (bel_trans HB2.out hb3)
      clear hb3 HR1 HR2 HE2 HB2
      go_wp2_with fail
      refine (AW.out _ HE3.out).mono ?_
      rintro e w4 ⟨rfl, hb4⟩
      go_wp2
      go_ret
      exact ⟨rfl, bel_trans HB3.out hb4⟩
    · have HEE := Lib.hid he
      have HK : k < 0 ∨ (o.l.length : Int) ≤ k := by omega
      clear ho hk he
      rcases HK with hk | hk
      · go_enter Tryd.func6, Tryd.ntmps6
        go_wp2_with fail
        refine CT.out.mono ?_
        intro e w1 h
        obtain ⟨a, ca, rfl, hr, hca, hcm, hb⟩ := h.reads
        rw [HEE.out]
        have HE1 := Lib.hid (HE.out.below hb)
        have HB := Lib.hid hb
        clear hr h CT hb
        go_wp2_with fail
        refine (AW.out _ HE1.out).mono ?_
        rintro e w4 ⟨rfl, hb4⟩
        go_wp2
        go_ret
        exact ⟨rfl, bel_trans HB.out hb4⟩
      · have hk0 : 0 ≤ k := by omega
        go_enter Tryd.func6, Tryd.ntmps6
        go_wp2_with fail
        refine CT.out.mono ?_
        intro e w1 h
        obtain ⟨a, ca, rfl, hr, hca, hcm, hb⟩ := h.reads
        rw [HEE.out]
        have HE1 := Lib.hid (HE.out.below hb)
        have HB := Lib.hid hb
        clear hr h CT hb
        go_wp2_with fail
        refine (AW.out _ HE1.out).mono ?_
        rintro e w4 ⟨rfl, hb4⟩
        go_wp2
        go_ret
        exact ⟨rfl, bel_trans HB.out hb4⟩
  · have hne : (o.e != 0) = true := by simpa using he
    clear ho he
    go_enter Tryd.func6, Tryd.ntmps6
    go_wp2_with fail
    refine CT.out.mono ?_
    intro e w1 h
    obtain ⟨a, ca, rfl, hr, hca, hcm, hb⟩ := h.reads
    have HE1 := Lib.hid (HE.out.below hb)
    have HB := Lib.hid hb
    clear hr h CT hb
    go_wp2_with fail
    refine (AW.out _ HE1.out).mono ?_
    rintro e w4 ⟨rfl, hb4⟩
    go_wp2
    go_ret
    exact ⟨rfl, bel_trans HB.out hb4⟩
end Go.Proofs.YtdcanjfdgfpdfaaDoor.V
