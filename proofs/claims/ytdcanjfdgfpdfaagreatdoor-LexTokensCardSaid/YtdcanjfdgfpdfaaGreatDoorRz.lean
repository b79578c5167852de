/- The reference's Tokens, and the law LexTokens, walked. -/
import Derived.Test.YtdcanjfdgfpdfaaGreatDoorRt
import Derived.Test.YtdcanjfdgfpdfaaGreatDoorCu
import Derived.Laws.AppendOwn
namespace Go.Proofs.YtdcanjfdgfpdfaaGreatDoor.V
open Go.ChangeShapes Go.WideShapes Go.ChangeAt Go.RowKit Go.Shelf
theorem toks_bound {l : Lx.Bs} {t : Lx.Tok} (ht : t ∈ (Lx.toks l).l) : t.p ≤ 4000 := by
  by_cases he : (Lx.toks l).e = 0
  · have := toks_pos he ht; omega
  · have h0 : (Lx.toks l).l = [] := by
      unfold Lx.toks at he ⊢
      split at he
      · rename_i h; rw [if_pos h]
      · rename_i h; rw [if_neg h]; exact Lx.run_bad _ _ _ he
    rw [h0] at ht; cases ht
set_option maxRecDepth 20000 in
set_option maxHeartbeats 2000000 in
theorem r_Tokens (s : ByteArray) (w : World) : Calls Tryz.prog 5 #[.string s] w (TokPost w (Lx.toks s.data.toList)) := by
  have hlen : s.data.toList.length = s.size := by simp
  by_cases h4 : 4000 < s.size
  · have HT : Hid (Lx.toks s.data.toList = ⟨[], 0, 2⟩) := by show _ = _; rw [Lx.toks, if_pos (by omega)]
    clear hlen
    go_enter Tryz.func5, Tryz.ntmps5
    go_wp2
    go_ret3
    exact ⟨.slice none 0 0, by rw [HT.out]; rfl, by rw [HT.out]; exact World.ownsRow_nil _ _ _ _, Below.refl _ _⟩
  · have hs : s.size ≤ 4000 := by omega
    have CB := Lib.hid (fun w => r_skip s 0 hs (Nat.zero_le _) w)
    have HT : Hid (Lx.toks s.data.toList = pre [] (Lx.run (s.size + 1) (beg s.data.toList 0) (s.data.toList.drop (beg s.data.toList 0)))) := by
      show _ = _
      rw [Lx.toks, if_neg (by omega), pre_nil, hlen, beg]; simp
    have hk0 : beg s.data.toList 0 ≤ s.size := by
      have := Lx.skip_le false (s.data.toList.drop 0)
      rw [beg]; simp at this ⊢; omega
    clear hlen
    go_enter Tryz.func5, Tryz.ntmps5
    go_wp2_with fail
    refine (CB.out _).mono ?_
    rintro e w1 ⟨rfl, rfl⟩
    obtain ⟨k0, hk⟩ : ∃ k0, beg s.data.toList 0 = k0 := ⟨_, rfl⟩
    rw [hk] at HT hk0 ⊢
    clear hk
    go_wp2
    go_loopw [5, 6] (fun s5 s6 wr => ∃ (k f : Nat) (acc : List Lx.Tok), s6 = .int .i64 k ∧ k ≤ s.size ∧ s.size - k < f ∧ acc.length ≤ k ∧ Hid (Lx.toks s.data.toList = pre acc (Lx.run f k (s.data.toList.drop k))) ∧
        Hid (wr.ownsRow w.heap.size 36 3 s5 acc.length (cellsOf acc)) ∧ Below w.heap.size w wr)
      (fun _ s6 _ => s.size - (intOf s6).toNat)
    case atStart => exact ⟨k0, s.size + 1, [], rfl, hk0, by omega, by simp, HT, World.ownsRow_nil _ _ _ _, Below.refl _ _⟩
    case round =>
      obtain ⟨k, f, acc, rfl, hk, hf, hacc, HR, HO, hb⟩ := hrel
      by_cases hlt : k < s.size
      · have hne : s.data.toList.drop k ≠ [] := by rw [drop_at s k hlt]; simp
        obtain ⟨f, rfl⟩ : ∃ g, f = g + 1 := ⟨f - 1, by omega⟩
        have ct := fun w => r_token s k hs hlt w
        cases htok : Lx.tok (s.data.toList.drop k) with
        | err e =>
          have h0 : (e != 0) = true := by simpa using Lx.tok_err htok
          have HT2 : Hid (Lx.toks s.data.toList = ⟨[], k, e⟩) := HR.out.trans (pre_err acc f k htok hne)
          rw [htok] at ct
          have CT := Lib.hid ct
          clear ct htok hne HR
          go_wp2_with fail
          refine (CT.out _).mono ?_
          rintro e' w2 ⟨rfl, hb2⟩
          have HB := Lib.hid (bel_trans hb hb2)
          clear hb2 hb
          unfold tv
          go_wp2
          go_ret3
          exact ⟨.slice none 0 0, by rw [HT2.out]; rfl, by rw [HT2.out]; exact World.ownsRow_nil _ _ _ _, by repeat (first | exact HB.out | apply bel_alloc | refine bel_set ?_ (by simp; omega) _)⟩
        | ok kk t n =>
          have hn := Lx.tok_ok htok
          rw [List.length_drop] at hn
          have hn1 : 1 ≤ n := hn.1
          have hn2 : k + n ≤ s.size := by
            have h1 := hn.2
            have h2 : s.data.toList.length = s.size := by simp
            omega
          have HT2 : Hid (Lx.toks s.data.toList = pre (acc ++ [⟨kk, t, k⟩]) (Lx.run f (beg s.data.toList (k + n)) (s.data.toList.drop (beg s.data.toList (k + n))))) := by
            have := HR.out.trans (pre_ok acc f k htok hne)
            rw [List.drop_drop, List.drop_drop] at this
            show _ = _
            rw [this, beg, Nat.add_assoc k n]
          rw [htok] at ct
          have CT := Lib.hid ct
          have cb2 := fun w => r_skip s (k + n) hs hn2 w
          rw [show ((k + n : Nat) : Int) = (k : Int) + n by omega] at cb2
          have CB2 := Lib.hid cb2
          clear cb2
          obtain ⟨k2, hk2⟩ : ∃ k2, beg s.data.toList (k + n) = k2 := ⟨_, rfl⟩
          have hk2l : k + n ≤ k2 ∧ k2 ≤ s.size := by
            have h1 := Lx.skip_le false (s.data.toList.drop (k + n))
            have h2 : s.data.toList.length = s.size := by simp
            rw [List.length_drop] at h1
            rw [← hk2, beg]; omega
          rw [hk2] at HT2 CB2
          have hb1 : k + n ≤ k2 := hk2l.1
          have hb2 : k2 ≤ s.size := hk2l.2
          clear ct htok hne HR hn hk2 hk2l
          go_wp2_with fail
          refine (CT.out _).mono ?_
          rintro e' w2 ⟨rfl, hw2⟩
          have hO2 := own_below HO.out hw2
          have hOb := own_base hO2
          have HOB := Lib.hid hOb
          have HB := Lib.hid (bel_trans hb hw2)
          have hsz := HB.out.size
          clear hw2 hb HO hOb
          obtain ⟨i0, hi, hz0, hz1, hz2⟩ := info_parts infoTok
          unfold tv
          go_wp2_with (at_builtin; refine wpList_append_own _ rfl _ _ 22 rfl w.heap.size 36 i0 (.agg #[.int .u8 0, .string ⟨#[]⟩, .int .i64 0]) 3 32 Tryz.underlying22 hi hz0 hz1 hz2 rfl (by decide) _ _ _ rfl ((hO2.alloc _).alloc _) ⟨w2.heap.size + 1, 0, none⟩ 1 1 [.int .u8 kk, .string ⟨t.toArray⟩, .int .i64 k] rfl rfl (news3 _ _ (by simp) _ _ _ _) (by simp [Value.oneCell']) (by simp only [maxLen]; omega) (by omega) (by simp; omega) ?_; intro v' w3 hown hgrow hnil)
          have hB3 : Below w.heap.size w w3 := (bel_alloc (bel_alloc HB.out _) _).grown hgrow (by simp; omega) HOB.out
          have hO3 : w3.ownsRow w.heap.size 36 3 v' (acc ++ [(⟨kk, t, k⟩ : Lx.Tok)]).length (cellsOf (acc ++ [⟨kk, t, k⟩])) := by
            rw [cellsOf_snoc, List.length_append]; exact hown
          clear hown hgrow hnil hO2 hi hz0 hz1 hz2
          refine (CB2.out _).mono ?_
          rintro e' w4 ⟨rfl, rfl⟩
          have hO4 := hO3
          have HO4 := Lib.hid hO4
          have hB4 := hB3
          clear hO3 hO4 hB3
          go_wp2
          go_roundw
          case rel => exact ⟨k2, f, _, rfl, hb2, by omega, by simp; omega, HT2, HO4, hB4⟩
          case measure => simp [intOf]; omega
      · obtain rfl : k = s.size := by omega
        have HT2 : Hid (Lx.toks s.data.toList = ⟨acc, 0, 0⟩) := by
          show _ = _
          rw [HR.out, List.drop_of_length_le (by simp), pre_end]
        clear HR
        go_wp2
        go_ret3
        exact ⟨_, by rw [HT2.out]; rfl, by rw [HT2.out]; exact HO.out, hb⟩
set_option maxHeartbeats 4000000 in
theorem walk_tokens (s : ByteArray) (w : World) (E : Env w) : Calls Tryz.prog 3 #[.string s] w fun e w' => e = .returned (.bool true) ∧ Below w.heap.size w w' := by
  have ct := fun w E => c_Tokens s w E
  have rt := fun w => r_Tokens s w
  have hb : ∀ t ∈ (Lx.toks s.data.toList).l, t.p ≤ 4000 := fun t ht => toks_bound ht
  obtain ⟨o, ho⟩ : ∃ o, Lx.toks s.data.toList = o := ⟨_, rfl⟩
  rw [ho] at ct rt hb
  obtain ⟨l, p, x⟩ := o
  have CT := Lib.hid ct
  have RT := Lib.hid rt
  have HP := Lib.hid hb
  have HE := Lib.hid E
  clear ct rt hb ho E
  have AW : Hid (∀ w, Env w → Calls Tryz.prog 8 #[] w fun e w' => e = .returned (.bool true) ∧ Below w.heap.size w w') := fun w E => awake w E
  have gp : ((p : Int) == p) = true := by simp
  have gx : (x == x) = true := by simp
  go_enter Tryz.func3, Tryz.ntmps3
  go_wp2_with fail
  refine (RT.out _).mono ?_
  intro e w1 h
  obtain ⟨b, cb, rfl, hrb, hcb, hmb, hw1⟩ := h.reads
  dsimp only at hrb hcb ⊢
  have HE1 := Lib.hid (HE.out.below hw1)
  have HB1 := Lib.hid hw1
  have HRB := Lib.hid hrb
  clear h hw1 hrb RT HE
  go_wp2_with fail
  refine (CT.out _ HE1.out).mono ?_
  intro e w2 h
  obtain ⟨a, ca, rfl, hra, hca, hma, hw2⟩ := h.reads
  dsimp only at hra hca ⊢
  have HE2 := Lib.hid (HE1.out.below hw2)
  have HB2 := Lib.hid (bel_trans HB1.out hw2)
  have HRB2 := Lib.hid (HRB.out.below hw2)
  have HRA := Lib.hid hra
  clear h hw2 hra CT HE1 HB1 HRB
  have hl9 : l.length ≤ 9223372036854775807 := by unfold maxLen at hma; omega
  go_wp2_with fail
  refine (l_same _ _ l.length ca cb 0 l _ hl9 (by omega) HP.out HRA.out (by rw [later0]; exact HRB2.out)).mono ?_
  rintro e w3 ⟨rfl, hw3⟩
  have HE3 := Lib.hid (HE2.out.below hw3)
  have HB3 := Lib.hid (bel_trans HB2.out hw3)
  clear hw3 HE2 HB2 HRA HRB2
  go_wp2_with fail
  refine (AW.out _ HE3.out).mono ?_
  rintro e w4 ⟨rfl, hw4⟩
  go_wp2
  go_ret
  exact ⟨rfl, bel_trans HB3.out hw4⟩
end Go.Proofs.YtdcanjfdgfpdfaaGreatDoor.V
