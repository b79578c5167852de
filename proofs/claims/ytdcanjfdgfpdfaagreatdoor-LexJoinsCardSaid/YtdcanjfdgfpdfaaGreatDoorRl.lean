/- The reference's Join and SameTokens over any tokens, and the law LexJoins, walked. -/
import Derived.Test.YtdcanjfdgfpdfaaGreatDoorRj
namespace Go.Proofs.YtdcanjfdgfpdfaaGreatDoor.V
open Go.ChangeShapes Go.WideShapes Go.ChangeAt Go.RowKit Go.Shelf
set_option maxRecDepth 20000 in
set_option maxHeartbeats 4000000 in
theorem r_Join (a : Option Addr) (n ca : Nat) (l : List Lx.Key) (w : World) (hn : n ≤ 9223372036854775807) (h : ReadsK w a n l) :
    Calls Tryz.prog 9 #[.slice a n ca] w fun e w' => e = .returned (joinV l) ∧ Below w.heap.size w w' := by
  have HA := Lib.hid h
  clear h
  go_enter Tryz.func9, Tryz.ntmps9
  go_wp2
  go_loopw [4] (fun s4 wr => ∃ k : Nat, k ≤ n ∧ s4 = .int .i64 k ∧ Hid (∀ (j : Nat) (x : Lx.Key), j < k → l[j]? = some x → Lx.valid x = true) ∧ Below w.heap.size w wr) (fun s4 _ => n - (intOf s4).toNat)
  case atStart => exact ⟨0, by omega, rfl, (fun j x h => absurd h (Nat.not_lt_zero _)), Below.refl _ _⟩
  case round =>
    obtain ⟨k, hk, rfl, HV, hb⟩ := hrel
    by_cases hlt : k < n
    · obtain ⟨g, o, x, t, p, rfl, hl, ht, c0, c1, c2⟩ := (HA.out.below hb).at_ k hlt
      have C := Lib.hid (fun w => r_IsToken x t p ht w)
      have HB1 := Lib.hid hb
      have HL := Lib.hid hl
      clear hb hl
      go_wp2_with fail
      refine (C.out _).mono ?_
      rintro e w1 ⟨rfl, hb1⟩
      have HB2 := Lib.hid (bel_trans HB1.out hb1)
      clear hb1 HB1 c0 c1 c2
      cases hv : Lx.valid (x, t.data.toList) with
      | true =>
        have HV2 : Hid (∀ (j : Nat) (x : Lx.Key), j < k + 1 → l[j]? = some x → Lx.valid x = true) := fun j y hj hy => by
          by_cases e : j = k
          · subst e
            rw [HL.out] at hy
            exact Option.some.inj hy ▸ hv
          · exact HV.out j y (by omega) hy
        clear hv HV
        go_wp2
        go_roundw
        case rel => exact ⟨k + 1, by omega, by go_num, HV2, HB2.out⟩
        case measure => simp [intOf]; omega
      | false =>
        have HR := Lib.hid (joinV_bad HL.out hv)
        clear hv HV
        go_wp2
        go_ret2
        exact ⟨by rw [HR.out]; rfl, HB2.out⟩
    · obtain rfl : k = n := by omega
      have HALL : Hid (l.all Lx.valid = true) := by
        show _ = _
        rw [List.all_eq_true]
        intro y hy
        obtain ⟨j, hj, e⟩ := List.getElem_of_mem hy
        exact HV.out j y (by rw [← HA.out.len]; exact hj) (by rw [← e]; exact List.getElem?_eq_getElem hj)
      have HB1 := Lib.hid hb
      have HA0 := Lib.hid HA.out
      clear HV hb HA
      go_wp2
      go_loopw [5, 6] (fun s5 s6 w2 => ∃ (j : Nat) (q : ByteArray), j ≤ k ∧ s6 = .int .i64 j ∧ s5 = .string q ∧ q.size ≤ 4000 ∧ Hid (q.data.toList = Lx.jn none (l.take j)) ∧ Hid (Below w.heap.size w w2)) (fun _ s6 _ => k - (intOf s6).toNat)
      case atStart => exact ⟨0, ⟨#[]⟩, by omega, rfl, rfl, by decide, (by show _ = _; rw [List.take_zero, Lx.jn]), HB1⟩
      case round =>
        obtain ⟨j, q, hj, rfl, rfl, hqs, HQ, HW⟩ := hrel
        clear HB1
        by_cases hlt : j < k
        · obtain ⟨g, o, x, t, p, rfl, hl, -, c0, c1, c2⟩ := (HA0.out.below HW.out).at_ j hlt
          have hv : Lx.valid (x, t.data.toList) = true := List.all_eq_true.1 HALL.out _ (List.mem_of_getElem? hl)
          have ht : t.size ≤ 4000 := by rw [← lenL]; exact valid_len hv
          have ht4 : x = 4 → t.size ≤ 100 := by
            rintro rfl
            rw [valid_4, decide_eq_true_eq, lenL] at hv
            exact hv
          obtain ⟨J1, hJ1⟩ : ∃ J1, Lx.jn none (l.take (j + 1)) = J1 := ⟨_, rfl⟩
          have hJ2 := Lx.jn_take l j _ hl
          have hwl := wr_len2 x t.data.toList
          rw [lenL] at hwl
          have h3 : (j = 0) ∨ (∃ i y u r, j = i + 1 ∧ l[i]? = some (y, ByteArray.toList u) ∧ Lx.nearK (y, u.data.toList) (x, t.data.toList) = true ∧ wr.cell? ⟨g, o + i * 3, none⟩ = some (.int .u8 y) ∧ wr.cell? ⟨g, o + i * 3 + 1, none⟩ = some (.string u) ∧ wr.cell? ⟨g, o + i * 3 + 2, none⟩ = some (.int .i64 r)) ∨
              (∃ i y u r, j = i + 1 ∧ l[i]? = some (y, ByteArray.toList u) ∧ Lx.nearK (y, u.data.toList) (x, t.data.toList) = false ∧ wr.cell? ⟨g, o + i * 3, none⟩ = some (.int .u8 y) ∧ wr.cell? ⟨g, o + i * 3 + 1, none⟩ = some (.string u) ∧ wr.cell? ⟨g, o + i * 3 + 2, none⟩ = some (.int .i64 r)) := by
            rcases Nat.eq_zero_or_pos j with h | h
            · exact .inl h
            · obtain ⟨i, rfl⟩ : ∃ i, j = i + 1 := ⟨j - 1, by omega⟩
              obtain ⟨g', o', y, u, r, hga, hl', -, d0, d1, d2⟩ := (HA0.out.below HW.out).at_ i (by omega)
              have e := Option.some.inj hga
              obtain rfl : g = g' := congrArg Addr.block e
              obtain rfl : o = o' := congrArg Addr.off e
              rw [← ByteArray.toList_eq] at hl'
              cases hn : Lx.nearK (y, u.data.toList) (x, t.data.toList) with
              | true => exact .inr (.inl ⟨i, y, u, r, rfl, hl', hn, d0, d1, d2⟩)
              | false => exact .inr (.inr ⟨i, y, u, r, rfl, hl', hn, d0, d1, d2⟩)
          have glast : ∀ (i : Nat) (z : Lx.Key), j = i + 1 → l[i]? = some z → (l.take j).getLast? = some z := fun i z e hz => by
            rw [e, List.take_add_one, hz]; simp
          have CW := Lib.hid (fun w => r_written x t p ht4 w)
          clear hl hv ht4
          rcases h3 with h0 | ⟨i, y, u, r, hi, hl', hn, d0, d1, d2⟩ | ⟨i, y, u, r, hi, hl', hn, d0, d1, d2⟩
          case' inl =>
            have hg1 : decide ((0 : Int) < (j : Int)) = false := decide_eq_false (by omega)
            have hg2 : decide (0 < j) = false := decide_eq_false (by omega)
            obtain ⟨z, rfl⟩ : ∃ z : ByteArray, z = q := ⟨_, rfl⟩
            have hzs : z.size ≤ 4001 := by omega
            have HJ : Hid (J1 = z.data.toList ++ Lx.wr (x, t.data.toList)) := by
              show J1 = _
              rw [HQ.out, ← hJ1, hJ2, h0]
              simp [Lx.gap, Lx.jn]
            clear h0 hJ2 glast
            go_wp2_with fail
            go_quiet (fail)
            go_wp2_with fail
            refine (CW.out _).mono ?_
            rintro e w6 ⟨⟨s, rfl, hs⟩, hb6⟩
            have HW6 := Lib.hid (bel_trans (bel_trans HW.out (below_drewN _ _)) hb6)
            clear hb6
          case' inr.inl =>
            have hg1 : decide ((0 : Int) < (j : Int)) = true := decide_eq_true (by omega)
            have hg2 : decide (0 < j) = true := decide_eq_true (by omega)
            have hii : (i : Int) < (k : Int) := by omega
            have hii0 : (0 : Int) ≤ (i : Int) := by omega
            have hsub : IntKind.i64.wrap ((j : Int) - 1) = (i : Int) := by
              rw [show (j : Int) - 1 = (i : Int) by omega]
              exact IntWalk.i64_in _ (by omega)
            obtain ⟨z, rfl⟩ : ∃ z : ByteArray, z = q := ⟨_, rfl⟩
            have hzs : z.size ≤ 4001 := by omega
            have HJ : Hid (J1 = z.data.toList ++ Lx.wr (x, t.data.toList)) := by
              show J1 = _
              rw [HQ.out, ← hJ1, hJ2, glast i _ hi hl', ByteArray.toList_eq]
              simp [Lx.gap, hn]
            have CA := fun w => r_near y u r x t p w
            rw [hn] at CA
            have CA := Lib.hid CA
            clear hi hl' hn hJ2 glast
            go_wp2_with fail
            refine wp_region_still_tail 12 (by kernel_rfl) (by kernel_rfl) ?_
            simp only [List.take_succ_cons, List.take_zero, List.drop_succ_cons, List.drop_zero]
            change wpStill _ _ (World.drew wr) _ _ _
            repeat still_step
            refine wpStill_nil ?_
            change wpList _ _ _ _ _ (World.drew wr)
            go_wp2_with fail
            refine (CA.out _).mono ?_
            rintro e w4 ⟨rfl, hb4⟩
            have HW4 := Lib.hid (bel_trans (bel_trans HW.out (below_drew _)) hb4)
            have b0 := cellb hb4 (cellb (below_drew wr) c0)
            have b1 := cellb hb4 (cellb (below_drew wr) c1)
            have b2 := cellb hb4 (cellb (below_drew wr) c2)
            clear hb4 c0 c1 c2 d0 d1 d2 CA
            go_wp2_with fail
            refine (CW.out _).mono ?_
            rintro e w6 ⟨⟨s, rfl, hs⟩, hb6⟩
            have HW6 := Lib.hid (bel_trans HW4.out hb6)
            clear hb6 b0 b1 b2
          case' inr.inr =>
            have hg1 : decide ((0 : Int) < (j : Int)) = true := decide_eq_true (by omega)
            have hg2 : decide (0 < j) = true := decide_eq_true (by omega)
            have hii : (i : Int) < (k : Int) := by omega
            have hii0 : (0 : Int) ≤ (i : Int) := by omega
            have hsub : IntKind.i64.wrap ((j : Int) - 1) = (i : Int) := by
              rw [show (j : Int) - 1 = (i : Int) by omega]
              exact IntWalk.i64_in _ (by omega)
            obtain ⟨z, hz⟩ : ∃ z : ByteArray, q ++ ⟨#[32]⟩ = z := ⟨_, rfl⟩
            have hzs : z.size ≤ 4001 := by
              rw [← hz, ByteArray.size_append]
              have : (⟨#[32]⟩ : ByteArray).size = 1 := rfl
              omega
            have HJ : Hid (J1 = z.data.toList ++ Lx.wr (x, t.data.toList)) := by
              show J1 = _
              rw [← hz, app_list, HQ.out, ← hJ1, hJ2, glast i _ hi hl', ByteArray.toList_eq]
              simp [Lx.gap, hn]
            have HZ := Lib.hid hz
            have CA := fun w => r_near y u r x t p w
            rw [hn] at CA
            have CA := Lib.hid CA
            clear hi hl' hn hJ2 glast hz
            go_wp2_with fail
            refine wp_region_still_tail 12 (by kernel_rfl) (by kernel_rfl) ?_
            simp only [List.take_succ_cons, List.take_zero, List.drop_succ_cons, List.drop_zero]
            change wpStill _ _ (World.drew wr) _ _ _
            repeat still_step
            refine wpStill_nil ?_
            change wpList _ _ _ _ _ (World.drew wr)
            go_wp2_with fail
            refine (CA.out _).mono ?_
            rintro e w4 ⟨rfl, hb4⟩
            have HW4 := Lib.hid (bel_trans (bel_trans HW.out (below_drew _)) hb4)
            have b0 := cellb hb4 (cellb (below_drew wr) c0)
            have b1 := cellb hb4 (cellb (below_drew wr) c1)
            have b2 := cellb hb4 (cellb (below_drew wr) c2)
            clear hb4 c0 c1 c2 d0 d1 d2 CA
            go_wp2_with fail
            rw [HZ.out]
            refine (CW.out _).mono ?_
            rintro e w6 ⟨⟨s, rfl, hs⟩, hb6⟩
            have HW6 := Lib.hid (bel_trans HW4.out hb6)
            clear hb6 b0 b1 b2 HZ
          all_goals
            have hsz6 : s.size ≤ 8002 := by
              rw [← lenL, hs]
              omega
            have hJs : (z ++ s).data.toList = J1 := by rw [app_list, hs, HJ.out]
            have HS := Lib.hid hJs
            have hsum : (z ++ s).size = z.size + s.size := ByteArray.size_append ..
            have hJsz : J1.length = z.size + s.size := by rw [← hJs, lenL, hsum]
            clear hs hJs
            by_cases h4 : 4000 < z.size + s.size
            · have HR := Lib.hid (joinV_long (k := j + 1) HALL.out (by rw [hJ1, hJsz]; exact h4))
              have g4 : (4000 : Int) < (z.size : Int) + (s.size : Int) := by omega
              clear hJ1 hJsz hsum
              go_wp2
              go_ret2
              exact ⟨by rw [HR.out]; rfl, HW6.out⟩
            · have g4 : ¬ (4000 : Int) < (z.size : Int) + (s.size : Int) := by omega
              rw [← hJ1] at HS
              have HSZ : Hid ((z ++ s).size ≤ 4000) := by show _ ≤ _; rw [hsum]; omega
              clear hJ1 hJsz hsum
              go_wp2
              go_roundw
              case rel => exact ⟨j + 1, _, by omega, by go_num, rfl, HSZ.out, HS, HW6⟩
              case measure => simp [intOf]; omega
        · obtain rfl : j = k := by omega
          have hl : l.take j = l := List.take_of_length_le (by rw [HA0.out.len]; exact Nat.le_refl _)
          rw [hl] at HQ
          have HR := Lib.hid (joinV_good HALL.out (by rw [← HQ.out, lenL]; exact hqs))
          have HQ2 := Lib.hid (bytes_of HQ.out)
          clear hl HQ HA0
          go_wp2
          go_ret2
          exact ⟨by rw [HR.out, ← HQ2.out]; rfl, HW.out⟩
/-- Two lists of the same tokens are the same, whatever their places. -/
theorem r_SameKeys (a b : Option Addr) (n ca cb : Nat) (l : List Lx.Key) (w : World) (hn : n ≤ 9223372036854775807) (ha : ReadsK w a n l) (hb : ReadsK w b n l) :
    Calls Tryz.prog 11 #[.slice a n ca, .slice b n cb] w fun e w' => e = .returned (.bool true) ∧ Below w.heap.size w w' := by
  have HA := Lib.hid ha
  have HB := Lib.hid hb
  clear ha hb
  go_enter Tryz.func11, Tryz.ntmps11
  go_wp2
  go_loopw [5] (fun s5 wr => ∃ (k q : Nat), k ≤ n ∧ s5 = .int .i64 k ∧ wr = w.drewN q) (fun s5 _ => n - (intOf s5).toNat)
  case atStart => exact ⟨0, 0, by omega, rfl, rfl⟩
  case round =>
    obtain ⟨k, q, hk, rfl, rfl⟩ := hrel
    by_cases hlt : k < n
    · obtain ⟨ga, oa, x, t, pa, rfl, hta, -, a0, a1, a2⟩ := HA.out.at_ k hlt
      obtain ⟨gb, ob, y, u, pb, rfl, htb, -, b0, b1, b2⟩ := HB.out.at_ k hlt
      have hku : y = x ∧ u = t := by
        have := Option.some.inj (htb.symm.trans hta)
        simp only [Prod.mk.injEq] at this
        refine ⟨this.1, ?_⟩
        rw [bytes_of this.2]
      rw [hku.1] at b0
      rw [hku.2] at b1
      clear hku hta htb a2 b2
      have g1 : (x != x) = false := by simp
      have g2 : (t.toList != t.toList) = false := by simp
      go_wp2
      go_quiet (fail)
      go_wp2
      go_roundw
      case rel => exact ⟨k + 1, _, by omega, by go_num, rfl⟩
      case measure => simp [intOf]; omega
    · go_wp2
      go_ret
      exact ⟨rfl, below_drewN _ _⟩
set_option maxHeartbeats 4000000 in
theorem walk_joins (a : Option Addr) (n ca : Nat) (K : List Lx.Key) (w : World) (E : Env w) (hn : n ≤ 9223372036854775807) (hr : ReadsK w a n K) : Calls Tryz.prog 4 #[.slice a n ca] w fun e w' => e = .returned (.bool true) ∧ Below w.heap.size w w' := by
  have HE := Lib.hid E
  have HRA := Lib.hid hr
  have AW : Hid (∀ w, Env w → Calls Tryz.prog 8 #[] w fun e w' => e = .returned (.bool true) ∧ Below w.heap.size w w') := fun w E => awake w E
  have CR := Lib.hid (fun w h => r_Join a n ca K w hn h)
  have CJ := Lib.hid (fun w E h => c_Join a n ca K w E hn h)
  clear E hr
  by_cases hg : K.all Lx.valid = true ∧ (Lx.jn none K).length ≤ 4000
  · have hKv : ∀ t ∈ K, Lx.valid t = true := List.all_eq_true.1 hg.1
    obtain ⟨src, hsrc⟩ : ∃ src : ByteArray, src = ⟨(Lx.jn none K).toArray⟩ := ⟨_, rfl⟩
    have hs2 : src.data.toList = Lx.jn none K := by rw [hsrc]
    have HJ : Hid (joinV K = .tuple #[.string src, .int .i64 0]) := by
      show _ = _
      rw [joinV_good hg.1 hg.2, hsrc]
    have ct2 := fun w E => c_Tokens src w E
    have ht := Lx.toks_jn K hKv hg.2
    have hv2 : ∀ t ∈ (Lx.toks (Lx.jn none K)).l, Lx.valid (Lx.keyT t) = true := fun t ht => Lx.toks_valid ht
    have hp2 : (Lx.toks (Lx.jn none K)).e = 0 → (Lx.toks (Lx.jn none K)).p = 0 := fun h => by
      unfold Lx.toks at h ⊢
      rw [if_neg (by omega)] at h ⊢
      exact Lx.run_ok _ _ _ h
    rw [hs2] at ct2
    obtain ⟨o2, ho2⟩ : ∃ o, Lx.toks (Lx.jn none K) = o := ⟨_, rfl⟩
    rw [ho2] at ct2 ht hv2 hp2
    obtain ⟨l2, p2, x2⟩ := o2
    obtain ⟨hx2, hl2⟩ := ht
    dsimp only at hx2 hl2 hv2 hp2
    subst hx2
    have hp3 := hp2 rfl
    subst hp3
    have CT2 := Lib.hid ct2
    have HV2 := Lib.hid hv2
    have HL2 := Lib.hid hl2
    have hlen : l2.length = n := by
      have := congrArg List.length hl2
      rwa [List.length_map, HRA.out.len] at this
    have HLEN := Lib.hid hlen
    have gs : (src.toList != src.toList) = false := by simp
    clear ct2 ho2 hv2 hl2 hlen hs2 hsrc hKv hg hp2
    go_enter Tryz.func4, Tryz.ntmps4
    go_wp2_with fail
    refine (CR.out _ HRA.out).mono ?_
    rintro e w1 ⟨rfl, hw1⟩
    rw [HJ.out]
    have HE1 := Lib.hid (HE.out.below hw1)
    have HB1 := Lib.hid hw1
    have HRA1 := Lib.hid (HRA.out.below hw1)
    clear hw1 HE HRA CR
    go_wp2_with fail
    refine (CJ.out _ HE1.out HRA1.out).mono ?_
    rintro e w2 ⟨rfl, hw2⟩
    rw [HJ.out]
    have HE2 := Lib.hid (HE1.out.below hw2)
    have HB2 := Lib.hid (bel_trans HB1.out hw2)
    have HRA2 := Lib.hid (HRA1.out.below hw2)
    clear hw2 HE1 HB1 HRA1 CJ HJ
    go_wp2_with fail
    refine (CT2.out _ HE2.out).mono ?_
    intro e w3 h
    obtain ⟨b, cb, he, hrb, hcb, hmb, hw3⟩ := h.reads
    dsimp only at he hrb hcb
    rw [HLEN.out] at he hrb hcb
    subst he
    have HE3 := Lib.hid (HE2.out.below hw3)
    have HB3 := Lib.hid (bel_trans HB2.out hw3)
    have HRA3 := Lib.hid (HRA2.out.below hw3)
    have HRB3 := Lib.hid hrb
    clear hw3 HE2 HB2 HRA2 hrb h CT2
    go_wp2_with fail
    refine (r_SameKeys a b n ca cb K _ hn HRA3.out (by rw [← HL2.out]; exact HRB3.out.keys HV2.out)).mono ?_
    rintro e w5 ⟨rfl, hw5⟩
    have HE5 := Lib.hid (HE3.out.below hw5)
    have HB5 := Lib.hid (bel_trans HB3.out hw5)
    clear hw5 HE3 HB3 HRA3 HRB3
    go_wp2_with fail
    refine (AW.out _ HE5.out).mono ?_
    rintro e w6 ⟨rfl, hw6⟩
    go_wp2
    go_ret
    exact ⟨rfl, bel_trans HB5.out hw6⟩
  · obtain ⟨x, hx, hx0⟩ : ∃ x : Int, joinV K = .tuple #[.string ⟨#[]⟩, .int .i64 x] ∧ x ≠ 0 := by
      rw [joinV]
      split
      · rename_i h
        rw [if_neg (fun e => hg ⟨h, e⟩)]
        exact ⟨2, rfl, by decide⟩
      · exact ⟨1, rfl, by decide⟩
    have HJ := Lib.hid hx
    have g1 : (x != 0) = true := by simpa using hx0
    have g2 : (x != x) = false := by simp
    clear hg hx hx0
    go_enter Tryz.func4, Tryz.ntmps4
    go_wp2_with fail
    refine (CR.out _ HRA.out).mono ?_
    rintro e w1 ⟨rfl, hw1⟩
    rw [HJ.out]
    have HE1 := Lib.hid (HE.out.below hw1)
    have HB1 := Lib.hid hw1
    have HRA1 := Lib.hid (HRA.out.below hw1)
    clear hw1 HE HRA CR
    go_wp2_with fail
    refine (CJ.out _ HE1.out HRA1.out).mono ?_
    rintro e w2 ⟨rfl, hw2⟩
    rw [HJ.out]
    have HE2 := Lib.hid (HE1.out.below hw2)
    have HB2 := Lib.hid (bel_trans HB1.out hw2)
    clear hw2 HE1 HB1 HRA1 CJ HJ
    go_wp2_with fail
    refine (AW.out _ HE2.out).mono ?_
    rintro e w3 ⟨rfl, hw3⟩
    go_wp2
    go_ret
    exact ⟨rfl, bel_trans HB2.out hw3⟩
end Go.Proofs.YtdcanjfdgfpdfaaGreatDoor.V
