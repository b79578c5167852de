/- The law about conditions that never fail: its walk. -/
import Derived.Test.YtefelelhgepkeaaGreatDoorDb
import Derived.Test.YtefelelhgepkeaaGreatDoorKy
import Derived.Test.YtefelelhgepkeaaGreatDoorKp
namespace Go.Proofs.YtefelelhgepkeaaGreatDoor.KD
open Go.ChangeShapes Go.WideShapes Go.ChangeAt Go.RowKit Go.Proofs.YtefelelhgepkeaaGreatDoor.V Go.Proofs.YtefelelhgepkeaaGreatDoor.K
theorem drops_split {l r : List Ot} (ht : l.all tr = true) (hr : r.all tr = true) (he : ∀ o ∈ l, o.e = 0) :
    (sameO (node 23 l) (bo true) = true ∧ node 23 (l ++ r) = node 23 r) ∨ (sameO (node 23 l) (bo true) = false ∧ (node 23 (l ++ r)).e = 0 ∧ sameO (node 23 (l ++ r)) (bo true) = false) := by
  rcases law_drops ht hr he with ⟨e1, e2⟩ | ⟨e1, e2⟩ | ⟨e1, e2 | e2⟩
  · exact .inl ⟨by rw [e1]; decide +kernel, e2⟩
  · exact .inr ⟨by rw [e1]; decide +kernel, by rw [e2], by rw [e2]; decide +kernel⟩
  · exact .inr ⟨by rw [e1]; decide +kernel, by rw [e2], by rw [e2]; decide +kernel⟩
  · exact .inr ⟨by rw [e1]; decide +kernel, by rw [e2], by rw [e2]; decide +kernel⟩
theorem sameO_refl (z : Ot) : sameO z z = true := by unfold sameO; rw [same_refl]; simp
set_option maxRecDepth 100000 in
set_option maxHeartbeats 4000000 in
theorem walk_drops (a b : Option Addr) (n c m d : Nat) (l r : List Ot) (hn : n ≤ 1048576) (hm : m ≤ 1048576) (hac : a = none → c = 0) (hbd : b = none → d = 0) (w : World) (h1 : Outs w a n l) (h2 : Outs w b m r) :
    Ret 8 #[.slice a n c, .slice b m d] w (.bool true) := by
  have H1 := Lib.hid h1
  have H2 := Lib.hid h2
  have hT1 : ∀ W, Outs W a n l → Ret 26 #[.slice a n c] W (.bool (l.all tr)) := fun W h => l_truths a n c l (by omega) W h
  have hT2 : ∀ W, Outs W b m r → Ret 26 #[.slice b m d] W (.bool (r.all tr)) := fun W h => l_truths b m d r (by omega) W h
  clear h1 h2
  by_cases ht : l.all tr = true
  case neg =>
    rw [show l.all tr = false by simpa using ht] at hT1
    clear ht hT2
    go_enter Tryz.func8, Tryz.ntmps8
    go_wp2_with (first | (go_at_call 26; refine (hT1 _ H1.out).mono ?_; rintro e w1 ⟨rfl, hb1⟩) | (go_at_call 13; refine (awake _).mono ?_; rintro e w2 ⟨rfl, hb2⟩))
    first | exact bodyPost_ret (v := .bool true) (by simp [results, Tryz.results8, go_sem, *]) rfl ⟨rfl, bel_trans hb1 hb2⟩ | (go_ret; exact ⟨rfl, bel_trans hb1 hb2⟩)
  by_cases hr : r.all tr = true
  case neg =>
    rw [show r.all tr = false by simpa using hr] at hT2
    rw [ht] at hT1
    clear ht hr
    go_enter Tryz.func8, Tryz.ntmps8
    go_wp2_with (first | (go_at_call 26; first | (with_reducible refine (hT1 _ H1.out).mono ?_; rintro e w1 ⟨rfl, hb1⟩) | (with_reducible refine (hT2 _ (H2.out.below hb1)).mono ?_; rintro e w3 ⟨rfl, hb3⟩)) | (go_at_call 13; refine (awake _).mono ?_; rintro e w2 ⟨rfl, hb2⟩))
    first | exact bodyPost_ret (v := .bool true) (by simp [results, Tryz.results8, go_sem, *]) rfl ⟨rfl, bel_trans (bel_trans hb1 hb3) hb2⟩ | (go_ret; exact ⟨rfl, bel_trans (bel_trans hb1 hb3) hb2⟩)
  rw [ht] at hT1
  rw [hr] at hT2
  have HT := Lib.hid ht
  have HR := Lib.hid hr
  clear ht hr
  go_enter Tryz.func8, Tryz.ntmps8
  go_wp2_with (go_at_call 26; first | (with_reducible refine (hT1 _ H1.out).mono ?_; rintro e w1 ⟨rfl, hb1⟩) | (with_reducible refine (hT2 _ (H2.out.below hb1)).mono ?_; rintro e w2 ⟨rfl, hb2⟩))
  have HB0 : Hid (Below w.heap.size w w2) := bel_trans hb1 hb2
  clear hb1 hb2 hT1 hT2
  go_loopw [5] (fun s5 wr => ∃ (k : Nat), k ≤ n ∧ s5 = .int .i64 k ∧ Hid (∀ j o, j < k → l[j]? = some o → o.e = 0) ∧ Hid (Below w.heap.size w wr)) (fun s5 _ => n - (intOf s5).toNat)
  case atStart => exact ⟨0, by omega, rfl, (fun j o h => absurd h (Nat.not_lt_zero _)), HB0.out⟩
  case round =>
    obtain ⟨k, hk, rfl, HI, HB⟩ := hrel
    by_cases hlt : k < n
    · obtain ⟨g, q, o, rfl, hlk, hg, c0, c1, c2, c3⟩ := (H1.out.below HB.out).at_ k hlt
      by_cases he : o.e = 0
      · have HI2 : Hid (∀ j o, j < k + 1 → l[j]? = some o → o.e = 0) := fun j o' hj ho => by
          rcases Nat.lt_or_ge j k with h | h
          · exact HI.out j o' h ho
          · have e : j = k := by omega
            subst e
            rw [hlk] at ho
            rw [← Option.some.inj ho]
            exact he
        clear HI hlk
        go_wp2
        refine ⟨⟨k + 1, by omega, by go_num, HI2.out, HB.out⟩, by simp [intOf]; omega⟩
      · have he' : (o.e != 0) = true := by simp [he]
        clear HI hlk
        go_wp2_with (go_at_call 13; refine (awake _).mono ?_; rintro e w3 ⟨rfl, hb3⟩)
        first | exact bodyPost_ret (v := .bool true) (by simp [results, Tryz.results8, go_sem, *]) rfl ⟨rfl, bel_trans HB.out hb3⟩ | (go_ret; exact ⟨rfl, bel_trans HB.out hb3⟩)
    · have hE : ∀ o ∈ l, o.e = 0 := fun o ho => by
        obtain ⟨j, hj, e⟩ := List.getElem_of_mem ho
        exact HI.out j o (by have := H1.out.len; omega) (by rw [List.getElem?_eq_getElem hj, e])
      have hD := drops_split HT.out HR.out hE
      obtain ⟨a2, m2, c2, wa, f1, hm2, O2, B2⟩ := app_outs (v := .slice none 0 0) (xs := []) (ys := l) (c := c) (World.ownsRow_nil wr w.heap.size 34 4) HB.out (H1.out.below HB.out) hac (by simp; omega)
      have e2 : m2 = l.length := by simpa using hm2.out
      subst e2
      obtain ⟨a3, m3, c3, wb, f2, hm3, O3, B3⟩ := app_outs (v := .slice a2 l.length c2) (xs := l) (ys := r) (c := d) O2.out B2.out (H2.out.below B2.out) hbd (by have := H1.out.len; omega)
      have HL3 : Hid (Outs wb a3 m3 (l ++ r)) := own_outs O3.out hm3.out
      have hm3' : m3 ≤ 2097152 := by have := hm3.out; rw [List.length_append] at this; have := H1.out.len; have := H2.out.len; omega
      have hC1 : ∀ W, Outs W a n l → Ret 17 #[.slice a n c] W (enc (node 23 l)) := fun W h => c_Conds a n c l (by omega) HT.out W h
      have hC2 : ∀ W, Outs W b m r → Ret 17 #[.slice b m d] W (enc (node 23 r)) := fun W h => c_Conds b m d r (by omega) HR.out W h
      have hC3 : ∀ W, Outs W a3 m3 (l ++ r) → Ret 17 #[.slice a3 m3 c3] W (enc (node 23 (l ++ r))) := fun W h => c_Conds a3 m3 c3 (l ++ r) (by omega) (all_app HT.out HR.out) W h
      have hS1 := fun W => r_Same5 (node 23 l) (bo true) W
      have hS2 := fun W => r_Same5 (node 23 (l ++ r)) (bo true) W
      have hS3 := fun W => r_Same5 (node 23 (l ++ r)) (node 23 r) W
      generalize node 23 l = z1 at hD hC1 hS1
      generalize node 23 (l ++ r) = z2 at hD hC3 hS2 hS3
      generalize node 23 r = z3 at hD hC2 hS3
      have HD := Lib.hid hD
      have F1 := Lib.hid f1
      have F2 := Lib.hid f2
      clear hD hE HI f1 f2 hm2 hm3 O2 O3 B2
      go_upto_region 12 with (first | (at_builtin; first | refine app_list rfl rfl rfl rfl F1.out ?_ | refine app_list rfl rfl rfl rfl F2.out ?_) | (go_at_call 17; refine (hC1 _ (H1.out.below B3.out)).mono ?_; rintro e w4 ⟨rfl, hb4⟩))
      have X1 : Hid (Box (w4.alloc (.cells #[.int .u8 z1.k, .int .i64 z1.n, .string z1.s, .int .i64 z1.e] 34)) w4.heap.size z1) := Box.new w4 z1
      have BW : Hid (Below w.heap.size w (w4.alloc (.cells #[.int .u8 z1.k, .int .i64 z1.n, .string z1.s, .int .i64 z1.e] 34))) := bel_alloc (bel_trans B3.out hb4) _
      go_cut [8] from 9 (fun s8 wc => ∃ b8, s8 = .pointer (some ⟨b8, 0, none⟩) ∧ Hid (Box wc w4.heap.size z1) ∧ Hid (Box wc b8 z2) ∧ Hid (Below w.heap.size w wc))
      case first =>
        go_wp2_with (go_at_call 17; refine (hC3 _ (HL3.out.below (bel_alloc hb4 _))).mono ?_; rintro e w5 ⟨rfl, hb5⟩)
        go_meet
        exact ⟨_, rfl, X1.out.below (bel_alloc hb5 _), Box.new w5 z2, bel_trans BW.out (bel_alloc hb5 _)⟩
      case rest =>
        obtain ⟨b8, rfl, Y1, Y2, HB5⟩ := hcut
        have HR2 : Hid (Outs wc b m r) := H2.out.below HB5.out
        obtain ⟨i1, d10, d11, d12, d13, -, -, -, -⟩ := Y1.out
        have hD := HD.out
        clear HD F1 F2 H1 HL3 X1 BW HB
        rcases hD with ⟨e1, e2⟩ | ⟨e1, e2, e3⟩
        · subst e2
          have hS1' : ∀ W, Ret 18 #[ov z1.k z1.n z1.s z1.e, ov 3 1 ⟨#[]⟩ 0] W (.bool true) := fun W => by have h := hS1 W; rw [e1] at h; exact h
          have hS3' : ∀ W, Ret 18 #[ov z2.k z2.n z2.s z2.e, ov z2.k z2.n z2.s z2.e] W (.bool true) := fun W => by have h := hS3 W; rw [sameO_refl] at h; exact h
          have hC2' : ∀ W, Outs W b m r → Ret 17 #[.slice b m d] W (ov z2.k z2.n z2.s z2.e) := hC2
          clear hS1 hS2 hS3 e1 hC1 hC2 hC3
          go_upto_region 13 with fail
          refine region_far (by kernel_rfl) (by kernel_rfl) ?_
          repeat (go_big_quiet_step ((first | (go_at_call 18; with_reducible exact call_far (hS1' _)) | (go_at_call 28; with_reducible exact call_far (a_T _)))))
          refine wpQuiet_nil ?_
          intro wq hbq
          have Bq : Hid (Below w.heap.size w wq) := bel_trans HB5.out hbq
          have HRq := Lib.hid (HR2.out.below hbq)
          obtain ⟨i2, d20, d21, d22, d23, -, -, -, -⟩ := Y2.out.below hbq
          clear hbq i1 d10 d11 d12 d13
          go_wp2_with fail
          refine region_far (by kernel_rfl) (by kernel_rfl) ?_
          repeat (go_big_quiet_step ((first | (go_at_call 18; with_reducible exact call_far (hS3' _)) | (go_at_call 17; with_reducible exact call_far (hC2' _ (HRq.out.below (below_far _ _)))) | (go_at_call 13; with_reducible exact call_far (awake _)))))
          refine wpQuiet_nil ?_
          intro wz hbz
          go_wp2
          first | exact bodyPost_ret (v := .bool true) (by simp [results, Tryz.results8, go_sem, *]) rfl ⟨rfl, bel_trans Bq.out hbz⟩ | (go_ret; exact ⟨rfl, bel_trans Bq.out hbz⟩)
        · have hS1' : ∀ W, Ret 18 #[ov z1.k z1.n z1.s z1.e, ov 3 1 ⟨#[]⟩ 0] W (.bool false) := fun W => by have h := hS1 W; rw [e1] at h; exact h
          have hS2' : ∀ W, Ret 18 #[ov z2.k z2.n z2.s 0, ov 3 1 ⟨#[]⟩ 0] W (.bool false) := fun W => by have h : Ret 18 #[ov z2.k z2.n z2.s z2.e, ov 3 1 ⟨#[]⟩ 0] W (.bool (sameO z2 (bo true))) := hS2 W; rw [e3, e2] at h; exact h
          clear hS1 hS2 hS3 e1 e3 hC1 hC2 hC3
          go_upto_region 13 with fail
          refine region_far (by kernel_rfl) (by kernel_rfl) ?_
          repeat (go_big_quiet_step ((first | (go_at_call 18; with_reducible exact call_far (hS1' _)) | (go_at_call 28; with_reducible exact call_far (a_T _)))))
          refine wpQuiet_nil ?_
          intro wq hbq
          have Bq : Hid (Below w.heap.size w wq) := bel_trans HB5.out hbq
          obtain ⟨i2, d20, d21, d22, d23, -, -, -, -⟩ := Y2.out.below hbq
          rw [e2] at d23
          clear hbq i1 d10 d11 d12 d13 e2
          go_wp2_with fail
          refine region_far (by kernel_rfl) (by kernel_rfl) ?_
          repeat (go_big_quiet_step ((first | (go_at_call 18; with_reducible exact call_far (hS2' _)) | (go_at_call 28; with_reducible exact call_far (a_T _)) | (go_at_call 13; with_reducible exact call_far (awake _)))))
          refine wpQuiet_nil ?_
          intro wz hbz
          go_wp2
          first | exact bodyPost_ret (v := .bool true) (by simp [results, Tryz.results8, go_sem, *]) rfl ⟨rfl, bel_trans Bq.out hbz⟩ | (go_ret; exact ⟨rfl, bel_trans Bq.out hbz⟩)
end Go.Proofs.YtefelelhgepkeaaGreatDoor.KD
