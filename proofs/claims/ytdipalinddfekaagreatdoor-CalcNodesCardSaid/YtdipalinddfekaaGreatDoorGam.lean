/- The reference's fits. -/
import Derived.Test.YtdipalinddfekaaGreatDoorGak
import Derived.Test.YtdipalinddfekaaGreatDoorGal
namespace Go.Proofs.YtdipalinddfekaaGreatDoor.U
open Go.ChangeShapes Go.WideShapes Go.ChangeAt Go.RowKit Go.Proofs.YtdipalinddfekaaGreatDoor.V Go.Proofs.YtdipalinddfekaaGreatDoor.K Go.Proofs.YtdipalinddfekaaGreatDoor.T
theorem own_below' {W W' : World} {base : Nat} {e : TypeId} {size : Nat} {v : Value} {n : Nat} {xs : List Value} (h : W.ownsRow base e size v n xs) (hb : Below W.heap.size W W') : W'.ownsRow base e size v n xs :=
  h.kept (row := none) ⟨hb.os, hb.tape, hb.output, hb.size, fun k hk _ => hb.block k hk⟩ (by cases v.ownBlock <;> simp)
theorem kinds_one' {w : World} {base : Nat} {a : Option Addr} {m c : Nat} {xs : List Int} (h : w.ownsRow base 24 1 (.slice a m c) xs.length (xs.map kI)) (hm : m = xs.length) : One kI w a m xs := by
  subst hm
  obtain ⟨a', n', c', e, -, h1⟩ := own_kinds h
  injection e with e1 e2 e3
  subst e1; subst e2
  exact h1
set_option maxRecDepth 100000 in
set_option maxHeartbeats 4000000 in
theorem r_fits (op : Int) (a : Option Addr) (n c : Nat) (l : List Ot) (hn : n ≤ 140737488351230) (w : World) (h : Outs w a n l) : Ret 10 #[.int .u8 op, .slice a n c] w (.bool (fits op l)) := by
  have HL := Lib.hid h
  have hlen := Lib.hid h.len
  clear h
  go_enter Tryz.func10, Tryz.ntmps10
  go_wp2
  go_loopw [5, 6] (fun s5 s6 wr => ∃ (k : Nat) (a6 : Option Addr) (m6 c6 : Nat) (xs : List Int), k ≤ n ∧ s6 = .int .i64 k ∧ s5 = .slice a6 m6 c6 ∧ Hid ((l.take k).all Ot.ok = true) ∧ Hid (m6 = xs.length) ∧ Hid (xs = (l.take k).map (·.k)) ∧
      Hid (wr.ownsRow w.heap.size 24 1 (.slice a6 m6 c6) xs.length (xs.map kI)) ∧ Hid (Below w.heap.size w wr)) (fun _ s6 _ => n - (intOf s6).toNat)
  case atStart => exact ⟨0, none, 0, 0, [], by omega, rfl, rfl, rfl, rfl, rfl, World.ownsRow_nil _ _ _ _, Below.refl _ _⟩
  case round =>
    obtain ⟨k, a6, m6, c6, xs, hk, rfl, rfl, EB, M6, EX, O6, HB⟩ := hrel
    by_cases hlt : k < n
    · obtain ⟨g, q, o, rfl, hlk, hg, d0, d1, d2, d3⟩ := (HL.out.below HB.out).at_ k hlt
      have hxl : xs.length ≤ k := by rw [EX.out, List.length_map, List.length_take]; omega
      have EX2 : Hid (xs ++ [o.k] = (l.take (k + 1)).map (·.k)) := by
        show _ = _
        rw [List.take_add_one, hlk, List.map_append, ← EX.out]; rfl
      have hT : (l.take (k + 1)).all Ot.ok = o.ok := by
        rw [List.take_add_one, hlk, List.all_append, EB.out]
        simp
      have hV := fun W => r_ValidO o W
      cases hok : o.ok with
      | false =>
        have HR : Hid (fits op l = false) := by
          show _ = _
          unfold fits
          rw [Bool.and_eq_false_iff]
          left
          cases hq : l.all Ot.ok with
          | false => rfl
          | true =>
            have := List.all_eq_true.1 hq o (List.mem_of_getElem? hlk)
            rw [hok] at this
            cases this
        rw [hok] at hV
        clear hlk EX EB hT hok
        go_wp2_with (go_at_call 31; refine (hV _).mono ?_; rintro e w1 ⟨rfl, hb1⟩)
        first | exact bodyPost_ret (v := .bool false) (by simp [results, Tryz.results10, go_sem, *]) rfl ⟨ret_bool HR.out.symm, bel_trans HB.out hb1⟩ | (go_ret; exact ⟨ret_bool HR.out.symm, bel_trans HB.out hb1⟩)
      | true =>
        rw [hok] at hV hT
        have HT := Lib.hid hT
        clear hlk EX EB hT hok
        go_wp2_with (first | (go_at_call 31; refine (hV _).mono ?_; rintro e w1 ⟨rfl, hb1⟩; obtain ⟨aN, mN, cN, w2, hr, hmN, ON, HBN, hk2⟩ := app_row (x := o.k) (own_below' O6.out hb1) (bel_trans HB.out hb1) (by omega); replace d0 := (hb1.cell (p := ⟨g, _, none⟩) hg).trans d0; replace d1 := (hb1.cell (p := ⟨g, _, none⟩) hg).trans d1; replace d2 := (hb1.cell (p := ⟨g, _, none⟩) hg).trans d2; replace d3 := (hb1.cell (p := ⟨g, _, none⟩) hg).trans d3) | (at_builtin; refine app_list rfl rfl rfl rfl hr ?_))
        exact ⟨⟨k + 1, aN, mN, cN, xs ++ [o.k], by omega, by go_num, rfl, HT.out, hmN.out, EX2.out, by have := hmN.out; subst this; exact ON.out, HBN.out⟩, by simp [intOf]; omega⟩
    · have hl : l.take k = l := List.take_of_length_le (by have := hlen.out; omega)
      rw [hl] at EB EX
      have hKi : Ret 32 #[.int .u8 op, .slice a6 m6 c6] wr (kV (kind op (l.map (·.k)))) := by
        rw [← EX.out]
        exact r_Kind op a6 m6 c6 xs (by have := M6.out; have := congrArg List.length EX.out; rw [List.length_map, ← hlen.out] at this; omega) wr (kinds_one' O6.out M6.out)
      have hf : fits op l = ((kind op (l.map (·.k))).2 == 0) := by unfold fits; rw [EB.out, Bool.true_and]
      generalize kind op (l.map (·.k)) = q at hKi hf
      obtain ⟨q1, q2⟩ := q
      simp only [kV] at hKi
      have HR : Hid (fits op l = (q2 == 0)) := hf
      clear hf EB EX O6 M6 hl
      go_wp2_with (go_at_call 32; refine hKi.mono ?_; rintro e w1 ⟨rfl, hb1⟩)
      first | exact bodyPost_ret (v := .bool (q2 == 0)) (by simp [results, Tryz.results10, go_sem, *]) rfl ⟨ret_bool HR.out.symm, bel_trans HB.out hb1⟩ | (go_ret; exact ⟨ret_bool HR.out.symm, bel_trans HB.out hb1⟩)
end Go.Proofs.YtdipalinddfekaaGreatDoor.U
namespace Go.Proofs.YtdipalinddfekaaGreatDoor.U
open Go.ChangeShapes Go.WideShapes Go.ChangeAt Go.RowKit Go.Proofs.YtdipalinddfekaaGreatDoor.V Go.Proofs.YtdipalinddfekaaGreatDoor.K Go.Proofs.YtdipalinddfekaaGreatDoor.T
set_option maxRecDepth 100000 in
set_option maxHeartbeats 4000000 in
theorem r_Node_no (op : Int) (a : Option Addr) (n c : Nat) (l : List Ot) (hn : n ≤ 140737488351230) (hf : fits op l = false) (w : World) (h : Outs w a n l) : Ret 4 #[.int .u8 op, .slice a n c] w (enc (fl 1)) := by
  have HL := Lib.hid h
  have hF : ∀ W, Outs W a n l → Ret 10 #[.int .u8 op, .slice a n c] W (.bool false) := fun W h => hf ▸ r_fits op a n c l hn W h
  clear h hf
  go_enter Tryz.func4, Tryz.ntmps4
  go_upto_region 2 with (go_at_call 10; refine (hF _ (HL.out.below (bel_alloc (Below.refl _ _) _))).mono ?_; rintro e w1 ⟨rfl, hb1⟩)
  have B1 : Hid (Below w.heap.size w w1) := bel_trans (bel_alloc (Below.refl _ _) _) hb1
  have X1 : Hid (Box w1 w.heap.size nul) := (Box.new w nul).below hb1
  clear hb1 hF
  go_wp2_with (go_at_call 11; refine (r_Fail 1 _).mono ?_; rintro e w4 ⟨rfl, hb4⟩; obtain ⟨hx, d0, d1, d2, d3, f0, f1, f2, f3⟩ := X1.out.below hb4)
  exact bodyPost_ret (v := ov 0 0 ⟨#[]⟩ 1) (by simp [results, Tryz.results4, go_sem, *]) rfl ⟨rfl, put4_below (o := fl 1) (bel_trans B1.out hb4) (Nat.le_refl _)⟩
set_option maxRecDepth 100000 in
set_option maxHeartbeats 4000000 in
theorem r_Node_23 (z : Ot) (a : Option Addr) (n c : Nat) (l : List Ot) (hn : n ≤ 140737488351230) (hZ : ∀ W, Outs W a n l → Ret 12 #[.slice a n c, .bool false] W (ov z.k z.n z.s z.e)) (hf : fits 23 l = true) (w : World) (h : Outs w a n l) : Ret 4 #[.int .u8 23, .slice a n c] w (enc z) := by
  have HL := Lib.hid h
  have hF : ∀ W, Outs W a n l → Ret 10 #[.int .u8 23, .slice a n c] W (.bool true) := fun W h => hf ▸ r_fits 23 a n c l hn W h
  clear h hf
  go_enter Tryz.func4, Tryz.ntmps4
  go_upto_region 3 with (go_at_call 10; refine (hF _ (HL.out.below (bel_alloc (Below.refl _ _) _))).mono ?_; rintro e w1 ⟨rfl, hb1⟩)
  have B1 : Hid (Below w.heap.size w w1) := bel_trans (bel_alloc (Below.refl _ _) _) hb1
  have X1 : Hid (Box w1 w.heap.size nul) := (Box.new w nul).below hb1
  clear hb1 hF
  have HL1 := Lib.hid (HL.out.below B1.out)
  go_wp2_with (go_at_call 12; refine (hZ _ HL1.out).mono ?_; rintro e w4 ⟨rfl, hb4⟩; obtain ⟨hx, d0, d1, d2, d3, f0, f1, f2, f3⟩ := X1.out.below hb4)
  exact bodyPost_ret (v := ov z.k z.n z.s z.e) (by simp [results, Tryz.results4, go_sem, *]) rfl ⟨rfl, put4_below (bel_trans B1.out hb4) (Nat.le_refl _) z⟩
set_option maxRecDepth 100000 in
set_option maxHeartbeats 4000000 in
theorem r_Node_24 (z : Ot) (a : Option Addr) (n c : Nat) (l : List Ot) (hn : n ≤ 140737488351230) (hZ : ∀ W, Outs W a n l → Ret 12 #[.slice a n c, .bool true] W (ov z.k z.n z.s z.e)) (hf : fits 24 l = true) (w : World) (h : Outs w a n l) : Ret 4 #[.int .u8 24, .slice a n c] w (enc z) := by
  have HL := Lib.hid h
  have hF : ∀ W, Outs W a n l → Ret 10 #[.int .u8 24, .slice a n c] W (.bool true) := fun W h => hf ▸ r_fits 24 a n c l hn W h
  clear h hf
  go_enter Tryz.func4, Tryz.ntmps4
  go_upto_region 3 with (go_at_call 10; refine (hF _ (HL.out.below (bel_alloc (Below.refl _ _) _))).mono ?_; rintro e w1 ⟨rfl, hb1⟩)
  have B1 : Hid (Below w.heap.size w w1) := bel_trans (bel_alloc (Below.refl _ _) _) hb1
  have X1 : Hid (Box w1 w.heap.size nul) := (Box.new w nul).below hb1
  clear hb1 hF
  have HL1 := Lib.hid (HL.out.below B1.out)
  go_wp2_with (go_at_call 12; refine (hZ _ HL1.out).mono ?_; rintro e w4 ⟨rfl, hb4⟩; obtain ⟨hx, d0, d1, d2, d3, f0, f1, f2, f3⟩ := X1.out.below hb4)
  exact bodyPost_ret (v := ov z.k z.n z.s z.e) (by simp [results, Tryz.results4, go_sem, *]) rfl ⟨rfl, put4_below (bel_trans B1.out hb4) (Nat.le_refl _) z⟩
set_option maxRecDepth 100000 in
set_option maxHeartbeats 4000000 in
theorem r_Node_25 (z : Ot) (a : Option Addr) (n c : Nat) (l : List Ot) (hn : n ≤ 140737488351230) (hZ : ∀ W, Outs W a n l → Ret 13 #[.slice a n c] W (ov z.k z.n z.s z.e)) (hf : fits 25 l = true) (w : World) (h : Outs w a n l) : Ret 4 #[.int .u8 25, .slice a n c] w (enc z) := by
  have HL := Lib.hid h
  have hF : ∀ W, Outs W a n l → Ret 10 #[.int .u8 25, .slice a n c] W (.bool true) := fun W h => hf ▸ r_fits 25 a n c l hn W h
  clear h hf
  go_enter Tryz.func4, Tryz.ntmps4
  go_upto_region 3 with (go_at_call 10; refine (hF _ (HL.out.below (bel_alloc (Below.refl _ _) _))).mono ?_; rintro e w1 ⟨rfl, hb1⟩)
  have B1 : Hid (Below w.heap.size w w1) := bel_trans (bel_alloc (Below.refl _ _) _) hb1
  have X1 : Hid (Box w1 w.heap.size nul) := (Box.new w nul).below hb1
  clear hb1 hF
  have HL1 := Lib.hid (HL.out.below B1.out)
  go_wp2_with (go_at_call 13; refine (hZ _ HL1.out).mono ?_; rintro e w4 ⟨rfl, hb4⟩; obtain ⟨hx, d0, d1, d2, d3, f0, f1, f2, f3⟩ := X1.out.below hb4)
  exact bodyPost_ret (v := ov z.k z.n z.s z.e) (by simp [results, Tryz.results4, go_sem, *]) rfl ⟨rfl, put4_below (bel_trans B1.out hb4) (Nat.le_refl _) z⟩
set_option maxRecDepth 100000 in
set_option maxHeartbeats 4000000 in
theorem r_Node_26 (z : Ot) (a : Option Addr) (n c : Nat) (l : List Ot) (hn : n ≤ 140737488351230) (hZ : ∀ W, Outs W a n l → Ret 14 #[.slice a n c] W (ov z.k z.n z.s z.e)) (hf : fits 26 l = true) (w : World) (h : Outs w a n l) : Ret 4 #[.int .u8 26, .slice a n c] w (enc z) := by
  have HL := Lib.hid h
  have hF : ∀ W, Outs W a n l → Ret 10 #[.int .u8 26, .slice a n c] W (.bool true) := fun W h => hf ▸ r_fits 26 a n c l hn W h
  clear h hf
  go_enter Tryz.func4, Tryz.ntmps4
  go_upto_region 3 with (go_at_call 10; refine (hF _ (HL.out.below (bel_alloc (Below.refl _ _) _))).mono ?_; rintro e w1 ⟨rfl, hb1⟩)
  have B1 : Hid (Below w.heap.size w w1) := bel_trans (bel_alloc (Below.refl _ _) _) hb1
  have X1 : Hid (Box w1 w.heap.size nul) := (Box.new w nul).below hb1
  clear hb1 hF
  have HL1 := Lib.hid (HL.out.below B1.out)
  go_wp2_with (go_at_call 14; refine (hZ _ HL1.out).mono ?_; rintro e w4 ⟨rfl, hb4⟩; obtain ⟨hx, d0, d1, d2, d3, f0, f1, f2, f3⟩ := X1.out.below hb4)
  exact bodyPost_ret (v := ov z.k z.n z.s z.e) (by simp [results, Tryz.results4, go_sem, *]) rfl ⟨rfl, put4_below (bel_trans B1.out hb4) (Nat.le_refl _) z⟩
theorem any_drop {l : List Ot} {k : Nat} {o : Ot} (h : l[k]? = some o) : (l.drop k).any isN = (isN o || (l.drop (k + 1)).any isN) := by
  rw [List.drop_eq_getElem_cons (List.getElem?_eq_some_iff.1 h).1, List.any_cons, (List.getElem?_eq_some_iff.1 h).2]
set_option maxRecDepth 100000 in
set_option maxHeartbeats 4000000 in
theorem r_Node_err (op : Int) (h23 : (op == 23) = false) (h24 : (op == 24) = false) (h25 : (op == 25) = false) (h26 : (op == 26) = false) (a : Option Addr) (n c : Nat) (l : List Ot) (hn : n ≤ 140737488351230) (he0 : errs 0 l ≠ 0) (hf : fits op l = true) (w : World) (h : Outs w a n l) : Ret 4 #[.int .u8 op, .slice a n c] w (enc (fl (errs 0 l))) := by
  have HL := Lib.hid h
  have hF : ∀ W, Outs W a n l → Ret 10 #[.int .u8 op, .slice a n c] W (.bool true) := fun W h => hf ▸ r_fits op a n c l hn W h
  clear h hf
  go_enter Tryz.func4, Tryz.ntmps4
  go_upto_region 3 with (go_at_call 10; refine (hF _ (HL.out.below (bel_alloc (Below.refl _ _) _))).mono ?_; rintro e w1 ⟨rfl, hb1⟩)
  have B1 : Hid (Below w.heap.size w w1) := bel_trans (bel_alloc (Below.refl _ _) _) hb1
  have X1 : Hid (Box w1 w.heap.size nul) := (Box.new w nul).below hb1
  clear hb1 hF
  go_upto_region 14 with fail
  go_wp2
  go_loopw [5, 6, 7] (fun s5 s6 s7 wr => ∃ (k : Nat) (e : Int) (b : Bool), k ≤ n ∧ s5 = .int .i64 e ∧ s6 = .bool b ∧ s7 = .int .i64 k ∧ Hid (errs e (l.drop k) = errs 0 l) ∧ Hid ((b || (l.drop k).any isN) = l.any isN) ∧ Hid (Box wr w.heap.size nul) ∧ Hid (Below w.heap.size w wr)) (fun _ _ s7 _ => n - (intOf s7).toNat)
  case atStart => exact ⟨0, 0, false, by omega, rfl, rfl, rfl, rfl, rfl, X1.out, B1.out⟩
  case round =>
    obtain ⟨k, e, b, hk, rfl, rfl, rfl, HE, HN, HX, HB⟩ := hrel
    by_cases hlt : k < n
    · obtain ⟨g, p, o, rfl, hlk, hg, c0, c1, c2, c3⟩ := (HL.out.below HB.out).at_ k hlt
      have HE2 : Hid (errs (lst e o.e) (l.drop (k + 1)) = errs 0 l) := (errs_drop hlk e).symm.trans HE.out
      have HN2 : Hid (((b || isN o) || (l.drop (k + 1)).any isN) = l.any isN) := by
        show _ = _
        rw [← HN.out, any_drop hlk, Bool.or_assoc]
      have hLe := fun W => r_Least e o.e W
      have hNu := fun W => r_isNull o W
      clear HE HN hlk
      generalize lst e o.e = e2 at hLe HE2
      cases b with
      | true =>
        clear hNu
        go_wp2_with (go_at_call 15; refine (hLe _).mono ?_; rintro e1 w1 ⟨rfl, hb1⟩)
        exact ⟨⟨k + 1, e2, true, by omega, rfl, rfl, by go_num, HE2.out, HN2.out, HX.out.below hb1, bel_trans HB.out hb1⟩, by simp [intOf]; omega⟩
      | false =>
        generalize isN o = m at hNu HN2
        go_wp2_with (first | (go_at_call 15; refine (hLe _).mono ?_; rintro e1 w1 ⟨rfl, hb1⟩; replace c0 := (hb1.cell (p := ⟨g, _, none⟩) hg).trans c0; replace c1 := (hb1.cell (p := ⟨g, _, none⟩) hg).trans c1; replace c2 := (hb1.cell (p := ⟨g, _, none⟩) hg).trans c2; replace c3 := (hb1.cell (p := ⟨g, _, none⟩) hg).trans c3) | (go_at_call 16; refine (hNu _).mono ?_; rintro e3 w2 ⟨rfl, hb2⟩))
        exact ⟨⟨k + 1, e2, m, by omega, rfl, rfl, by go_num, HE2.out, HN2.out, (HX.out.below hb1).below hb2, bel_trans (bel_trans HB.out hb1) hb2⟩, by simp [intOf]; omega⟩
    · have hlen := HL.out.len
      have he : errs 0 l = e := by rw [← HE.out, errs_end (by omega)]
      have hnl : l.any isN = b := by rw [← HN.out, List.drop_eq_nil_of_le (by omega)]; simp
      have HLr := Lib.hid (HL.out.below HB.out)
      clear HE HN hlen
      have HR : Hid (fl (errs 0 l) = fl e) := by show _ = _; rw [he]
      rw [he] at he0
      have he2 : (e != 0) = true := by simpa using he0
      clear he hnl he0
      go_wp2_with (go_at_call 11; refine (r_Fail e _).mono ?_; rintro e1 w4 ⟨rfl, hb4⟩; obtain ⟨hx, d0, d1, d2, d3, f0, f1, f2, f3⟩ := HX.out.below hb4)
      exact bodyPost_ret (v := ov 0 0 ⟨#[]⟩ e) (by simp [results, Tryz.results4, go_sem, *]) rfl ⟨ret_v (by rw [HR.out]), put4_below (o := fl e) (bel_trans HB.out hb4) (Nat.le_refl _)⟩
set_option maxRecDepth 100000 in
set_option maxHeartbeats 4000000 in
theorem r_Node_nul (op : Int) (h23 : (op == 23) = false) (h24 : (op == 24) = false) (h25 : (op == 25) = false) (h26 : (op == 26) = false) (h18 : (op == 18) = false) (h20 : (op == 20) = false) (h21 : (op == 21) = false) (a : Option Addr) (n c : Nat) (l : List Ot) (hn : n ≤ 140737488351230) (he0 : errs 0 l = 0) (hnu : l.any isN = true) (hf : fits op l = true) (w : World) (h : Outs w a n l) : Ret 4 #[.int .u8 op, .slice a n c] w (enc nul) := by
  have HL := Lib.hid h
  have hF : ∀ W, Outs W a n l → Ret 10 #[.int .u8 op, .slice a n c] W (.bool true) := fun W h => hf ▸ r_fits op a n c l hn W h
  clear h hf
  go_enter Tryz.func4, Tryz.ntmps4
  go_upto_region 3 with (go_at_call 10; refine (hF _ (HL.out.below (bel_alloc (Below.refl _ _) _))).mono ?_; rintro e w1 ⟨rfl, hb1⟩)
  have B1 : Hid (Below w.heap.size w w1) := bel_trans (bel_alloc (Below.refl _ _) _) hb1
  have X1 : Hid (Box w1 w.heap.size nul) := (Box.new w nul).below hb1
  clear hb1 hF
  go_upto_region 14 with fail
  go_wp2
  go_loopw [5, 6, 7] (fun s5 s6 s7 wr => ∃ (k : Nat) (e : Int) (b : Bool), k ≤ n ∧ s5 = .int .i64 e ∧ s6 = .bool b ∧ s7 = .int .i64 k ∧ Hid (errs e (l.drop k) = errs 0 l) ∧ Hid ((b || (l.drop k).any isN) = l.any isN) ∧ Hid (Box wr w.heap.size nul) ∧ Hid (Below w.heap.size w wr)) (fun _ _ s7 _ => n - (intOf s7).toNat)
  case atStart => exact ⟨0, 0, false, by omega, rfl, rfl, rfl, rfl, rfl, X1.out, B1.out⟩
  case round =>
    obtain ⟨k, e, b, hk, rfl, rfl, rfl, HE, HN, HX, HB⟩ := hrel
    by_cases hlt : k < n
    · obtain ⟨g, p, o, rfl, hlk, hg, c0, c1, c2, c3⟩ := (HL.out.below HB.out).at_ k hlt
      have HE2 : Hid (errs (lst e o.e) (l.drop (k + 1)) = errs 0 l) := (errs_drop hlk e).symm.trans HE.out
      have HN2 : Hid (((b || isN o) || (l.drop (k + 1)).any isN) = l.any isN) := by
        show _ = _
        rw [← HN.out, any_drop hlk, Bool.or_assoc]
      have hLe := fun W => r_Least e o.e W
      have hNu := fun W => r_isNull o W
      clear HE HN hlk
      generalize lst e o.e = e2 at hLe HE2
      cases b with
      | true =>
        clear hNu
        go_wp2_with (go_at_call 15; refine (hLe _).mono ?_; rintro e1 w1 ⟨rfl, hb1⟩)
        exact ⟨⟨k + 1, e2, true, by omega, rfl, rfl, by go_num, HE2.out, HN2.out, HX.out.below hb1, bel_trans HB.out hb1⟩, by simp [intOf]; omega⟩
      | false =>
        generalize isN o = m at hNu HN2
        go_wp2_with (first | (go_at_call 15; refine (hLe _).mono ?_; rintro e1 w1 ⟨rfl, hb1⟩; replace c0 := (hb1.cell (p := ⟨g, _, none⟩) hg).trans c0; replace c1 := (hb1.cell (p := ⟨g, _, none⟩) hg).trans c1; replace c2 := (hb1.cell (p := ⟨g, _, none⟩) hg).trans c2; replace c3 := (hb1.cell (p := ⟨g, _, none⟩) hg).trans c3) | (go_at_call 16; refine (hNu _).mono ?_; rintro e3 w2 ⟨rfl, hb2⟩))
        exact ⟨⟨k + 1, e2, m, by omega, rfl, rfl, by go_num, HE2.out, HN2.out, (HX.out.below hb1).below hb2, bel_trans (bel_trans HB.out hb1) hb2⟩, by simp [intOf]; omega⟩
    · have hlen := HL.out.len
      have he : errs 0 l = e := by rw [← HE.out, errs_end (by omega)]
      have hnl : l.any isN = b := by rw [← HN.out, List.drop_eq_nil_of_le (by omega)]; simp
      have HLr := Lib.hid (HL.out.below HB.out)
      clear HE HN hlen
      obtain rfl : 0 = e := he0.symm.trans he
      obtain rfl : true = b := hnu.symm.trans hnl
      clear he hnl he0 hnu
      obtain ⟨hx, d0, d1, d2, d3, f0, f1, f2, f3⟩ := HX.out
      go_wp2
      exact bodyPost_ret (v := ov 0 0 ⟨#[]⟩ 0) (by simp [results, Tryz.results4, go_sem, *]) rfl ⟨rfl, put4_below (o := nul) HB.out (Nat.le_refl _)⟩
set_option maxRecDepth 100000 in
set_option maxHeartbeats 4000000 in
theorem r_Node_st (op : Int) (h23 : (op == 23) = false) (h24 : (op == 24) = false) (h25 : (op == 25) = false) (h26 : (op == 26) = false) (h18 : (op == 18) = false) (h20 : (op == 20) = false) (h21 : (op == 21) = false) (z : Ot) (a : Option Addr) (n c : Nat) (l : List Ot) (hn : n ≤ 140737488351230) (hZ : ∀ W, Outs W a n l → Ret 20 #[.int .u8 op, .slice a n c] W (ov z.k z.n z.s z.e)) (he0 : errs 0 l = 0) (hnu : l.any isN = false) (hf : fits op l = true) (w : World) (h : Outs w a n l) : Ret 4 #[.int .u8 op, .slice a n c] w (enc z) := by
  have HL := Lib.hid h
  have hF : ∀ W, Outs W a n l → Ret 10 #[.int .u8 op, .slice a n c] W (.bool true) := fun W h => hf ▸ r_fits op a n c l hn W h
  clear h hf
  go_enter Tryz.func4, Tryz.ntmps4
  go_upto_region 3 with (go_at_call 10; refine (hF _ (HL.out.below (bel_alloc (Below.refl _ _) _))).mono ?_; rintro e w1 ⟨rfl, hb1⟩)
  have B1 : Hid (Below w.heap.size w w1) := bel_trans (bel_alloc (Below.refl _ _) _) hb1
  have X1 : Hid (Box w1 w.heap.size nul) := (Box.new w nul).below hb1
  clear hb1 hF
  go_upto_region 14 with fail
  go_wp2
  go_loopw [5, 6, 7] (fun s5 s6 s7 wr => ∃ (k : Nat) (e : Int) (b : Bool), k ≤ n ∧ s5 = .int .i64 e ∧ s6 = .bool b ∧ s7 = .int .i64 k ∧ Hid (errs e (l.drop k) = errs 0 l) ∧ Hid ((b || (l.drop k).any isN) = l.any isN) ∧ Hid (Box wr w.heap.size nul) ∧ Hid (Below w.heap.size w wr)) (fun _ _ s7 _ => n - (intOf s7).toNat)
  case atStart => exact ⟨0, 0, false, by omega, rfl, rfl, rfl, rfl, rfl, X1.out, B1.out⟩
  case round =>
    obtain ⟨k, e, b, hk, rfl, rfl, rfl, HE, HN, HX, HB⟩ := hrel
    by_cases hlt : k < n
    · obtain ⟨g, p, o, rfl, hlk, hg, c0, c1, c2, c3⟩ := (HL.out.below HB.out).at_ k hlt
      have HE2 : Hid (errs (lst e o.e) (l.drop (k + 1)) = errs 0 l) := (errs_drop hlk e).symm.trans HE.out
      have HN2 : Hid (((b || isN o) || (l.drop (k + 1)).any isN) = l.any isN) := by
        show _ = _
        rw [← HN.out, any_drop hlk, Bool.or_assoc]
      have hLe := fun W => r_Least e o.e W
      have hNu := fun W => r_isNull o W
      clear HE HN hlk
      generalize lst e o.e = e2 at hLe HE2
      cases b with
      | true =>
        clear hNu
        go_wp2_with (go_at_call 15; refine (hLe _).mono ?_; rintro e1 w1 ⟨rfl, hb1⟩)
        exact ⟨⟨k + 1, e2, true, by omega, rfl, rfl, by go_num, HE2.out, HN2.out, HX.out.below hb1, bel_trans HB.out hb1⟩, by simp [intOf]; omega⟩
      | false =>
        generalize isN o = m at hNu HN2
        go_wp2_with (first | (go_at_call 15; refine (hLe _).mono ?_; rintro e1 w1 ⟨rfl, hb1⟩; replace c0 := (hb1.cell (p := ⟨g, _, none⟩) hg).trans c0; replace c1 := (hb1.cell (p := ⟨g, _, none⟩) hg).trans c1; replace c2 := (hb1.cell (p := ⟨g, _, none⟩) hg).trans c2; replace c3 := (hb1.cell (p := ⟨g, _, none⟩) hg).trans c3) | (go_at_call 16; refine (hNu _).mono ?_; rintro e3 w2 ⟨rfl, hb2⟩))
        exact ⟨⟨k + 1, e2, m, by omega, rfl, rfl, by go_num, HE2.out, HN2.out, (HX.out.below hb1).below hb2, bel_trans (bel_trans HB.out hb1) hb2⟩, by simp [intOf]; omega⟩
    · have hlen := HL.out.len
      have he : errs 0 l = e := by rw [← HE.out, errs_end (by omega)]
      have hnl : l.any isN = b := by rw [← HN.out, List.drop_eq_nil_of_le (by omega)]; simp
      have HLr := Lib.hid (HL.out.below HB.out)
      clear HE HN hlen
      obtain rfl : 0 = e := he0.symm.trans he
      obtain rfl : false = b := hnu.symm.trans hnl
      clear he hnl he0 hnu
      go_wp2_with (go_at_call 20; refine (hZ _ HLr.out).mono ?_; rintro e1 w4 ⟨rfl, hb4⟩; obtain ⟨hx, d0, d1, d2, d3, f0, f1, f2, f3⟩ := HX.out.below hb4)
      exact bodyPost_ret (v := ov z.k z.n z.s z.e) (by simp [results, Tryz.results4, go_sem, *]) rfl ⟨rfl, put4_below (bel_trans HB.out hb4) (Nat.le_refl _) z⟩
set_option maxRecDepth 100000 in
set_option maxHeartbeats 4000000 in
theorem r_Node_20 (a : Option Addr) (n c : Nat) (l : List Ot) (hn : n ≤ 140737488351230) (he0 : errs 0 l = 0) (hf : fits 20 l = true) (w : World) (h : Outs w a n l) : Ret 4 #[.int .u8 20, .slice a n c] w (enc (bo (l.any isN))) := by
  have HL := Lib.hid h
  have hF : ∀ W, Outs W a n l → Ret 10 #[.int .u8 20, .slice a n c] W (.bool true) := fun W h => hf ▸ r_fits 20 a n c l hn W h
  clear h hf
  go_enter Tryz.func4, Tryz.ntmps4
  go_upto_region 3 with (go_at_call 10; refine (hF _ (HL.out.below (bel_alloc (Below.refl _ _) _))).mono ?_; rintro e w1 ⟨rfl, hb1⟩)
  have B1 : Hid (Below w.heap.size w w1) := bel_trans (bel_alloc (Below.refl _ _) _) hb1
  have X1 : Hid (Box w1 w.heap.size nul) := (Box.new w nul).below hb1
  clear hb1 hF
  go_upto_region 14 with fail
  go_wp2
  go_loopw [5, 6, 7] (fun s5 s6 s7 wr => ∃ (k : Nat) (e : Int) (b : Bool), k ≤ n ∧ s5 = .int .i64 e ∧ s6 = .bool b ∧ s7 = .int .i64 k ∧ Hid (errs e (l.drop k) = errs 0 l) ∧ Hid ((b || (l.drop k).any isN) = l.any isN) ∧ Hid (Box wr w.heap.size nul) ∧ Hid (Below w.heap.size w wr)) (fun _ _ s7 _ => n - (intOf s7).toNat)
  case atStart => exact ⟨0, 0, false, by omega, rfl, rfl, rfl, rfl, rfl, X1.out, B1.out⟩
  case round =>
    obtain ⟨k, e, b, hk, rfl, rfl, rfl, HE, HN, HX, HB⟩ := hrel
    by_cases hlt : k < n
    · obtain ⟨g, p, o, rfl, hlk, hg, c0, c1, c2, c3⟩ := (HL.out.below HB.out).at_ k hlt
      have HE2 : Hid (errs (lst e o.e) (l.drop (k + 1)) = errs 0 l) := (errs_drop hlk e).symm.trans HE.out
      have HN2 : Hid (((b || isN o) || (l.drop (k + 1)).any isN) = l.any isN) := by
        show _ = _
        rw [← HN.out, any_drop hlk, Bool.or_assoc]
      have hLe := fun W => r_Least e o.e W
      have hNu := fun W => r_isNull o W
      clear HE HN hlk
      generalize lst e o.e = e2 at hLe HE2
      cases b with
      | true =>
        clear hNu
        go_wp2_with (go_at_call 15; refine (hLe _).mono ?_; rintro e1 w1 ⟨rfl, hb1⟩)
        exact ⟨⟨k + 1, e2, true, by omega, rfl, rfl, by go_num, HE2.out, HN2.out, HX.out.below hb1, bel_trans HB.out hb1⟩, by simp [intOf]; omega⟩
      | false =>
        generalize isN o = m at hNu HN2
        go_wp2_with (first | (go_at_call 15; refine (hLe _).mono ?_; rintro e1 w1 ⟨rfl, hb1⟩; replace c0 := (hb1.cell (p := ⟨g, _, none⟩) hg).trans c0; replace c1 := (hb1.cell (p := ⟨g, _, none⟩) hg).trans c1; replace c2 := (hb1.cell (p := ⟨g, _, none⟩) hg).trans c2; replace c3 := (hb1.cell (p := ⟨g, _, none⟩) hg).trans c3) | (go_at_call 16; refine (hNu _).mono ?_; rintro e3 w2 ⟨rfl, hb2⟩))
        exact ⟨⟨k + 1, e2, m, by omega, rfl, rfl, by go_num, HE2.out, HN2.out, (HX.out.below hb1).below hb2, bel_trans (bel_trans HB.out hb1) hb2⟩, by simp [intOf]; omega⟩
    · have hlen := HL.out.len
      have he : errs 0 l = e := by rw [← HE.out, errs_end (by omega)]
      have hnl : l.any isN = b := by rw [← HN.out, List.drop_eq_nil_of_le (by omega)]; simp
      have HLr := Lib.hid (HL.out.below HB.out)
      clear HE HN hlen
      obtain rfl : 0 = e := he0.symm.trans he
      have HR : Hid (enc (bo (l.any isN)) = enc (bo b)) := by show _ = _; rw [hnl]
      have hB := fun W => r_Bool5 b W
      have hz : (bo b).k = 3 ∧ (bo b).n = (if b then 1 else 0) ∧ (bo b).s = ⟨#[]⟩ ∧ (bo b).e = 0 := ⟨rfl, rfl, rfl, rfl⟩
      have HZ : Hid (enc (bo b) = ov 3 (if b then 1 else 0) ⟨#[]⟩ 0) := rfl
      generalize (if b = true then 1 else 0 : Int) = m at hB HZ
      clear he hnl he0 hz
      go_wp2_with (go_at_call 17; refine (hB _).mono ?_; rintro e1 w4 ⟨rfl, hb4⟩; obtain ⟨hx, d0, d1, d2, d3, f0, f1, f2, f3⟩ := HX.out.below hb4)
      exact bodyPost_ret (v := ov 3 m ⟨#[]⟩ 0) (by simp [results, Tryz.results4, go_sem, *]) rfl ⟨ret_v (by rw [HR.out, HZ.out]), put4_below (o := ⟨3, m, ⟨#[]⟩, 0⟩) (bel_trans HB.out hb4) (Nat.le_refl _)⟩
set_option maxRecDepth 100000 in
set_option maxHeartbeats 4000000 in
theorem r_Node_21 (o0 : Ot) (a : Option Addr) (c : Nat) (he0 : errs 0 [o0] = 0) (hf : fits 21 [o0] = true) (w : World) (h : Outs w a 1 [o0]) : Ret 4 #[.int .u8 21, .slice a 1 c] w (enc (bo (isT o0))) := by
  obtain ⟨n, hn, hn1⟩ : ∃ n, n ≤ 140737488351230 ∧ n = 1 := ⟨1, by omega, rfl⟩
  obtain ⟨l, hl1⟩ : ∃ l, l = [o0] := ⟨_, rfl⟩
  have H1 := Lib.hid hn1
  have H2 := Lib.hid hl1
  rw [← hl1] at he0 hf h
  have h : Outs w a n l := by rw [hn1]; exact h
  rw [← hn1]
  clear hn1 hl1
  have HL := Lib.hid h
  have hF : ∀ W, Outs W a n l → Ret 10 #[.int .u8 21, .slice a n c] W (.bool true) := fun W h => hf ▸ r_fits 21 a n c l hn W h
  clear h hf
  go_enter Tryz.func4, Tryz.ntmps4
  go_upto_region 3 with (go_at_call 10; refine (hF _ (HL.out.below (bel_alloc (Below.refl _ _) _))).mono ?_; rintro e w1 ⟨rfl, hb1⟩)
  have B1 : Hid (Below w.heap.size w w1) := bel_trans (bel_alloc (Below.refl _ _) _) hb1
  have X1 : Hid (Box w1 w.heap.size nul) := (Box.new w nul).below hb1
  clear hb1 hF
  go_upto_region 14 with fail
  go_wp2
  go_loopw [5, 6, 7] (fun s5 s6 s7 wr => ∃ (k : Nat) (e : Int) (b : Bool), k ≤ n ∧ s5 = .int .i64 e ∧ s6 = .bool b ∧ s7 = .int .i64 k ∧ Hid (errs e (l.drop k) = errs 0 l) ∧ Hid ((b || (l.drop k).any isN) = l.any isN) ∧ Hid (Box wr w.heap.size nul) ∧ Hid (Below w.heap.size w wr)) (fun _ _ s7 _ => n - (intOf s7).toNat)
  case atStart => exact ⟨0, 0, false, by omega, rfl, rfl, rfl, rfl, rfl, X1.out, B1.out⟩
  case round =>
    obtain ⟨k, e, b, hk, rfl, rfl, rfl, HE, HN, HX, HB⟩ := hrel
    by_cases hlt : k < n
    · obtain ⟨g, p, o, rfl, hlk, hg, c0, c1, c2, c3⟩ := (HL.out.below HB.out).at_ k hlt
      have HE2 : Hid (errs (lst e o.e) (l.drop (k + 1)) = errs 0 l) := (errs_drop hlk e).symm.trans HE.out
      have HN2 : Hid (((b || isN o) || (l.drop (k + 1)).any isN) = l.any isN) := by
        show _ = _
        rw [← HN.out, any_drop hlk, Bool.or_assoc]
      have hLe := fun W => r_Least e o.e W
      have hNu := fun W => r_isNull o W
      clear HE HN hlk
      generalize lst e o.e = e2 at hLe HE2
      cases b with
      | true =>
        clear hNu
        go_wp2_with (go_at_call 15; refine (hLe _).mono ?_; rintro e1 w1 ⟨rfl, hb1⟩)
        exact ⟨⟨k + 1, e2, true, by omega, rfl, rfl, by go_num, HE2.out, HN2.out, HX.out.below hb1, bel_trans HB.out hb1⟩, by simp [intOf]; omega⟩
      | false =>
        generalize isN o = m at hNu HN2
        go_wp2_with (first | (go_at_call 15; refine (hLe _).mono ?_; rintro e1 w1 ⟨rfl, hb1⟩; replace c0 := (hb1.cell (p := ⟨g, _, none⟩) hg).trans c0; replace c1 := (hb1.cell (p := ⟨g, _, none⟩) hg).trans c1; replace c2 := (hb1.cell (p := ⟨g, _, none⟩) hg).trans c2; replace c3 := (hb1.cell (p := ⟨g, _, none⟩) hg).trans c3) | (go_at_call 16; refine (hNu _).mono ?_; rintro e3 w2 ⟨rfl, hb2⟩))
        exact ⟨⟨k + 1, e2, m, by omega, rfl, rfl, by go_num, HE2.out, HN2.out, (HX.out.below hb1).below hb2, bel_trans (bel_trans HB.out hb1) hb2⟩, by simp [intOf]; omega⟩
    · have hlen := HL.out.len
      have he : errs 0 l = e := by rw [← HE.out, errs_end (by omega)]
      have hnl : l.any isN = b := by rw [← HN.out, List.drop_eq_nil_of_le (by omega)]; simp
      have HLr := Lib.hid (HL.out.below HB.out)
      clear HE HN hlen
      obtain rfl : 0 = e := he0.symm.trans he
      obtain ⟨g, q, x0, rfl, e0, hg, c0, c1, c2, c3⟩ := HLr.out.at_ 0 (by rw [H1.out]; omega)
      obtain rfl : o0 = x0 := by rw [H2.out] at e0; exact Option.some.inj e0
      simp only [Nat.zero_mul, Nat.add_zero] at c0 c1 c2 c3
      have hT := fun W => r_isTrue o0 W
      have HZ : Hid (enc (bo (isT o0)) = ov 3 (if isT o0 then 1 else 0) ⟨#[]⟩ 0) := rfl
      generalize hq : isT o0 = b2 at hT HZ
      have HQ := Lib.hid hq
      clear hq
      have hB := fun W => r_Bool5 b2 W
      generalize (if b2 = true then 1 else 0 : Int) = m at hB HZ
      obtain rfl := H1.out
      clear he hnl he0 e0
      go_wp2_with (first | (go_at_call 19; refine (hT _).mono ?_; rintro e3 w2 ⟨rfl, hb2⟩) | (go_at_call 17; refine (hB _).mono ?_; rintro e1 w4 ⟨rfl, hb4⟩; obtain ⟨hx, d0, d1, d2, d3, f0, f1, f2, f3⟩ := (HX.out.below hb2).below hb4))
      exact bodyPost_ret (v := ov 3 m ⟨#[]⟩ 0) (by simp [results, Tryz.results4, go_sem, *]) rfl ⟨ret_v (by rw [HQ.out, HZ.out]), put4_below (o := ⟨3, m, ⟨#[]⟩, 0⟩) (bel_trans (bel_trans HB.out hb2) hb4) (Nat.le_refl _)⟩
set_option maxRecDepth 100000 in
set_option maxHeartbeats 4000000 in
theorem r_Node_18 (o p : Ot) (a : Option Addr) (c : Nat) (he0 : errs 0 [o, p] = 0) (hf : fits 18 [o, p] = true) (w : World) (h : Outs w a 2 [o, p]) : Ret 4 #[.int .u8 18, .slice a 2 c] w (enc (bo (same o.k o.n o.s p.k p.n p.s))) := by
  obtain ⟨n, hn, hn1⟩ : ∃ n, n ≤ 140737488351230 ∧ n = 2 := ⟨2, by omega, rfl⟩
  obtain ⟨l, hl1⟩ : ∃ l, l = [o, p] := ⟨_, rfl⟩
  have H1 := Lib.hid hn1
  have H2 := Lib.hid hl1
  rw [← hl1] at he0 hf h
  have h : Outs w a n l := by rw [hn1]; exact h
  rw [← hn1]
  clear hn1 hl1
  have HL := Lib.hid h
  have hF : ∀ W, Outs W a n l → Ret 10 #[.int .u8 18, .slice a n c] W (.bool true) := fun W h => hf ▸ r_fits 18 a n c l hn W h
  clear h hf
  go_enter Tryz.func4, Tryz.ntmps4
  go_upto_region 3 with (go_at_call 10; refine (hF _ (HL.out.below (bel_alloc (Below.refl _ _) _))).mono ?_; rintro e w1 ⟨rfl, hb1⟩)
  have B1 : Hid (Below w.heap.size w w1) := bel_trans (bel_alloc (Below.refl _ _) _) hb1
  have X1 : Hid (Box w1 w.heap.size nul) := (Box.new w nul).below hb1
  clear hb1 hF
  go_upto_region 14 with fail
  go_wp2
  go_loopw [5, 6, 7] (fun s5 s6 s7 wr => ∃ (k : Nat) (e : Int) (b : Bool), k ≤ n ∧ s5 = .int .i64 e ∧ s6 = .bool b ∧ s7 = .int .i64 k ∧ Hid (errs e (l.drop k) = errs 0 l) ∧ Hid ((b || (l.drop k).any isN) = l.any isN) ∧ Hid (Box wr w.heap.size nul) ∧ Hid (Below w.heap.size w wr)) (fun _ _ s7 _ => n - (intOf s7).toNat)
  case atStart => exact ⟨0, 0, false, by omega, rfl, rfl, rfl, rfl, rfl, X1.out, B1.out⟩
  case round =>
    obtain ⟨k, e, b, hk, rfl, rfl, rfl, HE, HN, HX, HB⟩ := hrel
    by_cases hlt : k < n
    · obtain ⟨g, p', x, rfl, hlk, hg, c0, c1, c2, c3⟩ := (HL.out.below HB.out).at_ k hlt
      have HE2 : Hid (errs (lst e x.e) (l.drop (k + 1)) = errs 0 l) := (errs_drop hlk e).symm.trans HE.out
      have HN2 : Hid (((b || isN x) || (l.drop (k + 1)).any isN) = l.any isN) := by
        show _ = _
        rw [← HN.out, any_drop hlk, Bool.or_assoc]
      have hLe := fun W => r_Least e x.e W
      have hNu := fun W => r_isNull x W
      clear HE HN hlk
      generalize lst e x.e = e2 at hLe HE2
      cases b with
      | true =>
        clear hNu
        go_wp2_with (go_at_call 15; refine (hLe _).mono ?_; rintro e1 w1 ⟨rfl, hb1⟩)
        exact ⟨⟨k + 1, e2, true, by omega, rfl, rfl, by go_num, HE2.out, HN2.out, HX.out.below hb1, bel_trans HB.out hb1⟩, by simp [intOf]; omega⟩
      | false =>
        generalize isN x = m at hNu HN2
        go_wp2_with (first | (go_at_call 15; refine (hLe _).mono ?_; rintro e1 w1 ⟨rfl, hb1⟩; replace c0 := (hb1.cell (p := ⟨g, _, none⟩) hg).trans c0; replace c1 := (hb1.cell (p := ⟨g, _, none⟩) hg).trans c1; replace c2 := (hb1.cell (p := ⟨g, _, none⟩) hg).trans c2; replace c3 := (hb1.cell (p := ⟨g, _, none⟩) hg).trans c3) | (go_at_call 16; refine (hNu _).mono ?_; rintro e3 w2 ⟨rfl, hb2⟩))
        exact ⟨⟨k + 1, e2, m, by omega, rfl, rfl, by go_num, HE2.out, HN2.out, (HX.out.below hb1).below hb2, bel_trans (bel_trans HB.out hb1) hb2⟩, by simp [intOf]; omega⟩
    · have hlen := HL.out.len
      have he : errs 0 l = e := by rw [← HE.out, errs_end (by omega)]
      have hnl : l.any isN = b := by rw [← HN.out, List.drop_eq_nil_of_le (by omega)]; simp
      have HLr := Lib.hid (HL.out.below HB.out)
      clear HE HN hlen
      obtain rfl : 0 = e := he0.symm.trans he
      obtain ⟨g, q, x0, rfl, e0, hg, c0, c1, c2, c3⟩ := HL.out.at_ 0 (by rw [H1.out]; omega)
      obtain rfl : o = x0 := by rw [H2.out] at e0; exact Option.some.inj e0
      obtain ⟨g', q', x1, e1, e2, hg', m0, m1, m2, m3⟩ := HL.out.at_ 1 (by rw [H1.out]; omega)
      cases e1
      obtain rfl : p = x1 := by rw [H2.out] at e2; exact Option.some.inj e2
      simp only [Nat.zero_mul, Nat.one_mul, Nat.add_zero] at c0 c1 c2 c3 m0 m1 m2 m3
      have KP : Hid (∀ W', Below w.heap.size w W' → W'.cell? ⟨g, q, none⟩ = some (.int .u8 o.k) ∧ W'.cell? ⟨g, q + 1, none⟩ = some (.int .i64 o.n) ∧ W'.cell? ⟨g, q + 2, none⟩ = some (.string o.s) ∧ W'.cell? ⟨g, q + 4, none⟩ = some (.int .u8 p.k) ∧ W'.cell? ⟨g, q + 4 + 1, none⟩ = some (.int .i64 p.n) ∧ W'.cell? ⟨g, q + 4 + 2, none⟩ = some (.string p.s)) := fun W' hb => ⟨(hb.cell (p := ⟨g, _, none⟩) hg).trans c0, (hb.cell (p := ⟨g, _, none⟩) hg).trans c1, (hb.cell (p := ⟨g, _, none⟩) hg).trans c2,
        (hb.cell (p := ⟨g, _, none⟩) hg).trans m0, (hb.cell (p := ⟨g, _, none⟩) hg).trans m1, (hb.cell (p := ⟨g, _, none⟩) hg).trans m2⟩
      have hS := fun W => r_Same o.k o.n o.s p.k p.n p.s W
      have HZ : Hid (enc (bo (same o.k o.n o.s p.k p.n p.s)) = ov 3 (if same o.k o.n o.s p.k p.n p.s then 1 else 0) ⟨#[]⟩ 0) := rfl
      generalize hq : same o.k o.n o.s p.k p.n p.s = b2 at hS HZ
      have HQ := Lib.hid hq
      clear hq
      have hB := fun W => r_Bool5 b2 W
      generalize (if b2 = true then 1 else 0 : Int) = m at hB HZ
      obtain rfl := H1.out
      clear he hnl he0 e0 e2 c0 c1 c2 c3 m0 m1 m2 m3
      have hbw : Below w.heap.size w wr := HB.out
      go_upto_region 23 with fail
      obtain ⟨c0, c1, c2, m0, m1, m2⟩ := KP.out wr hbw
      go_region_held3 (fun W' => W'.cell? ⟨g, q, none⟩ = some (.int .u8 o.k) ∧ W'.cell? ⟨g, q + 1, none⟩ = some (.int .i64 o.n) ∧ W'.cell? ⟨g, q + 2, none⟩ = some (.string o.s) ∧ W'.cell? ⟨g, q + 4, none⟩ = some (.int .u8 p.k) ∧ W'.cell? ⟨g, q + 4 + 1, none⟩ = some (.int .i64 p.n) ∧ W'.cell? ⟨g, q + 4 + 2, none⟩ = some (.string p.s)) (exact KP.out _ (by repeat (first | exact Below.refl _ _ | assumption | exact Go.Proofs.YtdipalinddfekaaGreatDoor.V.below_drewN _ _ | (refine bel_trans ?_ (Go.Proofs.YtdipalinddfekaaGreatDoor.V.below_drewN _ _)) | (refine bel_trans ?_ (by assumption)) | (with_reducible apply bel_alloc) | (with_reducible apply Below.drew) | apply bel_alloc | apply Below.drew | refine bel_set ?_ (by simp; try omega) _)))
        (first | (go_at_call 18; refine (hS _).mono ?_; rintro e w2 ⟨rfl, hb2⟩) | (go_at_call 17; refine (hB _).mono ?_; rintro e w4 ⟨rfl, hb4⟩; obtain ⟨hx, d0, d1, d2, d3, f0, f1, f2, f3⟩ := HX.out.below (show Below wr.heap.size wr w4 from by repeat (first | exact Below.refl _ _ | assumption | exact Go.Proofs.YtdipalinddfekaaGreatDoor.V.below_drewN _ _ | (refine bel_trans ?_ (Go.Proofs.YtdipalinddfekaaGreatDoor.V.below_drewN _ _)) | (refine bel_trans ?_ (by assumption)) | (with_reducible apply bel_alloc) | (with_reducible apply Below.drew) | apply bel_alloc | apply Below.drew | refine bel_set ?_ (by simp; try omega) _))))
      all_goals
        go_wp2
        exact bodyPost_ret (v := ov 3 m ⟨#[]⟩ 0) (by simp [results, Tryz.results4, go_sem, *]) rfl ⟨ret_v (by rw [HQ.out, HZ.out]), put4_below (o := ⟨3, m, ⟨#[]⟩, 0⟩) (bel_trans HB.out (show Below wr.heap.size wr w4 from by repeat (first | exact Below.refl _ _ | assumption | exact Go.Proofs.YtdipalinddfekaaGreatDoor.V.below_drewN _ _ | (refine bel_trans ?_ (Go.Proofs.YtdipalinddfekaaGreatDoor.V.below_drewN _ _)) | (refine bel_trans ?_ (by assumption)) | (with_reducible apply bel_alloc) | (with_reducible apply Below.drew) | apply bel_alloc | apply Below.drew | refine bel_set ?_ (by simp; try omega) _))) (Nat.le_refl _)⟩
end Go.Proofs.YtdipalinddfekaaGreatDoor.U
