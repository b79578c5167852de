/- The law about chains: its walk. -/
import Derived.Test.YtefelelhgepkeaaGreatDoorTl
import Derived.Test.YtefelelhgepkeaaGreatDoorTn
namespace Go.Proofs.YtefelelhgepkeaaGreatDoor.T
open Go.ChangeShapes Go.WideShapes Go.ChangeAt Go.RowKit Go.Proofs.YtefelelhgepkeaaGreatDoor.V Go.Proofs.YtefelelhgepkeaaGreatDoor.K Go.Proofs.YtefelelhgepkeaaGreatDoor.KD
set_option maxRecDepth 100000 in
set_option maxHeartbeats 8000000 in
theorem walk_chains (a b : Option Addr) (n c m d : Nat) (l r : List Ot) (hn : n ≤ 1048576) (hm : m ≤ 1048576) (hac : a = none → c = 0) (hbd : b = none → d = 0) (w : World) (h1 : Outs w a n l) (h2 : Outs w b m r) :
    Ret 7 #[.slice a n c, .slice b m d] w (.bool true) := by
  have H1 := Lib.hid h1
  have H2 := Lib.hid h2
  have hT1 : ∀ W, Outs W a n l → Ret 26 #[.slice a n c] W (.bool (l.all tr)) := fun W h => l_truths a n c l (by omega) W h
  have hT2 : ∀ W, Outs W b m r → Ret 26 #[.slice b m d] W (.bool (r.all tr)) := fun W h => l_truths b m d r (by omega) W h
  clear h1 h2
  by_cases ht : l.all tr = true
  case neg =>
    rw [show l.all tr = false by simpa using ht] at hT1
    clear ht hT2
    go_enter Tryz.func7, Tryz.ntmps7
    go_wp2_with (first | (go_at_call 26; refine (hT1 _ H1.out).mono ?_; rintro e w1 ⟨rfl, hb1⟩) | (go_at_call 13; refine (awake _).mono ?_; rintro e w2 ⟨rfl, hb2⟩))
    first | exact bodyPost_ret (v := .bool true) (by simp [results, Tryz.results7, go_sem, *]) rfl ⟨rfl, bel_trans hb1 hb2⟩ | (go_ret; exact ⟨rfl, bel_trans hb1 hb2⟩)
  by_cases hr : r.all tr = true
  case neg =>
    rw [show r.all tr = false by simpa using hr] at hT2
    rw [ht] at hT1
    clear ht hr
    go_enter Tryz.func7, Tryz.ntmps7
    go_wp2_with (first | (go_at_call 26; first | (with_reducible refine (hT1 _ H1.out).mono ?_; rintro e w1 ⟨rfl, hb1⟩) | (with_reducible refine (hT2 _ (H2.out.below hb1)).mono ?_; rintro e w3 ⟨rfl, hb3⟩)) | (go_at_call 13; refine (awake _).mono ?_; rintro e w2 ⟨rfl, hb2⟩))
    first | exact bodyPost_ret (v := .bool true) (by simp [results, Tryz.results7, go_sem, *]) rfl ⟨rfl, bel_trans (bel_trans hb1 hb3) hb2⟩ | (go_ret; exact ⟨rfl, bel_trans (bel_trans hb1 hb3) hb2⟩)
  rw [ht] at hT1
  rw [hr] at hT2
  have HT := Lib.hid ht
  have HR := Lib.hid hr
  clear ht hr
  go_enter Tryz.func7, Tryz.ntmps7
  go_upto_region 3 with (go_at_call 26; first | (with_reducible refine (hT1 _ H1.out).mono ?_; rintro e w1 ⟨rfl, hb1⟩) | (with_reducible refine (hT2 _ (H2.out.below hb1)).mono ?_; rintro e w2 ⟨rfl, hb2⟩))
  have HB0 : Hid (Below w.heap.size w w2) := bel_trans hb1 hb2
  clear hb1 hb2 hT1 hT2
  obtain ⟨a2, m2, c2, wa, f1, hm2, O2, B2⟩ := app_outs (v := .slice none 0 0) (xs := []) (ys := l) (c := c) (World.ownsRow_nil w2 w.heap.size 34 4) HB0.out (H1.out.below HB0.out) hac (by simp; omega)
  have e2 : m2 = l.length := by simpa using hm2.out
  subst e2
  obtain ⟨a3, m3, c3, wb, f2, hm3, O3, B3⟩ := app_outs (v := .slice a2 l.length c2) (xs := l) (ys := r) (c := d) O2.out B2.out (H2.out.below B2.out) hbd (by have := H1.out.len; omega)
  have F1 := Lib.hid f1
  have F2 := Lib.hid f2
  clear f1 f2 hm2 O2 B2 HB0
  go_wp2_with (at_builtin; first | refine app_list rfl rfl rfl rfl F1.out ?_ | refine app_list rfl rfl rfl rfl F2.out ?_)
  clear F1 F2
  go_loopw [6, 7] (fun s6 s7 wr => ∃ (k : Nat) (a6 : Option Addr) (m6 c6 : Nat) (ns : List Ot), k ≤ m3 ∧ s7 = .int .i64 k ∧ s6 = .slice a6 m6 c6 ∧ Hid (m6 = ns.length) ∧ Hid (ns = ((l ++ r).take k).map neg) ∧ Hid (wr.ownsRow w.heap.size 34 4 (.slice a6 m6 c6) ns.length (flat ns)) ∧
      Hid (wr.ownsRow w.heap.size 34 4 (.slice a3 m3 c3) m3 (flat (l ++ r))) ∧ Hid (ApartV (.slice a6 m6 c6) (.slice a3 m3 c3)) ∧ Hid (Below w.heap.size w wr)) (fun _ s7 _ => m3 - (intOf s7).toNat)
  case atStart => exact ⟨0, none, 0, 0, [], by omega, rfl, rfl, rfl, rfl, World.ownsRow_nil _ _ _ _, O3.out, (fun k e => by cases e), B3.out⟩
  case round =>
    clear O3 B3
    obtain ⟨k, a6, m6, c6, ns, hk, rfl, rfl, M6, EN, O6, O3, AP, HB⟩ := hrel
    have HO := Lib.hid (own_outs O3.out hm3.out)
    have hle := congrArg List.length EN.out
    have hll : Hid (m3 ≤ 2097152) := by
      have h1 := hm3.out
      have h2 := H1.out.len
      have h3 := H2.out.len
      rw [List.length_append] at h1
      show _ ≤ _
      omega
    by_cases hlt : k < m3
    ·   obtain ⟨g, q, o, rfl, hlk, hg, d0, d1, d2, d3⟩ := HO.out.at_ k hlt
        have hto : tr o = true := List.all_eq_true.1 (all_app HT.out HR.out) o (List.mem_of_getElem? hlk)
        have hN := not_one o hto
        have EZ : Hid (ns ++ [neg o] = ((l ++ r).take (k + 1)).map neg) := by
          show _ = _
          rw [List.take_add_one, hlk, List.map_append, ← EN.out]; rfl
        have hns : Hid (ns.length + 1 ≤ 3000000) := by
          show _ ≤ _
          have := hll.out
          simp at hle
          omega
        generalize neg o = z at hN EZ
        clear hlk hto hle EN HO
        have hb3' := hll.out
        go_wp2_with (first | (go_at_call 16; refine (hN _).mono ?_; rintro e w3 ⟨rfl, hb3⟩; have hbw : Below wr.heap.size wr w3 := (by repeat (first | exact Below.refl _ _ | assumption | exact Go.Proofs.YtefelelhgepkeaaGreatDoor.V.below_drewN _ _ | (refine bel_trans ?_ (Go.Proofs.YtefelelhgepkeaaGreatDoor.V.below_drewN _ _)) | (refine bel_trans ?_ (by assumption)) | (with_reducible apply bel_alloc) | (with_reducible apply Below.drew) | apply bel_alloc | apply Below.drew | refine bel_set ?_ (by simp; try omega) _)); obtain ⟨a7, m7, c7, w4, f3, hm7, O7, B7, A7⟩ := app_one (own_below O6.out hbw) (bel_trans HB.out hbw) z hns.out) | (at_builtin; refine app_list rfl rfl rfl rfl f3 ?_))
        have hA := A7.out _ _ _ AP.out (own_below O3.out hbw)
        exact ⟨⟨k + 1, a7, m7, c7, ns ++ [z], by omega, by go_num, rfl, (show _ = _ by rw [hm7.out]; simp), EZ.out, O7.out, hA.1, hA.2, B7.out⟩, by simp [intOf]; omega⟩
    ·   have hkm : k = m3 := by omega
        have htk : (l ++ r).take k = l ++ r := List.take_of_length_le (by have := hm3.out; omega)
        rw [htk] at EN
        have H6 : Hid (Outs wr a6 m6 ((l ++ r).map neg)) := by
          have h := O6.out
          rw [← M6.out, EN.out] at h
          exact own_outs h (by rw [M6.out, EN.out])
        have HF := Lib.hid (facts_of (c := c) (d := d) (c3 := c3) (c6 := c6) HT.out HR.out hn hm (H1.out.below HB.out) (H2.out.below HB.out) HO.out H6.out)
        generalize neg (node 23 (l ++ r)) = y3 at HF
        generalize neg (node 24 (l ++ r)) = y4 at HF
        generalize node 23 (l ++ r) = z3 at HF
        generalize node 24 (l ++ r) = z4 at HF
        generalize node 23 r = p3 at HF
        generalize node 23 l = q3 at HF
        generalize node 24 r = p4 at HF
        generalize node 24 l = q4 at HF
        clear H6 htk hle EN M6 O6 O3 AP HO hll hm3
        go_upto_region 14 with (go_at_call 16; first | (with_reducible refine (HF.out.all3 _ ?_).mono ?_; (· exact (by repeat (first | exact Below.refl _ _ | assumption | exact Go.Proofs.YtefelelhgepkeaaGreatDoor.V.below_drewN _ _ | (refine bel_trans ?_ (Go.Proofs.YtefelelhgepkeaaGreatDoor.V.below_drewN _ _)) | (refine bel_trans ?_ (by assumption)) | (with_reducible apply bel_alloc) | (with_reducible apply Below.drew) | apply bel_alloc | apply Below.drew | refine bel_set ?_ (by simp; try omega) _))); rintro e u1 ⟨rfl, hu1⟩) | (with_reducible refine (HF.out.all4 _ ?_).mono ?_; (· exact (by repeat (first | exact Below.refl _ _ | assumption | exact Go.Proofs.YtefelelhgepkeaaGreatDoor.V.below_drewN _ _ | (refine bel_trans ?_ (Go.Proofs.YtefelelhgepkeaaGreatDoor.V.below_drewN _ _)) | (refine bel_trans ?_ (by assumption)) | (with_reducible apply bel_alloc) | (with_reducible apply Below.drew) | apply bel_alloc | apply Below.drew | refine bel_set ?_ (by simp; try omega) _))); rintro e u2 ⟨rfl, hu2⟩) | (with_reducible refine (HF.out.pb3 _ ?_).mono ?_; (· exact (by repeat (first | exact Below.refl _ _ | assumption | exact Go.Proofs.YtefelelhgepkeaaGreatDoor.V.below_drewN _ _ | (refine bel_trans ?_ (Go.Proofs.YtefelelhgepkeaaGreatDoor.V.below_drewN _ _)) | (refine bel_trans ?_ (by assumption)) | (with_reducible apply bel_alloc) | (with_reducible apply Below.drew) | apply bel_alloc | apply Below.drew | refine bel_set ?_ (by simp; try omega) _))); rintro e u3 ⟨rfl, hu3⟩) | (with_reducible refine (HF.out.qa3 _ ?_).mono ?_; (· exact (by repeat (first | exact Below.refl _ _ | assumption | exact Go.Proofs.YtefelelhgepkeaaGreatDoor.V.below_drewN _ _ | (refine bel_trans ?_ (Go.Proofs.YtefelelhgepkeaaGreatDoor.V.below_drewN _ _)) | (refine bel_trans ?_ (by assumption)) | (with_reducible apply bel_alloc) | (with_reducible apply Below.drew) | apply bel_alloc | apply Below.drew | refine bel_set ?_ (by simp; try omega) _))); rintro e u4 ⟨rfl, hu4⟩) | (with_reducible refine (HF.out.two3 _).mono ?_; rintro e u5 ⟨rfl, hu5⟩) | (with_reducible refine (HF.out.pb4 _ ?_).mono ?_; (· exact (by repeat (first | exact Below.refl _ _ | assumption | exact Go.Proofs.YtefelelhgepkeaaGreatDoor.V.below_drewN _ _ | (refine bel_trans ?_ (Go.Proofs.YtefelelhgepkeaaGreatDoor.V.below_drewN _ _)) | (refine bel_trans ?_ (by assumption)) | (with_reducible apply bel_alloc) | (with_reducible apply Below.drew) | apply bel_alloc | apply Below.drew | refine bel_set ?_ (by simp; try omega) _))); rintro e u6 ⟨rfl, hu6⟩) | (with_reducible refine (HF.out.qa4 _ ?_).mono ?_; (· exact (by repeat (first | exact Below.refl _ _ | assumption | exact Go.Proofs.YtefelelhgepkeaaGreatDoor.V.below_drewN _ _ | (refine bel_trans ?_ (Go.Proofs.YtefelelhgepkeaaGreatDoor.V.below_drewN _ _)) | (refine bel_trans ?_ (by assumption)) | (with_reducible apply bel_alloc) | (with_reducible apply Below.drew) | apply bel_alloc | apply Below.drew | refine bel_set ?_ (by simp; try omega) _))); rintro e u7 ⟨rfl, hu7⟩) | (with_reducible refine (HF.out.two4 _).mono ?_; rintro e u8 ⟨rfl, hu8⟩))
        have Y8 : Hid (Box (u8.alloc (.cells #[.int .u8 z4.k, .int .i64 z4.n, .string z4.s, .int .i64 z4.e] 34)) u1.heap.size z3) := (Box.new u1 z3).below (by repeat (first | exact Below.refl _ _ | assumption | exact Go.Proofs.YtefelelhgepkeaaGreatDoor.V.below_drewN _ _ | (refine bel_trans ?_ (Go.Proofs.YtefelelhgepkeaaGreatDoor.V.below_drewN _ _)) | (refine bel_trans ?_ (by assumption)) | (with_reducible apply bel_alloc) | (with_reducible apply Below.drew) | apply bel_alloc | apply Below.drew | refine bel_set ?_ (by simp; try omega) _))
        have Y9 : Hid (Box (u8.alloc (.cells #[.int .u8 z4.k, .int .i64 z4.n, .string z4.s, .int .i64 z4.e] 34)) u2.heap.size z4) := (Box.new u2 z4).below (by repeat (first | exact Below.refl _ _ | assumption | exact Go.Proofs.YtefelelhgepkeaaGreatDoor.V.below_drewN _ _ | (refine bel_trans ?_ (Go.Proofs.YtefelelhgepkeaaGreatDoor.V.below_drewN _ _)) | (refine bel_trans ?_ (by assumption)) | (with_reducible apply bel_alloc) | (with_reducible apply Below.drew) | apply bel_alloc | apply Below.drew | refine bel_set ?_ (by simp; try omega) _))
        have Y10 : Hid (Box (u8.alloc (.cells #[.int .u8 z4.k, .int .i64 z4.n, .string z4.s, .int .i64 z4.e] 34)) u5.heap.size z3) := (Box.new u5 z3).below (by repeat (first | exact Below.refl _ _ | assumption | exact Go.Proofs.YtefelelhgepkeaaGreatDoor.V.below_drewN _ _ | (refine bel_trans ?_ (Go.Proofs.YtefelelhgepkeaaGreatDoor.V.below_drewN _ _)) | (refine bel_trans ?_ (by assumption)) | (with_reducible apply bel_alloc) | (with_reducible apply Below.drew) | apply bel_alloc | apply Below.drew | refine bel_set ?_ (by simp; try omega) _))
        have Y11 : Hid (Box (u8.alloc (.cells #[.int .u8 z4.k, .int .i64 z4.n, .string z4.s, .int .i64 z4.e] 34)) u8.heap.size z4) := Box.new u8 z4
        have BD : Hid (Below wr.heap.size wr (u8.alloc (.cells #[.int .u8 z4.k, .int .i64 z4.n, .string z4.s, .int .i64 z4.e] 34))) := (by repeat (first | exact Below.refl _ _ | assumption | exact Go.Proofs.YtefelelhgepkeaaGreatDoor.V.below_drewN _ _ | (refine bel_trans ?_ (Go.Proofs.YtefelelhgepkeaaGreatDoor.V.below_drewN _ _)) | (refine bel_trans ?_ (by assumption)) | (with_reducible apply bel_alloc) | (with_reducible apply Below.drew) | apply bel_alloc | apply Below.drew | refine bel_set ?_ (by simp; try omega) _))
        clear hu1 hu2 hu3 hu4 hu5 hu6 hu7 hu8
        generalize u8.alloc (.cells #[.int .u8 z4.k, .int .i64 z4.n, .string z4.s, .int .i64 z4.e] 34) = wd at Y8 Y9 Y10 Y11 BD ⊢
        generalize u1.heap.size = b8 at Y8 ⊢
        generalize u2.heap.size = b9 at Y9 ⊢
        generalize u5.heap.size = b10 at Y10 ⊢
        generalize u8.heap.size = b11 at Y11 ⊢
        refine reg14 HF.out BD.out Y8.out Y9.out Y10.out Y11.out ?_
        intro y58' y59' y60' y61' y62' y63' y64' y65' y66' y67' y68' y69' y70' y71' y72' y73' y74' y75' y76' y77' y78' y79' y80' y81' y82' wv hv
        have BV : Hid (Below wd.heap.size wd wv) := hv
        have BR : Hid (Below wr.heap.size wr wv) := bel_trans BD.out hv
        clear hv Y10 Y11
        obtain ⟨i8, e0, e1, e2, e3, -, -, -, -⟩ := Y8.out.below BV.out
        go_upto_region 18 with (first | (go_at_call 16; first | (with_reducible refine (HF.out.not3 _).mono ?_; rintro e x1 ⟨rfl, hx1⟩) | (with_reducible refine (HF.out.nots4 _ ?_).mono ?_; (· exact bel_trans BR.out (by repeat (first | exact Below.refl _ _ | assumption | exact Go.Proofs.YtefelelhgepkeaaGreatDoor.V.below_drewN _ _ | (refine bel_trans ?_ (Go.Proofs.YtefelelhgepkeaaGreatDoor.V.below_drewN _ _)) | (refine bel_trans ?_ (by assumption)) | (with_reducible apply bel_alloc) | (with_reducible apply Below.drew) | apply bel_alloc | apply Below.drew | refine bel_set ?_ (by simp; try omega) _))); rintro e x2 ⟨rfl, hx2⟩) | (with_reducible refine (HF.out.not4 _).mono ?_; rintro e x3 ⟨rfl, hx3⟩) | (with_reducible refine (HF.out.nots3 _ ?_).mono ?_; (· exact bel_trans BR.out (by repeat (first | exact Below.refl _ _ | assumption | exact Go.Proofs.YtefelelhgepkeaaGreatDoor.V.below_drewN _ _ | (refine bel_trans ?_ (Go.Proofs.YtefelelhgepkeaaGreatDoor.V.below_drewN _ _)) | (refine bel_trans ?_ (by assumption)) | (with_reducible apply bel_alloc) | (with_reducible apply Below.drew) | apply bel_alloc | apply Below.drew | refine bel_set ?_ (by simp; try omega) _))); rintro e x4 ⟨rfl, hx4⟩)) | (go_at_call 18; first | (with_reducible refine (same_self y3 _).mono ?_; rintro e x5 ⟨rfl, hx5⟩; have BX5 : Below wv.heap.size wv x5 := (by repeat (first | exact Below.refl _ _ | assumption | exact Go.Proofs.YtefelelhgepkeaaGreatDoor.V.below_drewN _ _ | (refine bel_trans ?_ (Go.Proofs.YtefelelhgepkeaaGreatDoor.V.below_drewN _ _)) | (refine bel_trans ?_ (by assumption)) | (with_reducible apply bel_alloc) | (with_reducible apply Below.drew) | apply bel_alloc | apply Below.drew | refine bel_set ?_ (by simp; try omega) _)); obtain ⟨i9, o0, o1, o2, o3, -, -, -, -⟩ := Y9.out.below (bel_trans BV.out BX5)) | (with_reducible refine (same_self y4 _).mono ?_; rintro e x6 ⟨rfl, hx6⟩)))
        have BX6 : Hid (Below wv.heap.size wv x6) := (by repeat (first | exact Below.refl _ _ | assumption | exact Go.Proofs.YtefelelhgepkeaaGreatDoor.V.below_drewN _ _ | (refine bel_trans ?_ (Go.Proofs.YtefelelhgepkeaaGreatDoor.V.below_drewN _ _)) | (refine bel_trans ?_ (by assumption)) | (with_reducible apply bel_alloc) | (with_reducible apply Below.drew) | apply bel_alloc | apply Below.drew | refine bel_set ?_ (by simp; try omega) _))
        have BX := Lib.hid (bel_trans BR.out BX6.out)
        have BW := Lib.hid (bel_trans HB.out BX.out)
        have Y6 := Y8.out.below (bel_trans BV.out BX6.out)
        clear hx1 hx2 hx3 hx4 hx5 hx6 BX5 i8 e0 e1 e2 e3 i9 o0 o1 o2 o3 BX6 Y8 Y9 BV BR BD
        obtain ⟨i8, e0, e1, e2, e3, -, -, -, -⟩ := Y6
        refine region_far (by kernel_rfl) (by kernel_rfl) ?_
        repeat (go_big_quiet_step ((first | (go_at_call 17; with_reducible exact call_far (HF.out.conds _ (bel_trans BX.out (below_far _ _)))) | (go_at_call 18; with_reducible exact call_far (same_self z3 _)) | (go_at_call 13; with_reducible exact call_far (awake _)))))
        refine wpQuiet_nil ?_
        intro wz hbz
        go_wp2
        first | exact bodyPost_ret (v := .bool true) (by simp [results, Tryz.results7, go_sem, *]) rfl ⟨rfl, bel_trans BW.out hbz⟩ | (go_ret; exact ⟨rfl, bel_trans BW.out hbz⟩)
end Go.Proofs.YtefelelhgepkeaaGreatDoor.T
