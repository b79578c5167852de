/- The document's examples that each law asks besides: they hold. -/
import Derived.Test.YtefelelhgepkeaaGreatDoorKx
import Derived.Test.YtefelelhgepkeaaGreatDoorKw
import Derived.Deep.Cut
namespace Go.Proofs.YtefelelhgepkeaaGreatDoor.K
open Go.ChangeShapes Go.WideShapes Go.ChangeAt Go.RowKit Go.Proofs.YtefelelhgepkeaaGreatDoor.V
theorem a_same3 (w : World) : Ret 18 #[ov 0 0 ⟨#[]⟩ 3, ov 0 0 ⟨#[]⟩ 3] w (.bool true) := by
  have h := r_Same5 (fl 3) (fl 3) w
  rwa [show sameO (fl 3) (fl 3) = true by decide +kernel] at h
theorem a_same0 (w : World) : Ret 18 #[ov 0 0 ⟨#[]⟩ 0, ov 0 0 ⟨#[]⟩ 0] w (.bool true) := by
  have h := r_Same5 nul nul w
  rwa [show sameO nul nul = true by decide +kernel] at h
theorem a_sameT (w : World) : Ret 18 #[ov 3 1 ⟨#[]⟩ 0, ov 3 1 ⟨#[]⟩ 0] w (.bool true) := by
  have h := r_Same5 (bo true) (bo true) w
  rwa [show sameO (bo true) (bo true) = true by decide +kernel] at h
theorem a_sameF (w : World) : Ret 18 #[ov 3 0 ⟨#[]⟩ 0, ov 3 0 ⟨#[]⟩ 0] w (.bool true) := by
  have h := r_Same5 (bo false) (bo false) w
  rwa [show sameO (bo false) (bo false) = true by decide +kernel] at h
theorem a_T (w : World) : Ret 28 #[.bool true] w (ov 3 1 ⟨#[]⟩ 0) := r_Bool5 true w
theorem a_F (w : World) : Ret 28 #[.bool false] w (ov 3 0 ⟨#[]⟩ 0) := r_Bool5 false w
abbrev two8 (W : World) (x y : Ot) : World := W.alloc (.cells #[.int .u8 x.k, .int .i64 x.n, .string x.s, .int .i64 x.e, .int .u8 y.k, .int .i64 y.n, .string y.s, .int .i64 y.e] 34)
theorem a_and1 (b : Nat) (W : World) (hb : b = W.heap.size) : Ret 16 #[.int .u8 23, .slice (some ⟨b, 0, none⟩) 2 2] (W.alloc (.cells #[.int .u8 3, .int .i64 1, .string ⟨#[]⟩, .int .i64 0, .int .u8 0, .int .i64 0, .string ⟨#[]⟩, .int .i64 3] 34)) (ov 0 0 ⟨#[]⟩ 3) := by
  subst hb
  have h := c_Node_and (some ⟨W.heap.size, 0, none⟩) 2 2 [bo true, fl 3] (by omega) (by decide +kernel) _ (outs_two W (bo true) (fl 3))
  rwa [show node 23 [bo true, fl 3] = fl 3 by rw [node_and (by decide +kernel)]; rfl] at h
theorem a_and1' (b : Nat) (W : World) (X : Obj) (hb : b = W.heap.size) : Ret 16 #[.int .u8 23, .slice (some ⟨b, 0, none⟩) 2 2] ((W.alloc (.cells #[.int .u8 3, .int .i64 1, .string ⟨#[]⟩, .int .i64 0, .int .u8 0, .int .i64 0, .string ⟨#[]⟩, .int .i64 3] 34)).alloc X) (ov 0 0 ⟨#[]⟩ 3) := by
  subst hb
  have h := c_Node_and (some ⟨W.heap.size, 0, none⟩) 2 2 [bo true, fl 3] (by omega) (by decide +kernel) _ ((outs_two W (bo true) (fl 3)).below (bel_alloc (Below.refl _ _) X))
  rwa [show node 23 [bo true, fl 3] = fl 3 by rw [node_and (by decide +kernel)]; rfl] at h
theorem a_and2 (b : Nat) (W : World) (hb : b = W.heap.size) : Ret 16 #[.int .u8 23, .slice (some ⟨b, 0, none⟩) 2 2] (W.alloc (.cells #[.int .u8 0, .int .i64 0, .string ⟨#[]⟩, .int .i64 3, .int .u8 0, .int .i64 0, .string ⟨#[]⟩, .int .i64 0] 34)) (ov 0 0 ⟨#[]⟩ 0) := by
  subst hb
  have h := c_Node_and (some ⟨W.heap.size, 0, none⟩) 2 2 [fl 3, nul] (by omega) (by decide +kernel) _ (outs_two W (fl 3) nul)
  rwa [show node 23 [fl 3, nul] = nul by rw [node_and (by decide +kernel)]; rfl] at h
theorem a_or (b : Nat) (W : World) (hb : b = W.heap.size) : Ret 16 #[.int .u8 24, .slice (some ⟨b, 0, none⟩) 2 2] (W.alloc (.cells #[.int .u8 0, .int .i64 0, .string ⟨#[]⟩, .int .i64 3, .int .u8 3, .int .i64 1, .string ⟨#[]⟩, .int .i64 0] 34)) (ov 3 1 ⟨#[]⟩ 0) := by
  subst hb
  have h := c_Node_or (some ⟨W.heap.size, 0, none⟩) 2 2 [fl 3, bo true] (by omega) (by decide +kernel) _ (outs_two W (fl 3) (bo true))
  rwa [show node 24 [fl 3, bo true] = bo true by rw [node_or (by decide +kernel)]; rfl] at h
theorem a_or' (b : Nat) (W : World) (X : Obj) (hb : b = W.heap.size) : Ret 16 #[.int .u8 24, .slice (some ⟨b, 0, none⟩) 2 2] ((W.alloc (.cells #[.int .u8 0, .int .i64 0, .string ⟨#[]⟩, .int .i64 3, .int .u8 3, .int .i64 1, .string ⟨#[]⟩, .int .i64 0] 34)).alloc X) (ov 3 1 ⟨#[]⟩ 0) := by
  subst hb
  have h := c_Node_or (some ⟨W.heap.size, 0, none⟩) 2 2 [fl 3, bo true] (by omega) (by decide +kernel) _ ((outs_two W (fl 3) (bo true)).below (bel_alloc (Below.refl _ _) X))
  rwa [show node 24 [fl 3, bo true] = bo true by rw [node_or (by decide +kernel)]; rfl] at h
theorem a_in (w : World) : Ret 23 #[ov 0 0 ⟨#[]⟩ 0, .agg #[.slice none 0 0, .int .i64 0]] w (ov 3 0 ⟨#[]⟩ 0) :=
  c_In_null none 0 0 [] (by omega) (by decide +kernel) w ⟨⟨rfl, fun _ h => absurd h (Nat.not_lt_zero _)⟩, fun _ h => by cases h⟩
theorem a_kind (b : Nat) (W : World) (hb : b = W.heap.size) : Ret 12 #[.int .u8 25, .slice (some ⟨b, 0, none⟩) 3 3] (W.alloc (.cells #[.int .u8 3, .int .u8 0, .int .u8 2] 24)) (.tuple #[.int .u8 2, .int .i64 0]) := by
  subst hb
  have h := c_Kind 25 (some ⟨W.heap.size, 0, none⟩) 3 3 [3, 0, 2] (by omega) (by omega) (by omega) (W.alloc (.cells #[.int .u8 3, .int .u8 0, .int .u8 2] 24)) ⟨rfl, fun k hk => by
    have : k = 0 ∨ k = 1 ∨ k = 2 := by omega
    rcases this with rfl | rfl | rfl
    · exact ⟨_, 0, 3, rfl, rfl, by simp, by simp [go_sem]⟩
    · exact ⟨_, 0, 0, rfl, rfl, by simp, by simp [go_sem]⟩
    · exact ⟨_, 0, 2, rfl, rfl, by simp, by simp [go_sem]⟩⟩
  rwa [show kV (kind 25 [3, 0, 2]) = .tuple #[.int .u8 2, .int .i64 0] from rfl] at h
/-- A box of an out behind one more. -/
theorem box_after {W W' : World} {b : Nat} {o : Ot} (h : Box W b o) (hb : Below W.heap.size W W') : Box W' b o := h.below hb
set_option maxRecDepth 100000 in
set_option maxHeartbeats 8000000 in
theorem awake (w : World) : Ret 13 #[] w (.bool true) := by
  go_enter Tryz.func13, Tryz.ntmps13
  go_upto_region 2 with fail
  go_cut [3] from 9 (fun s3 wc => ∃ b3, s3 = .pointer (some ⟨b3, 0, none⟩) ∧ Hid (Box wc w.heap.size (fl 3)) ∧ Hid (Box wc (w.heap.size + 1) nul) ∧ Hid (Box wc b3 (fl 3)) ∧ Hid (w.heap.size + 2 ≤ b3) ∧ Hid (Below w.heap.size w wc))
  case first =>
    go_region_held3 (fun w' => w'.cell? ⟨w.heap.size, 0, none⟩ = some (.int .u8 0) ∧ w'.cell? ⟨w.heap.size, 1, none⟩ = some (.int .i64 0) ∧ w'.cell? ⟨w.heap.size, 2, none⟩ = some (.string ⟨#[]⟩) ∧ w'.cell? ⟨w.heap.size, 3, none⟩ = some (.int .i64 3)) (simp [*, go_sem, World.cell?_alloc_past])
      (first | (go_at_call 28; refine (a_T _).mono ?_; rintro e w1 ⟨rfl, hbw1⟩; obtain ⟨hcw1, hfw1⟩ := bcell hbw1; have hzw1 := hbw1.size; (try simp at hzw1); have h00w1 : w.heap.size < w1.heap.size := (by omega); have h10w1 : w.heap.size + 1 < w1.heap.size := (by omega); have h01w1 : w.heap.size < w1.heap.size + 1 := (by omega); have h11w1 : w.heap.size + 1 < w1.heap.size + 1 := (by omega); have h21w1 : w.heap.size + 1 + 1 < w1.heap.size + 1 := (by omega); have h02w1 : w.heap.size < w1.heap.size + 1 + 1 := (by omega); have h12w1 : w.heap.size + 1 < w1.heap.size + 1 + 1 := (by omega); have h22w1 : w.heap.size + 1 + 1 < w1.heap.size + 1 + 1 := (by omega); have h3w1 : w1.heap.size < w1.heap.size + 1 + 1 := (by omega); (try (rcases Nat.lt_or_ge (w.heap.size + 1 + 1) w1.heap.size with h20w1 | h20w1; rotate_left; (exfalso; omega)))) | (go_at_call 16; refine (a_and1 _ _ (by simp)).mono ?_; rintro e w2 ⟨rfl, hbw2⟩; obtain ⟨hcw2, hfw2⟩ := bcell hbw2; have hzw2 := hbw2.size; (try simp at hzw2); have h00w2 : w.heap.size < w2.heap.size := (by omega); have h10w2 : w.heap.size + 1 < w2.heap.size := (by omega); have h01w2 : w.heap.size < w2.heap.size + 1 := (by omega); have h11w2 : w.heap.size + 1 < w2.heap.size + 1 := (by omega); have h21w2 : w.heap.size + 1 + 1 < w2.heap.size + 1 := (by omega); have h02w2 : w.heap.size < w2.heap.size + 1 + 1 := (by omega); have h12w2 : w.heap.size + 1 < w2.heap.size + 1 + 1 := (by omega); have h22w2 : w.heap.size + 1 + 1 < w2.heap.size + 1 + 1 := (by omega); have h3w2 : w2.heap.size < w2.heap.size + 1 + 1 := (by omega); (try (rcases Nat.lt_or_ge (w.heap.size + 1 + 1) w2.heap.size with h20w2 | h20w2; rotate_left; (exfalso; omega)))) | (go_at_call 16; refine (a_and1' _ _ _ (by simp)).mono ?_; rintro e w2 ⟨rfl, hbw2⟩; obtain ⟨hcw2, hfw2⟩ := bcell hbw2; have hzw2 := hbw2.size; (try simp at hzw2); have h00w2 : w.heap.size < w2.heap.size := (by omega); have h10w2 : w.heap.size + 1 < w2.heap.size := (by omega); have h01w2 : w.heap.size < w2.heap.size + 1 := (by omega); have h11w2 : w.heap.size + 1 < w2.heap.size + 1 := (by omega); have h21w2 : w.heap.size + 1 + 1 < w2.heap.size + 1 := (by omega); have h02w2 : w.heap.size < w2.heap.size + 1 + 1 := (by omega); have h12w2 : w.heap.size + 1 < w2.heap.size + 1 + 1 := (by omega); have h22w2 : w.heap.size + 1 + 1 < w2.heap.size + 1 + 1 := (by omega); have h3w2 : w2.heap.size < w2.heap.size + 1 + 1 := (by omega); (try (rcases Nat.lt_or_ge (w.heap.size + 1 + 1) w2.heap.size with h20w2 | h20w2; rotate_left; (exfalso; omega)))))
    all_goals
      have n1 : ¬ w.heap.size = w1.heap.size := by omega
      have n2 : ¬ w.heap.size = w1.heap.size + 1 := by omega
      have n3 : ¬ w.heap.size + 1 = w1.heap.size := by omega
      have n4 : ¬ w.heap.size + 1 = w1.heap.size + 1 := by omega
      have n5 : ¬ w1.heap.size = w.heap.size := by omega
      have n6 : ¬ w1.heap.size + 1 = w.heap.size := by omega
      have n7 : ¬ w1.heap.size = w.heap.size + 1 := by omega
      have n8 : w.heap.size < w2.heap.size := by omega
      have n9 : w.heap.size + 1 < w2.heap.size := by omega
      have n10 : w1.heap.size ≤ w2.heap.size := by omega
      go_wp2
      go_meet
      refine ⟨_, rfl, ?_, ?_, ?_, ?_, ?_⟩
      · constructor <;> first | (simp [*, go_sem, World.cell?_alloc_past, World.frozen?_alloc_past]; done) | (simp; omega)
      · constructor <;> first | (simp [*, go_sem, World.cell?_alloc_past, World.frozen?_alloc_past]; done) | (simp; omega)
      · constructor <;> first | (simp [*, go_sem, World.cell?_alloc_past, World.frozen?_alloc_past]; done) | (simp; omega)
      · show _ ≤ _; omega
      · show Below _ _ _
        repeat (first | exact Below.refl _ _ | (refine bel_trans ?_ (by assumption)) | (with_reducible apply bel_alloc) | (with_reducible apply Below.drew) | apply bel_alloc | apply Below.drew | refine bel_set ?_ (by simp; try omega) _)
  case rest =>
    obtain ⟨b3, rfl, X1, X2, X3, H3, B⟩ := hcut
    go_upto_region 3 with fail
    go_cut [4] from 9 (fun s4 wd => ∃ b4, s4 = .pointer (some ⟨b4, 0, none⟩) ∧ Hid (Box wd w.heap.size (fl 3)) ∧ Hid (Box wd (w.heap.size + 1) nul) ∧ Hid (Box wd b3 (fl 3)) ∧ Hid (Box wd b4 nul) ∧ Hid (w.heap.size + 2 ≤ b3) ∧ Hid (Below w.heap.size w wd))
    case first =>
      obtain ⟨h1, c10, c11, c12, c13, -, -, -, -⟩ := X1.out
      obtain ⟨h2, c20, c21, c22, c23, -, -, -, -⟩ := X2.out
      go_wp2_with (go_at_call 16; refine (a_and2 _ _ rfl).mono ?_; rintro e w1 ⟨rfl, hb1⟩)
      have B1 : Below wc.heap.size wc (w1.alloc (.cells #[.int .u8 0, .int .i64 0, .string ⟨#[]⟩, .int .i64 0] 34)) := bel_alloc (bel_trans (bel_alloc (Below.refl _ _) _) hb1) _
      go_meet
      exact ⟨_, rfl, X1.out.below B1, X2.out.below B1, X3.out.below B1, Box.new w1 nul, H3.out, bel_trans B.out B1⟩
    case rest =>
      obtain ⟨b4, rfl, Y1, Y2, Y3, Y4, H3, B⟩ := hcut
      go_upto_region 4 with fail
      go_cut [5] from 9 (fun s5 we => ∃ b5, s5 = .pointer (some ⟨b5, 0, none⟩) ∧ Hid (Box we w.heap.size (fl 3)) ∧ Hid (Box we (w.heap.size + 1) nul) ∧ Hid (Box we b3 (fl 3)) ∧ Hid (Box we b4 nul) ∧ Hid (Box we b5 (bo true)) ∧ Hid (Below w.heap.size w we))
      case first =>
        obtain ⟨h1, c10, c11, c12, c13, -, -, -, -⟩ := Y1.out
        have h01 : w.heap.size < wc.heap.size + 1 := by omega
        have h02 : w.heap.size < wc.heap.size + 1 + 1 := by omega
        go_region_held3 (fun w' => w'.cell? ⟨w.heap.size, 0, none⟩ = some (.int .u8 0) ∧ w'.cell? ⟨w.heap.size, 1, none⟩ = some (.int .i64 0) ∧ w'.cell? ⟨w.heap.size, 2, none⟩ = some (.string ⟨#[]⟩) ∧ w'.cell? ⟨w.heap.size, 3, none⟩ = some (.int .i64 3)) (simp [*, go_sem, World.cell?_alloc_past, (show wc.drew.heap.size = wc.heap.size from rfl)])
          (first | (go_at_call 28; refine (a_T _).mono ?_; rintro e w1 ⟨rfl, hbw1⟩; obtain ⟨hcw1, hfw1⟩ := bcell hbw1; have hzw1 := hbw1.size; (try simp at hzw1); have h00w1 : w.heap.size < w1.heap.size := (by omega); have h01w1 : w.heap.size < w1.heap.size + 1 := (by omega); have h11w1 : wc.heap.size < w1.heap.size + 1 := (by omega); have h02w1 : w.heap.size < w1.heap.size + 1 + 1 := (by omega); have h12w1 : wc.heap.size < w1.heap.size + 1 + 1 := (by omega); have h3w1 : w1.heap.size < w1.heap.size + 1 + 1 := (by omega); (try (rcases Nat.lt_or_ge wc.heap.size w1.heap.size with h20w1 | h20w1; rotate_left; (exfalso; omega)))) | (go_at_call 16; refine (a_or _ _ (by simp)).mono ?_; rintro e w2 ⟨rfl, hbw2⟩; obtain ⟨hcw2, hfw2⟩ := bcell hbw2; have hzw2 := hbw2.size; (try simp at hzw2); have h00w2 : w.heap.size < w2.heap.size := (by omega); have h01w2 : w.heap.size < w2.heap.size + 1 := (by omega); have h11w2 : wc.heap.size < w2.heap.size + 1 := (by omega); have h02w2 : w.heap.size < w2.heap.size + 1 + 1 := (by omega); have h12w2 : wc.heap.size < w2.heap.size + 1 + 1 := (by omega); have h3w2 : w2.heap.size < w2.heap.size + 1 + 1 := (by omega); (try (rcases Nat.lt_or_ge wc.heap.size w2.heap.size with h20w2 | h20w2; rotate_left; (exfalso; omega)))) | (go_at_call 16; refine (a_or' _ _ _ (by simp)).mono ?_; rintro e w2 ⟨rfl, hbw2⟩; obtain ⟨hcw2, hfw2⟩ := bcell hbw2; have hzw2 := hbw2.size; (try simp at hzw2); have h00w2 : w.heap.size < w2.heap.size := (by omega); have h01w2 : w.heap.size < w2.heap.size + 1 := (by omega); have h11w2 : wc.heap.size < w2.heap.size + 1 := (by omega); have h02w2 : w.heap.size < w2.heap.size + 1 + 1 := (by omega); have h12w2 : wc.heap.size < w2.heap.size + 1 + 1 := (by omega); have h3w2 : w2.heap.size < w2.heap.size + 1 + 1 := (by omega); (try (rcases Nat.lt_or_ge wc.heap.size w2.heap.size with h20w2 | h20w2; rotate_left; (exfalso; omega)))))
        all_goals
          have n1 : ¬ w.heap.size = w1.heap.size := by omega
          have n2 : ¬ w.heap.size = w1.heap.size + 1 := by omega
          have n5 : ¬ w1.heap.size = w.heap.size := by omega
          have n6 : ¬ w1.heap.size + 1 = w.heap.size := by omega
          have n8 : w.heap.size < w2.heap.size := by omega
          have n10 : w1.heap.size ≤ w2.heap.size := by omega
          have key : ∀ {W' : World} {p : Nat}, Below wc.heap.size wc W' → Box W' p (bo true) → ∃ b5, Value.pointer (some ⟨p, 0, none⟩) = .pointer (some ⟨b5, 0, none⟩) ∧ Hid (Box W' w.heap.size (fl 3)) ∧ Hid (Box W' (w.heap.size + 1) nul) ∧ Hid (Box W' b3 (fl 3)) ∧ Hid (Box W' b4 nul) ∧ Hid (Box W' b5 (bo true)) ∧ Hid (Below w.heap.size w W') := fun B5 hb => ⟨_, rfl, Y1.out.below B5, Y2.out.below B5, Y3.out.below B5, Y4.out.below B5, hb, bel_trans B.out (B5.mono (by omega))⟩
          go_wp2
          go_meet
          refine key ?_ ?_
          · repeat (first | exact Below.refl _ _ | (refine bel_trans ?_ (by assumption)) | (with_reducible apply bel_alloc) | (with_reducible apply Below.drew) | apply bel_alloc | apply Below.drew | refine bel_set ?_ (by simp; try omega) _)
          · constructor <;> first | (simp [*, go_sem, World.cell?_alloc_past, World.frozen?_alloc_past]; done) | (simp; omega)
      case rest =>
        obtain ⟨b5, rfl, Z1, Z2, Z3, Z4, Z5, B⟩ := hcut
        obtain ⟨h2, c20, c21, c22, c23, -, -, -, -⟩ := Z2.out
        go_upto_region 7 with (first | (go_at_call 23; refine (a_in _).mono ?_; rintro e w1 ⟨rfl, hb1⟩) | (go_at_call 12; refine (a_kind _ _ (by simp)).mono ?_; rintro e w2 ⟨rfl, hb2⟩))
        have Bn := Box.new w1 (bo false)
        have B1 : Below wc.heap.size wc (w1.alloc (.cells #[.int .u8 3, .int .i64 0, .string ⟨#[]⟩, .int .i64 0] 34)) := bel_alloc hb1 _
        have B2 : Below wc.heap.size wc w2 := bel_trans (bel_alloc B1 _) hb2
        have B3 : Below (w1.alloc (.cells #[.int .u8 3, .int .i64 0, .string ⟨#[]⟩, .int .i64 0] 34)).heap.size (w1.alloc (.cells #[.int .u8 3, .int .i64 0, .string ⟨#[]⟩, .int .i64 0] 34)) w2 := bel_trans (bel_alloc (Below.refl _ _) _) hb2
        have Bw : Hid (Below w.heap.size w w2) := bel_trans B.out B2
        obtain ⟨i1, d10, d11, d12, d13, -, -, -, -⟩ := Z1.out.below B2
        obtain ⟨i2, d20, d21, d22, d23, -, -, -, -⟩ := Z2.out.below B2
        obtain ⟨i3, d30, d31, d32, d33, -, -, -, -⟩ := Z3.out.below B2
        obtain ⟨i4, d40, d41, d42, d43, -, -, -, -⟩ := Z4.out.below B2
        obtain ⟨i5, d50, d51, d52, d53, -, -, -, -⟩ := Z5.out.below B2
        obtain ⟨i6, d60, d61, d62, d63, -, -, -, -⟩ := Bn.below B3
        clear hb1 hb2 B1 B2 B3 Bn c20 c21 c22 c23
        refine region_far (by kernel_rfl) (by kernel_rfl) ?_
        repeat (go_big_quiet_step ((first | (go_at_call 18; first | with_reducible exact call_far (a_same3 _) | with_reducible exact call_far (a_same0 _) | with_reducible exact call_far (a_sameT _) | with_reducible exact call_far (a_sameF _)) | (go_at_call 28; first | with_reducible exact call_far (a_T _) | with_reducible exact call_far (a_F _)))))
        refine wpQuiet_nil ?_
        intro wq6 hbq6
        go_wp2
        exact bodyPost_ret (v := .bool true) (by simp [results, Tryz.results13, go_sem, *]) rfl ⟨rfl, bel_trans Bw.out hbq6⟩
end Go.Proofs.YtefelelhgepkeaaGreatDoor.K
