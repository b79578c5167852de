/- The document's examples that each law asks besides: they hold. -/
import Derived.Test.YtdipalinddfekaaGreatDoorGaf
import Derived.Test.YtdipalinddfekaaGreatDoorGar
import Derived.Deep.Cut
import Derived.Test.YtdipalinddfekaaGreatDoorGaq
import Derived.Test.YtdipalinddfekaaGreatDoorGal
import Derived.Test.YtdipalinddfekaaGreatDoorGam
import Derived.Test.YtdipalinddfekaaGreatDoorGao
import Derived.Test.YtdipalinddfekaaGreatDoorRe5
import Derived.Test.YtdipalinddfekaaGreatDoorTie
import Derived.LaidMore
import Derived.Lay
import Derived.SevenTiedAt
import Derived.Stop.Joined
namespace Go.Proofs.YtdipalinddfekaaGreatDoor.K
open Go.ChangeShapes Go.WideShapes Go.ChangeAt Go.RowKit Go.Proofs.YtdipalinddfekaaGreatDoor.V
theorem a_same3 (w : World) : Ret 8 #[ov 0 0 ⟨#[]⟩ 3, ov 0 0 ⟨#[]⟩ 3] w (.bool true) := by
  have h := r_Same5 (fl 3) (fl 3) w
  rwa [show sameO (fl 3) (fl 3) = true by decide +kernel] at h
theorem a_same0 (w : World) : Ret 8 #[ov 0 0 ⟨#[]⟩ 0, ov 0 0 ⟨#[]⟩ 0] w (.bool true) := by
  have h := r_Same5 nul nul w
  rwa [show sameO nul nul = true by decide +kernel] at h
theorem a_sameT (w : World) : Ret 8 #[ov 3 1 ⟨#[]⟩ 0, ov 3 1 ⟨#[]⟩ 0] w (.bool true) := by
  have h := r_Same5 (bo true) (bo true) w
  rwa [show sameO (bo true) (bo true) = true by decide +kernel] at h
theorem a_sameF (w : World) : Ret 8 #[ov 3 0 ⟨#[]⟩ 0, ov 3 0 ⟨#[]⟩ 0] w (.bool true) := by
  have h := r_Same5 (bo false) (bo false) w
  rwa [show sameO (bo false) (bo false) = true by decide +kernel] at h
theorem a_T (w : World) : Ret 17 #[.bool true] w (ov 3 1 ⟨#[]⟩ 0) := r_Bool5 true w
theorem a_F (w : World) : Ret 17 #[.bool false] w (ov 3 0 ⟨#[]⟩ 0) := r_Bool5 false w
abbrev two8 (W : World) (x y : Ot) : World := W.alloc (.cells #[.int .u8 x.k, .int .i64 x.n, .string x.s, .int .i64 x.e, .int .u8 y.k, .int .i64 y.n, .string y.s, .int .i64 y.e] 29)
theorem a_and1 (b : Nat) (W : World) (hb : b = W.heap.size) : Ret 6 #[.int .u8 23, .slice (some ⟨b, 0, none⟩) 2 2] (W.alloc (.cells #[.int .u8 3, .int .i64 1, .string ⟨#[]⟩, .int .i64 0, .int .u8 0, .int .i64 0, .string ⟨#[]⟩, .int .i64 3] 29)) (ov 0 0 ⟨#[]⟩ 3) := by
  subst hb
  have h := c_Node_and (some ⟨W.heap.size, 0, none⟩) 2 2 [bo true, fl 3] (by omega) (by decide +kernel) _ (outs_two W (bo true) (fl 3))
  rwa [show node 23 [bo true, fl 3] = fl 3 by rw [node_and (by decide +kernel)]; rfl] at h
theorem a_and1' (b : Nat) (W : World) (X : Obj) (hb : b = W.heap.size) : Ret 6 #[.int .u8 23, .slice (some ⟨b, 0, none⟩) 2 2] ((W.alloc (.cells #[.int .u8 3, .int .i64 1, .string ⟨#[]⟩, .int .i64 0, .int .u8 0, .int .i64 0, .string ⟨#[]⟩, .int .i64 3] 29)).alloc X) (ov 0 0 ⟨#[]⟩ 3) := by
  subst hb
  have h := c_Node_and (some ⟨W.heap.size, 0, none⟩) 2 2 [bo true, fl 3] (by omega) (by decide +kernel) _ ((outs_two W (bo true) (fl 3)).below (bel_alloc (Below.refl _ _) X))
  rwa [show node 23 [bo true, fl 3] = fl 3 by rw [node_and (by decide +kernel)]; rfl] at h
theorem a_and2 (b : Nat) (W : World) (hb : b = W.heap.size) : Ret 6 #[.int .u8 23, .slice (some ⟨b, 0, none⟩) 2 2] (W.alloc (.cells #[.int .u8 0, .int .i64 0, .string ⟨#[]⟩, .int .i64 3, .int .u8 0, .int .i64 0, .string ⟨#[]⟩, .int .i64 0] 29)) (ov 0 0 ⟨#[]⟩ 0) := by
  subst hb
  have h := c_Node_and (some ⟨W.heap.size, 0, none⟩) 2 2 [fl 3, nul] (by omega) (by decide +kernel) _ (outs_two W (fl 3) nul)
  rwa [show node 23 [fl 3, nul] = nul by rw [node_and (by decide +kernel)]; rfl] at h
theorem a_or (b : Nat) (W : World) (hb : b = W.heap.size) : Ret 6 #[.int .u8 24, .slice (some ⟨b, 0, none⟩) 2 2] (W.alloc (.cells #[.int .u8 0, .int .i64 0, .string ⟨#[]⟩, .int .i64 3, .int .u8 3, .int .i64 1, .string ⟨#[]⟩, .int .i64 0] 29)) (ov 3 1 ⟨#[]⟩ 0) := by
  subst hb
  have h := c_Node_or (some ⟨W.heap.size, 0, none⟩) 2 2 [fl 3, bo true] (by omega) (by decide +kernel) _ (outs_two W (fl 3) (bo true))
  rwa [show node 24 [fl 3, bo true] = bo true by rw [node_or (by decide +kernel)]; rfl] at h
theorem a_or' (b : Nat) (W : World) (X : Obj) (hb : b = W.heap.size) : Ret 6 #[.int .u8 24, .slice (some ⟨b, 0, none⟩) 2 2] ((W.alloc (.cells #[.int .u8 0, .int .i64 0, .string ⟨#[]⟩, .int .i64 3, .int .u8 3, .int .i64 1, .string ⟨#[]⟩, .int .i64 0] 29)).alloc X) (ov 3 1 ⟨#[]⟩ 0) := by
  subst hb
  have h := c_Node_or (some ⟨W.heap.size, 0, none⟩) 2 2 [fl 3, bo true] (by omega) (by decide +kernel) _ ((outs_two W (fl 3) (bo true)).below (bel_alloc (Below.refl _ _) X))
  rwa [show node 24 [fl 3, bo true] = bo true by rw [node_or (by decide +kernel)]; rfl] at h
theorem a_in (w : World) : Ret 30 #[ov 0 0 ⟨#[]⟩ 0, .agg #[.slice none 0 0, .int .i64 0]] w (ov 3 0 ⟨#[]⟩ 0) :=
  c_In_null none 0 0 [] (by omega) (by decide +kernel) w ⟨⟨rfl, fun _ h => absurd h (Nat.not_lt_zero _)⟩, fun _ h => by cases h⟩
theorem a_kind (b : Nat) (W : World) (hb : b = W.heap.size) : Ret 21 #[.int .u8 25, .slice (some ⟨b, 0, none⟩) 3 3] (W.alloc (.cells #[.int .u8 3, .int .u8 0, .int .u8 2] 24)) (.tuple #[.int .u8 2, .int .i64 0]) := by
  subst hb
  have h := c_Kind 25 (some ⟨W.heap.size, 0, none⟩) 3 3 [3, 0, 2] (by omega) (by omega) (by omega) (W.alloc (.cells #[.int .u8 3, .int .u8 0, .int .u8 2] 24)) ⟨rfl, fun k hk => by
    have : k = 0 ∨ k = 1 ∨ k = 2 := by omega
    rcases this with rfl | rfl | rfl
    · exact ⟨_, 0, 3, rfl, rfl, by simp, by simp [go_sem]⟩
    · exact ⟨_, 0, 0, rfl, rfl, by simp, by simp [go_sem]⟩
    · exact ⟨_, 0, 2, rfl, rfl, by simp, by simp [go_sem]⟩⟩
  rwa [show kV (kind 25 [3, 0, 2]) = .tuple #[.int .u8 2, .int .i64 0] from rfl] at h
/-- A box of an out behind one more. -/
theorem box_after {W W' : World} {b : Nat} {o : Ot} (h : Box W b o) (hb : Below W.heap.size W W') : Box W' b o := h.below hb
set_option maxRecDepth 100000 in
set_option maxHeartbeats 8000000 in
theorem awake (w : World) : Ret 9 #[] w (.bool true) := by
  go_enter Tryz.func9, Tryz.ntmps9
  go_upto_region 2 with fail
  go_cut [3] from 9 (fun s3 wc => ∃ b3, s3 = .pointer (some ⟨b3, 0, none⟩) ∧ Hid (Box wc w.heap.size (fl 3)) ∧ Hid (Box wc (w.heap.size + 1) nul) ∧ Hid (Box wc b3 (fl 3)) ∧ Hid (w.heap.size + 2 ≤ b3) ∧ Hid (Below w.heap.size w wc))
  case first =>
    go_region_held3 (fun w' => w'.cell? ⟨w.heap.size, 0, none⟩ = some (.int .u8 0) ∧ w'.cell? ⟨w.heap.size, 1, none⟩ = some (.int .i64 0) ∧ w'.cell? ⟨w.heap.size, 2, none⟩ = some (.string ⟨#[]⟩) ∧ w'.cell? ⟨w.heap.size, 3, none⟩ = some (.int .i64 3)) (simp [*, go_sem, World.cell?_alloc_past])
      (first | (go_at_call 17; refine (a_T _).mono ?_; rintro e w1 ⟨rfl, hbw1⟩; obtain ⟨hcw1, hfw1⟩ := bcell hbw1; have hzw1 := hbw1.size; (try simp at hzw1); have h00w1 : w.heap.size < w1.heap.size := (by omega); have h10w1 : w.heap.size + 1 < w1.heap.size := (by omega); have h01w1 : w.heap.size < w1.heap.size + 1 := (by omega); have h11w1 : w.heap.size + 1 < w1.heap.size + 1 := (by omega); have h21w1 : w.heap.size + 1 + 1 < w1.heap.size + 1 := (by omega); have h02w1 : w.heap.size < w1.heap.size + 1 + 1 := (by omega); have h12w1 : w.heap.size + 1 < w1.heap.size + 1 + 1 := (by omega); have h22w1 : w.heap.size + 1 + 1 < w1.heap.size + 1 + 1 := (by omega); have h3w1 : w1.heap.size < w1.heap.size + 1 + 1 := (by omega); (try (rcases Nat.lt_or_ge (w.heap.size + 1 + 1) w1.heap.size with h20w1 | h20w1; rotate_left; (exfalso; omega)))) | (go_at_call 6; refine (a_and1 _ _ (by simp)).mono ?_; rintro e w2 ⟨rfl, hbw2⟩; obtain ⟨hcw2, hfw2⟩ := bcell hbw2; have hzw2 := hbw2.size; (try simp at hzw2); have h00w2 : w.heap.size < w2.heap.size := (by omega); have h10w2 : w.heap.size + 1 < w2.heap.size := (by omega); have h01w2 : w.heap.size < w2.heap.size + 1 := (by omega); have h11w2 : w.heap.size + 1 < w2.heap.size + 1 := (by omega); have h21w2 : w.heap.size + 1 + 1 < w2.heap.size + 1 := (by omega); have h02w2 : w.heap.size < w2.heap.size + 1 + 1 := (by omega); have h12w2 : w.heap.size + 1 < w2.heap.size + 1 + 1 := (by omega); have h22w2 : w.heap.size + 1 + 1 < w2.heap.size + 1 + 1 := (by omega); have h3w2 : w2.heap.size < w2.heap.size + 1 + 1 := (by omega); (try (rcases Nat.lt_or_ge (w.heap.size + 1 + 1) w2.heap.size with h20w2 | h20w2; rotate_left; (exfalso; omega)))) | (go_at_call 6; refine (a_and1' _ _ _ (by simp)).mono ?_; rintro e w2 ⟨rfl, hbw2⟩; obtain ⟨hcw2, hfw2⟩ := bcell hbw2; have hzw2 := hbw2.size; (try simp at hzw2); have h00w2 : w.heap.size < w2.heap.size := (by omega); have h10w2 : w.heap.size + 1 < w2.heap.size := (by omega); have h01w2 : w.heap.size < w2.heap.size + 1 := (by omega); have h11w2 : w.heap.size + 1 < w2.heap.size + 1 := (by omega); have h21w2 : w.heap.size + 1 + 1 < w2.heap.size + 1 := (by omega); have h02w2 : w.heap.size < w2.heap.size + 1 + 1 := (by omega); have h12w2 : w.heap.size + 1 < w2.heap.size + 1 + 1 := (by omega); have h22w2 : w.heap.size + 1 + 1 < w2.heap.size + 1 + 1 := (by omega); have h3w2 : w2.heap.size < w2.heap.size + 1 + 1 := (by omega); (try (rcases Nat.lt_or_ge (w.heap.size + 1 + 1) w2.heap.size with h20w2 | h20w2; rotate_left; (exfalso; omega)))))
    all_goals
      have n1 : ¬ w.heap.size = w1.heap.size := by omega
      have n2 : ¬ w.heap.size = w1.heap.size + 1 := by omega
      have n3 : ¬ w.heap.size + 1 = w1.heap.size := by omega
      have n4 : ¬ w.heap.size + 1 = w1.heap.size + 1 := by omega
      have n5 : ¬ w1.heap.size = w.heap.size := by omega
      have n6 : ¬ w1.heap.size + 1 = w.heap.size := by omega
      have n7 : ¬ w1.heap.size = w.heap.size + 1 := by omega
      have n8 : w.heap.size < w2.heap.size := by omega
      have n9 : w.heap.size + 1 < w2.heap.size := by omega
      have n10 : w1.heap.size ≤ w2.heap.size := by omega
      go_wp2
      go_meet
      refine ⟨_, rfl, ?_, ?_, ?_, ?_, ?_⟩
      · constructor <;> first | (simp [*, go_sem, World.cell?_alloc_past, World.frozen?_alloc_past]; done) | (simp; omega)
      · constructor <;> first | (simp [*, go_sem, World.cell?_alloc_past, World.frozen?_alloc_past]; done) | (simp; omega)
      · constructor <;> first | (simp [*, go_sem, World.cell?_alloc_past, World.frozen?_alloc_past]; done) | (simp; omega)
      · show _ ≤ _; omega
      · show Below _ _ _
        repeat (first | exact Below.refl _ _ | (refine bel_trans ?_ (by assumption)) | (with_reducible apply bel_alloc) | (with_reducible apply Below.drew) | apply bel_alloc | apply Below.drew | refine bel_set ?_ (by simp; try omega) _)
  case rest =>
    obtain ⟨b3, rfl, X1, X2, X3, H3, B⟩ := hcut
    go_upto_region 3 with fail
    go_cut [4] from 9 (fun s4 wd => ∃ b4, s4 = .pointer (some ⟨b4, 0, none⟩) ∧ Hid (Box wd w.heap.size (fl 3)) ∧ Hid (Box wd (w.heap.size + 1) nul) ∧ Hid (Box wd b3 (fl 3)) ∧ Hid (Box wd b4 nul) ∧ Hid (w.heap.size + 2 ≤ b3) ∧ Hid (Below w.heap.size w wd))
    case first =>
      obtain ⟨h1, c10, c11, c12, c13, -, -, -, -⟩ := X1.out
      obtain ⟨h2, c20, c21, c22, c23, -, -, -, -⟩ := X2.out
      go_wp2_with (go_at_call 6; refine (a_and2 _ _ rfl).mono ?_; rintro e w1 ⟨rfl, hb1⟩)
      have B1 : Below wc.heap.size wc (w1.alloc (.cells #[.int .u8 0, .int .i64 0, .string ⟨#[]⟩, .int .i64 0] 29)) := bel_alloc (bel_trans (bel_alloc (Below.refl _ _) _) hb1) _
      go_meet
      exact ⟨_, rfl, X1.out.below B1, X2.out.below B1, X3.out.below B1, Box.new w1 nul, H3.out, bel_trans B.out B1⟩
    case rest =>
      obtain ⟨b4, rfl, Y1, Y2, Y3, Y4, H3, B⟩ := hcut
      go_upto_region 4 with fail
      go_cut [5] from 9 (fun s5 we => ∃ b5, s5 = .pointer (some ⟨b5, 0, none⟩) ∧ Hid (Box we w.heap.size (fl 3)) ∧ Hid (Box we (w.heap.size + 1) nul) ∧ Hid (Box we b3 (fl 3)) ∧ Hid (Box we b4 nul) ∧ Hid (Box we b5 (bo true)) ∧ Hid (Below w.heap.size w we))
      case first =>
        obtain ⟨h1, c10, c11, c12, c13, -, -, -, -⟩ := Y1.out
        have h01 : w.heap.size < wc.heap.size + 1 := by omega
        have h02 : w.heap.size < wc.heap.size + 1 + 1 := by omega
        go_region_held3 (fun w' => w'.cell? ⟨w.heap.size, 0, none⟩ = some (.int .u8 0) ∧ w'.cell? ⟨w.heap.size, 1, none⟩ = some (.int .i64 0) ∧ w'.cell? ⟨w.heap.size, 2, none⟩ = some (.string ⟨#[]⟩) ∧ w'.cell? ⟨w.heap.size, 3, none⟩ = some (.int .i64 3)) (simp [*, go_sem, World.cell?_alloc_past, (show wc.drew.heap.size = wc.heap.size from rfl)])
          (first | (go_at_call 17; refine (a_T _).mono ?_; rintro e w1 ⟨rfl, hbw1⟩; obtain ⟨hcw1, hfw1⟩ := bcell hbw1; have hzw1 := hbw1.size; (try simp at hzw1); have h00w1 : w.heap.size < w1.heap.size := (by omega); have h01w1 : w.heap.size < w1.heap.size + 1 := (by omega); have h11w1 : wc.heap.size < w1.heap.size + 1 := (by omega); have h02w1 : w.heap.size < w1.heap.size + 1 + 1 := (by omega); have h12w1 : wc.heap.size < w1.heap.size + 1 + 1 := (by omega); have h3w1 : w1.heap.size < w1.heap.size + 1 + 1 := (by omega); (try (rcases Nat.lt_or_ge wc.heap.size w1.heap.size with h20w1 | h20w1; rotate_left; (exfalso; omega)))) | (go_at_call 6; refine (a_or _ _ (by simp)).mono ?_; rintro e w2 ⟨rfl, hbw2⟩; obtain ⟨hcw2, hfw2⟩ := bcell hbw2; have hzw2 := hbw2.size; (try simp at hzw2); have h00w2 : w.heap.size < w2.heap.size := (by omega); have h01w2 : w.heap.size < w2.heap.size + 1 := (by omega); have h11w2 : wc.heap.size < w2.heap.size + 1 := (by omega); have h02w2 : w.heap.size < w2.heap.size + 1 + 1 := (by omega); have h12w2 : wc.heap.size < w2.heap.size + 1 + 1 := (by omega); have h3w2 : w2.heap.size < w2.heap.size + 1 + 1 := (by omega); (try (rcases Nat.lt_or_ge wc.heap.size w2.heap.size with h20w2 | h20w2; rotate_left; (exfalso; omega)))) | (go_at_call 6; refine (a_or' _ _ _ (by simp)).mono ?_; rintro e w2 ⟨rfl, hbw2⟩; obtain ⟨hcw2, hfw2⟩ := bcell hbw2; have hzw2 := hbw2.size; (try simp at hzw2); have h00w2 : w.heap.size < w2.heap.size := (by omega); have h01w2 : w.heap.size < w2.heap.size + 1 := (by omega); have h11w2 : wc.heap.size < w2.heap.size + 1 := (by omega); have h02w2 : w.heap.size < w2.heap.size + 1 + 1 := (by omega); have h12w2 : wc.heap.size < w2.heap.size + 1 + 1 := (by omega); have h3w2 : w2.heap.size < w2.heap.size + 1 + 1 := (by omega); (try (rcases Nat.lt_or_ge wc.heap.size w2.heap.size with h20w2 | h20w2; rotate_left; (exfalso; omega)))))
        all_goals
          have n1 : ¬ w.heap.size = w1.heap.size := by omega
          have n2 : ¬ w.heap.size = w1.heap.size + 1 := by omega
          have n5 : ¬ w1.heap.size = w.heap.size := by omega
          have n6 : ¬ w1.heap.size + 1 = w.heap.size := by omega
          have n8 : w.heap.size < w2.heap.size := by omega
          have n10 : w1.heap.size ≤ w2.heap.size := by omega
          have key : ∀ {W' : World} {p : Nat}, Below wc.heap.size wc W' → Box W' p (bo true) → ∃ b5, Value.pointer (some ⟨p, 0, none⟩) = .pointer (some ⟨b5, 0, none⟩) ∧ Hid (Box W' w.heap.size (fl 3)) ∧ Hid (Box W' (w.heap.size + 1) nul) ∧ Hid (Box W' b3 (fl 3)) ∧ Hid (Box W' b4 nul) ∧ Hid (Box W' b5 (bo true)) ∧ Hid (Below w.heap.size w W') := fun B5 hb => ⟨_, rfl, Y1.out.below B5, Y2.out.below B5, Y3.out.below B5, Y4.out.below B5, hb, bel_trans B.out (B5.mono (by omega))⟩
          go_wp2
          go_meet
          refine key ?_ ?_
          · repeat (first | exact Below.refl _ _ | (refine bel_trans ?_ (by assumption)) | (with_reducible apply bel_alloc) | (with_reducible apply Below.drew) | apply bel_alloc | apply Below.drew | refine bel_set ?_ (by simp; try omega) _)
          · constructor <;> first | (simp [*, go_sem, World.cell?_alloc_past, World.frozen?_alloc_past]; done) | (simp; omega)
      case rest =>
        obtain ⟨b5, rfl, Z1, Z2, Z3, Z4, Z5, B⟩ := hcut
        obtain ⟨h2, c20, c21, c22, c23, -, -, -, -⟩ := Z2.out
        go_upto_region 7 with (first | (go_at_call 30; refine (a_in _).mono ?_; rintro e w1 ⟨rfl, hb1⟩) | (go_at_call 21; refine (a_kind _ _ (by simp)).mono ?_; rintro e w2 ⟨rfl, hb2⟩))
        have Bn := Box.new w1 (bo false)
        have B1 : Below wc.heap.size wc (w1.alloc (.cells #[.int .u8 3, .int .i64 0, .string ⟨#[]⟩, .int .i64 0] 29)) := bel_alloc hb1 _
        have B2 : Below wc.heap.size wc w2 := bel_trans (bel_alloc B1 _) hb2
        have B3 : Below (w1.alloc (.cells #[.int .u8 3, .int .i64 0, .string ⟨#[]⟩, .int .i64 0] 29)).heap.size (w1.alloc (.cells #[.int .u8 3, .int .i64 0, .string ⟨#[]⟩, .int .i64 0] 29)) w2 := bel_trans (bel_alloc (Below.refl _ _) _) hb2
        have Bw : Hid (Below w.heap.size w w2) := bel_trans B.out B2
        obtain ⟨i1, d10, d11, d12, d13, -, -, -, -⟩ := Z1.out.below B2
        obtain ⟨i2, d20, d21, d22, d23, -, -, -, -⟩ := Z2.out.below B2
        obtain ⟨i3, d30, d31, d32, d33, -, -, -, -⟩ := Z3.out.below B2
        obtain ⟨i4, d40, d41, d42, d43, -, -, -, -⟩ := Z4.out.below B2
        obtain ⟨i5, d50, d51, d52, d53, -, -, -, -⟩ := Z5.out.below B2
        obtain ⟨i6, d60, d61, d62, d63, -, -, -, -⟩ := Bn.below B3
        clear hb1 hb2 B1 B2 B3 Bn c20 c21 c22 c23
        refine region_far (by kernel_rfl) (by kernel_rfl) ?_
        repeat (go_big_quiet_step ((first | (go_at_call 8; first | with_reducible exact call_far (a_same3 _) | with_reducible exact call_far (a_same0 _) | with_reducible exact call_far (a_sameT _) | with_reducible exact call_far (a_sameF _)) | (go_at_call 17; first | with_reducible exact call_far (a_T _) | with_reducible exact call_far (a_F _)))))
        refine wpQuiet_nil ?_
        intro wq6 hbq6
        go_wp2
        exact bodyPost_ret (v := .bool true) (by simp [results, Tryz.results9, go_sem, *]) rfl ⟨rfl, bel_trans Bw.out hbq6⟩
end Go.Proofs.YtdipalinddfekaaGreatDoor.K
namespace Go.Proofs.YtdipalinddfekaaGreatDoor.U
open Go.ChangeShapes Go.WideShapes Go.ChangeAt Go.RowKit Go.Proofs.YtdipalinddfekaaGreatDoor.V Go.Proofs.YtdipalinddfekaaGreatDoor.K Go.Proofs.YtdipalinddfekaaGreatDoor.T
theorem own_below {W W' : World} {base : Nat} {e : TypeId} {size : Nat} {v : Value} {n : Nat} {xs : List Value} (h : W.ownsRow base e size v n xs) (hb : Below W.heap.size W W') : W'.ownsRow base e size v n xs :=
  h.kept (row := none) ⟨hb.os, hb.tape, hb.output, hb.size, fun k hk _ => hb.block k hk⟩ (by cases v.ownBlock <;> simp)
theorem c_Kind' (op : Int) (a : Option Addr) (n c : Nat) (l : List Int) (hnc : n ≤ c) (hc : c ≤ maxLen) (hsz : n ≤ 140737488351232) (w : World) (h : One kI w a n l) : Ret 21 #[.int .u8 op, .slice a n c] w (kV (kind op l))  :=
  c_Kind op a n c l hnc (by unfold maxLen at hc; omega) hsz w h
theorem c_Node_all (op : Int) (a : Option Addr) (n c : Nat) (l : List Ot) (hsz : 40 * n ≤ 140737488351232) (hnc : n ≤ c) (hc : c ≤ maxLen) (hfit : ∀ o ∈ l, Fits o.n) (w : World) (h : Outs w a n l) : Ret 6 #[.int .u8 op, .slice a n c] w (enc (node op l)) := by
  by_cases h25 : op = 25
  · subst h25
    cases hf : fits 25 l with
    | false => exact c_Node_no 25 a n c l hsz hf w h
    | true =>
      obtain ⟨hv, hk⟩ := fits_kind hf
      rw [node_25 hf]
      exact c_Node_25c (K.choose l) _ a n c l hsz hk hv (fun W h => c_choose a n c l hnc hc (by omega) hv W h) w h
  · exact c_Node_but op h25 a n c l hsz hfit w h
theorem own_caps {w : World} {base : Nat} {e : TypeId} {size : Nat} {a : Option Addr} {m c k : Nat} {xs : List Value} (h : w.ownsRow base e size (.slice a m c) k xs) : m ≤ c ∧ c ≤ maxLen := by
  rcases h.2 with ⟨e1, hn⟩ | ⟨g, cap, cur, e1, -, hg, hnc, hcm, -, -⟩
  · injection e1 with e1 e2 e3
    subst e2; subst e3
    exact ⟨Nat.le_refl _, Nat.zero_le _⟩
  · injection e1 with e1 e2 e3
    subst e2; subst e3
    exact ⟨hnc, hcm⟩
theorem kinds_one {w : World} {base : Nat} {a : Option Addr} {m c : Nat} {xs : List Int} (h : w.ownsRow base 24 1 (.slice a m c) xs.length (xs.map kI)) (hm : m = xs.length) : One kI w a m xs := by
  subst hm
  obtain ⟨a', n', c', e, -, h1⟩ := own_kinds h
  injection e with e1 e2 e3
  subst e1; subst e2
  exact h1
theorem take_all {l : List Ot} {k : Nat} {o : Ot} (h : l[k]? = some o) : (l.take (k + 1)).all Ot.ok = ((l.take k).all Ot.ok && o.ok) := by
  rw [List.take_add_one, h, List.all_append]
  simp
/-- What a node comes to, as the law asks it. -/
theorem fits_law (op : Int) (l : List Ot) : (node op l).e = 1 ∨ ((node op l).e ≠ 1 ∧ l.all Ot.ok = true ∧ (node op l).ok = true ∧ ∃ K, kind op (l.map (·.k)) = (K, 0) ∧ ((node op l).k = 0 ∨ (node op l).k = K)) := by
  cases hf : fits op l with
  | false =>
    left
    unfold node
    rw [hf]
    rfl
  | true =>
    right
    obtain ⟨h1, h2⟩ := node_fits hf
    obtain ⟨hv, hk⟩ := fits_kind hf
    refine ⟨fun he => ?_, hv, h1, _, hk, h2⟩
    unfold Ot.ok at h1
    rw [he] at h1
    simp [isErr] at h1
section
open Go.Proofs.YtdipalinddfekaaGreatDoor.KD
set_option maxRecDepth 20000 in
theorem open_outs2 {H : Type} {enc : TypeId × Value → H} {W : World} {r : Reach} {b0 base : Nat} {sp : Nat → Bool} {held : Bool} {v : Value} {d : DataW H} {p : List MemPlace}
    (hv : Value.okWide Tryz.prog W r b0 23 v) (h : DataW.Trod enc Tryz.prog W base sp held 23 v d p) :
    ∃ (pa : Option Addr) (n ca : Nat) (l : List Ot), v = .slice pa n ca ∧ Outs W pa n l ∧ (pa = none → ca = 0) ∧ n ≤ ca ∧ n ≤ Rows.uptoBulk d ∧ ca ≤ maxLen ∧ ∀ o ∈ l, Fits o.n := by
  obtain ⟨pa, l, ca, rfl⟩ := okWide_slice Tryz.underlying23 hv
  obtain ⟨fuel, hf⟩ := h
  rcases Go.Deep.open_slice Tryz.underlying23 hf with ⟨h0, _⟩ | ⟨a, len, cap, m, n, D, Pl, hcs, _, hl, hm, hmm, hx0, hx⟩
  · have e : Value.slice pa l ca = .slice none 0 0 := by simpa [Value.cells] using h0
    obtain ⟨rfl, rfl, rfl⟩ : pa = none ∧ l = 0 ∧ ca = 0 := by simpa using e
    exact ⟨none, 0, 0, [], rfl, ⟨rfl, fun k hk => absurd hk (Nat.not_lt_zero _)⟩, fun _ => rfl, by omega, by omega, Nat.zero_le _, fun o ho => by cases ho⟩
  · have e : Value.slice pa l ca = .slice (some a) len cap := by simpa [Value.cells] using hcs
    obtain ⟨rfl, rfl, rfl⟩ : pa = some a ∧ l = len ∧ ca = cap := by simpa using e
    have hlm : l ≤ m := by rw [hmm]; split <;> omega
    have each : ∀ i, i < l → ∃ q : Ot, W.cell? (a.add (i * 4)) = some (.int .u8 q.k) ∧ W.cell? (a.add (i * 4 + 1)) = some (.int .i64 q.n) ∧ W.cell? (a.add (i * 4 + 2)) = some (.string q.s) ∧ W.cell? (a.add (i * 4 + 3)) = some (.int .i64 q.e) ∧ Fits q.n := by
      intro i hi
      obtain ⟨cs', h1, h2⟩ := hx i (by omega)
      rw [cellsOut] at h1
      obtain ⟨_, hlen, hcell⟩ := World.cells?_some h1
      obtain ⟨xs, n', -, hxs, -, hlen2, hg⟩ := DataW.trod_struct Tryz.underlying29 h2
      obtain ⟨y0, y1, rfl⟩ := two_of (show xs.length = 2 from hlen2)
      match cs', hlen with
      | [v0, v1, v2, v3], _ =>
        have g0 : DataW.trod enc Tryz.prog W base sp held n' 26 (([v0, v1, v2, v3].drop 0).take (Tryz.prog.cellsOf 26)) = some y0 := hg 0 _ rfl
        have g1 : DataW.trod enc Tryz.prog W base sp held n' 27 (([v0, v1, v2, v3].drop 3).take (Tryz.prog.cellsOf 27)) = some y1 := hg 1 _ rfl
        rw [cellsVal] at g0
        rw [cellsErr] at g1
        obtain ⟨z0, z1, z2, k, hxy, _, u0, u1, u2⟩ := Go.Deep.trod_struct3 Tryz.underlying26 g0
        simp only [cellsKn, cellsI64, cellsStr, List.drop, List.take] at u0 u1 u2
        obtain ⟨q0, e0, _, w0⟩ := DataW.trod_int Tryz.underlying24 u0
        obtain ⟨q1, e1, _, w1⟩ := DataW.trod_int Tryz.underlying2 u1
        obtain ⟨q2, e2, _, w2⟩ := DataW.trod_string Tryz.underlying9 u2
        simp only [List.drop, List.take] at g1
        obtain ⟨q3, e3, _, _⟩ := DataW.trod_int Tryz.underlying27 g1
        simp only [List.cons.injEq, and_true] at e0 e1 e2 e3
        subst e0; subst e1; subst e2; subst e3
        have c0 := hcell 0 (by omega)
        have c1 := hcell 1 (by omega)
        have c2 := hcell 2 (by omega)
        have c3 := hcell 3 (by omega)
        rw [Go.Deep.add_add] at c0 c1 c2 c3
        exact ⟨⟨q0, q1, q2, q3⟩, by simpa using c0, by simpa using c1, by simpa using c2, by simpa using c3, bounds_i64 w1⟩
    obtain ⟨q, hq⟩ := Go.Deep.choose_lt each
    obtain ⟨B, O, spot⟩ := a
    have hs : ∀ i, i < l → spot = none := fun i hi => by
      have h := World.cell?_spot (hq 0 (by omega)).1
      simpa [Addr.add] using h
    refine ⟨_, l, ca, (List.range l).map q, rfl, ⟨by simp, fun i hi => ?_⟩, fun h => (by cases h), hl, ?_, hm, fun o ho => ?_⟩
    · have e := hs i hi
      subst e
      obtain ⟨c0, c1, c2, c3, -⟩ := hq i hi
      rw [Addr.add_lit] at c0 c1 c2 c3
      refine ⟨B, O, q i, rfl, by simp [hi], World.block_lt_of_cell? _ _ c0, c0, ?_, ?_, ?_⟩
      · rw [Nat.add_assoc]; exact c1
      · rw [Nat.add_assoc]; exact c2
      · rw [Nat.add_assoc]; exact c3
    · simp only [Prod.mk.injEq] at hx0
      rw [hx0.1, Rows.uptoBulk]
      have := bulk_all ((List.range l).map D)
      simp only [List.length_map, List.length_range] at this
      omega
    · obtain ⟨i, hi, rfl⟩ := List.mem_map.1 ho
      exact (hq i (List.mem_range.1 hi)).2.2.2.2
end
end Go.Proofs.YtdipalinddfekaaGreatDoor.U
namespace Go.Proofs.YtdipalinddfekaaGreatDoor.U
open Go.ChangeShapes Go.WideShapes Go.ChangeAt Go.RowKit Go.Proofs.YtdipalinddfekaaGreatDoor.V Go.Proofs.YtdipalinddfekaaGreatDoor.K Go.Proofs.YtdipalinddfekaaGreatDoor.T
theorem beq_f {a b : Int} (h : a ≠ b) : (a == b) = false := by simpa using h
theorem kind_bd {o : Ot} (h : o.ok = true) : 0 ≤ o.k ∧ o.k ≤ 255 := by
  have := ok_kind h
  omega
/-- A valid text is small. -/
theorem size_small {o : Ot} (h : o.ok = true) : o.s.size ≤ maxLen := by
  have h0 : ∀ s : ByteArray, s.toList = [] → s.size ≤ maxLen := fun s hs => by rw [ba_nil hs]; exact Nat.zero_le _
  have hm : (100 : Nat) ≤ maxLen := by unfold maxLen; omega
  unfold Ot.ok at h
  split at h
  · unfold vd at h
    split at h
    · simp at h; exact h0 _ h.2
    · split at h
      · simp at h; exact h0 _ h
      · split at h
        · simp at h; omega
        · split at h
          · simp at h; exact h0 _ h.2
          · cases h
  · simp only [Bool.and_eq_true, beq_iff_eq] at h
    exact h0 _ (by rw [h.2.2]; exact ba_nil')
theorem cmp3 {o p : Ot} (zo : o.e = 0) (zp : p.e = 0) (vo : o.ok = true) (vp : p.ok = true) (no : isN o = false) (np : isN p = false) (hg : agree o.k p.k = true) : cmpV o.k o.n o.s p.k p.n p.s = -1 ∨ cmpV o.k o.n o.s p.k p.n p.s = 0 ∨ cmpV o.k o.n o.s p.k p.n p.s = 1 := by
  have ho := not_nul_k zo no
  have hp := not_nul_k zp np
  have hk : p.k = o.k := by rw [agree_iff] at hg; omega
  have h1 := ok_vd zo vo
  have h2 := ok_vd zp vp
  rw [hk] at h2 ⊢
  exact (cmpV_3 h1 h2).1
set_option maxRecDepth 100000
theorem r_Node (op : Int) (a : Option Addr) (n c : Nat) (l : List Ot) (hn : n ≤ 140737488351230) (hfit : ∀ o ∈ l, Fits o.n) (w : World) (h : Outs w a n l) : Ret 4 #[.int .u8 op, .slice a n c] w (enc (node op l)) := by
  cases hf : fits op l with
  | false =>
    have e : node op l = fl 1 := by unfold node; rw [hf]; rfl
    rw [e]
    exact r_Node_no op a n c l hn hf w h
  | true =>
    obtain ⟨hv, ht, hk⟩ := fits_parts hf
    have hop := takes_op ht
    generalize (kind op (l.map (·.k))).1 = K at hk
    by_cases h23 : op = 23
    · subst h23
      have e : node 23 l = chain false false 0 l := by unfold node; rw [hf]; rfl
      rw [e]
      exact r_Node_23 _ a n c l hn (fun W h => r_chain false a n c l (by omega) W h) hf w h
    by_cases h24 : op = 24
    · subst h24
      have e : node 24 l = chain true false 0 l := by unfold node; rw [hf]; rfl
      rw [e]
      exact r_Node_24 _ a n c l hn (fun W h => r_chain true a n c l (by omega) W h) hf w h
    by_cases h25 : op = 25
    · subst h25
      rw [node_25 hf]
      exact r_Node_25 _ a n c l hn (fun W h => r_choose a n c l (by omega) W h) hf w h
    by_cases h26 : op = 26
    · subst h26
      rw [node_26 hf]
      exact r_Node_26 _ a n c l hn (fun W h => r_first a n c l (by omega) W h) hf w h
    have h22 : op ≤ 22 := by omega
    rw [node_strict hf h22]
    by_cases he : errs 0 l = 0
    case neg =>
      have hR : strictR op l = fl (errs 0 l) := if_pos he
      rw [hR]
      exact r_Node_err op (beq_f h23) (beq_f h24) (beq_f h25) (beq_f h26) a n c l hn he hf w h
    have hz := (errs_zero l 0 he).2
    have ho : ∀ o ∈ l, o.ok = true := List.all_eq_true.1 hv
    by_cases h18 : op = 18
    · subst h18
      obtain ⟨o, p, rfl⟩ := two_of' (takes_len ht 2 rfl)
      obtain rfl : n = 2 := h.len
      have hR : strictR 18 [o, p] = bo (same o.k o.n o.s p.k p.n p.s) := by
        unfold strictR
        rw [if_neg (by rw [he]; simp), if_pos rfl]; rfl
      rw [hR]
      exact r_Node_18 o p a c he hf w h
    by_cases h20 : op = 20
    · subst h20
      have hR : strictR 20 l = bo (l.any isN) := by
        unfold strictR
        rw [if_neg (by rw [he]; simp), if_neg (by decide), if_pos rfl]
      rw [hR]
      exact r_Node_20 a n c l hn he hf w h
    by_cases h21 : op = 21
    · subst h21
      obtain ⟨o, rfl⟩ := one_of (takes_len ht 1 rfl)
      obtain rfl : n = 1 := h.len
      have hR : strictR 21 [o] = bo (isT o) := by
        unfold strictR
        rw [if_neg (by rw [he]; simp), if_neg (by decide), if_neg (by decide), if_pos rfl]; rfl
      rw [hR]
      exact r_Node_21 o a c he hf w h
    cases hnu : l.any isN with
    | true =>
      have hR : strictR op l = nul := by
        unfold strictR
        rw [if_neg (by rw [he]; simp), if_neg h18, if_neg h20, if_neg h21, if_pos hnu]
      rw [hR]
      exact r_Node_nul op (beq_f h23) (beq_f h24) (beq_f h25) (beq_f h26) (beq_f h18) (beq_f h20) (beq_f h21) a n c l hn he hnu hf w h
    | false =>
      have hR : strictR op l = strictO op (frst l) (scnd l) := by
        unfold strictR
        rw [if_neg (by rw [he]; simp), if_neg h18, if_neg h20, if_neg h21, hnu]; rfl
      rw [hR]
      refine r_Node_st op (beq_f h23) (beq_f h24) (beq_f h25) (beq_f h26) (beq_f h18) (beq_f h20) (beq_f h21) _ a n c l hn ?_ he hnu hf w h
      intro W h
      have hops : op = 4 ∨ op = 5 ∨ op = 6 ∨ op = 7 ∨ op = 8 ∨ op = 9 ∨ op = 10 ∨ op = 11 ∨ op = 12 ∨ op = 13 ∨ op = 14 ∨ op = 15 ∨ op = 16 ∨ op = 17 ∨ op = 19 ∨ op = 22 := by omega
      clear h23 h24 h25 h26 hop h18 h20 h21 hR h22
      rcases hops with rfl | rfl | rfl | rfl | rfl | rfl | rfl | rfl | rfl | rfl | rfl | rfl | rfl | rfl | rfl | rfl
      · obtain ⟨o, rfl⟩ := one_of (takes_len ht 1 rfl)
        obtain rfl : n = 1 := h.len
        exact q_s4 o (hfit o (by simp)) a c W h
      · obtain ⟨o, p, rfl⟩ := two_of' (takes_len ht 2 rfl)
        obtain rfl : n = 2 := h.len
        have zo := hz o (by simp)
        have zp := hz p (by simp)
        have vo := ho o (by simp)
        have vp := ho p (by simp)
        have no : isN o = false := by simp at hnu; exact hnu.1
        have np : isN p = false := by simp at hnu; exact hnu.2
        exact q_s5 o p (hfit o (by simp)) (hfit p (by simp)) a c W h
      · obtain ⟨o, p, rfl⟩ := two_of' (takes_len ht 2 rfl)
        obtain rfl : n = 2 := h.len
        have zo := hz o (by simp)
        have zp := hz p (by simp)
        have vo := ho o (by simp)
        have vp := ho p (by simp)
        have no : isN o = false := by simp at hnu; exact hnu.1
        have np : isN p = false := by simp at hnu; exact hnu.2
        exact q_s6 o p (hfit o (by simp)) (hfit p (by simp)) a c W h
      · obtain ⟨o, p, rfl⟩ := two_of' (takes_len ht 2 rfl)
        obtain rfl : n = 2 := h.len
        have zo := hz o (by simp)
        have zp := hz p (by simp)
        have vo := ho o (by simp)
        have vp := ho p (by simp)
        have no : isN o = false := by simp at hnu; exact hnu.1
        have np : isN p = false := by simp at hnu; exact hnu.2
        exact q_s7 o p (hfit o (by simp)) (hfit p (by simp)) a c W h
      · obtain ⟨o, p, rfl⟩ := two_of' (takes_len ht 2 rfl)
        obtain rfl : n = 2 := h.len
        have zo := hz o (by simp)
        have zp := hz p (by simp)
        have vo := ho o (by simp)
        have vp := ho p (by simp)
        have no : isN o = false := by simp at hnu; exact hnu.1
        have np : isN p = false := by simp at hnu; exact hnu.2
        exact q_s8 o p (hfit o (by simp)) (hfit p (by simp)) a c W h
      · obtain ⟨o, p, rfl⟩ := two_of' (takes_len ht 2 rfl)
        obtain rfl : n = 2 := h.len
        have zo := hz o (by simp)
        have zp := hz p (by simp)
        have vo := ho o (by simp)
        have vp := ho p (by simp)
        have no : isN o = false := by simp at hnu; exact hnu.1
        have np : isN p = false := by simp at hnu; exact hnu.2
        exact q_s9 o p (hfit o (by simp)) (hfit p (by simp)) a c W h
      · obtain ⟨o, p, rfl⟩ := two_of' (takes_len ht 2 rfl)
        obtain rfl : n = 2 := h.len
        have zo := hz o (by simp)
        have zp := hz p (by simp)
        have vo := ho o (by simp)
        have vp := ho p (by simp)
        have no : isN o = false := by simp at hnu; exact hnu.1
        have np : isN p = false := by simp at hnu; exact hnu.2
        rw [show (sortOf 10).1 = 2 from rfl] at hk
        obtain ⟨g1, g2⟩ := ag_two (ag_2 hk)
        obtain ⟨-, -, -, so⟩ := (text_of zo vo g1).resolve_left (by simp [no])
        obtain ⟨-, -, -, sp⟩ := (text_of zp vp g2).resolve_left (by simp [np])
        exact q_s10 o p so sp a c W h
      · obtain ⟨o, rfl⟩ := one_of (takes_len ht 1 rfl)
        obtain rfl : n = 1 := h.len
        exact q_s11 o a c W h
      · obtain ⟨o, p, rfl⟩ := two_of' (takes_len ht 2 rfl)
        obtain rfl : n = 2 := h.len
        have zo := hz o (by simp)
        have zp := hz p (by simp)
        have vo := ho o (by simp)
        have vp := ho p (by simp)
        have no : isN o = false := by simp at hnu; exact hnu.1
        have np : isN p = false := by simp at hnu; exact hnu.2
        rw [show (sortOf 12).1 = 4 from rfl] at hk
        have hg := ag_4 hk
        exact q_s12 o p _ (fun W => r_cmp12 _ _ _ _ _ _ _ (cmp3 zo zp vo vp no np hg) (fun w => r_Compare o.k o.n o.s p.k p.n p.s (kind_bd vo) (kind_bd vp) (size_small vo) (size_small vp) w) W) a c W h
      · obtain ⟨o, p, rfl⟩ := two_of' (takes_len ht 2 rfl)
        obtain rfl : n = 2 := h.len
        have zo := hz o (by simp)
        have zp := hz p (by simp)
        have vo := ho o (by simp)
        have vp := ho p (by simp)
        have no : isN o = false := by simp at hnu; exact hnu.1
        have np : isN p = false := by simp at hnu; exact hnu.2
        rw [show (sortOf 13).1 = 4 from rfl] at hk
        have hg := ag_4 hk
        exact q_s13 o p _ (fun W => r_cmp13 _ _ _ _ _ _ _ (cmp3 zo zp vo vp no np hg) (fun w => r_Compare o.k o.n o.s p.k p.n p.s (kind_bd vo) (kind_bd vp) (size_small vo) (size_small vp) w) W) a c W h
      · obtain ⟨o, p, rfl⟩ := two_of' (takes_len ht 2 rfl)
        obtain rfl : n = 2 := h.len
        have zo := hz o (by simp)
        have zp := hz p (by simp)
        have vo := ho o (by simp)
        have vp := ho p (by simp)
        have no : isN o = false := by simp at hnu; exact hnu.1
        have np : isN p = false := by simp at hnu; exact hnu.2
        rw [show (sortOf 14).1 = 4 from rfl] at hk
        have hg := ag_4 hk
        exact q_s14 o p _ (fun W => r_cmp14 _ _ _ _ _ _ _ (cmp3 zo zp vo vp no np hg) (fun w => r_Compare o.k o.n o.s p.k p.n p.s (kind_bd vo) (kind_bd vp) (size_small vo) (size_small vp) w) W) a c W h
      · obtain ⟨o, p, rfl⟩ := two_of' (takes_len ht 2 rfl)
        obtain rfl : n = 2 := h.len
        have zo := hz o (by simp)
        have zp := hz p (by simp)
        have vo := ho o (by simp)
        have vp := ho p (by simp)
        have no : isN o = false := by simp at hnu; exact hnu.1
        have np : isN p = false := by simp at hnu; exact hnu.2
        rw [show (sortOf 15).1 = 4 from rfl] at hk
        have hg := ag_4 hk
        exact q_s15 o p _ (fun W => r_cmp15 _ _ _ _ _ _ _ (cmp3 zo zp vo vp no np hg) (fun w => r_Compare o.k o.n o.s p.k p.n p.s (kind_bd vo) (kind_bd vp) (size_small vo) (size_small vp) w) W) a c W h
      · obtain ⟨o, p, rfl⟩ := two_of' (takes_len ht 2 rfl)
        obtain rfl : n = 2 := h.len
        have zo := hz o (by simp)
        have zp := hz p (by simp)
        have vo := ho o (by simp)
        have vp := ho p (by simp)
        have no : isN o = false := by simp at hnu; exact hnu.1
        have np : isN p = false := by simp at hnu; exact hnu.2
        rw [show (sortOf 16).1 = 4 from rfl] at hk
        have hg := ag_4 hk
        exact q_s16 o p _ (fun W => r_cmp16 _ _ _ _ _ _ _ (cmp3 zo zp vo vp no np hg) (fun w => r_Compare o.k o.n o.s p.k p.n p.s (kind_bd vo) (kind_bd vp) (size_small vo) (size_small vp) w) W) a c W h
      · obtain ⟨o, p, rfl⟩ := two_of' (takes_len ht 2 rfl)
        obtain rfl : n = 2 := h.len
        have zo := hz o (by simp)
        have zp := hz p (by simp)
        have vo := ho o (by simp)
        have vp := ho p (by simp)
        have no : isN o = false := by simp at hnu; exact hnu.1
        have np : isN p = false := by simp at hnu; exact hnu.2
        rw [show (sortOf 17).1 = 4 from rfl] at hk
        have hg := ag_4 hk
        exact q_s17 o p _ (fun W => r_cmp17 _ _ _ _ _ _ _ (cmp3 zo zp vo vp no np hg) (fun w => r_Compare o.k o.n o.s p.k p.n p.s (kind_bd vo) (kind_bd vp) (size_small vo) (size_small vp) w) W) a c W h
      · obtain ⟨o, p, rfl⟩ := two_of' (takes_len ht 2 rfl)
        obtain rfl : n = 2 := h.len
        have zo := hz o (by simp)
        have zp := hz p (by simp)
        have vo := ho o (by simp)
        have vp := ho p (by simp)
        have no : isN o = false := by simp at hnu; exact hnu.1
        have np : isN p = false := by simp at hnu; exact hnu.2
        rw [show (sortOf 19).1 = 5 from rfl] at hk
        obtain ⟨g1, g2⟩ := ag_two (ag_5 hk)
        obtain ⟨-, -, -, so⟩ := (text_of zo vo g1).resolve_left (by simp [no])
        obtain ⟨-, -, -, sp⟩ := (text_of zp vp g2).resolve_left (by simp [np])
        exact q_s19 o p so sp a c W h
      · obtain ⟨o, rfl⟩ := one_of (takes_len ht 1 rfl)
        obtain rfl : n = 1 := h.len
        exact q_s22 o a c W h
theorem r_Conds (a : Option Addr) (n c : Nat) (l : List Ot) (hn : n ≤ 140737488351230) (hfit : ∀ o ∈ l, Fits o.n) (w : World) (h : Outs w a n l) : Ret 5 #[.slice a n c] w (enc (node 23 l)) := by
  go_enter Tryz.func5, Tryz.ntmps5
  go_wp2_with fail
  refine (r_Node 23 a n c l hn hfit _ (h.below (bel_alloc (Below.refl _ _) _))).mono ?_
  rintro e w4 ⟨rfl, hb4⟩
  obtain ⟨hx, d0, d1, d2, d3, e0, e1, e2, e3⟩ := (Box.new w nul).below hb4
  have B4 : Hid (Below w.heap.size w w4) := bel_trans (bel_alloc (Below.refl _ _) _) hb4
  clear hb4
  generalize hz : node 23 l = z
  have hz := Lib.hid hz
  go_wp2
  exact bodyPost_ret (v := ov z.k z.n z.s z.e) (by simp [results, Tryz.results5, go_sem, *]) rfl ⟨ret_v (by rw [hz.out]), put4_below B4.out (Nat.le_refl _) _⟩
theorem c_Conds_all (a : Option Addr) (n c : Nat) (l : List Ot) (hsz : 40 * n ≤ 140737488351232) (hnc : n ≤ c) (hc : c ≤ maxLen) (hfit : ∀ o ∈ l, Fits o.n) (w : World) (h : Outs w a n l) : Ret 7 #[.slice a n c] w (enc (node 23 l)) := by
  go_enter Tryz.func7, Tryz.ntmps7
  go_wp2_with fail
  refine (c_Node_all 23 a n c l hsz hnc hc hfit _ (h.below (bel_alloc (Below.refl _ _) _))).mono ?_
  rintro e w4 ⟨rfl, hb4⟩
  obtain ⟨hx, d0, d1, d2, d3, e0, e1, e2, e3⟩ := (Box.new w nul).below hb4
  have B4 : Hid (Below w.heap.size w w4) := bel_trans (bel_alloc (Below.refl _ _) _) hb4
  clear hb4
  generalize hz : node 23 l = z
  have hz := Lib.hid hz
  go_wp2
  exact bodyPost_ret (v := ov z.k z.n z.s z.e) (by simp [results, Tryz.results7, go_sem, *]) rfl ⟨ret_v (by rw [hz.out]), put4_below B4.out (Nat.le_refl _) _⟩
theorem sameO_refl (o : Ot) : sameO o o = true := by unfold sameO; rw [same_refl]; simp
set_option maxHeartbeats 4000000 in
theorem walk_nodes (op : Int) (a : Option Addr) (n c : Nat) (l : List Ot) (hsz : 40 * n ≤ 140737488351232) (hnc : n ≤ c) (hc : c ≤ maxLen) (hfit : ∀ o ∈ l, Fits o.n) (w : World) (h : Outs w a n l) :
    Ret 3 #[.int .u8 op, .slice a n c] w (.bool true) := by
  have H1 := Lib.hid h
  have hR : ∀ W, Outs W a n l → Ret 4 #[.int .u8 op, .slice a n c] W (enc (node op l)) := fun W h => r_Node op a n c l (by omega) hfit W h
  have hRC : ∀ W, Outs W a n l → Ret 5 #[.slice a n c] W (enc (node 23 l)) := fun W h => r_Conds a n c l (by omega) hfit W h
  have hK : ∀ W, Outs W a n l → Ret 6 #[.int .u8 op, .slice a n c] W (enc (node op l)) := fun W h => c_Node_all op a n c l hsz hnc hc hfit W h
  have hKC : ∀ W, Outs W a n l → Ret 7 #[.slice a n c] W (enc (node 23 l)) := fun W h => c_Conds_all a n c l hsz hnc hc hfit W h
  generalize node op l = x at hR hK
  generalize node 23 l = y at hRC hKC
  have hS : ∀ z : Ot, ∀ W, Ret 8 #[ov z.k z.n z.s z.e, ov z.k z.n z.s z.e] W (.bool true) := fun z W => by
    have := r_Same5 z z W
    rwa [sameO_refl] at this
  have hSx := hS x
  have hSy := hS y
  clear h hS hsz hnc hc hfit
  go_enter Tryz.func3, Tryz.ntmps3
  go_upto_region 2 with (go_at_call 4; refine (hR _ H1.out).mono ?_; rintro e w1 ⟨rfl, hb1⟩)
  have B1 : Hid (Below w.heap.size w (w1.alloc (.cells #[.int .u8 x.k, .int .i64 x.n, .string x.s, .int .i64 x.e] 29))) := bel_alloc hb1 _
  have X1 : Hid (Box (w1.alloc (.cells #[.int .u8 x.k, .int .i64 x.n, .string x.s, .int .i64 x.e] 29)) w1.heap.size x) := Box.new w1 x
  clear hb1 hR
  go_upto_region 3 with (go_at_call 5; refine (hRC _ (H1.out.below B1.out)).mono ?_; rintro e w2 ⟨rfl, hb2⟩)
  have B2 : Hid (Below w.heap.size w (w2.alloc (.cells #[.int .u8 y.k, .int .i64 y.n, .string y.s, .int .i64 y.e] 29))) := bel_alloc (bel_trans B1.out hb2) _
  have X2 : Hid (Box (w2.alloc (.cells #[.int .u8 y.k, .int .i64 y.n, .string y.s, .int .i64 y.e] 29)) w1.heap.size x) := (X1.out.below hb2).alloc _
  have Y2 : Hid (Box (w2.alloc (.cells #[.int .u8 y.k, .int .i64 y.n, .string y.s, .int .i64 y.e] 29)) w2.heap.size y) := Box.new w2 y
  clear hb2 hRC B1 X1
  go_upto_region 4 with (go_at_call 6; refine (hK _ (H1.out.below B2.out)).mono ?_; rintro e w3 ⟨rfl, hb3⟩)
  have B3 : Hid (Below w.heap.size w (w3.alloc (.cells #[.int .u8 x.k, .int .i64 x.n, .string x.s, .int .i64 x.e] 29))) := bel_alloc (bel_trans B2.out hb3) _
  have X3 : Hid (Box (w3.alloc (.cells #[.int .u8 x.k, .int .i64 x.n, .string x.s, .int .i64 x.e] 29)) w1.heap.size x) := (X2.out.below hb3).alloc _
  have Y3 : Hid (Box (w3.alloc (.cells #[.int .u8 x.k, .int .i64 x.n, .string x.s, .int .i64 x.e] 29)) w2.heap.size y) := (Y2.out.below hb3).alloc _
  have U3 : Hid (Box (w3.alloc (.cells #[.int .u8 x.k, .int .i64 x.n, .string x.s, .int .i64 x.e] 29)) w3.heap.size x) := Box.new w3 x
  clear hb3 hK B2 X2 Y2
  go_upto_region 5 with (go_at_call 7; refine (hKC _ (H1.out.below B3.out)).mono ?_; rintro e w4 ⟨rfl, hb4⟩)
  have B4 : Hid (Below w.heap.size w (w4.alloc (.cells #[.int .u8 y.k, .int .i64 y.n, .string y.s, .int .i64 y.e] 29))) := bel_alloc (bel_trans B3.out hb4) _
  have X4 : Hid (Box (w4.alloc (.cells #[.int .u8 y.k, .int .i64 y.n, .string y.s, .int .i64 y.e] 29)) w1.heap.size x) := (X3.out.below hb4).alloc _
  have Y4 : Hid (Box (w4.alloc (.cells #[.int .u8 y.k, .int .i64 y.n, .string y.s, .int .i64 y.e] 29)) w2.heap.size y) := (Y3.out.below hb4).alloc _
  have U4 : Hid (Box (w4.alloc (.cells #[.int .u8 y.k, .int .i64 y.n, .string y.s, .int .i64 y.e] 29)) w3.heap.size x) := (U3.out.below hb4).alloc _
  have V4 : Hid (Box (w4.alloc (.cells #[.int .u8 y.k, .int .i64 y.n, .string y.s, .int .i64 y.e] 29)) w4.heap.size y) := Box.new w4 y
  clear hb4 hKC B3 X3 Y3 U3
  generalize w4.alloc (.cells #[.int .u8 y.k, .int .i64 y.n, .string y.s, .int .i64 y.e] 29) = W5 at *
  generalize w1.heap.size = b1 at *
  generalize w2.heap.size = b2 at *
  generalize w3.heap.size = b3 at *
  generalize w4.heap.size = b4 at *
  obtain ⟨xl, x0, x1, x2, x3, -, -, -, -⟩ := X4.out
  obtain ⟨ul, u0, u1, u2, u3, -, -, -, -⟩ := U4.out
  go_wp2_with (first | (go_at_call 8; with_reducible refine (hSx _).mono ?_; rintro e w6 ⟨rfl, hb6⟩; obtain ⟨yl, y0, y1, y2, y3, -, -, -, -⟩ := Y4.out.below hb6; obtain ⟨vl, v0, v1, v2, v3, -, -, -, -⟩ := V4.out.below hb6) | (go_at_call 8; with_reducible refine (hSy _).mono ?_; rintro e w7 ⟨rfl, hb7⟩) | (go_at_call 9; refine (awake _).mono ?_; rintro e w8 ⟨rfl, hb8⟩))
  first | exact bodyPost_ret (v := .bool true) (by simp [results, Tryz.results3, go_sem, *]) rfl ⟨rfl, bel_trans (bel_trans (bel_trans B4.out hb6) hb7) hb8⟩ | (go_ret; exact ⟨rfl, bel_trans (bel_trans (bel_trans B4.out hb6) hb7) hb8⟩)
section
open Go.Proofs.YtdipalinddfekaaGreatDoor.KD
theorem bytesOut : Tryz.prog.bytesOf 29 = 40 := by kernel_rfl
set_option maxRecDepth 20000 in
theorem open_outs3 {H : Type} {enc : TypeId × Value → H} {W : World} {r : Reach} {b0 base : Nat} {sp : Nat → Bool} {held : Bool} {v : Value} {d : DataW H} {p : List MemPlace}
    (hv : Value.okWide Tryz.prog W r b0 23 v) (h : DataW.Trod enc Tryz.prog W base sp held 23 v d p) (hz : ∀ x ∈ d.weights Tryz.prog 23, x ≤ reachBytes) :
    ∃ (pa : Option Addr) (n ca : Nat) (l : List Ot), v = .slice pa n ca ∧ Outs W pa n l ∧ (pa = none → ca = 0) ∧ n ≤ ca ∧ 40 * n ≤ 140737488351232 ∧ ca ≤ maxLen ∧ ∀ o ∈ l, Fits o.n := by
  obtain ⟨pa, l, ca, rfl⟩ := okWide_slice Tryz.underlying23 hv
  obtain ⟨fuel, hf⟩ := h
  rcases Go.Deep.open_slice Tryz.underlying23 hf with ⟨h0, _⟩ | ⟨a, len, cap, m, n, D, Pl, hcs, _, hl, hm, hmm, hx0, hx⟩
  · have e : Value.slice pa l ca = .slice none 0 0 := by simpa [Value.cells] using h0
    obtain ⟨rfl, rfl, rfl⟩ : pa = none ∧ l = 0 ∧ ca = 0 := by simpa using e
    exact ⟨none, 0, 0, [], rfl, ⟨rfl, fun k hk => absurd hk (Nat.not_lt_zero _)⟩, fun _ => rfl, by omega, by omega, Nat.zero_le _, fun o ho => by cases ho⟩
  · have e : Value.slice pa l ca = .slice (some a) len cap := by simpa [Value.cells] using hcs
    obtain ⟨rfl, rfl, rfl⟩ : pa = some a ∧ l = len ∧ ca = cap := by simpa using e
    have hlm : l ≤ m := by rw [hmm]; split <;> omega
    have each : ∀ i, i < l → ∃ q : Ot, W.cell? (a.add (i * 4)) = some (.int .u8 q.k) ∧ W.cell? (a.add (i * 4 + 1)) = some (.int .i64 q.n) ∧ W.cell? (a.add (i * 4 + 2)) = some (.string q.s) ∧ W.cell? (a.add (i * 4 + 3)) = some (.int .i64 q.e) ∧ Fits q.n := by
      intro i hi
      obtain ⟨cs', h1, h2⟩ := hx i (by omega)
      rw [cellsOut] at h1
      obtain ⟨_, hlen, hcell⟩ := World.cells?_some h1
      obtain ⟨xs, n', -, hxs, -, hlen2, hg⟩ := DataW.trod_struct Tryz.underlying29 h2
      obtain ⟨y0, y1, rfl⟩ := two_of (show xs.length = 2 from hlen2)
      match cs', hlen with
      | [v0, v1, v2, v3], _ =>
        have g0 : DataW.trod enc Tryz.prog W base sp held n' 26 (([v0, v1, v2, v3].drop 0).take (Tryz.prog.cellsOf 26)) = some y0 := hg 0 _ rfl
        have g1 : DataW.trod enc Tryz.prog W base sp held n' 27 (([v0, v1, v2, v3].drop 3).take (Tryz.prog.cellsOf 27)) = some y1 := hg 1 _ rfl
        rw [cellsVal] at g0
        rw [cellsErr] at g1
        obtain ⟨z0, z1, z2, k, hxy, _, u0, u1, u2⟩ := Go.Deep.trod_struct3 Tryz.underlying26 g0
        simp only [cellsKn, cellsI64, cellsStr, List.drop, List.take] at u0 u1 u2
        obtain ⟨q0, e0, _, w0⟩ := DataW.trod_int Tryz.underlying24 u0
        obtain ⟨q1, e1, _, w1⟩ := DataW.trod_int Tryz.underlying2 u1
        obtain ⟨q2, e2, _, w2⟩ := DataW.trod_string Tryz.underlying9 u2
        simp only [List.drop, List.take] at g1
        obtain ⟨q3, e3, _, _⟩ := DataW.trod_int Tryz.underlying27 g1
        simp only [List.cons.injEq, and_true] at e0 e1 e2 e3
        subst e0; subst e1; subst e2; subst e3
        have c0 := hcell 0 (by omega)
        have c1 := hcell 1 (by omega)
        have c2 := hcell 2 (by omega)
        have c3 := hcell 3 (by omega)
        rw [Go.Deep.add_add] at c0 c1 c2 c3
        exact ⟨⟨q0, q1, q2, q3⟩, by simpa using c0, by simpa using c1, by simpa using c2, by simpa using c3, bounds_i64 w1⟩
    obtain ⟨q, hq⟩ := Go.Deep.choose_lt each
    obtain ⟨B, O, spot⟩ := a
    have hs : ∀ i, i < l → spot = none := fun i hi => by
      have h := World.cell?_spot (hq 0 (by omega)).1
      simpa [Addr.add] using h
    refine ⟨_, l, ca, (List.range l).map q, rfl, ⟨by simp, fun i hi => ?_⟩, fun h => (by cases h), hl, ?_, hm, fun o ho => ?_⟩
    · have e := hs i hi
      subst e
      obtain ⟨c0, c1, c2, c3, -⟩ := hq i hi
      rw [Addr.add_lit] at c0 c1 c2 c3
      refine ⟨B, O, q i, rfl, by simp [hi], World.block_lt_of_cell? _ _ c0, c0, ?_, ?_, ?_⟩
      · rw [Nat.add_assoc]; exact c1
      · rw [Nat.add_assoc]; exact c2
      · rw [Nat.add_assoc]; exact c3
    · have hx1 := hx0
      simp only [Prod.mk.injEq] at hx1
      have hdy := hx1.1
      have := hz ((((List.range l).map D).length + ((List.range (m - l)).map fun j => D (l + j)).length) * Tryz.prog.bytesOf 29) (by
        rw [hdy, DataW.weights, Tryz.underlying23]
        exact List.mem_cons_self ..)
      have hr : reachBytes = 140737488351232 := rfl
      rw [bytesOut] at this
      simp at this
      omega
    · obtain ⟨i, hi, rfl⟩ := List.mem_map.1 ho
      exact (hq i (List.mem_range.1 hi)).2.2.2.2
end
end Go.Proofs.YtdipalinddfekaaGreatDoor.U
namespace Go.Proofs.YtdipalinddfekaaGreatDoor.L
open Go.ChangeShapes Go.WideShapes Go.ChangeAt Go.RowKit
def laidList : List (String × DataW Unit) := [("unicode/utf8.acceptRanges", Rows.laid_unicode_utf8_acceptRanges), ("unicode/utf8.first", Rows.laid_unicode_utf8_first)]
theorem plainList : (laidList.all fun x => x.2.handleName?.isNone) = true := by kernel_rfl
theorem laidOut : laidOutB Tryz.prog = true := by kernel_rfl
theorem own : ownKnob Tryz.prog.godebug = none := by kernel_rfl
end Go.Proofs.YtdipalinddfekaaGreatDoor.L
