/- NOT of a condition, whole. -/
import Derived.Test.YtefelelhgepkeaaGreatDoorTg
namespace Go.Proofs.YtefelelhgepkeaaGreatDoor.T
open Go.ChangeShapes Go.WideShapes Go.ChangeAt Go.RowKit Go.Proofs.YtefelelhgepkeaaGreatDoor.V Go.Proofs.YtefelelhgepkeaaGreatDoor.K
set_option maxRecDepth 100000 in
set_option maxHeartbeats 4000000 in
theorem c_Node_not (o : Ot) (ht : tr o = true) (a : Option Addr) (c : Nat) (w : World) (h : Outs w a 1 [o]) : Ret 16 #[.int .u8 22, .slice a 1 c] w (enc (neg o)) := by
  have HL := Lib.hid h
  have hK : Hid (kind 22 ([o].map (·.k)) = (3, 0)) := by
    show _ = _
    rcases tr_cases ht with rfl | rfl | rfl | ⟨e, he, rfl⟩
    · decide +kernel
    · decide +kernel
    · decide +kernel
    · exact (by decide +kernel : kind 22 [0] = (3, 0))
  have hV : Hid ([o].all Ot.ok = true) := by
    have h1 := ht
    unfold tr at h1
    rw [Bool.and_eq_true] at h1
    show _ = _
    simp [h1.1]
  have hS := Lib.hid (fun W h => c_strict_not o ht a c W h)
  clear h ht
  go_enter Tryz.func16, Tryz.ntmps16
  go_wp2_with fail
  have HL0 := Lib.hid (HL.out.below (bel_alloc (Below.refl _ w) (.cells #[.int .u8 0, .int .i64 0, .string ⟨#[]⟩, .int .i64 0] 34)))
  refine (c_kindsOf a 1 c [o] (by omega) _ HL0.out).mono ?_
  rintro e w1 ⟨⟨a2, rfl, hone⟩, hb1⟩
  have HX1 : Hid (Box w1 w.heap.size nul) := (Box.new w nul).below hb1
  have B1 : Hid (Below w.heap.size w w1) := bel_trans (bel_alloc (Below.refl _ _) _) hb1
  have HO := Lib.hid hone
  clear hb1 hone HL0
  go_wp2_with fail
  refine (c_Kind 22 a2 1 1 ([o].map (·.k)) (Nat.le_refl _) (by omega) (by omega) _ HO.out).mono ?_
  rw [hK.out]
  rintro e w2 ⟨rfl, hb2⟩
  have HX2 := Lib.hid (HX1.out.below hb2)
  have B2 : Hid (Below w.heap.size w w2) := bel_trans B1.out hb2
  clear hb2 HX1 B1 HO
  simp only [kV]
  go_wp2_with fail
  refine (c_areValid a 1 c [o] (by omega) _ (HL.out.below B2.out)).mono ?_
  rw [hV.out]
  rintro e w3 ⟨rfl, hb3⟩
  have HX3 := Lib.hid (HX2.out.below hb3)
  have B3 : Hid (Below w.heap.size w w3) := bel_trans B2.out hb3
  clear hb3 HX2 B2
  go_wp2_with fail
  refine (hS.out _ (HL.out.below B3.out)).mono ?_
  rintro e w4 ⟨rfl, hb4⟩
  obtain ⟨hx, d0, d1, d2, d3, e0, e1, e2, e3⟩ := HX3.out.below hb4
  have B4 : Hid (Below w.heap.size w w4) := bel_trans B3.out hb4
  clear hb4
  generalize hz : neg o = z
  have hz := Lib.hid hz
  go_wp2
  exact bodyPost_ret (v := ov z.k z.n z.s z.e) (by simp [results, Tryz.results16, go_sem, *]) rfl ⟨ret_v (by rw [hz.out]), put4_below B4.out (Nat.le_refl _) _⟩
end Go.Proofs.YtefelelhgepkeaaGreatDoor.T
