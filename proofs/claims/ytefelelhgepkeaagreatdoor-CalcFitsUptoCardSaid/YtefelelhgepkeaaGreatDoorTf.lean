/- A comparison as a node. -/
import Derived.Test.YtefelelhgepkeaaGreatDoorTe
namespace Go.Proofs.YtefelelhgepkeaaGreatDoor.T
open Go.ChangeShapes Go.WideShapes Go.ChangeAt Go.RowKit Go.Proofs.YtefelelhgepkeaaGreatDoor.V Go.Proofs.YtefelelhgepkeaaGreatDoor.K
set_option maxRecDepth 100000 in
set_option maxHeartbeats 4000000 in
theorem c_Node_cmp (op : Int) (h1 : 12 ≤ op) (h2 : op ≤ 17) (u v : Vl) (hu : vOk u = true) (hv : vOk v = true) (ha : agree u.1 v.1 = true) (a : Option Addr) (c : Nat) (w : World) (h : Outs w a 2 [ofV u, ofV v]) :
    Ret 16 #[.int .u8 op, .slice a 2 c] w (enc (node op [ofV u, ofV v])) := by
  have HL := Lib.hid h
  have hK : Hid (kind op ([ofV u, ofV v].map (·.k)) = (3, 0)) := by
    have hs : sortOf op = (4, 2) := by
      unfold sortOf
      rw [if_neg (by omega), if_neg (by omega), if_neg (by omega), if_neg (by omega), if_pos (by omega)]
    have ku := vd_kind (show vd u.1 u.2.1 u.2.2 = true from hu)
    have kv := vd_kind (show vd v.1 v.2.1 v.2.2 = true from hv)
    have e1 : decide (u.1 ≤ 3) = true := by simp; omega
    have e2 : decide (v.1 ≤ 3) = true := by simp; omega
    show _ = _
    unfold kind takes
    simp only [hs, List.map_cons, List.map_nil, List.length_cons, List.length_nil, kindOf, List.getD_cons_zero, List.getD_cons_succ, ofV, ha, e1, e2, List.all_cons, List.all_nil]
    rfl
  have hV : Hid ([ofV u, ofV v].all Ot.ok = true) := by show _ = _; simp [ofV_ok hu, ofV_ok hv]
  have hS := Lib.hid (fun W h => c_strict_cmp op h1 h2 u v hu hv ha a c W h)
  have e23 : (op == 23) = false := by simp; omega
  have e24 : (op == 24) = false := by simp; omega
  have e25 : (op == 25) = false := by simp; omega
  have e26 : (op == 26) = false := by simp; omega
  clear h ha hu hv
  go_enter Tryz.func16, Tryz.ntmps16
  go_wp2_with fail
  have HL0 := Lib.hid (HL.out.below (bel_alloc (Below.refl _ w) (.cells #[.int .u8 0, .int .i64 0, .string ⟨#[]⟩, .int .i64 0] 34)))
  refine (c_kindsOf a 2 c [ofV u, ofV v] (by omega) _ HL0.out).mono ?_
  rintro e w1 ⟨⟨a2, rfl, hone⟩, hb1⟩
  have HX1 : Hid (Box w1 w.heap.size nul) := (Box.new w nul).below hb1
  have B1 : Hid (Below w.heap.size w w1) := bel_trans (bel_alloc (Below.refl _ _) _) hb1
  have HO := Lib.hid hone
  clear hb1 hone HL0
  go_wp2_with fail
  refine (c_Kind op a2 2 2 ([ofV u, ofV v].map (·.k)) (Nat.le_refl _) (by omega) (by omega) _ HO.out).mono ?_
  rw [hK.out]
  rintro e w2 ⟨rfl, hb2⟩
  have HX2 := Lib.hid (HX1.out.below hb2)
  have B2 : Hid (Below w.heap.size w w2) := bel_trans B1.out hb2
  clear hb2 HX1 B1 HO
  simp only [kV]
  go_wp2_with fail
  refine (c_areValid a 2 c [ofV u, ofV v] (by omega) _ (HL.out.below B2.out)).mono ?_
  rw [hV.out]
  rintro e w3 ⟨rfl, hb3⟩
  have HX3 := Lib.hid (HX2.out.below hb3)
  have B3 : Hid (Below w.heap.size w w3) := bel_trans B2.out hb3
  clear hb3 HX2 B2
  go_wp2_with fail
  refine (hS.out _ (HL.out.below B3.out)).mono ?_
  rintro e w4 ⟨rfl, hb4⟩
  obtain ⟨hx, d0, d1, d2, d3, e0, e1, e2, e3⟩ := HX3.out.below hb4
  have B4 : Hid (Below w.heap.size w w4) := bel_trans B3.out hb4
  clear hb4
  generalize hz : node op [ofV u, ofV v] = z
  have hz := Lib.hid hz
  go_wp2
  exact bodyPost_ret (v := ov z.k z.n z.s z.e) (by simp [results, Tryz.results16, go_sem, *]) rfl ⟨ret_v (by rw [hz.out]), put4_below B4.out (Nat.le_refl _) _⟩
end Go.Proofs.YtefelelhgepkeaaGreatDoor.T
