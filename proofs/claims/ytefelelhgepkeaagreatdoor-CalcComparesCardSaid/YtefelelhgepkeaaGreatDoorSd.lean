/- The law about subqueries: its walk. -/
import Derived.Test.YtefelelhgepkeaaGreatDoorSc
import Derived.Test.YtefelelhgepkeaaGreatDoorDc
namespace Go.Proofs.YtefelelhgepkeaaGreatDoor.S
open Go.ChangeShapes Go.WideShapes Go.ChangeAt Go.RowKit Go.Proofs.YtefelelhgepkeaaGreatDoor.V Go.Proofs.YtefelelhgepkeaaGreatDoor.K
set_option maxRecDepth 100000 in
set_option maxHeartbeats 8000000 in
theorem walk_subs (x : Ot) (a : Option Addr) (n c : Nat) (e : Int) (l : List Rw) (hn : n ≤ 9223372036854775000) (w : World) (h : Rows2 w a n l) (hr : ∀ x ∈ l, x.1.2.1 ≤ 9223372036854775000) :
    Ret 5 #[ov x.k x.n x.s x.e, outV a n c e] w (.bool true) := by
  have K1 : ∀ W, Below w.heap.size w W → Ret 19 #[outV a n c e] W (enc (existsO e (l.map (·.2)))) := fun W hb => r_Exists a n c e l hn W (h.below hb) hr
  have K2 : ∀ W, Below w.heap.size w W → Ret 20 #[ov x.k x.n x.s x.e, outV a n c e] W (enc (inO x e (l.map (·.2)))) := fun W hb => r_In x a n c e l hn W (h.below hb) hr
  have K3 : ∀ W, Below w.heap.size w W → Ret 21 #[outV a n c e] W (enc (scalarO e (l.map (·.2)))) := fun W hb => r_Scalar a n c e l hn W (h.below hb) hr
  have K4 : ∀ W, Below w.heap.size w W → Ret 22 #[outV a n c e] W (enc (existsO e (l.map (·.2)))) := fun W hb => c_Exists a n c e l (by omega) W (h.below hb)
  have K5 : ∀ W, Below w.heap.size w W → Ret 23 #[ov x.k x.n x.s x.e, outV a n c e] W (enc (inO x e (l.map (·.2)))) := fun W hb => c_In x a n c e l (by omega) W (h.below hb)
  have K6 : ∀ W, Below w.heap.size w W → Ret 24 #[outV a n c e] W (enc (scalarO e (l.map (·.2)))) := fun W hb => c_Scalar a n c e l (by omega) W (h.below hb)
  generalize existsO e (l.map (·.2)) = z1 at K1 K4
  generalize inO x e (l.map (·.2)) = z2 at K2 K5
  generalize scalarO e (l.map (·.2)) = z3 at K3 K6
  have S1 : ∀ W, Ret 18 #[ov z1.k z1.n z1.s z1.e, ov z1.k z1.n z1.s z1.e] W (.bool true) := fun W => by have h := r_Same5 z1 z1 W; rw [KD.sameO_refl] at h; exact h
  have S2 : ∀ W, Ret 18 #[ov z2.k z2.n z2.s z2.e, ov z2.k z2.n z2.s z2.e] W (.bool true) := fun W => by have h := r_Same5 z2 z2 W; rw [KD.sameO_refl] at h; exact h
  have S3 : ∀ W, Ret 18 #[ov z3.k z3.n z3.s z3.e, ov z3.k z3.n z3.s z3.e] W (.bool true) := fun W => by have h := r_Same5 z3 z3 W; rw [KD.sameO_refl] at h; exact h
  clear h hr
  go_enter Tryz.func5, Tryz.ntmps5
  go_wp2_with fail
  refine (K1 _ (bel_alloc (bel_alloc (Below.refl _ _) _) _)).mono ?_
  rintro e1 w1 ⟨rfl, hb⟩
  have B : Hid (Below w.heap.size w w1) := bel_trans (bel_alloc (bel_alloc (Below.refl _ _) _) _) hb
  have X : Hid (Box w1 w.heap.size x) := ((Box.new w x).alloc _).below hb
  obtain ⟨xl, x0, x1, x2, x3, -, -, -, -⟩ := X.out
  have o0 : w1.cell? ⟨w.heap.size + 1, 0, none⟩ = some (.slice a n c) := (hb.cell (p := ⟨w.heap.size + 1, 0, none⟩) (by simp)).trans (by simp [go_sem])
  have o1 : w1.cell? ⟨w.heap.size + 1, 1, none⟩ = some (.int .i64 e) := (hb.cell (p := ⟨w.heap.size + 1, 1, none⟩) (by simp)).trans (by simp [go_sem])
  have ol : w.heap.size + 1 < w1.heap.size := Nat.lt_of_lt_of_le (by simp) hb.size
  clear hb K1
  go_wp2_with fail
  refine (K2 _ (bel_alloc B.out _)).mono ?_
  rintro e2 w2 ⟨rfl, hb⟩
  have hs : Below w1.heap.size w1 w2 := bel_trans (bel_alloc (Below.refl _ _) _) hb
  replace B : Hid (Below w.heap.size w w2) := bel_trans B.out hs
  replace X : Hid (Box w2 w.heap.size x) := X.out.below hs
  clear xl x0 x1 x2 x3
  obtain ⟨xl, x0, x1, x2, x3, -, -, -, -⟩ := X.out
  replace o0 := (hs.cell (p := ⟨w.heap.size + 1, 0, none⟩) ol).trans o0
  replace o1 := (hs.cell (p := ⟨w.heap.size + 1, 1, none⟩) ol).trans o1
  replace ol : w.heap.size + 1 < w2.heap.size := Nat.lt_of_lt_of_le ol hs.size
  have Z1 : Hid (Box w2 w1.heap.size z1) := (Box.new w1 z1).below hb
  clear hb hs K2
  go_wp2_with fail
  refine (K3 _ (bel_alloc B.out _)).mono ?_
  rintro e3 w3 ⟨rfl, hb⟩
  have hs : Below w2.heap.size w2 w3 := bel_trans (bel_alloc (Below.refl _ _) _) hb
  replace B : Hid (Below w.heap.size w w3) := bel_trans B.out hs
  replace X : Hid (Box w3 w.heap.size x) := X.out.below hs
  clear xl x0 x1 x2 x3
  obtain ⟨xl, x0, x1, x2, x3, -, -, -, -⟩ := X.out
  replace o0 := (hs.cell (p := ⟨w.heap.size + 1, 0, none⟩) ol).trans o0
  replace o1 := (hs.cell (p := ⟨w.heap.size + 1, 1, none⟩) ol).trans o1
  replace ol : w.heap.size + 1 < w3.heap.size := Nat.lt_of_lt_of_le ol hs.size
  have Z2 : Hid (Box w3 w2.heap.size z2) := (Box.new w2 z2).below hb
  replace Z1 : Hid (Box w3 w1.heap.size z1) := Z1.out.below hs
  clear hb hs K3
  go_wp2_with fail
  refine (K4 _ (bel_alloc B.out _)).mono ?_
  rintro e4 w4 ⟨rfl, hb⟩
  have hs : Below w3.heap.size w3 w4 := bel_trans (bel_alloc (Below.refl _ _) _) hb
  replace B : Hid (Below w.heap.size w w4) := bel_trans B.out hs
  replace X : Hid (Box w4 w.heap.size x) := X.out.below hs
  clear xl x0 x1 x2 x3
  obtain ⟨xl, x0, x1, x2, x3, -, -, -, -⟩ := X.out
  replace o0 := (hs.cell (p := ⟨w.heap.size + 1, 0, none⟩) ol).trans o0
  replace o1 := (hs.cell (p := ⟨w.heap.size + 1, 1, none⟩) ol).trans o1
  replace ol : w.heap.size + 1 < w4.heap.size := Nat.lt_of_lt_of_le ol hs.size
  have Z3 : Hid (Box w4 w3.heap.size z3) := (Box.new w3 z3).below hb
  replace Z1 : Hid (Box w4 w1.heap.size z1) := Z1.out.below hs
  replace Z2 : Hid (Box w4 w2.heap.size z2) := Z2.out.below hs
  clear hb hs K4
  go_wp2_with fail
  refine (K5 _ (bel_alloc B.out _)).mono ?_
  rintro e5 w5 ⟨rfl, hb⟩
  have hs : Below w4.heap.size w4 w5 := bel_trans (bel_alloc (Below.refl _ _) _) hb
  replace B : Hid (Below w.heap.size w w5) := bel_trans B.out hs
  replace X : Hid (Box w5 w.heap.size x) := X.out.below hs
  clear xl x0 x1 x2 x3
  obtain ⟨xl, x0, x1, x2, x3, -, -, -, -⟩ := X.out
  replace o0 := (hs.cell (p := ⟨w.heap.size + 1, 0, none⟩) ol).trans o0
  replace o1 := (hs.cell (p := ⟨w.heap.size + 1, 1, none⟩) ol).trans o1
  replace ol : w.heap.size + 1 < w5.heap.size := Nat.lt_of_lt_of_le ol hs.size
  have Z4 : Hid (Box w5 w4.heap.size z1) := (Box.new w4 z1).below hb
  replace Z1 : Hid (Box w5 w1.heap.size z1) := Z1.out.below hs
  replace Z2 : Hid (Box w5 w2.heap.size z2) := Z2.out.below hs
  replace Z3 : Hid (Box w5 w3.heap.size z3) := Z3.out.below hs
  clear hb hs K5
  go_wp2_with fail
  refine (K6 _ (bel_alloc B.out _)).mono ?_
  rintro e6 w6 ⟨rfl, hb⟩
  have hs : Below w5.heap.size w5 w6 := bel_trans (bel_alloc (Below.refl _ _) _) hb
  replace B : Hid (Below w.heap.size w w6) := bel_trans B.out hs
  replace X : Hid (Box w6 w.heap.size x) := X.out.below hs
  clear xl x0 x1 x2 x3
  obtain ⟨xl, x0, x1, x2, x3, -, -, -, -⟩ := X.out
  replace o0 := (hs.cell (p := ⟨w.heap.size + 1, 0, none⟩) ol).trans o0
  replace o1 := (hs.cell (p := ⟨w.heap.size + 1, 1, none⟩) ol).trans o1
  replace ol : w.heap.size + 1 < w6.heap.size := Nat.lt_of_lt_of_le ol hs.size
  have Z5 : Hid (Box w6 w5.heap.size z2) := (Box.new w5 z2).below hb
  replace Z1 : Hid (Box w6 w1.heap.size z1) := Z1.out.below hs
  replace Z2 : Hid (Box w6 w2.heap.size z2) := Z2.out.below hs
  replace Z3 : Hid (Box w6 w3.heap.size z3) := Z3.out.below hs
  replace Z4 : Hid (Box w6 w4.heap.size z1) := Z4.out.below hs
  clear xl x0 x1 x2 x3 o0 o1 ol
  obtain ⟨l4, p0, p1, p2, p3, -, -, -, -⟩ := Z4.out
  obtain ⟨l1, q0, q1, q2, q3, -, -, -, -⟩ := Z1.out
  clear hb hs K6
  go_wp2_with fail
  refine (S1 _).mono ?_
  rintro e7 w7 ⟨rfl, hb⟩
  have hs : Below w6.heap.size w6 w7 := bel_trans (bel_alloc (Below.refl _ _) _) hb
  replace B : Hid (Below w.heap.size w w7) := bel_trans B.out hs
  have Z6 : Hid (Box w7 w6.heap.size z3) := (Box.new w6 z3).below hb
  replace Z3 : Hid (Box w7 w3.heap.size z3) := Z3.out.below hs
  clear l4 p0 p1 p2 p3 l1 q0 q1 q2 q3
  obtain ⟨l5, p0, p1, p2, p3, -, -, -, -⟩ := Z5.out.below hs
  obtain ⟨l2, q0, q1, q2, q3, -, -, -, -⟩ := Z2.out.below hs
  clear hb hs
  go_wp2_with fail
  refine (S2 _).mono ?_
  rintro e8 w8 ⟨rfl, hb⟩
  replace B : Hid (Below w.heap.size w w8) := bel_trans B.out hb
  clear l5 p0 p1 p2 p3 l2 q0 q1 q2 q3
  obtain ⟨l6, p0, p1, p2, p3, -, -, -, -⟩ := Z6.out.below hb
  obtain ⟨l3, q0, q1, q2, q3, -, -, -, -⟩ := Z3.out.below hb
  clear hb
  go_wp2_with fail
  refine (S3 _).mono ?_
  rintro e9 w9 ⟨rfl, hb⟩
  replace B : Hid (Below w.heap.size w w9) := bel_trans B.out hb
  clear l6 p0 p1 p2 p3 l3 q0 q1 q2 q3 hb
  go_wp2_with fail
  refine (awake _).mono ?_
  rintro e10 w10 ⟨rfl, hb⟩
  go_wp2
  first | exact bodyPost_ret (v := .bool true) (by simp [results, Tryz.results5, go_sem, *]) rfl ⟨rfl, bel_trans B.out hb⟩ | (go_ret; exact ⟨rfl, bel_trans B.out hb⟩)
end Go.Proofs.YtefelelhgepkeaaGreatDoor.S
