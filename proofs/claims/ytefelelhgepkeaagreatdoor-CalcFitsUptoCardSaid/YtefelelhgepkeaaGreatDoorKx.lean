/- Whether all outs are valid, and nodes of AND and OR over conditions. -/
import Derived.Test.YtefelelhgepkeaaGreatDoorKo
import Derived.Test.YtefelelhgepkeaaGreatDoorKs
import Derived.Test.YtefelelhgepkeaaGreatDoorKf
namespace Go.Proofs.YtefelelhgepkeaaGreatDoor.K
open Go.ChangeShapes Go.WideShapes Go.ChangeAt Go.RowKit Go.Proofs.YtefelelhgepkeaaGreatDoor.V
theorem c_areValid1 (o : Ot) (w : World) : Ret 80 #[enc o] w (.bool (!o.ok)) := by
  go_enter Tryz.func80, Tryz.ntmps80
  go_wp2_with fail
  refine (c_isValid o _).mono ?_; rintro e w1 ⟨rfl, hbw1⟩; obtain ⟨hcw1, hfw1⟩ := bcell hbw1; have hzw1 := hbw1.size; (try simp at hzw1); have hk0w1 : w.heap.size < w1.heap.size := (by omega)
  go_wp2
  go_ret
  exact ⟨rfl, by repeat (first | exact Below.refl _ _ | assumption | exact Go.Proofs.YtefelelhgepkeaaGreatDoor.V.below_drewN _ _ | (refine bel_trans ?_ (Go.Proofs.YtefelelhgepkeaaGreatDoor.V.below_drewN _ _)) | (refine bel_trans ?_ (by assumption)) | (with_reducible apply bel_alloc) | (with_reducible apply Below.drew) | apply bel_alloc | apply Below.drew | refine bel_set ?_ (by simp; try omega) _)⟩
theorem l_ContainsOut (F : Nat) (ca : Array Value) (HE : EntersF F) (p : Ot → Bool) (a : Option Addr) (n c : Nat) (l : List Ot) (hn : n ≤ 9223372036854775807) (w : World) (h : Outs w a n l)
    (hF : ∀ o ∈ l, ∀ w', Below w.heap.size w w' → Ret F (#[enc o] ++ ca) w' (.bool (p o))) : Ret 79 #[.slice a n c, .func (.func F) #[] ca] w (.bool (l.any p)) := by
  have HI := Lib.hid (idx_any (p := p) l 0)
  go_enter Tryz.func79, Tryz.ntmps79
  go_wp2_with fail
  refine (l_IndexOut F ca HE p a n c l hn _ h hF).mono ?_; rintro e w1 ⟨rfl, hbw1⟩; obtain ⟨hcw1, hfw1⟩ := bcell hbw1; have hzw1 := hbw1.size; (try simp at hzw1)
  go_wp2
  go_ret
  exact ⟨ret_bool HI.out, by repeat (first | exact Below.refl _ _ | assumption | exact Go.Proofs.YtefelelhgepkeaaGreatDoor.V.below_drewN _ _ | (refine bel_trans ?_ (Go.Proofs.YtefelelhgepkeaaGreatDoor.V.below_drewN _ _)) | (refine bel_trans ?_ (by assumption)) | (with_reducible apply bel_alloc) | (with_reducible apply Below.drew) | apply bel_alloc | apply Below.drew | refine bel_set ?_ (by simp; try omega) _)⟩
theorem c_areValid (a : Option Addr) (n c : Nat) (l : List Ot) (hn : n ≤ 9223372036854775807) (w : World) (h : Outs w a n l) : Ret 49 #[.slice a n c] w (.bool (l.all Ot.ok)) := by
  have e : Hid ((!(l.any fun o => !o.ok)) = l.all Ot.ok) := by
    show _ = _
    rw [Bool.eq_iff_iff]; simp
  go_enter Tryz.func49, Tryz.ntmps49
  go_wp2_with fail
  refine (l_ContainsOut 80 #[] (fun _ _ => by kernel_rfl) (fun o => !o.ok) a n c l hn _ h (fun o _ w' _ => c_areValid1 o w')).mono ?_; rintro e w1 ⟨rfl, hbw1⟩; obtain ⟨hcw1, hfw1⟩ := bcell hbw1; have hzw1 := hbw1.size; (try simp at hzw1)
  go_wp2
  go_ret
  exact ⟨ret_bool e.out, by repeat (first | exact Below.refl _ _ | assumption | exact Go.Proofs.YtefelelhgepkeaaGreatDoor.V.below_drewN _ _ | (refine bel_trans ?_ (Go.Proofs.YtefelelhgepkeaaGreatDoor.V.below_drewN _ _)) | (refine bel_trans ?_ (by assumption)) | (with_reducible apply bel_alloc) | (with_reducible apply Below.drew) | apply bel_alloc | apply Below.drew | refine bel_set ?_ (by simp; try omega) _)⟩
theorem kind_chain {op : Int} (ho : op = 23 ∨ op = 24) {l : List Ot} (h : l.all tr = true) : kind op (l.map (·.k)) = (3, 0) := by
  obtain ⟨h1, h2⟩ := kinds_tr h
  have hs : sortOf op = (8, -1) := by rcases ho with rfl | rfl <;> rfl
  unfold kind takes
  rw [hs]
  simp only [h2, kindOf, h1]
  rfl
set_option maxRecDepth 100000 in
set_option maxHeartbeats 4000000 in
theorem c_Node_and (a : Option Addr) (n c : Nat) (l : List Ot) (hsz : 40 * n ≤ 140737488351232) (ht : l.all tr = true) (w : World) (h : Outs w a n l) : Ret 16 #[.int .u8 23, .slice a n c] w (enc (node 23 l)) := by
  have HL := Lib.hid h
  have hK := Lib.hid (kind_chain (op := 23) (.inl rfl) ht)
  have hV := Lib.hid (all_ok_of_tr ht)
  have hN : Hid (andP (bo true) l = node 23 l) := by show _ = _; rw [and_is ht, chain_is false ht, node_and ht]
  have HT := Lib.hid ht
  clear h ht
  go_enter Tryz.func16, Tryz.ntmps16
  go_wp2_with fail
  have HL0 := Lib.hid (HL.out.below (bel_alloc (Below.refl _ w) (.cells #[.int .u8 0, .int .i64 0, .string ⟨#[]⟩, .int .i64 0] 34)))
  refine (c_kindsOf a n c l (by omega) _ HL0.out).mono ?_
  rintro e w1 ⟨⟨a2, rfl, hone⟩, hb1⟩
  have HX1 : Hid (Box w1 w.heap.size nul) := (Box.new w nul).below hb1
  have B1 : Hid (Below w.heap.size w w1) := bel_trans (bel_alloc (Below.refl _ _) _) hb1
  have HO := Lib.hid hone
  clear hb1 hone HL0
  go_wp2_with fail
  refine (c_Kind 23 a2 n n (l.map (·.k)) (Nat.le_refl _) (by omega) (by omega) _ HO.out).mono ?_
  rw [hK.out]
  rintro e w2 ⟨rfl, hb2⟩
  have HX2 := Lib.hid (HX1.out.below hb2)
  have B2 : Hid (Below w.heap.size w w2) := bel_trans B1.out hb2
  clear hb2 HX1 B1 HO
  simp only [kV]
  go_wp2_with fail
  refine (c_areValid a n c l (by omega) _ (HL.out.below B2.out)).mono ?_
  rw [hV.out]
  rintro e w3 ⟨rfl, hb3⟩
  have HX3 := Lib.hid (HX2.out.below hb3)
  have B3 : Hid (Below w.heap.size w w3) := bel_trans B2.out hb3
  clear hb3 HX2 B2
  go_wp2_with fail
  refine (c_and a n c l (by omega) HT.out _ (HL.out.below B3.out)).mono ?_
  rw [hN.out]
  rintro e w4 ⟨rfl, hb4⟩
  obtain ⟨hx, d0, d1, d2, d3, e0, e1, e2, e3⟩ := HX3.out.below hb4
  have B4 : Hid (Below w.heap.size w w4) := bel_trans B3.out hb4
  clear hb4
  generalize hz : node 23 l = z
  have hz := Lib.hid hz
  go_wp2
  exact bodyPost_ret (v := ov z.k z.n z.s z.e) (by simp [results, Tryz.results16, go_sem, *]) rfl ⟨ret_v (by rw [hz.out]), put4_below B4.out (Nat.le_refl _) _⟩
set_option maxRecDepth 100000 in
set_option maxHeartbeats 4000000 in
theorem c_Node_or (a : Option Addr) (n c : Nat) (l : List Ot) (hsz : 40 * n ≤ 140737488351232) (ht : l.all tr = true) (w : World) (h : Outs w a n l) : Ret 16 #[.int .u8 24, .slice a n c] w (enc (node 24 l)) := by
  have HL := Lib.hid h
  have hK := Lib.hid (kind_chain (op := 24) (.inr rfl) ht)
  have hV := Lib.hid (all_ok_of_tr ht)
  have hN : Hid (neg (andP (bo true) (l.map neg)) = node 24 l) := by show _ = _; rw [or_is ht, chain_is true ht, node_or ht]
  have HT := Lib.hid ht
  clear h ht
  go_enter Tryz.func16, Tryz.ntmps16
  go_wp2_with fail
  have HL0 := Lib.hid (HL.out.below (bel_alloc (Below.refl _ w) (.cells #[.int .u8 0, .int .i64 0, .string ⟨#[]⟩, .int .i64 0] 34)))
  refine (c_kindsOf a n c l (by omega) _ HL0.out).mono ?_
  rintro e w1 ⟨⟨a2, rfl, hone⟩, hb1⟩
  have HX1 : Hid (Box w1 w.heap.size nul) := (Box.new w nul).below hb1
  have B1 : Hid (Below w.heap.size w w1) := bel_trans (bel_alloc (Below.refl _ _) _) hb1
  have HO := Lib.hid hone
  clear hb1 hone HL0
  go_wp2_with fail
  refine (c_Kind 24 a2 n n (l.map (·.k)) (Nat.le_refl _) (by omega) (by omega) _ HO.out).mono ?_
  rw [hK.out]
  rintro e w2 ⟨rfl, hb2⟩
  have HX2 := Lib.hid (HX1.out.below hb2)
  have B2 : Hid (Below w.heap.size w w2) := bel_trans B1.out hb2
  clear hb2 HX1 B1 HO
  simp only [kV]
  go_wp2_with fail
  refine (c_areValid a n c l (by omega) _ (HL.out.below B2.out)).mono ?_
  rw [hV.out]
  rintro e w3 ⟨rfl, hb3⟩
  have HX3 := Lib.hid (HX2.out.below hb3)
  have B3 : Hid (Below w.heap.size w w3) := bel_trans B2.out hb3
  clear hb3 HX2 B2
  go_wp2_with fail
  refine (c_or a n c l (by omega) HT.out _ (HL.out.below B3.out)).mono ?_
  rw [hN.out]
  rintro e w4 ⟨rfl, hb4⟩
  obtain ⟨hx, d0, d1, d2, d3, e0, e1, e2, e3⟩ := HX3.out.below hb4
  have B4 : Hid (Below w.heap.size w w4) := bel_trans B3.out hb4
  clear hb4
  generalize hz : node 24 l = z
  have hz := Lib.hid hz
  go_wp2
  exact bodyPost_ret (v := ov z.k z.n z.s z.e) (by simp [results, Tryz.results16, go_sem, *]) rfl ⟨ret_v (by rw [hz.out]), put4_below B4.out (Nat.le_refl _) _⟩
theorem c_Conds (a : Option Addr) (n c : Nat) (l : List Ot) (hsz : 40 * n ≤ 140737488351232) (ht : l.all tr = true) (w : World) (h : Outs w a n l) : Ret 17 #[.slice a n c] w (enc (node 23 l)) := by
  go_enter Tryz.func17, Tryz.ntmps17
  go_wp2_with fail
  refine (c_Node_and a n c l hsz ht _ (h.below (bel_alloc (Below.refl _ _) _))).mono ?_
  rintro e w4 ⟨rfl, hb4⟩
  obtain ⟨hx, d0, d1, d2, d3, e0, e1, e2, e3⟩ := (Box.new w nul).below hb4
  have B4 : Hid (Below w.heap.size w w4) := bel_trans (bel_alloc (Below.refl _ _) _) hb4
  clear hb4
  generalize hz : node 23 l = z
  have hz := Lib.hid hz
  go_wp2
  exact bodyPost_ret (v := ov z.k z.n z.s z.e) (by simp [results, Tryz.results17, go_sem, *]) rfl ⟨ret_v (by rw [hz.out]), put4_below B4.out (Nat.le_refl _) _⟩
end Go.Proofs.YtefelelhgepkeaaGreatDoor.K
