/- The list turned around. -/
import Derived.Test.YtefelelhgepkeaaGreatDoorDc
namespace Go.Proofs.YtefelelhgepkeaaGreatDoor.T
open Go.ChangeShapes Go.WideShapes Go.ChangeAt Go.RowKit Go.Proofs.YtefelelhgepkeaaGreatDoor.V Go.Proofs.YtefelelhgepkeaaGreatDoor.K Go.Proofs.YtefelelhgepkeaaGreatDoor.KD
theorem out_one (W : World) (x : Ot) : Outs (W.alloc (.cells #[.int .u8 x.k, .int .i64 x.n, .string x.s, .int .i64 x.e] 34)) (some ⟨W.heap.size, 0, none⟩) 1 [x] :=
  ⟨rfl, fun k hk => by
    obtain rfl : k = 0 := by omega
    exact ⟨W.heap.size, 0, x, rfl, rfl, by simp, by simp [go_sem], by simp [go_sem], by simp [go_sem], by simp [go_sem]⟩⟩
set_option maxRecDepth 100000 in
set_option maxHeartbeats 4000000 in
theorem l_turned (a : Option Addr) (n c : Nat) (l : List Ot) (hn : n ≤ 2097152) (w : World) (h : Outs w a n l) :
    Calls Tryz.prog 27 #[.slice a n c] w fun e w' => (∃ a2 c2, e = .returned (.slice a2 n c2) ∧ Outs w' a2 n l.reverse) ∧ Below w.heap.size w w' := by
  have HL := Lib.hid h
  have hlen := Lib.hid h.len
  clear h
  go_enter Tryz.func27, Tryz.ntmps27
  go_wp2
  go_loopw [3, 4] (fun s3 s4 wr => ∃ (j c3 : Nat) (a3 : Option Addr) (xs : List Ot), j ≤ n ∧ s3 = .slice a3 xs.length c3 ∧ s4 = .int .i64 ((j : Int) - 1) ∧ Hid (xs ++ (l.take j).reverse = l.reverse) ∧
      Hid (wr.ownsRow w.heap.size 34 4 (.slice a3 xs.length c3) xs.length (flat xs)) ∧ Hid (Below w.heap.size w wr)) (fun _ s4 _ => (intOf s4 + 1).toNat)
  case atStart => exact ⟨n, 0, none, [], Nat.le_refl _, rfl, rfl, (show _ = _ by rw [List.nil_append, List.take_of_length_le (by rw [hlen.out]; exact Nat.le_refl _)]), World.ownsRow_nil _ _ _ _, Below.refl _ _⟩
  case round =>
    obtain ⟨j, c3, a3, xs, hj, rfl, rfl, HI, HO, HB⟩ := hrel
    cases j with
    | zero =>
      have hx : xs = l.reverse := by have := HI.out; simpa using this
      subst hx
      have hl : l.reverse.length = n := by rw [List.length_reverse]; exact hlen.out.symm
      have HR := Lib.hid (own_outs HO.out rfl)
      rw [hl] at HR
      have hl' := Lib.hid hl
      clear HI HO hl
      have e0 : (((0 : Nat) : Int) - 1) = -1 := by omega
      rw [e0]
      clear e0
      go_wp2
      go_ret
      exact ⟨⟨a3, c3, by first | rfl | (rw [hl'.out]; rfl), HR.out⟩, HB.out⟩
    | succ i =>
      obtain ⟨g, p, x, rfl, hx, hg, c0, c1, c2, c3'⟩ := (HL.out.below HB.out).at_ i (by omega)
      have ei : (((i + 1 : Nat) : Int) - 1) = (i : Int) := by omega
      have hxl : xs.length ≤ 2097152 := by
        have := congrArg List.length HI.out
        simp only [List.length_append, List.length_reverse] at this
        have := hlen.out
        omega
      obtain ⟨aN, mN, cN, w2, hr, hm, ON, BN⟩ := app_outs (v := .slice a3 xs.length c3) (xs := xs) (ys := [x]) (c := 1) (World.ownsRow.alloc HO.out (.cells #[.int .u8 x.k, .int .i64 x.n, .string x.s, .int .i64 x.e] 34)) (bel_alloc HB.out _) (out_one wr x) (fun h => by cases h) (by omega)
      have HI2 : Hid ((xs ++ [x]) ++ (l.take i).reverse = l.reverse) := by
        have h := HI.out
        show _ = _
        rw [← h, List.append_assoc]
        congr 1
        have hil : i < l.length := (List.getElem?_eq_some_iff.1 hx).1
        rw [List.take_add_one, hx, List.reverse_append]; rfl
      have hm2 : mN = (xs ++ [x]).length := hm.out
      subst hm2
      have HR := Lib.hid hr
      clear HI HO hr hm hx hxl
      rw [ei]
      go_wp2_with (at_builtin; refine app_list rfl rfl rfl rfl HR.out ?_)
      refine ⟨⟨i, cN, aN, xs ++ [x], by omega, by first | rfl | simp, by first | rfl | simp, HI2.out, ON.out, BN.out⟩, by simp [intOf]⟩
end Go.Proofs.YtefelelhgepkeaaGreatDoor.T
