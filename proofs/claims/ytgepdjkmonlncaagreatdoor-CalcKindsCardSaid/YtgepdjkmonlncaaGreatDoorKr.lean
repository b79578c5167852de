/- The reference's Kind, whole. -/
import Derived.Test.YtgepdjkmonlncaaGreatDoorKq
namespace Go.Proofs.YtgepdjkmonlncaaGreatDoor.K
open Go.ChangeShapes Go.WideShapes Go.ChangeAt Go.RowKit Go.Proofs.YtgepdjkmonlncaaGreatDoor.V
/-- Whether the number of kids is right, by the sort. -/
def numOk (s m : Int) (n : Nat) : Bool := !(s == 0 || (decide (0 ≤ m) && (n : Int) != m) || (s == 9 && decide (n < 2)) || (s == 10 && decide (n < 1)))
theorem kind_a {op : Int} {l : List Int} {n : Nat} (hn : n = l.length) (h : numOk (sortOf op).1 (sortOf op).2 n = false) : kind op l = (0, 1) := by
  unfold kind takes
  subst hn
  unfold numOk at h
  rw [h]; rfl
theorem kind_b {op : Int} {l : List Int} (h : l.all (fun k => decide (k ≤ 3)) = false) : kind op l = (0, 1) := by
  unfold kind takes
  rw [h, Bool.and_false]; rfl
theorem kind_c {op : Int} {l : List Int} {n : Nat} (hn : n = l.length) (h : numOk (sortOf op).1 (sortOf op).2 n = true) (h2 : l.all (fun k => decide (k ≤ 3)) = true) : kind op l = match kindOf (sortOf op).1 l with | some k => (k, 0) | none => (0, 50) := by
  unfold kind takes
  subst hn
  unfold numOk at h
  rw [h, h2]; rfl
theorem so_bounds (op : Int) : 0 ≤ (sortOf op).1 ∧ (sortOf op).1 ≤ 10 ∧ ((sortOf op).1 = 4 → (sortOf op).2 = 2) := by
  unfold sortOf
  repeat' split
  all_goals simp
theorem le_drop {l : List Int} {k : Nat} {x : Int} (h : l[k]? = some x) : (l.drop k).all (fun k => decide (k ≤ 3)) = (decide (x ≤ 3) && (l.drop (k + 1)).all (fun k => decide (k ≤ 3))) := by
  rw [List.drop_eq_getElem_cons (List.getElem?_eq_some_iff.1 h).1, List.all_cons, (List.getElem?_eq_some_iff.1 h).2]
set_option maxRecDepth 100000 in
set_option maxHeartbeats 4000000 in
theorem r_Kind (op : Int) (a : Option Addr) (n c : Nat) (l : List Int) (hsz : n ≤ 140737488351232) (w : World) (h : One kI w a n l) : Ret 11 #[.int .u8 op, .slice a n c] w (kV (kind op l)) := by
  have HL := Lib.hid h
  have hnl := Lib.hid h.len
  have HA := Lib.hid (kind_a (op := op) h.len)
  have HB := Lib.hid (kind_b (op := op) (l := l))
  have HC := Lib.hid (kind_c (op := op) h.len)
  have hso : Hid (∀ w, Ret 32 #[.int .u8 op] w (.tuple #[.int .i64 (sortOf op).1, .int .i64 (sortOf op).2])) := fun w => r_sortOf op w
  obtain ⟨hs0, hs10, hs4⟩ := so_bounds op
  have hs4 := Lib.hid hs4
  clear h
  generalize (sortOf op).1 = s at *
  generalize (sortOf op).2 = m at *
  generalize kind op l = R at *
  cases hno : numOk s m n with
  | false =>
    have HR : Hid (R = (0, 1)) := HA.out hno
    clear HA HB HC
    unfold numOk at hno
    have h0 : (s == 0 || (decide (0 ≤ m) && (n : Int) != m) || (s == 9 && decide (n < 2)) || (s == 10 && decide (n < 1))) = true := by rw [Bool.not_eq_false'] at hno; exact hno
    clear hno
    go_enter Tryz.func11, Tryz.ntmps11
    go_wp2_with fail
    refine (hso.out _).mono ?_
    rintro e w1 ⟨rfl, hb1⟩
    have HB1 := Lib.hid hb1
    clear hb1
    by_cases g1 : s = 0
    · subst g1
      go_wp2
      go_ret2
      exact ⟨ret_k HR.out.symm, HB1.out⟩
    · have g1' : (s == 0) = false := by simpa using g1
      by_cases g2 : 0 ≤ m ∧ (n : Int) ≠ m
      · have g3 : ((n : Int) != m) = true := by simpa using g2.2
        have g4 := g2.1
        have g5 : m ≥ 0 := g2.1
        clear h0
        go_wp2
        go_ret2
        exact ⟨ret_k HR.out.symm, HB1.out⟩
      · by_cases g6 : s = 9
        · subst g6
          have g7 : n < 2 := by
            have e : (decide (0 ≤ m) && (n : Int) != m) = false := by simp; omega
            rw [e] at h0; simpa using h0
          have g8 : (n : Int) < 2 := by omega
          clear h0
          by_cases g9 : m ≥ 0
          · have g10 : ((n : Int) != m) = false := by simp; omega
            go_wp2
            go_ret2
            exact ⟨ret_k HR.out.symm, HB1.out⟩
          · go_wp2
            go_ret2
            exact ⟨ret_k HR.out.symm, HB1.out⟩
        · have g7 : s = 10 := by
            have e : (decide (0 ≤ m) && (n : Int) != m) = false := by simp; omega
            have e2 : (s == 9) = false := by simpa using g6
            rw [e, g1', e2] at h0
            simp at h0; exact h0.1
          subst g7
          have g7 : n < 1 := by
            have e : (decide (0 ≤ m) && (n : Int) != m) = false := by simp; omega
            rw [e] at h0; simpa using h0
          have g8 : (n : Int) < 1 := by omega
          clear h0
          by_cases g9 : m ≥ 0
          · have g10 : ((n : Int) != m) = false := by simp; omega
            go_wp2
            go_ret2
            exact ⟨ret_k HR.out.symm, HB1.out⟩
          · go_wp2
            go_ret2
            exact ⟨ret_k HR.out.symm, HB1.out⟩
  | true =>
    have HC2 := Lib.hid (HC.out hno)
    have h0 : s ≠ 0 ∧ ¬ (0 ≤ m ∧ (n : Int) ≠ m) ∧ ¬ (s = 9 ∧ n < 2) ∧ ¬ (s = 10 ∧ n < 1) := by
      unfold numOk at hno
      simp at hno
      omega
    clear hno HA HC
    have hs2 : s = 4 → n = 2 := fun e => by have := hs4.out e; omega
    have hs2 := Lib.hid hs2
    go_enter Tryz.func11, Tryz.ntmps11
    go_wp2_with fail
    refine (hso.out _).mono ?_
    rintro e w1 ⟨rfl, hb1⟩
    have HB1 := Lib.hid hb1
    clear hb1
    have g1 : (s == 0) = false := by simpa using h0.1
    have hm : (m ≥ 0 ∧ ((n : Int) != m) = false) ∨ ¬ m ≥ 0 := by
      by_cases g : m ≥ 0
      · exact .inl ⟨g, by simp; omega⟩
      · exact .inr g
    have hs9 : ((s == 9) = true ∧ ¬ (n : Int) < 2) ∨ (s == 9) = false := by
      by_cases g : s = 9
      · exact .inl ⟨by simpa using g, by omega⟩
      · exact .inr (by simpa using g)
    have hs10' : ((s == 10) = true ∧ ¬ (n : Int) < 1) ∨ (s == 10) = false := by
      by_cases g : s = 10
      · exact .inl ⟨by simpa using g, by omega⟩
      · exact .inr (by simpa using g)
    have hsr : Hid (1 ≤ s ∧ s ≤ 10) := by have := h0.1; exact ⟨by omega, hs10⟩
    clear h0 hs4 hs0 hs10
    rcases hm with ⟨m1, m2⟩ | m1 <;> rcases hs9 with ⟨n1, n2⟩ | n1 <;> rcases hs10' with ⟨k1, k2⟩ | k1
    all_goals
      go_wp2
      go_loopw [8] (fun s8 wr => ∃ (k : Nat), k ≤ n ∧ s8 = .int .i64 k ∧ Hid ((l.drop k).all (fun k => decide (k ≤ 3)) = l.all (fun k => decide (k ≤ 3))) ∧ Hid (Below w.heap.size w wr)) (fun s8 _ => n - (intOf s8).toNat)
      case atStart => exact ⟨0, by omega, rfl, rfl, HB1.out⟩
      case round =>
        obtain ⟨k, hk, rfl, HI, HBr⟩ := hrel
        by_cases hlt : k < n
        · obtain ⟨g, p, x, rfl, hlk, hg, c0⟩ := (HL.out.below HBr.out).at_ k hlt
          have HI2 := Lib.hid ((le_drop hlk).symm.trans HI.out)
          clear HI hlk
          by_cases hx : x > 3
          · have hx' : 3 < x := hx
            have HR : Hid (R = (0, 1)) := HB.out (by rw [← HI2.out]; have : decide (x ≤ 3) = false := (by simp; omega); rw [this]; rfl)
            clear HI2 HC2 HB
            go_wp2
            go_ret2
            exact ⟨ret_k HR.out.symm, HBr.out⟩
          · have hx' : ¬ 3 < x := hx
            have HI3 : Hid ((l.drop (k + 1)).all (fun k => decide (k ≤ 3)) = l.all (fun k => decide (k ≤ 3))) := by
              have e := HI2.out
              have : decide (x ≤ 3) = true := by simp; omega
              rw [this, Bool.true_and] at e; exact e
            clear HI2
            go_wp2
            exact ⟨⟨k + 1, by omega, by go_num, HI3.out, HBr.out⟩, by simp [intOf]; omega⟩
        · have hall : l.all (fun k => decide (k ≤ 3)) = true := by
            rw [← HI.out, List.drop_eq_nil_of_le (by have := hnl.out; omega)]; rfl
          have HR : Hid (R = match kindOf s l with | some k => (k, 0) | none => (0, 50)) := HC2.out hall
          clear HI HC2 HB hall
          go_wp2_with fail
          refine (r_kindOf s hsr.out a n c l hs2.out hsz _ (HL.out.below HBr.out)).mono ?_
          rintro e w2 ⟨⟨v, rfl, z, rfl, hz⟩, hb2⟩
          have HB2 : Hid (Below w.heap.size w w2) := bel_trans HBr.out hb2
          clear hb2
          cases hq : kindOf s l with
          | none =>
            simp only [hq, Option.isSome_none] at HR ⊢
            go_wp2
            go_ret2
            exact ⟨ret_k HR.out.symm, HB2.out⟩
          | some y =>
            have hzy := hz y hq
            subst hzy
            simp only [hq, Option.isSome_some] at HR ⊢
            clear hz
            go_wp2
            go_ret2
            exact ⟨ret_k HR.out.symm, HB2.out⟩
end Go.Proofs.YtgepdjkmonlncaaGreatDoor.K
