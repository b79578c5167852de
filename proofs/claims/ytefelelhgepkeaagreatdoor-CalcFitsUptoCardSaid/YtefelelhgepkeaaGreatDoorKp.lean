/- The reference's Kind: the kids of a CASE parted one by one. -/
import Derived.Test.YtefelelhgepkeaaGreatDoorKo
namespace Go.Proofs.YtefelelhgepkeaaGreatDoor.K
open Go.ChangeShapes Go.WideShapes Go.ChangeAt Go.RowKit Go.Proofs.YtefelelhgepkeaaGreatDoor.V
theorem app_list {P : Program} {ops : Array Oper} {rest : List Oper} {o : Oper} {a : Act} {w w' : World} {Q : Exit → Act → World → Prop} {s x : Operand} {t : TypeId} {v vx v' : Value} (hgd : o.guard = none)
    (ho : o.op = .call { callee := .builtin .append, args := #[s, x], argTypes := #[t, t] }) (hs : a.eval s = v) (hx : a.eval x = vx) (hr : (Builtin.append_ #[t, t] o.type #[v, vx]).run P w = .ok v' w')
    (h : wpList P ops Q rest (a.put o.dst v') w') : wpList P ops Q (o :: rest) a w := by
  refine wpList_plain hgd fun K hK => ?_
  unfold Oper.wp execOp
  simp only [ho, resolve, invoke, builtin, Sem.run_bind, Sem.run_pure, Result.andThen_ok, List.map_toArray, List.map_cons, List.map_nil, hs, hx, hr]
  exact hK _ _ h
/-- What an append of one kind to a row leaves. -/
theorem app_row {w W : World} {v : Value} {xs : List Int} {x : Int} (O : W.ownsRow w.heap.size 24 1 v xs.length (xs.map kI)) (hB : Below w.heap.size w W) (hlen : xs.length + 1 ≤ 140737488351232) :
    ∃ a2 m cp w2, (Builtin.append_ #[23, 23] 23 #[v, .slice (some ⟨W.heap.size, 0, none⟩) 1 1]).run Tryz.prog (W.alloc (.cells #[kI x] 24)) = .ok (.slice a2 m cp) w2 ∧ Hid (m = (xs ++ [x]).length) ∧
      Hid (w2.ownsRow w.heap.size 24 1 (.slice a2 m cp) m ((xs ++ [x]).map kI)) ∧ Hid (Below w.heap.size w w2) ∧
      Hid (∀ v' (n : Nat) zs, ApartV v v' → W.ownsRow w.heap.size 24 1 v' n zs → w2.ownsRow w.heap.size 24 1 v' n zs ∧ ApartV (.slice a2 m cp) v') := by
  obtain ⟨i, hi, hz, hs, hby⟩ := info_parts infoKind
  obtain ⟨v2, w2, hr, O2, hg, -, hnb⟩ := run_append_own_at (P := Tryz.prog) (w := W.alloc (.cells #[kI x] 24)) w.heap.size 23 23 24 i _ 1 1 Tryz.underlying23 hi hz hs hby rfl (by omega) v _ _ (O.alloc _) ⟨W.heap.size, 0, none⟩ 1 1 [kI x] rfl (cell_one_new W (kI x) 24)
    (by intro u hu; rw [List.mem_singleton.1 hu]; rfl) (by unfold maxLen; omega) (by omega) (Nat.le_trans hB.size (by simp))
  have e : xs.map kI ++ [kI x] = (xs ++ [x]).map kI := by simp
  have e2 : xs.length + 1 = (xs ++ [x]).length := by simp
  rw [e, e2] at O2
  obtain ⟨a2, cp, rfl⟩ := own_slice O2
  have hrow : ∀ k, v.ownBlock = some k → w.heap.size ≤ k := fun k hk => (O.lt k hk).1
  refine ⟨a2, _, cp, w2, hr, rfl, O2, ?_, fun v' n zs hA O' => ⟨(O'.alloc _).kept hg ?_, ?_⟩⟩
  · have hB1 := bel_alloc hB (.cells #[kI x] 24)
    exact ⟨hg.os.trans hB1.os, hg.tape.trans hB1.tape, hg.output.trans hB1.output, Nat.le_trans hB1.size hg.size, fun k hk => (hg.block k (Nat.lt_of_lt_of_le hk hB1.size) (fun e => by have := hrow k e.symm; omega)).trans (hB1.block k hk)⟩
  · cases hv : v'.ownBlock with
    | none => exact .inl rfl
    | some k => exact .inr fun e => hA k e.symm hv
  · intro k hk e
    rcases hnb with h | h
    · exact hA k (h ▸ hk) e
    · rw [h] at hk
      have h1 := (O'.lt k e).2
      have h2 : (W.alloc (.cells #[kI x] 24)).heap.size = k := Option.some.inj hk
      simp at h2
      omega
theorem cks_drop {l : List Int} {k : Nat} {x : Int} (h : l[k]? = some x) (c : Bool) :
    cks c (l.drop k) = if c && decide (k + 1 < l.length) then (x :: (cks (!c) (l.drop (k + 1))).1, (cks (!c) (l.drop (k + 1))).2) else ((cks (!c) (l.drop (k + 1))).1, x :: (cks (!c) (l.drop (k + 1))).2) := by
  have hk := (List.getElem?_eq_some_iff.1 h).1
  rw [List.drop_eq_getElem_cons hk, cks, (List.getElem?_eq_some_iff.1 h).2]
  have : (!(l.drop (k + 1)).isEmpty) = decide (k + 1 < l.length) := by
    rw [Bool.eq_iff_iff]
    simp [List.isEmpty_iff, List.drop_eq_nil_iff]
  rw [this]
theorem cks_end {l : List Int} {k : Nat} (h : l.length ≤ k) (c : Bool) : cks c (l.drop k) = ([], []) := by rw [List.drop_eq_nil_of_le h]; cases c <;> rfl
set_option maxRecDepth 100000 in
set_option maxHeartbeats 2000000 in
theorem r_caseKinds (a : Option Addr) (n c : Nat) (l : List Int) (hsz : n ≤ 140737488351232) (w : World) (h : One kI w a n l) :
    Calls Tryz.prog 70 #[.slice a n c] w fun e w' => (∃ v2 v3, e = .returned (.tuple #[v2, v3]) ∧ KindsV w' v2 (parts l).1 ∧ KindsV w' v3 (parts l).2) ∧ Below w.heap.size w w' := by
  have HL := Lib.hid h
  have hnl := Lib.hid h.len
  clear h
  go_enter Tryz.func70, Tryz.ntmps70
  go_wp2
  go_loopw [4, 5, 6] (fun s4 s5 s6 wr => ∃ (k m4 c4 m5 c5 : Nat) (a4 a5 : Option Addr) (cs vs : List Int), k ≤ n ∧ s6 = .int .i64 k ∧ s4 = .slice a4 m4 c4 ∧ s5 = .slice a5 m5 c5 ∧ Hid (m4 = cs.length ∧ m5 = vs.length) ∧
      Hid (wr.ownsRow w.heap.size 24 1 (.slice a4 m4 c4) cs.length (cs.map kI)) ∧ Hid (wr.ownsRow w.heap.size 24 1 (.slice a5 m5 c5) vs.length (vs.map kI)) ∧ Hid (ApartV (.slice a4 m4 c4) (.slice a5 m5 c5)) ∧
      Hid (cs ++ (cks (k % 2 == 0) (l.drop k)).1 = (parts l).1 ∧ vs ++ (cks (k % 2 == 0) (l.drop k)).2 = (parts l).2) ∧ Hid (cs.length + vs.length = k) ∧ Hid (Below w.heap.size w wr)) (fun _ _ s6 _ => n - (intOf s6).toNat)
  case atStart => exact ⟨0, 0, 0, 0, 0, none, none, [], [], by omega, rfl, rfl, rfl, ⟨rfl, rfl⟩, World.ownsRow_nil _ _ _ _, World.ownsRow_nil _ _ _ _, (fun k e => by cases e), (show _ ∧ _ by rw [← cks_parts]; exact ⟨rfl, rfl⟩), rfl, Below.refl _ _⟩
  case round =>
    obtain ⟨k, m4, c4, m5, c5, a4, a5, cs, vs, hk, rfl, rfl, rfl, hmm, O4, O5, HA, HI, HS, HB⟩ := hrel
    by_cases hlt : k < n
    · obtain ⟨g, p, x, rfl, hlk, hg, c0⟩ := (HL.out.below HB.out).at_ k hlt
      have HD := Lib.hid (cks_drop hlk (k % 2 == 0))
      have hpar : (!(k % 2 == 0)) = ((k + 1) % 2 == 0) := by
        rcases Nat.mod_two_eq_zero_or_one k with h | h
        · have h' : (k + 1) % 2 = 1 := by omega
          rw [h, h']; rfl
        · have h' : (k + 1) % 2 = 0 := by omega
          rw [h, h']; rfl
      have hx64 : k + 1 < 9223372036854775807 := by omega
      by_cases hcond : k % 2 = 0 ∧ k + 1 < n
      · have HI2 : Hid ((cs ++ [x]) ++ (cks ((k + 1) % 2 == 0) (l.drop (k + 1))).1 = (parts l).1 ∧ vs ++ (cks ((k + 1) % 2 == 0) (l.drop (k + 1))).2 = (parts l).2) := by
          have e := HI.out
          have hd : decide (k + 1 < l.length) = true := by have := hnl.out; simp; omega
          rw [HD.out, hd, if_pos (by rw [hcond.1]; rfl), hpar] at e
          rw [List.append_assoc]; exact e
        obtain ⟨aN, mN, cN, w2, hr, hmN, ON, HBN, hk2⟩ := app_row (x := x) O4.out HB.out (by have := HS.out; omega)
        have hr := Lib.hid hr
        obtain ⟨O5', hA'⟩ := hk2.out _ _ _ HA.out O5.out
        have O5' := Lib.hid O5'
        have hA' := Lib.hid hA'
        have ON' : Hid (w2.ownsRow w.heap.size 24 1 (.slice aN mN cN) (cs ++ [x]).length ((cs ++ [x]).map kI)) := by have := hmN.out; subst this; exact ON.out
        have e1 : (k : Int).tmod 2 = 0 := by rw [Int.tmod_eq_emod_of_nonneg (by omega)]; omega
        have e2 : ((k : Int) + 1 < (n : Int)) := by omega
        clear HD HI O4 O5 HA hk2 ON hpar
        go_wp2_with (at_builtin; refine app_list rfl rfl rfl rfl hr.out ?_)
        exact ⟨⟨k + 1, _, _, _, _, _, _, cs ++ [x], vs, by omega, by go_num, rfl, rfl, ⟨hmN.out, hmm.out.2⟩, ON'.out, O5'.out, hA'.out, HI2.out, (show (cs ++ [x]).length + vs.length = k + 1 by have := HS.out; simp only [List.length_append, List.length_cons, List.length_nil]; omega), HBN.out⟩, by simp [intOf]; omega⟩
      · have HI2 : Hid (cs ++ (cks ((k + 1) % 2 == 0) (l.drop (k + 1))).1 = (parts l).1 ∧ (vs ++ [x]) ++ (cks ((k + 1) % 2 == 0) (l.drop (k + 1))).2 = (parts l).2) := by
          have e := HI.out
          have hd : ((k % 2 == 0) && decide (k + 1 < l.length)) = false := by have := hnl.out; simp; omega
          rw [HD.out, if_neg (by rw [hd]; simp), hpar] at e
          refine ⟨e.1, ?_⟩
          rw [List.append_assoc]; exact e.2
        obtain ⟨aN, mN, cN, w2, hr, hmN, ON, HBN, hk2⟩ := app_row (x := x) O5.out HB.out (by have := HS.out; omega)
        have hr := Lib.hid hr
        obtain ⟨O4', hA'⟩ := hk2.out _ _ _ (fun k hk e => HA.out k e hk) O4.out
        have O4' := Lib.hid O4'
        have hA' : Hid (ApartV (.slice a4 m4 c4) (.slice aN mN cN)) := fun k hk e => hA' k e hk
        have ON' : Hid (w2.ownsRow w.heap.size 24 1 (.slice aN mN cN) (vs ++ [x]).length ((vs ++ [x]).map kI)) := by have := hmN.out; subst this; exact ON.out
        clear HD HI O4 O5 HA hk2 ON hpar
        by_cases hev : k % 2 = 0
        · have e1 : (k : Int).tmod 2 = 0 := by rw [Int.tmod_eq_emod_of_nonneg (by omega)]; omega
          have e2 : ¬ ((k : Int) + 1 < (n : Int)) := by omega
          go_wp2_with (at_builtin; refine app_list rfl rfl rfl rfl hr.out ?_)
          exact ⟨⟨k + 1, _, _, _, _, _, _, cs, vs ++ [x], by omega, by go_num, rfl, rfl, ⟨hmm.out.1, hmN.out⟩, O4'.out, ON'.out, hA'.out, HI2.out, (show cs.length + (vs ++ [x]).length = k + 1 by have := HS.out; simp only [List.length_append, List.length_cons, List.length_nil]; omega), HBN.out⟩, by simp [intOf]; omega⟩
        · have e1 : (k : Int).tmod 2 = 1 := by rw [Int.tmod_eq_emod_of_nonneg (by omega)]; omega
          go_wp2_with (at_builtin; refine app_list rfl rfl rfl rfl hr.out ?_)
          exact ⟨⟨k + 1, _, _, _, _, _, _, cs, vs ++ [x], by omega, by go_num, rfl, rfl, ⟨hmm.out.1, hmN.out⟩, O4'.out, ON'.out, hA'.out, HI2.out, (show cs.length + (vs ++ [x]).length = k + 1 by have := HS.out; simp only [List.length_append, List.length_cons, List.length_nil]; omega), HBN.out⟩, by simp [intOf]; omega⟩
    · have hP : Hid (KindsV wr (.slice a4 m4 c4) (parts l).1 ∧ KindsV wr (.slice a5 m5 c5) (parts l).2) := by
        have e := HI.out
        rw [cks_end (by have := hnl.out; omega), List.append_nil, List.append_nil] at e
        rw [← e.1, ← e.2]
        exact ⟨own_kinds O4.out, own_kinds O5.out⟩
      clear HI O4 O5 HA
      go_wp2
      go_ret2
      exact ⟨⟨_, _, rfl, hP.out.1, hP.out.2⟩, HB.out⟩
end Go.Proofs.YtefelelhgepkeaaGreatDoor.K
