/- The law about what stands behind: its walk. -/
import Derived.Test.YtdipalinddfekaaDoorGam
import Derived.Test.YtdipalinddfekaaDoorGak
import Derived.Test.YtdipalinddfekaaDoorTie
import Derived.LaidMore
import Derived.Lay
import Derived.SevenTiedAt
import Derived.Stop.Joined
import Derived.JoinedCond
namespace Go.Proofs.YtdipalinddfekaaDoor.Z
open Go.ChangeShapes Go.WideShapes Go.ChangeAt Go.RowKit Go.Proofs.YtdipalinddfekaaDoor.V Go.Proofs.YtdipalinddfekaaDoor.K Go.Proofs.YtdipalinddfekaaDoor.KD Go.Proofs.YtdipalinddfekaaDoor.T Go.Proofs.YtdipalinddfekaaDoor.U
theorem grown_of_below {W W' : World} (hb : Below W.heap.size W W') : W.grownBy W' none := ⟨hb.os, hb.tape, hb.output, hb.size, fun k hk _ => hb.block k hk⟩
theorem grown_trans {W W1 W2 : World} {row : Option Nat} (h1 : W.grownBy W1 row) (h2 : W1.grownBy W2 row) : W.grownBy W2 row :=
  ⟨h2.os.trans h1.os, h2.tape.trans h1.tape, h2.output.trans h1.output, Nat.le_trans h1.size h2.size, fun k hk hne => (h2.block k (Nat.lt_of_lt_of_le hk h1.size) hne).trans (h1.block k hk hne)⟩
theorem grown_set (W : World) (b off : Nat) (v : Value) : W.grownBy (W.setCell ⟨b, off, none⟩ v) (some b) :=
  ⟨rfl, rfl, rfl, (KeepsWalks.setCell W _ v).size, fun k _ hk => Below.heap_setCell _ _ _ k (fun e => hk (by rw [e]))⟩
theorem grown_put (W : World) (b : Nat) (o : Ot) : W.grownBy (put4 W b o) (some b) :=
  grown_trans (grown_set _ _ _ _) (grown_trans (grown_set _ _ _ _) (grown_trans (grown_set _ _ _ _) (grown_set _ _ _ _)))
theorem Box.grown {W W' : World} {b : Nat} {o : Ot} {row : Option Nat} (h : Box W b o) (hg : W.grownBy W' row) (hne : row ≠ some b) : Box W' b o := by
  obtain ⟨h0, h1, h2, h3, h4, h5, h6, h7, h8⟩ := h
  have hb := hg.block b h0 (fun e => hne e.symm)
  exact ⟨Nat.lt_of_lt_of_le h0 hg.size, (World.cell?_of_block (a := ⟨b, 0, none⟩) hb).trans h1, (World.cell?_of_block (a := ⟨b, 1, none⟩) hb).trans h2, (World.cell?_of_block (a := ⟨b, 2, none⟩) hb).trans h3, (World.cell?_of_block (a := ⟨b, 3, none⟩) hb).trans h4,
    (World.frozen?_of_block (a := ⟨b, 0, none⟩) hb).trans h5, (World.frozen?_of_block (a := ⟨b, 1, none⟩) hb).trans h6, (World.frozen?_of_block (a := ⟨b, 2, none⟩) hb).trans h7, (World.frozen?_of_block (a := ⟨b, 3, none⟩) hb).trans h8⟩
/-- A row of one's own, and two boxes beside it. -/
structure Sur (w W : World) (v : Value) (xs : List Ot) (b6 b7 : Nat) : Prop where
  own : W.ownsRow w.heap.size 28 4 v xs.length (flat xs)
  n6 : v.ownBlock ≠ some b6
  n7 : v.ownBlock ≠ some b7
  bel : Below w.heap.size w W
theorem Sur.below {w W W' : World} {v : Value} {xs : List Ot} {b6 b7 : Nat} (h : Sur w W v xs b6 b7) (hb : Below W.heap.size W W') : Sur w W' v xs b6 b7 :=
  ⟨h.own.kept (grown_of_below hb) (by cases v.ownBlock <;> simp), h.n6, h.n7, bel_trans h.bel hb⟩
theorem Sur.put6 {w W : World} {v : Value} {xs : List Ot} {b6 b7 : Nat} (h : Sur w W v xs b6 b7) (hb : w.heap.size ≤ b6) (o : Ot) : Sur w (put4 W b6 o) v xs b6 b7 :=
  ⟨h.own.kept (grown_put W b6 o) (.inr h.n6), h.n6, h.n7, put4_below h.bel hb o⟩
theorem Sur.outs {w W : World} {a : Option Addr} {m c : Nat} {xs : List Ot} {b6 b7 : Nat} (h : Sur w W (.slice a m c) xs b6 b7) (hm : m = xs.length) : Outs W a m xs := by
  have h1 := h.own
  rw [← hm] at h1
  exact own_outs h1 hm
theorem Sur.app {w W : World} {v : Value} {xs ys : List Ot} {b6 b7 : Nat} {a : Option Addr} {n c : Nat} (h : Sur w W v xs b6 b7) (h6 : b6 < W.heap.size) (h7 : b7 < W.heap.size) (hy : Outs W a n ys) (hac : a = none → c = 0) (hlen : xs.length + n ≤ 3000000000000) :
    ∃ a2 m cp w2, (Builtin.append_ #[22, 22] 22 #[v, .slice a n c]).run Tryd.prog W = .ok (.slice a2 m cp) w2 ∧ Hid (m = (xs ++ ys).length) ∧
      Hid (Sur w w2 (.slice a2 m cp) (xs ++ ys) b6 b7) ∧ Hid (∀ o, Box W b6 o → Box w2 b6 o) ∧ Hid (∀ o, Box W b7 o → Box w2 b7 o) := by
  obtain ⟨i, hi, hz, hs, hby⟩ := info_parts KD.infoOut
  have O := h.own
  have hB := h.bel
  have hn := hy.len
  cases a with
  | none =>
    have h0 : n = 0 := by
      rcases Nat.eq_zero_or_pos n with e | e
      · exact e
      · obtain ⟨g, p, o, h1, _⟩ := hy.at_ 0 e
        cases h1
    subst h0
    have hy : ys = [] := List.eq_nil_of_length_eq_zero hn.symm
    subst hy
    obtain rfl := hac rfl
    have hr := run_append_owned_none (P := Tryd.prog) (w := W) w.heap.size 22 22 28 i 4 Tryd.underlying22 hi v _ _ O
    obtain ⟨a2, cp, rfl⟩ := own_slice O
    rw [List.append_nil]
    exact ⟨a2, _, cp, W, hr, rfl, h, fun o h => h, fun o h => h⟩
  | some ad =>
    have had : n = 0 ∨ ∃ g p, ad = ⟨g, p, none⟩ := by
      rcases Nat.eq_zero_or_pos n with e | e
      · exact .inl e
      · obtain ⟨g, p, o, h1, _⟩ := hy.at_ 0 e
        exact .inr ⟨g, p, Option.some.inj h1⟩
    have hcells : ∀ j u, (flat ys)[j]? = some u → W.cell? (ad.add j) = some u := by
      rcases had with e | ⟨g, p, rfl⟩
      · subst e
        have hy : ys = [] := List.eq_nil_of_length_eq_zero hn.symm
        subst hy
        intro j u hu
        simp [flat] at hu
      · exact out_u W _ n ys hy g p rfl
    obtain ⟨v2, w2, hr, O2, hg, -, hnb⟩ := run_append_own_at (P := Tryd.prog) (w := W) w.heap.size 22 22 28 i _ 4 40 Tryd.underlying22 hi hz hs hby (by rfl) (by omega) v _ _ O ad n c (flat ys) (by rw [flat_len, hn]) hcells
      (by
        intro u hu
        obtain ⟨o, -, ho⟩ := List.mem_flatMap.1 hu
        simp only [KD.oc, List.mem_cons, List.mem_nil_iff, or_false] at ho
        rcases ho with rfl | rfl | rfl | rfl <;> rfl) (by unfold maxLen; omega) (by omega) hB.size
    have e2 : xs.length + n = (xs ++ ys).length := by rw [List.length_append, hn]
    rw [← flat_app, e2] at O2
    obtain ⟨a2, cp, rfl⟩ := own_slice O2
    have hrow : ∀ k, v.ownBlock = some k → w.heap.size ≤ k := fun k hk => (O.lt k hk).1
    have hne : ∀ g, g < W.heap.size → v.ownBlock ≠ some g → (Value.slice a2 (xs ++ ys).length cp).ownBlock ≠ some g := fun g hg1 hg2 => by
      rcases hnb with h | h
      · rw [h]; exact hg2
      · rw [h]
        intro e
        have := Option.some.inj e
        omega
    exact ⟨a2, _, cp, w2, hr, rfl, ⟨O2, hne b6 h6 h.n6, hne b7 h7 h.n7, ⟨hg.os.trans hB.os, hg.tape.trans hB.tape, hg.output.trans hB.output, Nat.le_trans hB.size hg.size, fun k hk => (hg.block k (Nat.lt_of_lt_of_le hk hB.size) (fun e => by have := hrow k e.symm; omega)).trans (hB.block k hk)⟩⟩,
      fun o hb => Box.grown hb hg h.n6, fun o hb => Box.grown hb hg h.n7⟩
theorem step_app_ex {P : Program} {ops : Array Oper} {o : Oper} {a : Act} {w : World} {K : Act → World → Prop} {Q : Exit → Act → World → Prop} {E : Prop} {R : Value → World → Prop} (hgd : o.guard = none) {s x : Operand} {t : TypeId} {v vx : Value}
    (ho : o.op = .call { callee := .builtin .append, args := #[s, x], argTypes := #[t, t] }) (hs : a.eval s = v) (hx : a.eval x = vx) (hr : ∃ v' w', (Builtin.append_ #[t, t] o.type #[v, vx]).run P w = .ok v' w' ∧ R v' w')
    (h : ∀ v' w', R v' w' → K (a.put o.dst v') w') : if Region.wanted o (yielded ops a.tmps) = true then Oper.wp P o a w K Q else E := by
  have hw : Region.wanted o (yielded ops a.tmps) = true := by simp [Region.wanted, hgd]
  obtain ⟨v', w', hr, hR⟩ := hr
  rw [if_pos hw]
  unfold Oper.wp execOp
  simp only [ho, resolve, invoke, builtin, Sem.run_bind, Sem.run_pure, Result.andThen_ok, List.map_toArray, List.map_cons, List.map_nil, hs, hx, hr]
  exact h v' w' hR
theorem sameO_refl (z : Ot) : sameO z z = true := by unfold sameO; rw [same_refl]; simp
theorem app_fits {l r : List Ot} (hl : ∀ o ∈ l, Fits o.n) (hr : ∀ o ∈ r, Fits o.n) : ∀ o ∈ l ++ r, Fits o.n := fun o ho => (List.mem_append.1 ho).elim (hl o) (hr o)
theorem outs_take {W : World} {a : Option Addr} {n : Nat} {l : List Ot} (h : Outs W a n l) (k : Nat) (hk : k ≤ n) : Outs W a k (l.take k) :=
  ⟨by rw [List.length_take, ← h.len]; omega, fun j hj => by
    obtain ⟨g, p, o, h1, h2, h3⟩ := h.at_ j (by omega)
    exact ⟨g, p, o, h1, by rw [List.getElem?_take, if_pos hj]; exact h2, h3⟩⟩
set_option maxRecDepth 100000 in
set_option maxHeartbeats 8000000 in
theorem walk_lazy (a b : Option Addr) (n c m d : Nat) (l r : List Ot) (hn : n ≤ 1048576) (hm : m ≤ 1048576) (hac : a = none → c = 0) (hbd : b = none → d = 0) (hnc : n ≤ c) (hc : c ≤ maxLen) (hfl : ∀ o ∈ l, Fits o.n) (hfr : ∀ o ∈ r, Fits o.n) (w : World) (h1 : Outs w a n l) (h2 : Outs w b m r) :
    Ret 3 #[.slice a n c, .slice b m d] w (.bool true) := by
  have H1 := Lib.hid h1
  have H2 := Lib.hid h2
  have hln := h1.len
  have hlm := h2.len
  clear h1 h2
  obtain ⟨a2, m2, c2, wa, f1, hm2, O2, B2⟩ := app_outs (v := .slice none 0 0) (xs := []) (ys := l) (c := c) (World.ownsRow_nil w w.heap.size 28 4) (Below.refl _ _) H1.out hac (by simp; omega)
  have e2 : m2 = l.length := by simpa using hm2.out
  subst e2
  obtain ⟨a3, m3, c3, wb, f2, hm3, O3, B3⟩ := app_outs (v := .slice a2 l.length c2) (xs := l) (ys := r) (c := d) O2.out B2.out (H2.out.below B2.out) hbd (by omega)
  have HL3 : Hid (Outs wb a3 m3 (l ++ r)) := own_outs O3.out hm3.out
  have hcc := own_caps O3.out
  have hm3' : m3 ≤ 2097152 := by have := hm3.out; rw [List.length_append] at this; omega
  have hZ1 : ∀ W, Outs W a n l → Ret 4 #[.int .u8 26, .slice a n c] W (enc (node 26 l)) := fun W h => c_Node_all 26 a n c l (by omega) hnc hc hfl W h
  have hZ2 : ∀ W, Outs W a3 m3 (l ++ r) → Ret 4 #[.int .u8 26, .slice a3 m3 c3] W (enc (node 26 (l ++ r))) := fun W h => c_Node_all 26 a3 m3 c3 (l ++ r) (by omega) hcc.1 hcc.2 (app_fits hfl hfr) W h
  have hlaw := @law_coalesce l r
  generalize node 26 l = z1 at hZ1 hlaw
  generalize node 26 (l ++ r) = z2 at hZ2 hlaw
  have HW := Lib.hid hlaw
  have F1 := Lib.hid f1
  have F2 := Lib.hid f2
  have HNC := Lib.hid hnc
  have HC := Lib.hid hc
  have HFL := Lib.hid hfl
  have HFR := Lib.hid hfr
  have HN := Lib.hid hn
  have HM := Lib.hid hm
  have HLN := Lib.hid hln
  have HLM := Lib.hid hlm
  have HBD := Lib.hid hbd
  clear f1 f2 hm2 hm3 O2 O3 B2 hcc hlaw hac hbd hnc hc hfl hfr hn hm hln hlm hm3'
  go_enter Tryd.func3, Tryd.ntmps3
  go_upto_region 5 with (first | (at_builtin; first | refine app_list rfl rfl rfl rfl F1.out ?_ | refine app_list rfl rfl rfl rfl F2.out ?_) | (go_at_call 4; refine (hZ1 _ (H1.out.below B3.out)).mono ?_; rintro e w4 ⟨rfl, hb4⟩))
  have B4 : Hid (Below w.heap.size w (w4.alloc (.cells #[.int .u8 z1.k, .int .i64 z1.n, .string z1.s, .int .i64 z1.e] 28))) := bel_alloc (bel_trans B3.out hb4) _
  have X4 : Hid (Box (w4.alloc (.cells #[.int .u8 z1.k, .int .i64 z1.n, .string z1.s, .int .i64 z1.e] 28)) w4.heap.size z1) := Box.new w4 z1
  have HL4 : Hid (Outs (w4.alloc (.cells #[.int .u8 z1.k, .int .i64 z1.n, .string z1.s, .int .i64 z1.e] 28)) a3 m3 (l ++ r)) := HL3.out.below (bel_alloc hb4 _)
  have l4 : Hid (w.heap.size ≤ w4.heap.size) := (bel_trans B3.out hb4).size
  clear hb4 hZ1 F1 F2 HL3 B3
  go_upto_region 6 with (go_at_call 4; refine (hZ2 _ HL4.out).mono ?_; rintro e w5 ⟨rfl, hb5⟩)
  have B5 : Hid (Below w.heap.size w (w5.alloc (.cells #[.int .u8 z2.k, .int .i64 z2.n, .string z2.s, .int .i64 z2.e] 28))) := bel_alloc (bel_trans B4.out hb5) _
  have X5 : Hid (Box (w5.alloc (.cells #[.int .u8 z2.k, .int .i64 z2.n, .string z2.s, .int .i64 z2.e] 28)) w4.heap.size z1) := (X4.out.below hb5).alloc _
  have Y5 : Hid (Box (w5.alloc (.cells #[.int .u8 z2.k, .int .i64 z2.n, .string z2.s, .int .i64 z2.e] 28)) w5.heap.size z2) := Box.new w5 z2
  have l5 : Hid (w.heap.size ≤ w5.heap.size) := (bel_trans B4.out hb5).size
  have HB6 : Hid (w.heap.size ≤ w4.heap.size) := l4.out
  have HB7 : Hid (w.heap.size ≤ w5.heap.size) := l5.out
  have hne : Hid (w4.heap.size ≠ w5.heap.size) := by
    show _ ≠ _
    have := hb5.size
    simp at this
    omega
  clear hb5 hZ2 HL4 B4 X4
  generalize w4.heap.size = b6 at *
  generalize w5.heap.size = b7 at *
  generalize w5.alloc (.cells #[.int .u8 z2.k, .int .i64 z2.n, .string z2.s, .int .i64 z2.e] 28) = W5 at *
  go_cut [43] from 9 (fun s43 wc => s43 = .bool false ∧ Hid (Box wc b6 z1) ∧ Hid (Box wc b7 z2) ∧ Hid (Below w.heap.size w wc))
  case first =>
    obtain ⟨k1, n1, s1, e1⟩ := z1
    obtain ⟨k2, n2, s2, e2⟩ := z2
    obtain ⟨xl, x0, x1, x2, x3, -, -, -, -⟩ := X5.out
    obtain ⟨yl, y0, y1, y2, y3, -, -, -, -⟩ := Y5.out
    simp only at x0 x1 x2 x3 y0 y1 y2 y3
    have hlaw := HW.out
    simp only at hlaw
    clear HW
    by_cases q1 : e1 = 1
    · subst q1
      clear hlaw
      go_wp2
      go_meet
      exact ⟨rfl, X5.out, Y5.out, B5.out⟩
    have g1 : (e1 != 1) = true := by simpa using q1
    by_cases q2 : e2 = 1
    · subst q2
      clear hlaw q1
      go_wp2
      go_meet
      exact ⟨rfl, X5.out, Y5.out, B5.out⟩
    have g2 : (e2 != 1) = true := by simpa using q2
    by_cases q3 : e1 = 0 ∧ k1 = 0
    · obtain ⟨rfl, rfl⟩ := q3
      clear hlaw q1 q2
      go_wp2
      go_meet
      exact ⟨rfl, X5.out, Y5.out, B5.out⟩
    have q3' : e1 ≠ 0 ∨ k1 ≠ 0 := by omega
    have hz := hlaw q1 q2 q3'
    injection hz with z0 z1 z2 z3
    subst z0; subst z1; subst z2; subst z3
    have hS : ∀ W, Ret 5 #[ov k2 n2 s2 e2, ov k2 n2 s2 e2] W (.bool true) := fun W => by
      have := r_Same5 ⟨k2, n2, s2, e2⟩ ⟨k2, n2, s2, e2⟩ W
      rwa [sameO_refl] at this
    clear hlaw q1 q2 q3
    by_cases q4 : e2 = 0
    · subst q4
      have g4 : (k2 != 0) = true := by simpa using q3'
      clear q3' g1 g2
      go_wp2_with (go_at_call 5; refine (hS _).mono ?_; rintro e w6 ⟨rfl, hb6⟩)
      go_meet
      exact ⟨rfl, X5.out.below hb6, Y5.out.below hb6, bel_trans B5.out hb6⟩
    · have g4 : (e2 != 0) = true := by simpa using q4
      clear q3' q4
      go_wp2_with (go_at_call 5; refine (hS _).mono ?_; rintro e w6 ⟨rfl, hb6⟩)
      go_meet
      exact ⟨rfl, X5.out.below hb6, Y5.out.below hb6, bel_trans B5.out hb6⟩
  case rest =>
    obtain ⟨rfl, XC, YC, BC⟩ := hcut
    clear X5 Y5 B5 HW
    by_cases hev : n % 2 = 0
    case neg =>
      have ht : ((n : Int)).tmod 2 = ((n % 2 : Nat) : Int) := rfl
      have ht1 : n % 2 = 1 := by omega
      rw [ht1] at ht
      have ht2 : ((n : Int)).tmod 2 = 1 := ht
      clear ht ht1 hev
      go_wp2_with (go_at_call 6; refine (awake _).mono ?_; rintro e w8 ⟨rfl, hb8⟩)
      first | exact bodyPost_ret (v := .bool true) (by simp [results, Tryd.results3, go_sem, *]) rfl ⟨rfl, bel_trans BC.out hb8⟩ | (go_ret; exact ⟨rfl, bel_trans BC.out hb8⟩)
    by_cases h2 : 2 ≤ n
    case neg =>
      obtain rfl : n = 0 := by omega
      clear hev h2
      go_wp2_with (go_at_call 6; refine (awake _).mono ?_; rintro e w8 ⟨rfl, hb8⟩)
      first | exact bodyPost_ret (v := .bool true) (by simp [results, Tryd.results3, go_sem, *]) rfl ⟨rfl, bel_trans BC.out hb8⟩ | (go_ret; exact ⟨rfl, bel_trans BC.out hb8⟩)
    have ht : ((n : Int)).tmod 2 = 0 := by
      have ht : ((n : Int)).tmod 2 = ((n % 2 : Nat) : Int) := rfl
      rw [ht, hev]; rfl
    obtain ⟨j, rfl⟩ : ∃ j, n = j + 2 := ⟨n - 2, by omega⟩
    have h2i : ¬ ((j : Int) + 2 < 2) := by omega
    have hjc : (j : Int) ≤ (c : Int) := by have := HNC.out; omega
    have hj : j ≤ 1048576 := by have := HN.out; omega
    have hw2 : IntKind.i64.wrap (((j + 2 : Nat) : Int) - 2) = (j : Int) := (IntWalk.i64_in _ (by omega)).trans (by omega)
    obtain ⟨j1, hj1⟩ : ∃ j1, j1 = j + 1 := ⟨_, rfl⟩
    have hw1 : IntKind.i64.wrap ((j : Int) + 2 - 1) = (j1 : Int) := (IntWalk.i64_in _ (by omega)).trans (by omega)
    have hi0 : (0 : Int) ≤ (j1 : Int) := by omega
    have hi1 : (j1 : Int) < (j : Int) + 2 := by omega
    obtain ⟨g, q, y, rfl, hly, hg, y0, y1, y2, y3⟩ := H1.out.at_ j1 (by omega)
    clear hj1
    have ht : ((j : Int) + 2).tmod 2 = 0 := ht
    have hP : (l.take j).length = j := by rw [List.length_take, ← HLN.out]; omega
    have S0 : Sur w wc (.slice none 0 0) [] b6 b7 := ⟨World.ownsRow_nil _ _ _ _, by simp [Value.ownBlock], by simp [Value.ownBlock], BC.out⟩
    obtain ⟨a4, m4, c4, wd, f4, hm4, S4, K4, L4⟩ := S0.app XC.out.lt YC.out.lt (outs_take (H1.out.below BC.out) j (by omega)) (c := c) (fun e => by cases e) (by simp; omega)
    have e4 : m4 = j := by have := hm4.out; rw [List.nil_append, hP] at this; exact this
    subst e4
    have F4 := Lib.hid f4
    have X6 : Hid (Box wd b6 z1) := K4.out _ XC.out
    have Y6 : Hid (Box wd b7 z2) := L4.out _ YC.out
    have HY := Lib.hid hly
    have HP := Lib.hid hP
    have HEV := Lib.hid hev
    clear f4 hm4 K4 L4 S0 hly hP hev h2
    rw [List.nil_append] at S4
    go_upto_region 12 with (at_builtin; refine app_list rfl rfl rfl rfl F4.out ?_)
    clear F4 h2i hjc hw2 ht
    have hbd : Below w.heap.size w wd := S4.out.bel
    have hB := fun W => r_Bool5 true W
    have HKP : Hid (∀ W', Below w.heap.size w W' → W'.cell? ⟨g, q + j1 * 4, none⟩ = some (.int .u8 y.k) ∧ W'.cell? ⟨g, q + j1 * 4 + 1, none⟩ = some (.int .i64 y.n) ∧ W'.cell? ⟨g, q + j1 * 4 + 2, none⟩ = some (.string y.s) ∧ W'.cell? ⟨g, q + j1 * 4 + 3, none⟩ = some (.int .i64 y.e)) := fun W' hb =>
      ⟨(hb.cell (p := ⟨g, _, none⟩) hg).trans y0, (hb.cell (p := ⟨g, _, none⟩) hg).trans y1, (hb.cell (p := ⟨g, _, none⟩) hg).trans y2, (hb.cell (p := ⟨g, _, none⟩) hg).trans y3⟩
    have hApp : ∀ W, Below wd.heap.size wd W → ∃ v' w', (Builtin.append_ #[22, 22] 22 #[.slice a4 m4 c4, .slice (some ⟨W.heap.size, 0, none⟩) 2 2]).run Tryd.prog (W.alloc (.cells #[.int .u8 3, .int .i64 1, .string ⟨#[]⟩, .int .i64 0, .int .u8 y.k, .int .i64 y.n, .string y.s, .int .i64 y.e] 28)) = .ok v' w' ∧
        ∃ a5 c5, v' = .slice a5 (m4 + 2) c5 ∧ Hid (Sur w w' (.slice a5 (m4 + 2) c5) (l.take m4 ++ [bo true, y]) b6 b7) ∧ Hid (Box w' b6 z1) ∧ Hid (Box w' b7 z2) := fun W hb => by
      have hb2 := bel_alloc hb (.cells #[.int .u8 3, .int .i64 1, .string ⟨#[]⟩, .int .i64 0, .int .u8 y.k, .int .i64 y.n, .string y.s, .int .i64 y.e] 28)
      obtain ⟨a5, m5, c5, w5, f5, hm5, S5, K5, L5⟩ := (S4.out.below hb2).app (Nat.lt_of_lt_of_le X6.out.lt hb2.size) (Nat.lt_of_lt_of_le Y6.out.lt hb2.size) (outs_two W (bo true) y) (c := 2) (fun e => by cases e) (by rw [HP.out]; omega)
      have e5 : m5 = m4 + 2 := by have := hm5.out; rw [List.length_append, HP.out] at this; exact this
      subst e5
      exact ⟨_, w5, f5, a5, c5, rfl, S5, K5.out _ (X6.out.below hb2), L5.out _ (Y6.out.below hb2)⟩
    have hL : (l.take m4 ++ [bo true, y]).length = m4 + 2 := by rw [List.length_append, HP.out]; rfl
    have hz := @law_case (l.take m4) r y (by rw [HP.out]; have := HEV.out; omega)
    have hfL : ∀ o ∈ l.take m4 ++ [bo true, y], Fits o.n := fun o ho => by
      rcases List.mem_append.1 ho with h | h
      · exact HFL.out o (List.mem_of_mem_take h)
      · rcases List.mem_cons.1 h with rfl | h
        · show Fits 1
          unfold Fits; omega
        · rw [List.mem_singleton.1 h]
          exact HFL.out y (List.mem_of_getElem? HY.out)
    generalize l.take m4 ++ [bo true, y] = L at hApp hL hz hfL
    have HA := Lib.hid hApp
    have HL := Lib.hid hL
    have HZ := Lib.hid hz
    have HFT := Lib.hid hfL
    clear hApp hL hz hfL X6 Y6 HP HEV HY y0 y1 y2 y3 XC YC BC S4
    go_cut [8] from 9 (fun s8 wc2 => ∃ a5 c5, s8 = .slice a5 (m4 + 2) c5 ∧ Hid (Sur w wc2 (.slice a5 (m4 + 2) c5) L b6 b7) ∧ Hid (Box wc2 b6 z1) ∧ Hid (Box wc2 b7 z2))
    case first =>
      obtain ⟨y0, y1, y2, y3⟩ := HKP.out wd hbd
      go_region_held3 (fun W' => W'.cell? ⟨g, q + j1 * 4, none⟩ = some (.int .u8 y.k) ∧ W'.cell? ⟨g, q + j1 * 4 + 1, none⟩ = some (.int .i64 y.n) ∧ W'.cell? ⟨g, q + j1 * 4 + 2, none⟩ = some (.string y.s) ∧ W'.cell? ⟨g, q + j1 * 4 + 3, none⟩ = some (.int .i64 y.e)) (first | exact HKP.out _ S6.out.bel | exact HKP.out _ (by repeat (first | exact Below.refl _ _ | assumption | exact Go.Proofs.YtdipalinddfekaaDoor.V.below_drewN _ _ | (refine bel_trans ?_ (Go.Proofs.YtdipalinddfekaaDoor.V.below_drewN _ _)) | (refine bel_trans ?_ (by assumption)) | (with_reducible apply bel_alloc) | (with_reducible apply Below.drew) | apply bel_alloc | apply Below.drew | refine bel_set ?_ (by simp; try omega) _)))
        (first | (go_at_call 7; refine (hB _).mono ?_; rintro e w5 ⟨rfl, hb5⟩) | (refine step_app_ex rfl rfl rfl rfl (HA.out _ (by repeat (first | exact Below.refl _ _ | assumption | exact Go.Proofs.YtdipalinddfekaaDoor.V.below_drewN _ _ | (refine bel_trans ?_ (Go.Proofs.YtdipalinddfekaaDoor.V.below_drewN _ _)) | (refine bel_trans ?_ (by assumption)) | (with_reducible apply bel_alloc) | (with_reducible apply Below.drew) | apply bel_alloc | apply Below.drew | refine bel_set ?_ (by simp; try omega) _))) ?_; rintro v6 w6 ⟨a5, c5, rfl, S6, X7, Y7⟩))
      all_goals
        go_wp2
        go_meet
        exact ⟨a5, c5, rfl, S6, X7, Y7⟩
    case rest =>
      obtain ⟨a5, c5, rfl, S6, X7, Y7⟩ := hcut
      clear HA HKP hbd hB
      have hcc := own_caps S6.out.own
      have hC1 : ∀ W, Outs W a5 (m4 + 2) L → Ret 4 #[.int .u8 25, .slice a5 (m4 + 2) c5] W (enc (node 25 L)) := fun W h => c_Node_all 25 a5 (m4 + 2) c5 L (by omega) (by have := HL.out; omega) hcc.2 HFT.out W h
      clear hcc
      have hz := HZ.out
      have h25 : ∀ a9 m9 c9, m9 ≤ c9 → c9 ≤ maxLen → m9 = (L ++ r).length → ∀ W, Outs W a9 m9 (L ++ r) → Ret 4 #[.int .u8 25, .slice a9 m9 c9] W (enc (node 25 (L ++ r))) := fun a9 m9 c9 h1 h2 h3 W h =>
        c_Node_all 25 a9 m9 c9 (L ++ r) (by rw [List.length_append, HL.out, ← HLM.out] at h3; have := HM.out; omega) h1 h2 (app_fits HFT.out HFR.out) W h
      generalize node 25 L = z3 at hC1 hz
      generalize node 25 (L ++ r) = z4 at h25 hz
      clear HZ
      have HZ := Lib.hid hz
      clear hz
      go_upto_region 14 with (go_at_call 4; refine (hC1 _ (S6.out.outs HL.out.symm)).mono ?_; rintro e w7 ⟨rfl, hb7⟩; obtain ⟨xl, x0, x1, x2, x3, g0, g1, g2, g3⟩ := X7.out.below hb7)
      have S8 : Hid (Sur w (put4 w7 b6 z3) (.slice a5 (m4 + 2) c5) L b6 b7) := (S6.out.below hb7).put6 HB6.out z3
      have X8 : Hid (Box (put4 w7 b6 z3) b6 z3) := (X7.out.below hb7).put z3
      have Y8 : Hid (Box (put4 w7 b6 z3) b7 z2) := (Y7.out.below hb7).other z3 hne.out.symm
      clear hb7 x0 x1 x2 x3 g0 g1 g2 g3 xl S6 X7 Y7 hC1
      obtain ⟨a9, m9, c9, w9, f9, hm9, S9, K9, L9⟩ := S8.out.app X8.out.lt Y8.out.lt (H2.out.below S8.out.bel) (c := d) HBD.out (by have := HL.out; have := HM.out; omega)
      have F9 := Lib.hid f9
      have X9 : Hid (Box w9 b6 z3) := K9.out _ X8.out
      have Y9 : Hid (Box w9 b7 z2) := L9.out _ Y8.out
      have hcc := own_caps S9.out.own
      have hC2 := h25 a9 m9 c9 hcc.1 hcc.2 hm9.out
      clear f9 K9 L9 X8 Y8 hcc h25 S8
      go_upto_region 16 with (first | (at_builtin; refine app_list rfl rfl rfl rfl F9.out ?_) | (go_at_call 4; refine (hC2 _ (S9.out.outs hm9.out)).mono ?_; rintro e w10 ⟨rfl, hb10⟩; obtain ⟨yl, y0, y1, y2, y3, g0, g1, g2, g3⟩ := Y9.out.below hb10))
      have X10 : Hid (Box ((((w10.setCell ⟨b7, 0, none⟩ (.int .u8 z4.k)).setCell ⟨b7, 1, none⟩ (.int .i64 z4.n)).setCell ⟨b7, 2, none⟩ (.string z4.s)).setCell ⟨b7, 3, none⟩ (.int .i64 z4.e)) b6 z3) := (X9.out.below hb10).other z4 hne.out
      have Y10 : Hid (Box ((((w10.setCell ⟨b7, 0, none⟩ (.int .u8 z4.k)).setCell ⟨b7, 1, none⟩ (.int .i64 z4.n)).setCell ⟨b7, 2, none⟩ (.string z4.s)).setCell ⟨b7, 3, none⟩ (.int .i64 z4.e)) b7 z4) := (Y9.out.below hb10).put z4
      have B10 : Hid (Below w.heap.size w ((((w10.setCell ⟨b7, 0, none⟩ (.int .u8 z4.k)).setCell ⟨b7, 1, none⟩ (.int .i64 z4.n)).setCell ⟨b7, 2, none⟩ (.string z4.s)).setCell ⟨b7, 3, none⟩ (.int .i64 z4.e))) := put4_below (bel_trans S9.out.bel hb10) HB7.out z4
      clear hb10 y0 y1 y2 y3 g0 g1 g2 g3 yl F9 X9 Y9 S9 hC2 hm9
      generalize (((w10.setCell ⟨b7, 0, none⟩ (.int .u8 z4.k)).setCell ⟨b7, 1, none⟩ (.int .i64 z4.n)).setCell ⟨b7, 2, none⟩ (.string z4.s)).setCell ⟨b7, 3, none⟩ (.int .i64 z4.e) = W11 at *
      obtain ⟨k3, n3, s3, e3⟩ := z3
      obtain ⟨k4, n4, s4, e4⟩ := z4
      obtain ⟨xl, x0, x1, x2, x3, -, -, -, -⟩ := X10.out
      obtain ⟨yl, y0, y1, y2, y3, -, -, -, -⟩ := Y10.out
      simp only at x0 x1 x2 x3 y0 y1 y2 y3
      have hz := HZ.out
      simp only at hz
      clear HZ
      by_cases q1 : e3 = 1
      · subst q1
        clear hz
        go_wp2_with (go_at_call 6; refine (awake _).mono ?_; rintro e w8 ⟨rfl, hb8⟩)
        first | exact bodyPost_ret (v := .bool true) (by simp [results, Tryd.results3, go_sem, *]) rfl ⟨rfl, bel_trans B10.out hb8⟩ | (go_ret; exact ⟨rfl, bel_trans B10.out hb8⟩)
      have g1 : (e3 == 1) = false := by simpa using q1
      by_cases q2 : e4 = 1
      · subst q2
        clear hz q1
        go_wp2_with (go_at_call 6; refine (awake _).mono ?_; rintro e w8 ⟨rfl, hb8⟩)
        first | exact bodyPost_ret (v := .bool true) (by simp [results, Tryd.results3, go_sem, *]) rfl ⟨rfl, bel_trans B10.out hb8⟩ | (go_ret; exact ⟨rfl, bel_trans B10.out hb8⟩)
      have hz := hz q1 q2
      injection hz with z0 z1 z2 z3
      subst z0; subst z1; subst z2; subst z3
      have hS : ∀ W, Ret 5 #[ov k4 n4 s4 e4, ov k4 n4 s4 e4] W (.bool true) := fun W => by
        have := r_Same5 ⟨k4, n4, s4, e4⟩ ⟨k4, n4, s4, e4⟩ W
        rwa [sameO_refl] at this
      clear q1 q2
      go_wp2_with (first | (go_at_call 5; refine (hS _).mono ?_; rintro e w12 ⟨rfl, hb12⟩) | (go_at_call 6; refine (awake _).mono ?_; rintro e w8 ⟨rfl, hb8⟩))
      first | exact bodyPost_ret (v := .bool true) (by simp [results, Tryd.results3, go_sem, *]) rfl ⟨rfl, bel_trans (bel_trans B10.out hb12) hb8⟩ | (go_ret; exact ⟨rfl, bel_trans (bel_trans B10.out hb12) hb8⟩)
end Go.Proofs.YtdipalinddfekaaDoor.Z
namespace Go.Proofs.YtdipalinddfekaaDoor.L
open Go.ChangeShapes Go.WideShapes Go.ChangeAt Go.RowKit
def laidList : List (String × DataW Unit) := [("unicode/utf8.acceptRanges", Rows.laid_unicode_utf8_acceptRanges), ("unicode/utf8.first", Rows.laid_unicode_utf8_first)]
theorem plainList : (laidList.all fun x => x.2.handleName?.isNone) = true := by kernel_rfl
theorem laidOut : laidOutB Tryd.prog = true := by kernel_rfl
theorem own : ownKnob Tryd.prog.godebug = none := by kernel_rfl
end Go.Proofs.YtdipalinddfekaaDoor.L
namespace Go.Proofs.YtdipalinddfekaaDoor.L
open Go.ChangeShapes Go.WideShapes Go.ChangeAt Go.RowKit Go.Joins
section
variable {H : Type} {enc : TypeId × Value → H}
/-- The wrap of a row that lists variables and bears a condition, the world's shape kept. -/
theorem handed_cond {a : Assume} {C : Checked} {os : Os} {f : FuncId} {fn : Func} {s : OpenSpec} {k : (H : Type) → List (DataW H) → Bool} (hk : s.cond = some k) {F : Stop.Interp} {conds : List PathCond} {apart fresh handsOn again : Bool} {X : World → Prop}
    (hX : ∀ (w w' : World), w.heap = w'.heap → X w → X w')
    (own : ownKnob C.prog.godebug = none) (started : os.Started) (noInit : C.prog.inits.idxOf? f = none) (hfn : C.prog.funcs[f]? = some fn)
    (witness : ∃ (w : World) (tape : Tape) (i : Input), w.os = os ∧ (w.forCall tape i).Shaped C.prog ∧ i.vars = [] ∧ Input.okWide C.prog (w.forCall tape i) .any w.heap.size f i ∧
      ((s.pre enc C.prog fn conds apart (w.forCall tape i).memory i.args ∧ X (w.forCall tape i).memory) ∧ sizedMet enc C.prog fn s apart (w.forCall tape i).memory i.args) ∧ a.holds C.prog (lone (Frame.enter C.prog f i.args .normal) [] (w.forCall tape i)))
    (contract : ∀ (W : World) (base : Nat) (args : Array Value) (ds gs : List (DataW H)) (before : List MemPlace),
      (∀ (j : Nat) t v, fn.params[j]? = some t → args[j]? = some v → Value.okWide C.prog W .any base t v) →
      DataW.Whole enc C.prog fn.params.toList s.vars apart W args.toList ds gs before →
      k H (ds ++ gs) = true → X W → W.ShapedOpen C.prog →
      Calls C.prog f args W fun e W' => ∃ v, e = .returned v ∧ (s.at F).post enc C.prog fn apart fresh handsOn again W args v W') :
    ReturnsInHanded a C os f .any (fun w args => (s.pre enc C.prog fn conds apart w args ∧ X w) ∧ sizedMet enc C.prog fn s apart w args) ((s.at F).post enc C.prog fn apart fresh handsOn again) := by
  refine returnsInHanded_of_calls own started noInit witness ?_
  intro w tape i _ hsh _ hok hpre _
  obtain ⟨_, _, _, fn', hfn', _, _, _, _, hval⟩ := hok
  have e : fn' = fn := Option.some.inj (hfn'.symm.trans hfn)
  subst e
  obtain ⟨⟨hp, hx⟩, _⟩ := hpre
  obtain ⟨ds, gs, before, hw, _, hkk⟩ := (OpenSpec.pre_some hk conds apart _ _).1 hp
  have hw' := DataW.Whole.of_heap (w' := w.forCall tape i) (by rfl) hw
  refine (contract (w.forCall tape i) w.heap.size i.args ds gs before hval hw' hkk (hX _ _ (by rfl) hx) hsh).mono fun e W' ⟨v, he, hq⟩ => ?_
  subst he
  exact ChangeSpec.post_blind hq
end
end Go.Proofs.YtdipalinddfekaaDoor.L
