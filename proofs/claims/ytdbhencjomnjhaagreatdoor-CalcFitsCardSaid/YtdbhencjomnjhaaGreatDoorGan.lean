/- Any node, whole; the law about what fits: its walk. -/
import Derived.Test.YtdbhencjomnjhaaGreatDoorGak
import Derived.Test.YtdbhencjomnjhaaGreatDoorGam
import Derived.Test.YtdbhencjomnjhaaGreatDoorTie
import Derived.LaidMore
import Derived.Lay
import Derived.SevenTiedAt
import Derived.Stop.Joined
namespace Go.Proofs.YtdbhencjomnjhaaGreatDoor.U
open Go.ChangeShapes Go.WideShapes Go.ChangeAt Go.RowKit Go.Proofs.YtdbhencjomnjhaaGreatDoor.V Go.Proofs.YtdbhencjomnjhaaGreatDoor.K Go.Proofs.YtdbhencjomnjhaaGreatDoor.T
theorem own_below {W W' : World} {base : Nat} {e : TypeId} {size : Nat} {v : Value} {n : Nat} {xs : List Value} (h : W.ownsRow base e size v n xs) (hb : Below W.heap.size W W') : W'.ownsRow base e size v n xs :=
  h.kept (row := none) ⟨hb.os, hb.tape, hb.output, hb.size, fun k hk _ => hb.block k hk⟩ (by cases v.ownBlock <;> simp)
theorem c_Kind' (op : Int) (a : Option Addr) (n c : Nat) (l : List Int) (hnc : n ≤ c) (hc : c ≤ maxLen) (hsz : n ≤ 140737488351232) (w : World) (h : One kI w a n l) : Ret 7 #[.int .u8 op, .slice a n c] w (kV (kind op l))  :=
  c_Kind op a n c l hnc (by unfold maxLen at hc; omega) hsz w h
theorem c_Node_all (op : Int) (a : Option Addr) (n c : Nat) (l : List Ot) (hsz : 40 * n ≤ 140737488351232) (hnc : n ≤ c) (hc : c ≤ maxLen) (hfit : ∀ o ∈ l, Fits o.n) (w : World) (h : Outs w a n l) : Ret 5 #[.int .u8 op, .slice a n c] w (enc (node op l)) := by
  by_cases h25 : op = 25
  · subst h25
    cases hf : fits 25 l with
    | false => exact c_Node_no 25 a n c l hsz hf w h
    | true =>
      obtain ⟨hv, hk⟩ := fits_kind hf
      rw [node_25 hf]
      exact c_Node_25c (K.choose l) _ a n c l hsz hk hv (fun W h => c_choose a n c l hnc hc (by omega) hv W h) w h
  · exact c_Node_but op h25 a n c l hsz hfit w h
theorem own_caps {w : World} {base : Nat} {e : TypeId} {size : Nat} {a : Option Addr} {m c k : Nat} {xs : List Value} (h : w.ownsRow base e size (.slice a m c) k xs) : m ≤ c ∧ c ≤ maxLen := by
  rcases h.2 with ⟨e1, hn⟩ | ⟨g, cap, cur, e1, -, hg, hnc, hcm, -, -⟩
  · injection e1 with e1 e2 e3
    subst e2; subst e3
    exact ⟨Nat.le_refl _, Nat.zero_le _⟩
  · injection e1 with e1 e2 e3
    subst e2; subst e3
    exact ⟨hnc, hcm⟩
theorem kinds_one {w : World} {base : Nat} {a : Option Addr} {m c : Nat} {xs : List Int} (h : w.ownsRow base 26 1 (.slice a m c) xs.length (xs.map kI)) (hm : m = xs.length) : One kI w a m xs := by
  subst hm
  obtain ⟨a', n', c', e, -, h1⟩ := own_kinds h
  injection e with e1 e2 e3
  subst e1; subst e2
  exact h1
theorem take_all {l : List Ot} {k : Nat} {o : Ot} (h : l[k]? = some o) : (l.take (k + 1)).all Ot.ok = ((l.take k).all Ot.ok && o.ok) := by
  rw [List.take_add_one, h, List.all_append]
  simp
/-- What a node comes to, as the law asks it. -/
theorem fits_law (op : Int) (l : List Ot) : (node op l).e = 1 ∨ ((node op l).e ≠ 1 ∧ l.all Ot.ok = true ∧ (node op l).ok = true ∧ ∃ K, kind op (l.map (·.k)) = (K, 0) ∧ ((node op l).k = 0 ∨ (node op l).k = K)) := by
  cases hf : fits op l with
  | false =>
    left
    unfold node
    rw [hf]
    rfl
  | true =>
    right
    obtain ⟨h1, h2⟩ := node_fits hf
    obtain ⟨hv, hk⟩ := fits_kind hf
    refine ⟨fun he => ?_, hv, h1, _, hk, h2⟩
    unfold Ot.ok at h1
    rw [he] at h1
    simp [isErr] at h1
set_option maxRecDepth 100000 in
set_option maxHeartbeats 8000000 in
theorem walk_fits (op : Int) (a : Option Addr) (n c : Nat) (l : List Ot) (hn : 40 * n ≤ 140737488351232) (hnc : n ≤ c) (hc : c ≤ maxLen) (hfit : ∀ o ∈ l, Fits o.n) (w : World) (h : Outs w a n l) :
    Ret 3 #[.int .u8 op, .slice a n c] w (.bool true) := by
  have H1 := Lib.hid h
  have hlen := Lib.hid h.len
  have HF := Lib.hid hfit
  clear h hfit
  go_enter Tryz.func3, Tryz.ntmps3
  go_wp2
  go_loopw [5, 6, 7] (fun s5 s6 s7 wr => ∃ (k : Nat) (a6 : Option Addr) (m6 c6 : Nat) (b : Bool) (xs : List Int), k ≤ n ∧ s7 = .int .i64 k ∧ s5 = .bool b ∧ s6 = .slice a6 m6 c6 ∧ Hid (b = (l.take k).all Ot.ok) ∧ Hid (m6 = xs.length) ∧ Hid (xs = (l.take k).map (·.k)) ∧
      Hid (wr.ownsRow w.heap.size 26 1 (.slice a6 m6 c6) xs.length (xs.map kI)) ∧ Hid (Below w.heap.size w wr)) (fun _ _ s7 _ => n - (intOf s7).toNat)
  case atStart => exact ⟨0, none, 0, 0, true, [], by omega, rfl, rfl, rfl, rfl, rfl, rfl, World.ownsRow_nil _ _ _ _, Below.refl _ _⟩
  case round =>
    obtain ⟨k, a6, m6, c6, b, xs, hk, rfl, rfl, rfl, EB, M6, EX, O6, HB⟩ := hrel
    by_cases hlt : k < n
    · obtain ⟨g, q, o, rfl, hlk, hg, d0, d1, d2, d3⟩ := (H1.out.below HB.out).at_ k hlt
      have hxl : xs.length ≤ k := by rw [EX.out, List.length_map, List.length_take]; omega
      have EX2 : Hid (xs ++ [o.k] = (l.take (k + 1)).map (·.k)) := by
        show _ = _
        rw [List.take_add_one, hlk, List.map_append, ← EX.out]; rfl
      have ET := Lib.hid (take_all hlk)
      rw [← EB.out] at ET
      clear hlk EX EB
      cases b with
      | true =>
        rw [Bool.true_and] at ET
        go_wp2_with (first | (go_at_call 4; refine (r_ValidO o _).mono ?_; rintro e w1 ⟨rfl, hb1⟩; obtain ⟨aN, mN, cN, w2, hr, hmN, ON, HBN, hk2⟩ := app_row (x := o.k) (own_below O6.out hb1) (bel_trans HB.out hb1) (by omega); replace d0 := (hb1.cell (p := ⟨g, _, none⟩) hg).trans d0; replace d1 := (hb1.cell (p := ⟨g, _, none⟩) hg).trans d1; replace d2 := (hb1.cell (p := ⟨g, _, none⟩) hg).trans d2; replace d3 := (hb1.cell (p := ⟨g, _, none⟩) hg).trans d3) | (at_builtin; refine app_list rfl rfl rfl rfl hr ?_))
        exact ⟨⟨k + 1, aN, mN, cN, o.ok, xs ++ [o.k], by omega, by go_num, rfl, rfl, ET.out.symm, hmN.out, EX2.out, by have := hmN.out; subst this; exact ON.out, HBN.out⟩, by simp [intOf]; omega⟩
      | false =>
        rw [Bool.false_and] at ET
        obtain ⟨aN, mN, cN, w2, hr, hmN, ON, HBN, hk2⟩ := app_row (x := o.k) O6.out HB.out (by omega)
        go_wp2_with (at_builtin; refine app_list rfl rfl rfl rfl hr ?_)
        exact ⟨⟨k + 1, aN, mN, cN, false, xs ++ [o.k], by omega, by go_num, rfl, rfl, ET.out.symm, hmN.out, EX2.out, by have := hmN.out; subst this; exact ON.out, HBN.out⟩, by simp [intOf]; omega⟩
    · have hkn : k = n := by omega
      have hl : l.take k = l := List.take_of_length_le (by have := hlen.out; omega)
      rw [hl] at EB EX
      have hN : ∀ W, Below wr.heap.size wr W → Ret 5 #[.int .u8 op, .slice a n c] W (enc (node op l)) := fun W hb => c_Node_all op a n c l (by omega) hnc hc HF.out W ((H1.out.below HB.out).below hb)
      have hKi : ∀ W, Below wr.heap.size wr W → Ret 7 #[.int .u8 op, .slice a6 m6 c6] W (kV (kind op (l.map (·.k)))) := fun W hb => by
        have hcc := own_caps O6.out
        rw [← EX.out]
        exact c_Kind' op a6 m6 c6 xs hcc.1 hcc.2 (by have := M6.out; have := congrArg List.length EX.out; rw [List.length_map, ← hlen.out] at this; omega) W ((kinds_one O6.out M6.out).below hb)
      have hlaw := fits_law op l
      generalize node op l = z at hN hlaw
      have BW := Lib.hid HB.out
      obtain ⟨zk, zn, zs, ze⟩ := z
      have hN : ∀ W, Below wr.heap.size wr W → Ret 5 #[.int .u8 op, .slice a n c] W (ov zk zn zs ze) := hN
      simp only at hlaw
      rcases hlaw with hz | ⟨hz, hv, hok, K, hk0, hK⟩
      · subst hz
        clear EB EX O6 M6 hKi hl HB
        go_upto_region 9 with (go_at_call 5; refine (hN _ (Below.refl _ _)).mono ?_; rintro e w1 ⟨rfl, hb1⟩)
        have B1 : Hid (Below wr.heap.size wr (w1.alloc (.cells #[.int .u8 zk, .int .i64 zn, .string zs, .int .i64 1] 31))) := bel_alloc hb1 _
        clear hb1
        go_wp2_with (go_at_call 6; refine (awake _).mono ?_; rintro e w2 ⟨rfl, hb2⟩)
        first | exact bodyPost_ret (v := .bool true) (by simp [results, Tryz.results3, go_sem, *]) rfl ⟨rfl, bel_trans (bel_trans BW.out B1.out) hb2⟩ | (go_ret; exact ⟨rfl, bel_trans (bel_trans BW.out B1.out) hb2⟩)
      · have hz2 : (ze == 1) = false := by simpa using hz
        have hb : b = true := EB.out.trans hv
        subst hb
        rw [hk0] at hKi
        have hVa : ∀ W, Ret 4 #[ov zk zn zs ze] W (.bool true) := fun W => by have h := r_ValidO ⟨zk, zn, zs, ze⟩ W; rwa [hok] at h
        simp only [kV] at hKi
        clear EB EX O6 M6 hl HB hk0 hok hv
        go_upto_region 9 with (go_at_call 5; refine (hN _ (Below.refl _ _)).mono ?_; rintro e w1 ⟨rfl, hb1⟩)
        have B1 : Hid (Below wr.heap.size wr (w1.alloc (.cells #[.int .u8 zk, .int .i64 zn, .string zs, .int .i64 ze] 31))) := bel_alloc hb1 _
        have X1 : Hid (Box (w1.alloc (.cells #[.int .u8 zk, .int .i64 zn, .string zs, .int .i64 ze] 31)) w1.heap.size ⟨zk, zn, zs, ze⟩) := Box.new w1 ⟨zk, zn, zs, ze⟩
        clear hb1 hN
        go_upto_region 14 with (go_at_call 7; refine (hKi _ B1.out).mono ?_; rintro e w2 ⟨rfl, hb2⟩)
        obtain ⟨xl, x0, x1, x2, x3, -, -, -, -⟩ := X1.out.below hb2
        have B2 : Hid (Below wr.heap.size wr w2) := bel_trans B1.out hb2
        have x0 : w2.cell? ⟨w1.heap.size, 0, none⟩ = some (.int .u8 zk) := x0
        have x1 : w2.cell? ⟨w1.heap.size, 1, none⟩ = some (.int .i64 zn) := x1
        have x2 : w2.cell? ⟨w1.heap.size, 2, none⟩ = some (.string zs) := x2
        have x3 : w2.cell? ⟨w1.heap.size, 3, none⟩ = some (.int .i64 ze) := x3
        generalize w1.heap.size = b8 at *
        clear hb2 hKi X1
        by_cases hk1 : zk = 0
        · subst hk1
          clear hK
          go_wp2_with (first | (go_at_call 4; refine (hVa _).mono ?_; rintro e w3 ⟨rfl, hb3⟩; replace x0 := (hb3.cell (p := ⟨b8, _, none⟩) xl).trans x0) | (go_at_call 6; refine (awake _).mono ?_; rintro e w4 ⟨rfl, hb4⟩))
          first | exact bodyPost_ret (v := .bool true) (by simp [results, Tryz.results3, go_sem, *]) rfl ⟨rfl, bel_trans (bel_trans (bel_trans BW.out B2.out) hb3) hb4⟩ | (go_ret; exact ⟨rfl, bel_trans (bel_trans (bel_trans BW.out B2.out) hb3) hb4⟩)
        · have hk3 : zk = K := hK.resolve_left hk1
          subst hk3
          have hk2 : (zk == 0) = false := by simp [hk1]
          clear hK
          go_wp2_with (first | (go_at_call 4; refine (hVa _).mono ?_; rintro e w3 ⟨rfl, hb3⟩; replace x0 := (hb3.cell (p := ⟨b8, _, none⟩) xl).trans x0) | (go_at_call 6; refine (awake _).mono ?_; rintro e w4 ⟨rfl, hb4⟩))
          first | exact bodyPost_ret (v := .bool true) (by simp [results, Tryz.results3, go_sem, *]) rfl ⟨rfl, bel_trans (bel_trans (bel_trans BW.out B2.out) hb3) hb4⟩ | (go_ret; exact ⟨rfl, bel_trans (bel_trans (bel_trans BW.out B2.out) hb3) hb4⟩)
section
open Go.Proofs.YtdbhencjomnjhaaGreatDoor.KD
set_option maxRecDepth 20000 in
theorem open_outs2 {H : Type} {enc : TypeId × Value → H} {W : World} {r : Reach} {b0 base : Nat} {sp : Nat → Bool} {held : Bool} {v : Value} {d : DataW H} {p : List MemPlace}
    (hv : Value.okWide Tryz.prog W r b0 23 v) (h : DataW.Trod enc Tryz.prog W base sp held 23 v d p) :
    ∃ (pa : Option Addr) (n ca : Nat) (l : List Ot), v = .slice pa n ca ∧ Outs W pa n l ∧ (pa = none → ca = 0) ∧ n ≤ ca ∧ n ≤ Rows.uptoBulk d ∧ ca ≤ maxLen ∧ ∀ o ∈ l, Fits o.n := by
  obtain ⟨pa, l, ca, rfl⟩ := okWide_slice Tryz.underlying23 hv
  obtain ⟨fuel, hf⟩ := h
  rcases Go.Deep.open_slice Tryz.underlying23 hf with ⟨h0, _⟩ | ⟨a, len, cap, m, n, D, Pl, hcs, _, hl, hm, hmm, hx0, hx⟩
  · have e : Value.slice pa l ca = .slice none 0 0 := by simpa [Value.cells] using h0
    obtain ⟨rfl, rfl, rfl⟩ : pa = none ∧ l = 0 ∧ ca = 0 := by simpa using e
    exact ⟨none, 0, 0, [], rfl, ⟨rfl, fun k hk => absurd hk (Nat.not_lt_zero _)⟩, fun _ => rfl, by omega, by omega, Nat.zero_le _, fun o ho => by cases ho⟩
  · have e : Value.slice pa l ca = .slice (some a) len cap := by simpa [Value.cells] using hcs
    obtain ⟨rfl, rfl, rfl⟩ : pa = some a ∧ l = len ∧ ca = cap := by simpa using e
    have hlm : l ≤ m := by rw [hmm]; split <;> omega
    have each : ∀ i, i < l → ∃ q : Ot, W.cell? (a.add (i * 4)) = some (.int .u8 q.k) ∧ W.cell? (a.add (i * 4 + 1)) = some (.int .i64 q.n) ∧ W.cell? (a.add (i * 4 + 2)) = some (.string q.s) ∧ W.cell? (a.add (i * 4 + 3)) = some (.int .i64 q.e) ∧ Fits q.n := by
      intro i hi
      obtain ⟨cs', h1, h2⟩ := hx i (by omega)
      rw [cellsOut] at h1
      obtain ⟨_, hlen, hcell⟩ := World.cells?_some h1
      obtain ⟨xs, n', -, hxs, -, hlen2, hg⟩ := DataW.trod_struct Tryz.underlying31 h2
      obtain ⟨y0, y1, rfl⟩ := two_of (show xs.length = 2 from hlen2)
      match cs', hlen with
      | [v0, v1, v2, v3], _ =>
        have g0 : DataW.trod enc Tryz.prog W base sp held n' 28 (([v0, v1, v2, v3].drop 0).take (Tryz.prog.cellsOf 28)) = some y0 := hg 0 _ rfl
        have g1 : DataW.trod enc Tryz.prog W base sp held n' 29 (([v0, v1, v2, v3].drop 3).take (Tryz.prog.cellsOf 29)) = some y1 := hg 1 _ rfl
        rw [cellsVal] at g0
        rw [cellsErr] at g1
        obtain ⟨z0, z1, z2, k, hxy, _, u0, u1, u2⟩ := Go.Deep.trod_struct3 Tryz.underlying28 g0
        simp only [cellsKn, cellsI64, cellsStr, List.drop, List.take] at u0 u1 u2
        obtain ⟨q0, e0, _, w0⟩ := DataW.trod_int Tryz.underlying26 u0
        obtain ⟨q1, e1, _, w1⟩ := DataW.trod_int Tryz.underlying2 u1
        obtain ⟨q2, e2, _, w2⟩ := DataW.trod_string Tryz.underlying9 u2
        simp only [List.drop, List.take] at g1
        obtain ⟨q3, e3, _, _⟩ := DataW.trod_int Tryz.underlying29 g1
        simp only [List.cons.injEq, and_true] at e0 e1 e2 e3
        subst e0; subst e1; subst e2; subst e3
        have c0 := hcell 0 (by omega)
        have c1 := hcell 1 (by omega)
        have c2 := hcell 2 (by omega)
        have c3 := hcell 3 (by omega)
        rw [Go.Deep.add_add] at c0 c1 c2 c3
        exact ⟨⟨q0, q1, q2, q3⟩, by simpa using c0, by simpa using c1, by simpa using c2, by simpa using c3, bounds_i64 w1⟩
    obtain ⟨q, hq⟩ := Go.Deep.choose_lt each
    obtain ⟨B, O, spot⟩ := a
    have hs : ∀ i, i < l → spot = none := fun i hi => by
      have h := World.cell?_spot (hq 0 (by omega)).1
      simpa [Addr.add] using h
    refine ⟨_, l, ca, (List.range l).map q, rfl, ⟨by simp, fun i hi => ?_⟩, fun h => (by cases h), hl, ?_, hm, fun o ho => ?_⟩
    · have e := hs i hi
      subst e
      obtain ⟨c0, c1, c2, c3, -⟩ := hq i hi
      rw [Addr.add_lit] at c0 c1 c2 c3
      refine ⟨B, O, q i, rfl, by simp [hi], World.block_lt_of_cell? _ _ c0, c0, ?_, ?_, ?_⟩
      · rw [Nat.add_assoc]; exact c1
      · rw [Nat.add_assoc]; exact c2
      · rw [Nat.add_assoc]; exact c3
    · simp only [Prod.mk.injEq] at hx0
      rw [hx0.1, Rows.uptoBulk]
      have := bulk_all ((List.range l).map D)
      simp only [List.length_map, List.length_range] at this
      omega
    · obtain ⟨i, hi, rfl⟩ := List.mem_map.1 ho
      exact (hq i (List.mem_range.1 hi)).2.2.2.2
end
end Go.Proofs.YtdbhencjomnjhaaGreatDoor.U
namespace Go.Proofs.YtdbhencjomnjhaaGreatDoor.U
open Go.ChangeShapes Go.WideShapes Go.ChangeAt Go.RowKit Go.Proofs.YtdbhencjomnjhaaGreatDoor.V Go.Proofs.YtdbhencjomnjhaaGreatDoor.K Go.Proofs.YtdbhencjomnjhaaGreatDoor.T Go.Proofs.YtdbhencjomnjhaaGreatDoor.KD
theorem bytesOut : Tryz.prog.bytesOf 31 = 40 := by kernel_rfl
set_option maxRecDepth 20000 in
theorem open_outs3 {H : Type} {enc : TypeId × Value → H} {W : World} {r : Reach} {b0 base : Nat} {sp : Nat → Bool} {held : Bool} {v : Value} {d : DataW H} {p : List MemPlace}
    (hv : Value.okWide Tryz.prog W r b0 23 v) (h : DataW.Trod enc Tryz.prog W base sp held 23 v d p) (hz : ∀ x ∈ d.weights Tryz.prog 23, x ≤ reachBytes) :
    ∃ (pa : Option Addr) (n ca : Nat) (l : List Ot), v = .slice pa n ca ∧ Outs W pa n l ∧ (pa = none → ca = 0) ∧ n ≤ ca ∧ 40 * n ≤ 140737488351232 ∧ ca ≤ maxLen ∧ ∀ o ∈ l, Fits o.n := by
  obtain ⟨pa, l, ca, rfl⟩ := okWide_slice Tryz.underlying23 hv
  obtain ⟨fuel, hf⟩ := h
  rcases Go.Deep.open_slice Tryz.underlying23 hf with ⟨h0, _⟩ | ⟨a, len, cap, m, n, D, Pl, hcs, _, hl, hm, hmm, hx0, hx⟩
  · have e : Value.slice pa l ca = .slice none 0 0 := by simpa [Value.cells] using h0
    obtain ⟨rfl, rfl, rfl⟩ : pa = none ∧ l = 0 ∧ ca = 0 := by simpa using e
    exact ⟨none, 0, 0, [], rfl, ⟨rfl, fun k hk => absurd hk (Nat.not_lt_zero _)⟩, fun _ => rfl, by omega, by omega, Nat.zero_le _, fun o ho => by cases ho⟩
  · have e : Value.slice pa l ca = .slice (some a) len cap := by simpa [Value.cells] using hcs
    obtain ⟨rfl, rfl, rfl⟩ : pa = some a ∧ l = len ∧ ca = cap := by simpa using e
    have hlm : l ≤ m := by rw [hmm]; split <;> omega
    have each : ∀ i, i < l → ∃ q : Ot, W.cell? (a.add (i * 4)) = some (.int .u8 q.k) ∧ W.cell? (a.add (i * 4 + 1)) = some (.int .i64 q.n) ∧ W.cell? (a.add (i * 4 + 2)) = some (.string q.s) ∧ W.cell? (a.add (i * 4 + 3)) = some (.int .i64 q.e) ∧ Fits q.n := by
      intro i hi
      obtain ⟨cs', h1, h2⟩ := hx i (by omega)
      rw [cellsOut] at h1
      obtain ⟨_, hlen, hcell⟩ := World.cells?_some h1
      obtain ⟨xs, n', -, hxs, -, hlen2, hg⟩ := DataW.trod_struct Tryz.underlying31 h2
      obtain ⟨y0, y1, rfl⟩ := two_of (show xs.length = 2 from hlen2)
      match cs', hlen with
      | [v0, v1, v2, v3], _ =>
        have g0 : DataW.trod enc Tryz.prog W base sp held n' 28 (([v0, v1, v2, v3].drop 0).take (Tryz.prog.cellsOf 28)) = some y0 := hg 0 _ rfl
        have g1 : DataW.trod enc Tryz.prog W base sp held n' 29 (([v0, v1, v2, v3].drop 3).take (Tryz.prog.cellsOf 29)) = some y1 := hg 1 _ rfl
        rw [cellsVal] at g0
        rw [cellsErr] at g1
        obtain ⟨z0, z1, z2, k, hxy, _, u0, u1, u2⟩ := Go.Deep.trod_struct3 Tryz.underlying28 g0
        simp only [cellsKn, cellsI64, cellsStr, List.drop, List.take] at u0 u1 u2
        obtain ⟨q0, e0, _, w0⟩ := DataW.trod_int Tryz.underlying26 u0
        obtain ⟨q1, e1, _, w1⟩ := DataW.trod_int Tryz.underlying2 u1
        obtain ⟨q2, e2, _, w2⟩ := DataW.trod_string Tryz.underlying9 u2
        simp only [List.drop, List.take] at g1
        obtain ⟨q3, e3, _, _⟩ := DataW.trod_int Tryz.underlying29 g1
        simp only [List.cons.injEq, and_true] at e0 e1 e2 e3
        subst e0; subst e1; subst e2; subst e3
        have c0 := hcell 0 (by omega)
        have c1 := hcell 1 (by omega)
        have c2 := hcell 2 (by omega)
        have c3 := hcell 3 (by omega)
        rw [Go.Deep.add_add] at c0 c1 c2 c3
        exact ⟨⟨q0, q1, q2, q3⟩, by simpa using c0, by simpa using c1, by simpa using c2, by simpa using c3, bounds_i64 w1⟩
    obtain ⟨q, hq⟩ := Go.Deep.choose_lt each
    obtain ⟨B, O, spot⟩ := a
    have hs : ∀ i, i < l → spot = none := fun i hi => by
      have h := World.cell?_spot (hq 0 (by omega)).1
      simpa [Addr.add] using h
    refine ⟨_, l, ca, (List.range l).map q, rfl, ⟨by simp, fun i hi => ?_⟩, fun h => (by cases h), hl, ?_, hm, fun o ho => ?_⟩
    · have e := hs i hi
      subst e
      obtain ⟨c0, c1, c2, c3, -⟩ := hq i hi
      rw [Addr.add_lit] at c0 c1 c2 c3
      refine ⟨B, O, q i, rfl, by simp [hi], World.block_lt_of_cell? _ _ c0, c0, ?_, ?_, ?_⟩
      · rw [Nat.add_assoc]; exact c1
      · rw [Nat.add_assoc]; exact c2
      · rw [Nat.add_assoc]; exact c3
    · have hx1 := hx0
      simp only [Prod.mk.injEq] at hx1
      have hdy := hx1.1
      have := hz ((((List.range l).map D).length + ((List.range (m - l)).map fun j => D (l + j)).length) * Tryz.prog.bytesOf 31) (by
        rw [hdy, DataW.weights, Tryz.underlying23]
        exact List.mem_cons_self ..)
      have hr : reachBytes = 140737488351232 := rfl
      rw [bytesOut] at this
      simp at this
      omega
    · obtain ⟨i, hi, rfl⟩ := List.mem_map.1 ho
      exact (hq i (List.mem_range.1 hi)).2.2.2.2
end Go.Proofs.YtdbhencjomnjhaaGreatDoor.U
namespace Go.Proofs.YtdbhencjomnjhaaGreatDoor.L
open Go.ChangeShapes Go.WideShapes Go.ChangeAt Go.RowKit
def laidList : List (String × DataW Unit) := [("unicode/utf8.acceptRanges", Rows.laid_unicode_utf8_acceptRanges), ("unicode/utf8.first", Rows.laid_unicode_utf8_first)]
theorem plainList : (laidList.all fun x => x.2.handleName?.isNone) = true := by kernel_rfl
theorem laidOut : laidOutB Tryz.prog = true := by kernel_rfl
theorem own : ownKnob Tryz.prog.godebug = none := by kernel_rfl
end Go.Proofs.YtdbhencjomnjhaaGreatDoor.L
