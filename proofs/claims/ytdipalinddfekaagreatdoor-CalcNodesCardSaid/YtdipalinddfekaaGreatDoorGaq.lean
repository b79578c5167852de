/- The iterator of slices.Chunk over outs, with chunks of two. -/
import Derived.Test.YtdipalinddfekaaGreatDoorGak
import Derived.Test.YtdipalinddfekaaGreatDoorGad
import Derived.Test.YtdipalinddfekaaGreatDoorGac
import Derived.Laws.EntriesVeiled
namespace Go.Proofs.YtdipalinddfekaaGreatDoor.K
open Go.ChangeShapes Go.WideShapes Go.ChangeAt Go.RowKit Go.Proofs.YtdipalinddfekaaGreatDoor.V Go.Shelf
attribute [local go_sem] Oper.semAt_some
set_option maxRecDepth 100000 in
set_option maxHeartbeats 2000000 in
theorem chunkO_in (f : Nat) (hn1 : 1 ≤ f) (l Bs Bn g p n c : Nat) (hnc : n ≤ c) (hc : c ≤ maxLen) (hsz : n ≤ 140737488351232) (a : Option Addr) (ha : 0 < n → a = some ⟨g, p, none⟩)
    (J Jx : List (Fin (chunks n)) → World → Prop) (hD : ∀ s W m, J s W → J s (World.drewN W m))
    (hY : ∀ pre (x : Fin (chunks n)) W, J pre W → pre.length < chunks n → YieldAt Fence.wide (f - 1) Tryz.prog l #[.slice (some ⟨g, p + 2 * x.val * 4, none⟩) (wid n x.val) (wid n x.val)] W fun e W' =>
      (e = .returned (.bool true) ∧ J (pre ++ [x]) W' ∧ Kept Bs Bn W W') ∨ (e = .returned (.bool false) ∧ Jx (pre ++ [x]) W'))
    (W : World) (hBs : W.cell? ⟨Bs, 0, none⟩ = some (.slice a n c)) (hBn : W.cell? ⟨Bn, 0, none⟩ = some (.int .i64 2)) (h0 : J [] W) :
    CallsIn Fence.wide f Tryz.prog 81 #[.func (.yield l) #[] #[], .pointer (some ⟨Bs, 0, none⟩), .pointer (some ⟨Bn, 0, none⟩)] W fun e W' => (∃ v, e = .returned v) ∧
      ((∃ ys, ys = List.finRange (chunks n) ∧ J ys W') ∨ (∃ k, Jx (firsts n k) W')) := by
  have HC : c ≤ 9223372036854775807 := by unfold maxLen at hc; omega
  have HY := Lib.hid hY
  have HD := Lib.hid hD
  clear hY hD
  refine callsIn_of_wp Tryz.func81 rfl trivial ?_ rfl
  simp only [Tryz.ntmps81, List.size_toArray, List.length_cons, List.length_nil, Nat.reduceAdd, Nat.reduceSub, Array.replicate_succ, Array.replicate_zero, List.push_toArray, List.append_toArray, List.nil_append, List.cons_append]
  gi_wp2
  gi_loopw [4] (fun s4 wr => ∃ (k : Nat), k ≤ chunks n ∧ s4 = .int .i64 ((2 * k : Nat) : Int) ∧ Hid (J (firsts n k) wr) ∧ wr.cell? ⟨Bs, 0, none⟩ = some (.slice a n c) ∧ wr.cell? ⟨Bn, 0, none⟩ = some (.int .i64 2))
    (fun s4 _ => n + 2 - (intOf s4).toNat)
  case atStart => exact ⟨0, by omega, rfl, h0, hBs, hBn⟩
  case round =>
    obtain ⟨k, hk, rfl, HJ, hbs, hbn⟩ := hrel
    unfold chunks at hk
    by_cases hlt : 2 * k < n
    · obtain rfl := ha (by omega)
      have hkc : k < chunks n := by unfold chunks; omega
      have hw : (2 * (k : Int) + min 2 ((n - 2 * k : Nat) : Int)).toNat - 2 * k = wid n k := by unfold wid; omega
      have hfl : (firsts n k).length < chunks n := by unfold firsts; simp; omega
      gi_wp2
      gi_quiet (fail)
      obtain ⟨fn, tmps, assign, body, hy, hR⟩ := HY.out (firsts n k) ⟨k, hkc⟩ (wr.drewN nq) (HD.out _ _ nq HJ.out) hfl
      gi_wp2
      refine hR.mono ?_
      rintro e W3 (⟨rfl, hJ3, hk3⟩ | ⟨rfl, hJx3⟩)
      · have HJ3 : Hid (J (firsts n (k + 1)) W3) := by rw [firsts_succ hkc]; exact hJ3
        have hbs3 : W3.cell? ⟨Bs, 0, none⟩ = some (.slice (some ⟨g, p, none⟩) n c) := hk3.1.trans hbs
        have hbn3 : W3.cell? ⟨Bn, 0, none⟩ = some (.int .i64 2) := hk3.2.trans hbn
        clear hJ3 HJ hk3
        gi_wp2
        go_roundw
        case rel => exact ⟨k + 1, by omega, by go_num, HJ3.out, hbs3, hbn3⟩
        case measure => simp [intOf]; omega
      · have HX3 : Hid (Jx (firsts n (k + 1)) W3) := by rw [firsts_succ hkc]; exact hJx3
        clear HJ
        gi_wp2
        refine bodyPost_ret (results_none rfl _ _ _) rfl ?_
        exact ⟨⟨_, rfl⟩, .inr ⟨_, HX3.out⟩⟩
    · have e : decide (((2 * k : Nat) : Int) < (n : Int)) = false := by simp; omega
      have e2 : firsts n k = List.finRange (chunks n) := firsts_all (by unfold chunks; omega)
      have HJ2 : Hid (J (List.finRange (chunks n)) wr) := e2 ▸ HJ.out
      clear HJ e2
      gi_wp2
      go_end0
      exact ⟨⟨_, rfl⟩, .inl ⟨_, rfl, HJ2.out⟩⟩
theorem c_ChunkO (a : Option Addr) (n c : Nat) (w : World) : Calls Tryz.prog 53 #[.slice a n c, .int .i64 2] w fun e w' => e = .returned (.func (.func 81) #[] #[.pointer (some ⟨w.heap.size, 0, none⟩), .pointer (some ⟨w.heap.size + 1, 0, none⟩)]) ∧ (w.alloc (.cells #[.slice a n c] 23)).alloc (.cells #[.int .i64 2] 3) = w' := by
  go_enter Tryz.func53, Tryz.ntmps53
  go_wp2
  go_ret
  exact ⟨rfl, rfl⟩
theorem seqO (m : Nat) (hm : 1 ≤ m) (Bs Bn g p n c : Nat) (hnc : n ≤ c) (hc : c ≤ maxLen) (hsz : n ≤ 140737488351232) (a : Option Addr) (ha : 0 < n → a = some ⟨g, p, none⟩) (w : World) (hB : Bs < w.heap.size) (hB2 : Bn < w.heap.size)
    (hBs : w.cell? ⟨Bs, 0, none⟩ = some (.slice a n c)) (hBn : w.cell? ⟨Bn, 0, none⟩ = some (.int .i64 2)) :
    SeqStopsK Fence.wide m Tryz.prog 81 #[.pointer (some ⟨Bs, 0, none⟩), .pointer (some ⟨Bn, 0, none⟩)] (fun x : Fin (chunks n) => #[.slice (some ⟨g, p + 2 * x.val * 4, none⟩) (wid n x.val) (wid n x.val)]) (Kept Bs Bn)
      (fun ys => ys = List.finRange (chunks n)) (fun pre => ∃ k, pre = firsts n k) (chunks n) w :=
  fun l J Jx W hW hJ _ hY h0 =>
    (chunkO_in m hm l Bs Bn g p n c hnc hc hsz a ha J Jx (fun s W m hs => hJ s W _ none hs ⟨rfl, rfl, rfl, Nat.le_refl _, fun _ _ _ => rfl⟩ (fun r e => by cases e)) hY W ((hW.cell (p := ⟨Bs, 0, none⟩) hB).trans hBs) ((hW.cell (p := ⟨Bn, 0, none⟩) hB2).trans hBn) h0).mono
      fun e W' ⟨h1, h2⟩ => ⟨h1, h2.imp id fun ⟨k, hk⟩ => ⟨_, ⟨k, rfl⟩, hk⟩⟩
/-! ### What a chunk gives -/
def passAt (l : List Ot) (j : Nat) : Prop := 2 * j + 1 < l.length ∧ (l.getD (2 * j) nul).e = 0 ∧ isT (l.getD (2 * j) nul) = false
def outAt (l : List Ot) (j : Nat) : Ot := if 2 * j + 1 < l.length then (if (l.getD (2 * j) nul).e ≠ 0 then l.getD (2 * j) nul else l.getD (2 * j + 1) nul) else l.getD (2 * j) nul
theorem chunks_cons (x y : Ot) (t : List Ot) : chunks (x :: y :: t).length = chunks t.length + 1 := by simp [chunks]; omega
theorem pass_cons (x y : Ot) (t : List Ot) (j : Nat) : passAt (x :: y :: t) (j + 1) ↔ passAt t j := by
  unfold passAt
  have : 2 * (j + 1) = 2 * j + 1 + 1 := by omega
  simp only [this, List.length_cons, List.getD_cons_succ]
  constructor
  · rintro ⟨h1, h2⟩; exact ⟨by omega, h2⟩
  · rintro ⟨h1, h2⟩; exact ⟨by omega, h2⟩
theorem out_cons (x y : Ot) (t : List Ot) (j : Nat) : outAt (x :: y :: t) (j + 1) = outAt t j := by
  unfold outAt
  have : 2 * (j + 1) = 2 * j + 1 + 1 := by omega
  simp only [this, List.length_cons, List.getD_cons_succ]
  by_cases h : 2 * j + 1 < t.length
  · rw [if_pos h, if_pos (by omega)]
  · rw [if_neg h, if_neg (by omega)]
theorem choose_skip {x y : Ot} {t : List Ot} (h : passAt (x :: y :: t) 0) : choose (x :: y :: t) = choose t := by
  obtain ⟨-, h1, h2⟩ := h
  simp only [Nat.mul_zero, List.getD_cons_zero] at h1 h2
  rw [choose, if_neg (by simp [h1]), if_neg (by simp [h2])]
theorem choose_done : ∀ l : List Ot, (∀ j, j < chunks l.length → passAt l j) → choose l = nul
  | [], _ => rfl
  | [x], h => by
    have := (h 0 (by simp [chunks])).1
    simp at this
  | x :: y :: t, h => by
    rw [choose_skip (h 0 (by rw [chunks_cons]; omega))]
    exact choose_done t fun j hj => (pass_cons x y t j).1 (h (j + 1) (by rw [chunks_cons]; omega))
theorem choose_stop : ∀ (l : List Ot) (k : Nat), k < chunks l.length → (∀ j, j < k → passAt l j) → ¬ passAt l k → choose l = outAt l k
  | [], k, hk, _, _ => by simp [chunks] at hk
  | [x], k, hk, _, _ => by
    have : k = 0 := by simp [chunks] at hk; omega
    subst this
    rfl
  | x :: y :: t, 0, _, _, hn => by
    unfold passAt at hn
    simp only [Nat.mul_zero, List.getD_cons_zero, List.length_cons] at hn
    have hlt : 2 * 0 + 1 < (x :: y :: t).length := by simp
    unfold outAt
    rw [if_pos hlt, choose]
    simp only [Nat.mul_zero, List.getD_cons_zero, Nat.zero_add, List.getD_cons_succ]
    by_cases h1 : x.e = 0
    · cases h2 : isT x with
      | true => simp [h1]
      | false => exact absurd ⟨by omega, h1, h2⟩ hn
    · rw [if_pos h1, if_pos h1]
  | x :: y :: t, k + 1, hk, hp, hn => by
    rw [choose_skip (hp 0 (by omega)), out_cons]
    exact choose_stop t k (by rw [chunks_cons] at hk; omega) (fun j hj => (pass_cons x y t j).1 (hp (j + 1) (by omega))) (fun h => hn ((pass_cons x y t k).2 h))
theorem Box.keptO {A B : World} {b : Nat} {o : Ot} {row : Option Nat} (h : Box A b o) (hg : A.grownBy B row) (hr : ∀ r, row = some r → ∃ o : Obj, A.heap[r]? = some o ∧ o.isCells = false) : Box B b o :=
  ⟨Nat.lt_of_lt_of_le h.lt hg.size, cell_kept h.c0 hg hr, cell_kept h.c1 hg hr, cell_kept h.c2 hg hr, cell_kept h.c3 hg hr, (frozen_kept h.c0 hg hr).trans h.f0, (frozen_kept h.c1 hg hr).trans h.f1, (frozen_kept h.c2 hg hr).trans h.f2, (frozen_kept h.c3 hg hr).trans h.f3⟩
theorem others_below {W W' : World} (hb : Below W.heap.size W W') : KeepsOthers W W' := KeepsOthers.of_grownBy (row := none) ⟨hb.os, hb.tape, hb.output, hb.size, fun k hk _ => hb.block k hk⟩ (fun j o e => by cases e)
theorem others_put (W : World) (b : Nat) (o : Ot) : KeepsOthers W (put4 W b o) := (KeepsOthers.setCell _ _ _).trans ((KeepsOthers.setCell _ _ _).trans ((KeepsOthers.setCell _ _ _).trans (KeepsOthers.setCell _ _ _)))
theorem below_dr (W : World) : Below W.heap.size W W.drew := ⟨rfl, rfl, rfl, Nat.le_refl _, fun _ _ => rfl⟩
theorem getD_of {l : List Ot} {k : Nat} {o : Ot} (h : l[k]? = some o) : l.getD k nul = o := by rw [List.getD_eq_getElem?_getD, h]; rfl
theorem firsts_val {n k i : Nat} {x : Fin (chunks n)} (h : (firsts n k)[i]? = some x) : x.val = i := by
  unfold firsts at h
  rw [List.getElem?_take] at h
  split at h
  · rw [List.getElem?_eq_some_iff] at h
    obtain ⟨h1, rfl⟩ := h
    simp
  · cases h
theorem stop_is {l : List Ot} {n k : Nat} (hn : n = l.length) {ini : List (Fin (chunks n))} {y : Fin (chunks n)} (h : firsts n k = ini ++ [y]) (hp : ∀ x ∈ ini, passAt l x.val) (hq : ¬ passAt l y.val) : choose l = outAt l y.val := by
  have hy : y.val = ini.length := firsts_val (k := k) (i := ini.length) (by rw [h]; simp)
  have hl := y.isLt
  refine choose_stop l y.val (by rw [← hn]; exact hl) (fun j hj => ?_) hq
  have hji : j < ini.length := by omega
  have hx : (firsts n k)[j]? = some ini[j] := by rw [h, List.getElem?_append_left hji]; simp
  have he := firsts_val hx
  have hm := hp _ (List.getElem_mem hji)
  rw [he] at hm
  exact hm
theorem is_T {o : Ot} (h : o.ok = true) (ht : isT o = true) : o = bo true := by
  obtain ⟨k, n, s, e⟩ := o
  simp only [isT, Bool.and_eq_true, beq_iff_eq] at ht
  obtain ⟨he, hk, hn⟩ := ht
  subst he; subst hk; subst hn
  unfold Ot.ok vd at h
  simp at h
  rw [ba_nil h]
  rfl
set_option maxRecDepth 100000 in
set_option maxHeartbeats 4000000 in
theorem c_choose (a : Option Addr) (n c : Nat) (l : List Ot) (hnc : n ≤ c) (hc : c ≤ maxLen) (hsz : n ≤ 140737488351232) (hv : l.all Ot.ok = true) (w : World) (h : Outs w a n l) : Ret 27 #[.slice a n c] w (enc (choose l)) := by
  have HL := Lib.hid h
  have HLn := Lib.hid h.len
  have HV := Lib.hid hv
  have hgp : ∃ g p, 0 < n → a = some ⟨g, p, none⟩ := by
    by_cases h0 : 0 < n
    · obtain ⟨g, p, o, h1, -⟩ := h.at_ 0 h0
      exact ⟨g, p, fun _ => h1⟩
    · exact ⟨0, 0, fun e => absurd e h0⟩
  obtain ⟨g, p, hgp⟩ := hgp
  clear h hv
  refine (callsIn_wide (n := 3)).1 ?_
  refine callsIn_of_wp_marks Tryz.func27 rfl trivial ?_ rfl
  simp only [Tryz.ntmps27, List.size_toArray, List.length_cons, List.length_nil, Nat.reduceAdd, Nat.reduceSub, Array.replicate_succ, Array.replicate_zero, List.push_toArray, List.append_toArray, List.nil_append, List.cons_append]
  gi_wp2_with (refine ⟨trivial, ?_⟩; gi_at_call 53; refine (callsIn_wide.2 (c_ChunkO _ _ _ _)).mono ?_; rintro e w' ⟨rfl, rfl⟩)
  have hB0 : Below w.heap.size w (((w.alloc (.cells #[.int .u8 0, .int .i64 0, .string ⟨#[]⟩, .int .i64 0] 29)).alloc (.cells #[.slice a n c] 23)).alloc (.cells #[.int .i64 2] 3)) := by repeat (first | exact Below.refl _ _ | assumption | exact Go.Proofs.YtdipalinddfekaaGreatDoor.V.below_drewN _ _ | (refine bel_trans ?_ (Go.Proofs.YtdipalinddfekaaGreatDoor.V.below_drewN _ _)) | (refine bel_trans ?_ (by assumption)) | (with_reducible apply bel_alloc) | (with_reducible apply Below.drew) | apply bel_alloc | apply Below.drew | refine bel_set ?_ (by simp; try omega) _)
  refine wpIn_rangeFunc_ownF rfl (by omega) (gf := 81) (lb := #[.pointer (some ⟨w.heap.size + 1, 0, none⟩), .pointer (some ⟨w.heap.size + 1 + 1, 0, none⟩)]) rfl trivial (enters_of Tryz.func81 (by kernel_rfl) rfl)
    (seqO (3 - 1) (by omega) (w.heap.size + 1) (w.heap.size + 1 + 1) g p n c hnc hc hsz a hgp _ (by simp) (by simp) (by simp [go_sem]) (by simp [go_sem])) kept_t (kept_b (by simp) (by simp)) (Below.refl _ _) (fun _ => rfl)
    (fun pre W => ((∀ x ∈ pre, passAt l x.val) ∧ Box W w.heap.size nul ∧ w.heap.size + 3 ≤ W.heap.size) ∧ Below w.heap.size w W)
    (fun c pre W => (c = .ret ∧ (∃ ini y, pre = ini ++ [y] ∧ (∀ x ∈ ini, passAt l x.val) ∧ ¬ passAt l y.val ∧ Box W w.heap.size (outAt l y.val))) ∧ Below w.heap.size w W)
    (OwnFrom.and (Own.from (fun s A B row hs hg hr => ⟨hs.1, hs.2.1.keptO hg hr, Nat.le_trans hs.2.2 hg.size⟩) _) (ownFrom_below (Nat.le_refl _) (by simp; omega)))
    (fun c => OwnFrom.and (Own.from (fun s A B row hs hg hr => by
      obtain ⟨h1, ini, y, h2, h3, h4, h5⟩ := hs
      exact ⟨h1, ini, y, h2, h3, h4, h5.keptO hg hr⟩) _) (ownFrom_below (Nat.le_refl _) (by simp; omega)))
    ⟨⟨by simp, ((Box.new w nul).alloc _).alloc _, by simp⟩, hB0⟩
    (fun y => { tmps := #[.slice a n c, undef, .pointer (some ⟨w.heap.size, 0, none⟩), .slice (some ⟨g, p + 2 * y.val * 4, none⟩) (wid n y.val) (wid n y.val), undef, .slice a n c, .func (.func 81) #[] #[.pointer (some ⟨w.heap.size + 1, 0, none⟩), .pointer (some ⟨w.heap.size + 1 + 1, 0, none⟩)], .slice (some ⟨g, p + 2 * y.val * 4, none⟩) (wid n y.val) (wid n y.val), undef, undef, undef, undef, undef, undef, undef, undef, undef, undef, undef, undef, undef, undef, undef, undef, undef, undef, undef, undef], defers := [] }) ?assign ?body ?done ?stop
  case assign =>
    intro l x W K hK
    gi_wp2
    exact hK
  case body =>
    rintro lk pre y W ⟨⟨hp, hX, hbs⟩, hB⟩ hpre
    have HP := Lib.hid hp
    clear hp
    have hyl := y.isLt
    unfold chunks at hyl
    obtain rfl := hgp (by omega)
    obtain ⟨hx, b0, b1, b2, b3, f0, f1, f2, f3⟩ := hX
    have HX : Hid (Box W w.heap.size nul) := ⟨hx, b0, b1, b2, b3, f0, f1, f2, f3⟩
    obtain ⟨g1, p1, x0, e1, hx0, hg1, c0, c1, c2, c3⟩ := (HL.out.below hB).at_ (2 * y.val) (by omega)
    cases e1
    have d0 := getD_of hx0
    by_cases h2 : 2 * y.val + 1 < n
    · have hw : wid n y.val = 2 := by unfold wid; omega
      rw [hw]
      obtain ⟨g2, p2, x1, e2, hx1, hg2, m0, m1, m2, m3⟩ := (HL.out.below hB).at_ (2 * y.val + 1) (by omega)
      cases e2
      have d1 := getD_of hx1
      rw [show p + (2 * y.val + 1) * 4 = p + 2 * y.val * 4 + 4 by omega] at m0 m1 m2 m3
      by_cases he : x0.e = 0
      · cases hT : isT x0 with
        | true =>
          have hxe := is_T (List.all_eq_true.1 HV.out x0 (List.mem_of_getElem? hx0)) hT
          have hN : Hid (¬ passAt l y.val) := by
            rintro ⟨-, -, h3⟩
            rw [d0, hT] at h3
            cases h3
          have hO : Hid (outAt l y.val = x1) := by
            show _ = _
            unfold outAt
            rw [if_pos (by rw [← HLn.out]; exact h2), d0, d1, if_neg (by simp [he])]
          subst hxe
          have hc0 : W.cell? ⟨g, p + 2 * y.val * 4, none⟩ = some (.int .u8 3) := c0
          have hc1 : W.cell? ⟨g, p + 2 * y.val * 4 + 1, none⟩ = some (.int .i64 1) := c1
          have hc2 : W.cell? ⟨g, p + 2 * y.val * 4 + 2, none⟩ = some (.string ⟨#[]⟩) := c2
          have hc3 : W.cell? ⟨g, p + 2 * y.val * 4 + 3, none⟩ = some (.int .i64 0) := c3
          clear hx0 hx1 d0 d1 he hw hT c0 c1 c2 c3
          gi_wp2
          refine region_round (by kernel_rfl) (noDefer_spec (by kernel_rfl)) ?_
          refine wpAnyIn_ready (rs := [0, 1]) (by kernel_rfl) (by simp) (AllReadyIn.cons rfl (fun K hK => ?_) (AllReadyIn.cons rfl (fun K hK => ?_) AllReadyIn.nil))
          · go_simp
            refine hK _ _ ?_; clear hK K
            refine wpAnyIn_ready (rs := [1]) (by kernel_rfl) (by simp) (AllReadyIn.cons rfl (fun K hK => ?_) AllReadyIn.nil)
            go_simp
            refine ⟨trivial, (callsIn_wide.2 (c_truth_t _)).mono ?_⟩
            rintro e w4 ⟨rfl, hb4⟩
            have hBW : Below W.heap.size W w4 := by repeat (first | exact Below.refl _ _ | assumption | exact Go.Proofs.YtdipalinddfekaaGreatDoor.V.below_drewN _ _ | (refine bel_trans ?_ (Go.Proofs.YtdipalinddfekaaGreatDoor.V.below_drewN _ _)) | (refine bel_trans ?_ (by assumption)) | (with_reducible apply bel_alloc) | (with_reducible apply Below.drew) | apply bel_alloc | apply Below.drew | refine bel_set ?_ (by simp; try omega) _)
            have YC := (Box.new W (bo true)).below (show Below (W.alloc (.cells #[.int .u8 3, .int .i64 1, .string ⟨#[]⟩, .int .i64 0] 29)).heap.size (W.alloc (.cells #[.int .u8 3, .int .i64 1, .string ⟨#[]⟩, .int .i64 0] 29)) w4 from bel_trans (below_dr _) hb4)
            obtain ⟨yl, y0, y1, y2, y3, -, -, -, -⟩ := YC
            change w4.cell? _ = some (.int .u8 3) at y0
            change w4.cell? _ = some (.int .i64 1) at y1
            change w4.cell? _ = some (.string ⟨#[]⟩) at y2
            change w4.cell? _ = some (.int .i64 0) at y3
            replace m0 := (hBW.cell (p := ⟨g, _, none⟩) hg2).trans m0
            replace m1 := (hBW.cell (p := ⟨g, _, none⟩) hg2).trans m1
            replace m2 := (hBW.cell (p := ⟨g, _, none⟩) hg2).trans m2
            replace m3 := (hBW.cell (p := ⟨g, _, none⟩) hg2).trans m3
            obtain ⟨hx, b0, b1, b2, b3, f0, f1, f2, f3⟩ := HX.out.below hBW
            have HW := Lib.hid hBW
            clear hb4 hBW
            refine hK _ _ ?_; clear hK K
            refine wpAnyIn_ready (rs := [2]) (by kernel_rfl) (by simp) (AllReadyIn.cons rfl (fun K hK => ?_) AllReadyIn.nil)
            go_simp
            refine hK _ _ ?_; clear hK K
            refine wpAnyIn_done (by kernel_rfl) ?_ _
            gi_wp2
            exact ⟨(others_below HW.out).trans (others_put _ _ x1), ⟨rfl, pre, y, rfl, HP.out, hN.out, by rw [hO.out]; exact (HX.out.below HW.out).put x1⟩, put4_below (bel_trans hB HW.out) (Nat.le_refl _) x1⟩
          · go_simp
            refine ⟨trivial, (callsIn_wide.2 (c_truth_t _)).mono ?_⟩
            rintro e w4 ⟨rfl, hb4⟩
            have hBW : Below W.heap.size W w4 := by repeat (first | exact Below.refl _ _ | assumption | exact Go.Proofs.YtdipalinddfekaaGreatDoor.V.below_drewN _ _ | (refine bel_trans ?_ (Go.Proofs.YtdipalinddfekaaGreatDoor.V.below_drewN _ _)) | (refine bel_trans ?_ (by assumption)) | (with_reducible apply bel_alloc) | (with_reducible apply Below.drew) | apply bel_alloc | apply Below.drew | refine bel_set ?_ (by simp; try omega) _)
            have YC := (Box.new W (bo true)).below (show Below (W.alloc (.cells #[.int .u8 3, .int .i64 1, .string ⟨#[]⟩, .int .i64 0] 29)).heap.size (W.alloc (.cells #[.int .u8 3, .int .i64 1, .string ⟨#[]⟩, .int .i64 0] 29)) w4 from bel_trans (below_dr _) hb4)
            obtain ⟨yl, y0, y1, y2, y3, -, -, -, -⟩ := YC
            change w4.cell? _ = some (.int .u8 3) at y0
            change w4.cell? _ = some (.int .i64 1) at y1
            change w4.cell? _ = some (.string ⟨#[]⟩) at y2
            change w4.cell? _ = some (.int .i64 0) at y3
            replace m0 := (hBW.cell (p := ⟨g, _, none⟩) hg2).trans m0
            replace m1 := (hBW.cell (p := ⟨g, _, none⟩) hg2).trans m1
            replace m2 := (hBW.cell (p := ⟨g, _, none⟩) hg2).trans m2
            replace m3 := (hBW.cell (p := ⟨g, _, none⟩) hg2).trans m3
            obtain ⟨hx, b0, b1, b2, b3, f0, f1, f2, f3⟩ := HX.out.below hBW
            have HW := Lib.hid hBW
            clear hb4 hBW
            refine hK _ _ ?_; clear hK K
            refine wpAnyIn_ready (rs := [0]) (by kernel_rfl) (by simp) (AllReadyIn.cons rfl (fun K hK => ?_) AllReadyIn.nil)
            go_simp
            refine hK _ _ ?_; clear hK K
            refine wpAnyIn_ready (rs := [2]) (by kernel_rfl) (by simp) (AllReadyIn.cons rfl (fun K hK => ?_) AllReadyIn.nil)
            go_simp
            refine hK _ _ ?_; clear hK K
            refine wpAnyIn_done (by kernel_rfl) ?_ _
            gi_wp2
            exact ⟨(others_below HW.out).trans (others_put _ _ x1), ⟨rfl, pre, y, rfl, HP.out, hN.out, by rw [hO.out]; exact (HX.out.below HW.out).put x1⟩, put4_below (bel_trans hB HW.out) (Nat.le_refl _) x1⟩
        | false =>
          have hN : Hid (passAt l y.val) := ⟨by rw [← HLn.out]; exact h2, by rw [d0]; exact he, by rw [d0]; exact hT⟩
          have hT' : ¬ (x0.k = 3 ∧ x0.n = 1) := fun h => by
            simp [isT, he, h.1, h.2] at hT
          clear hx0 hx1 d0 d1 hw hT
          obtain ⟨xk, xn, xs, xe⟩ := x0
          have he : xe = 0 := he
          subst he
          have hT' : ¬ (xk = 3 ∧ xn = 1) := hT'
          have c0 : W.cell? ⟨g, p + 2 * y.val * 4, none⟩ = some (.int .u8 xk) := c0
          have c1 : W.cell? ⟨g, p + 2 * y.val * 4 + 1, none⟩ = some (.int .i64 xn) := c1
          have c2 : W.cell? ⟨g, p + 2 * y.val * 4 + 2, none⟩ = some (.string xs) := c2
          have c3 : W.cell? ⟨g, p + 2 * y.val * 4 + 3, none⟩ = some (.int .i64 0) := c3
          by_cases h3 : xk = 3
          · have h4 : ¬ xn = 1 := fun h4 => hT' ⟨h3, h4⟩
            subst h3
            clear hT'
            gi_wp2
            refine region_round (by kernel_rfl) (noDefer_spec (by kernel_rfl)) ?_
            refine wpAnyIn_ready (rs := [0, 1]) (by kernel_rfl) (by simp) (AllReadyIn.cons rfl (fun K hK => ?_) (AllReadyIn.cons rfl (fun K hK => ?_) AllReadyIn.nil))
            · go_simp
              refine hK _ _ ?_; clear hK K
              refine wpAnyIn_ready (rs := [1]) (by kernel_rfl) (by simp) (AllReadyIn.cons rfl (fun K hK => ?_) AllReadyIn.nil)
              go_simp
              refine ⟨trivial, (callsIn_wide.2 (c_truth_t _)).mono ?_⟩
              rintro e w4 ⟨rfl, hb4⟩
              have hBW : Below W.heap.size W w4 := by repeat (first | exact Below.refl _ _ | assumption | exact Go.Proofs.YtdipalinddfekaaGreatDoor.V.below_drewN _ _ | (refine bel_trans ?_ (Go.Proofs.YtdipalinddfekaaGreatDoor.V.below_drewN _ _)) | (refine bel_trans ?_ (by assumption)) | (with_reducible apply bel_alloc) | (with_reducible apply Below.drew) | apply bel_alloc | apply Below.drew | refine bel_set ?_ (by simp; try omega) _)
              have YC := (Box.new W (⟨3, xn, xs, 0⟩ : Ot)).below (show Below (W.alloc (.cells #[.int .u8 3, .int .i64 xn, .string xs, .int .i64 0] 29)).heap.size (W.alloc (.cells #[.int .u8 3, .int .i64 xn, .string xs, .int .i64 0] 29)) w4 from bel_trans (below_dr _) hb4)
              obtain ⟨yl, y0, y1, y2, y3, -, -, -, -⟩ := YC
              change w4.cell? _ = some (.int .u8 3) at y0
              change w4.cell? _ = some (.int .i64 xn) at y1
              change w4.cell? _ = some (.string xs) at y2
              change w4.cell? _ = some (.int .i64 0) at y3
              replace m0 := (hBW.cell (p := ⟨g, _, none⟩) hg2).trans m0
              replace m1 := (hBW.cell (p := ⟨g, _, none⟩) hg2).trans m1
              replace m2 := (hBW.cell (p := ⟨g, _, none⟩) hg2).trans m2
              replace m3 := (hBW.cell (p := ⟨g, _, none⟩) hg2).trans m3
              obtain ⟨hx, b0, b1, b2, b3, f0, f1, f2, f3⟩ := HX.out.below hBW
              have HW := Lib.hid hBW
              clear hb4 hBW
              refine hK _ _ ?_; clear hK K
              refine wpAnyIn_ready (rs := [2]) (by kernel_rfl) (by simp) (AllReadyIn.cons rfl (fun K hK => ?_) AllReadyIn.nil)
              go_simp
              refine hK _ _ ?_; clear hK K
              refine wpAnyIn_done (by kernel_rfl) ?_ _
              gi_wp2
              exact ⟨others_below HW.out, ⟨(HW.out.cell (p := ⟨w.heap.size + 1, 0, none⟩) (by show w.heap.size + 1 < _; omega)), (HW.out.cell (p := ⟨w.heap.size + 1 + 1, 0, none⟩) (by show w.heap.size + 1 + 1 < _; omega))⟩, ⟨fun z hz => (List.mem_append.1 hz).elim (HP.out z) (fun e => by simp at e; subst e; exact hN.out), HX.out.below HW.out, Nat.le_trans hbs HW.out.size⟩, bel_trans hB HW.out⟩
            · go_simp
              refine ⟨trivial, (callsIn_wide.2 (c_truth_t _)).mono ?_⟩
              rintro e w4 ⟨rfl, hb4⟩
              have hBW : Below W.heap.size W w4 := by repeat (first | exact Below.refl _ _ | assumption | exact Go.Proofs.YtdipalinddfekaaGreatDoor.V.below_drewN _ _ | (refine bel_trans ?_ (Go.Proofs.YtdipalinddfekaaGreatDoor.V.below_drewN _ _)) | (refine bel_trans ?_ (by assumption)) | (with_reducible apply bel_alloc) | (with_reducible apply Below.drew) | apply bel_alloc | apply Below.drew | refine bel_set ?_ (by simp; try omega) _)
              have YC := (Box.new W (⟨3, xn, xs, 0⟩ : Ot)).below (show Below (W.alloc (.cells #[.int .u8 3, .int .i64 xn, .string xs, .int .i64 0] 29)).heap.size (W.alloc (.cells #[.int .u8 3, .int .i64 xn, .string xs, .int .i64 0] 29)) w4 from bel_trans (below_dr _) hb4)
              obtain ⟨yl, y0, y1, y2, y3, -, -, -, -⟩ := YC
              change w4.cell? _ = some (.int .u8 3) at y0
              change w4.cell? _ = some (.int .i64 xn) at y1
              change w4.cell? _ = some (.string xs) at y2
              change w4.cell? _ = some (.int .i64 0) at y3
              replace m0 := (hBW.cell (p := ⟨g, _, none⟩) hg2).trans m0
              replace m1 := (hBW.cell (p := ⟨g, _, none⟩) hg2).trans m1
              replace m2 := (hBW.cell (p := ⟨g, _, none⟩) hg2).trans m2
              replace m3 := (hBW.cell (p := ⟨g, _, none⟩) hg2).trans m3
              obtain ⟨hx, b0, b1, b2, b3, f0, f1, f2, f3⟩ := HX.out.below hBW
              have HW := Lib.hid hBW
              clear hb4 hBW
              refine hK _ _ ?_; clear hK K
              refine wpAnyIn_ready (rs := [0]) (by kernel_rfl) (by simp) (AllReadyIn.cons rfl (fun K hK => ?_) AllReadyIn.nil)
              go_simp
              refine hK _ _ ?_; clear hK K
              refine wpAnyIn_ready (rs := [2]) (by kernel_rfl) (by simp) (AllReadyIn.cons rfl (fun K hK => ?_) AllReadyIn.nil)
              go_simp
              refine hK _ _ ?_; clear hK K
              refine wpAnyIn_done (by kernel_rfl) ?_ _
              gi_wp2
              exact ⟨others_below HW.out, ⟨(HW.out.cell (p := ⟨w.heap.size + 1, 0, none⟩) (by show w.heap.size + 1 < _; omega)), (HW.out.cell (p := ⟨w.heap.size + 1 + 1, 0, none⟩) (by show w.heap.size + 1 + 1 < _; omega))⟩, ⟨fun z hz => (List.mem_append.1 hz).elim (HP.out z) (fun e => by simp at e; subst e; exact hN.out), HX.out.below HW.out, Nat.le_trans hbs HW.out.size⟩, bel_trans hB HW.out⟩
          · clear hT'
            gi_wp2
            refine region_round (by kernel_rfl) (noDefer_spec (by kernel_rfl)) ?_
            refine wpAnyIn_ready (rs := [0, 1]) (by kernel_rfl) (by simp) (AllReadyIn.cons rfl (fun K hK => ?_) (AllReadyIn.cons rfl (fun K hK => ?_) AllReadyIn.nil))
            · go_simp
              refine hK _ _ ?_; clear hK K
              refine wpAnyIn_ready (rs := [1]) (by kernel_rfl) (by simp) (AllReadyIn.cons rfl (fun K hK => ?_) AllReadyIn.nil)
              go_simp
              refine ⟨trivial, (callsIn_wide.2 (c_truth_t _)).mono ?_⟩
              rintro e w4 ⟨rfl, hb4⟩
              have hBW : Below W.heap.size W w4 := by repeat (first | exact Below.refl _ _ | assumption | exact Go.Proofs.YtdipalinddfekaaGreatDoor.V.below_drewN _ _ | (refine bel_trans ?_ (Go.Proofs.YtdipalinddfekaaGreatDoor.V.below_drewN _ _)) | (refine bel_trans ?_ (by assumption)) | (with_reducible apply bel_alloc) | (with_reducible apply Below.drew) | apply bel_alloc | apply Below.drew | refine bel_set ?_ (by simp; try omega) _)
              have YC := (Box.new W (⟨xk, xn, xs, 0⟩ : Ot)).below (show Below (W.alloc (.cells #[.int .u8 xk, .int .i64 xn, .string xs, .int .i64 0] 29)).heap.size (W.alloc (.cells #[.int .u8 xk, .int .i64 xn, .string xs, .int .i64 0] 29)) w4 from bel_trans (below_dr _) hb4)
              obtain ⟨yl, y0, y1, y2, y3, -, -, -, -⟩ := YC
              change w4.cell? _ = some (.int .u8 xk) at y0
              change w4.cell? _ = some (.int .i64 xn) at y1
              change w4.cell? _ = some (.string xs) at y2
              change w4.cell? _ = some (.int .i64 0) at y3
              replace m0 := (hBW.cell (p := ⟨g, _, none⟩) hg2).trans m0
              replace m1 := (hBW.cell (p := ⟨g, _, none⟩) hg2).trans m1
              replace m2 := (hBW.cell (p := ⟨g, _, none⟩) hg2).trans m2
              replace m3 := (hBW.cell (p := ⟨g, _, none⟩) hg2).trans m3
              obtain ⟨hx, b0, b1, b2, b3, f0, f1, f2, f3⟩ := HX.out.below hBW
              have HW := Lib.hid hBW
              clear hb4 hBW
              refine hK _ _ ?_; clear hK K
              refine wpAnyIn_ready (rs := [2]) (by kernel_rfl) (by simp) (AllReadyIn.cons rfl (fun K hK => ?_) AllReadyIn.nil)
              go_simp
              refine hK _ _ ?_; clear hK K
              refine wpAnyIn_done (by kernel_rfl) ?_ _
              gi_wp2
              exact ⟨others_below HW.out, ⟨(HW.out.cell (p := ⟨w.heap.size + 1, 0, none⟩) (by show w.heap.size + 1 < _; omega)), (HW.out.cell (p := ⟨w.heap.size + 1 + 1, 0, none⟩) (by show w.heap.size + 1 + 1 < _; omega))⟩, ⟨fun z hz => (List.mem_append.1 hz).elim (HP.out z) (fun e => by simp at e; subst e; exact hN.out), HX.out.below HW.out, Nat.le_trans hbs HW.out.size⟩, bel_trans hB HW.out⟩
            · go_simp
              refine ⟨trivial, (callsIn_wide.2 (c_truth_t _)).mono ?_⟩
              rintro e w4 ⟨rfl, hb4⟩
              have hBW : Below W.heap.size W w4 := by repeat (first | exact Below.refl _ _ | assumption | exact Go.Proofs.YtdipalinddfekaaGreatDoor.V.below_drewN _ _ | (refine bel_trans ?_ (Go.Proofs.YtdipalinddfekaaGreatDoor.V.below_drewN _ _)) | (refine bel_trans ?_ (by assumption)) | (with_reducible apply bel_alloc) | (with_reducible apply Below.drew) | apply bel_alloc | apply Below.drew | refine bel_set ?_ (by simp; try omega) _)
              have YC := (Box.new W (⟨xk, xn, xs, 0⟩ : Ot)).below (show Below (W.alloc (.cells #[.int .u8 xk, .int .i64 xn, .string xs, .int .i64 0] 29)).heap.size (W.alloc (.cells #[.int .u8 xk, .int .i64 xn, .string xs, .int .i64 0] 29)) w4 from bel_trans (below_dr _) hb4)
              obtain ⟨yl, y0, y1, y2, y3, -, -, -, -⟩ := YC
              change w4.cell? _ = some (.int .u8 xk) at y0
              change w4.cell? _ = some (.int .i64 xn) at y1
              change w4.cell? _ = some (.string xs) at y2
              change w4.cell? _ = some (.int .i64 0) at y3
              replace m0 := (hBW.cell (p := ⟨g, _, none⟩) hg2).trans m0
              replace m1 := (hBW.cell (p := ⟨g, _, none⟩) hg2).trans m1
              replace m2 := (hBW.cell (p := ⟨g, _, none⟩) hg2).trans m2
              replace m3 := (hBW.cell (p := ⟨g, _, none⟩) hg2).trans m3
              obtain ⟨hx, b0, b1, b2, b3, f0, f1, f2, f3⟩ := HX.out.below hBW
              have HW := Lib.hid hBW
              clear hb4 hBW
              refine hK _ _ ?_; clear hK K
              refine wpAnyIn_ready (rs := [0]) (by kernel_rfl) (by simp) (AllReadyIn.cons rfl (fun K hK => ?_) AllReadyIn.nil)
              go_simp
              refine hK _ _ ?_; clear hK K
              refine wpAnyIn_ready (rs := [2]) (by kernel_rfl) (by simp) (AllReadyIn.cons rfl (fun K hK => ?_) AllReadyIn.nil)
              go_simp
              refine hK _ _ ?_; clear hK K
              refine wpAnyIn_done (by kernel_rfl) ?_ _
              gi_wp2
              exact ⟨others_below HW.out, ⟨(HW.out.cell (p := ⟨w.heap.size + 1, 0, none⟩) (by show w.heap.size + 1 < _; omega)), (HW.out.cell (p := ⟨w.heap.size + 1 + 1, 0, none⟩) (by show w.heap.size + 1 + 1 < _; omega))⟩, ⟨fun z hz => (List.mem_append.1 hz).elim (HP.out z) (fun e => by simp at e; subst e; exact hN.out), HX.out.below HW.out, Nat.le_trans hbs HW.out.size⟩, bel_trans hB HW.out⟩
      · have hN : Hid (¬ passAt l y.val) := by
          rintro ⟨-, h3, -⟩
          rw [d0] at h3
          exact he h3
        have hO : Hid (outAt l y.val = x0) := by
          show _ = _
          unfold outAt
          rw [if_pos (by rw [← HLn.out]; exact h2), d0, if_pos he]
        have he2 : (x0.e != 0) = true := by simpa using he
        clear hx0 hx1 d0 d1 he hw
        gi_wp2
        exact ⟨(others_put W _ x0).trans (others_below (bel_alloc (Below.refl _ _) _)), ⟨rfl, pre, y, rfl, HP.out, hN.out, by rw [hO.out]; exact (HX.out.put x0).alloc _⟩, bel_alloc (put4_below hB (Nat.le_refl _) x0) _⟩
    · have hw : wid n y.val = 1 := by unfold wid; omega
      rw [hw]
      have hN : Hid (¬ passAt l y.val) := by
        rintro ⟨h3, -⟩
        rw [← HLn.out] at h3
        exact h2 h3
      have hO : Hid (outAt l y.val = x0) := by
        show _ = _
        unfold outAt
        rw [if_neg (by rw [← HLn.out]; exact h2), d0]
      clear hx0 d0 hw
      gi_wp2
      exact ⟨others_put _ _ x0, ⟨rfl, pre, y, rfl, HP.out, hN.out, by rw [hO.out]; exact HX.out.put x0⟩, put4_below hB (Nat.le_refl _) x0⟩
  case done =>
    rintro D xs W hD rfl ⟨⟨hp, hX, hbs⟩, hB⟩ hK
    have HR : Hid (choose l = nul) := choose_done l fun j hj => hp ⟨j, by rw [HLn.out]; exact hj⟩ (List.mem_finRange _)
    clear hp
    gi_wp2_with (refine ⟨trivial, ?_⟩; gi_at_call 54; refine (callsIn_wide.2 (c_null _)).mono ?_; rintro e w4 ⟨rfl, hb4⟩; obtain ⟨hx, b0, b1, b2, b3, f0, f1, f2, f3⟩ := hX.below hb4)
    have hK' := ((others_below hb4).trans (others_put w4 w.heap.size nul)).same D _ hK rfl
    have hBox := (hX.below hb4).put nul
    have q := hBox.keptO (grownBy_putObj' _ D (.deferred none)) (fun r e => by cases e; exact ⟨_, hK', rfl⟩)
    obtain ⟨-, q0, q1, q2, q3, -, -, -, -⟩ := q
    refine ⟨by simp, .inl ⟨_, _, rfl, run_takeDeferred hK', ?_⟩⟩
    refine ⟨ov 0 0 ⟨#[]⟩ 0, ?_, by rw [HR.out], Below.trans (put4_below (bel_trans hB hb4) (Nat.le_refl _) nul) (belowK_b (w := w) (Nat.le_refl _) _ D _ _ (by simp at hD; omega) hK' rfl rfl)⟩
    simp [results, Tryz.f27, go_sem, q0, q1, q2, q3]
  case stop =>
    rintro D c pre W hD ⟨k, hk⟩ ⟨⟨rfl, ini, y, h2, h3, h4, hBox⟩, hB⟩ hK
    have HR : Hid (choose l = outAt l y.val) := stop_is HLn.out (hk.symm.trans h2) h3 h4
    clear h2 h3 h4 hk
    generalize outAt l y.val = o at HR hBox
    gi_wp2
    have q := hBox.keptO (grownBy_putObj' _ D (.deferred none)) (fun r e => by cases e; exact ⟨_, hK, rfl⟩)
    obtain ⟨-, q0, q1, q2, q3, -, -, -, -⟩ := q
    refine ⟨by simp, .inl ⟨_, _, rfl, run_takeDeferred hK, ?_⟩⟩
    refine ⟨ov o.k o.n o.s o.e, ?_, by rw [HR.out], Below.trans hB (belowK_b (w := w) (Nat.le_refl _) _ D _ _ (by simp at hD; omega) hK rfl rfl)⟩
    simp [results, Tryz.f27, go_sem, q0, q1, q2, q3]
end Go.Proofs.YtdipalinddfekaaGreatDoor.K
namespace Go.Proofs.YtdipalinddfekaaGreatDoor.K
open Go.ChangeShapes Go.WideShapes Go.ChangeAt Go.RowKit Go.Proofs.YtdipalinddfekaaGreatDoor.V
abbrev encV (v : Vl) : Value := val v.1 v.2.1 v.2.2
/-- A slice reads as these values. -/
structure Vals (W : World) (a : Option Addr) (n : Nat) (l : List Vl) : Prop where
  len : n = l.length
  at_ : ∀ k, k < n → ∃ g p o, a = some ⟨g, p, none⟩ ∧ l[k]? = some o ∧ g < W.heap.size ∧ W.cell? ⟨g, p + k * 3, none⟩ = some (.int .u8 o.1) ∧ W.cell? ⟨g, p + k * 3 + 1, none⟩ = some (.int .i64 o.2.1) ∧ W.cell? ⟨g, p + k * 3 + 2, none⟩ = some (.string o.2.2)
theorem Vals.below {w w' : World} {a : Option Addr} {n : Nat} {l : List Vl} (h : Vals w a n l) (hb : Below w.heap.size w w') : Vals w' a n l :=
  ⟨h.len, fun k hk => by
    obtain ⟨g, p, o, h1, h2, h3, h4, h5, h6⟩ := h.at_ k hk
    exact ⟨g, p, o, h1, h2, Nat.lt_of_lt_of_le h3 hb.size, (hb.cell (p := ⟨g, _, none⟩) h3).trans h4, (hb.cell (p := ⟨g, _, none⟩) h3).trans h5, (hb.cell (p := ⟨g, _, none⟩) h3).trans h6⟩⟩
/-- A row: where it lies, and what it holds. -/
abbrev Rw := (Option Addr × Nat × Nat) × List Vl
abbrev rI (x : Rw) : Value := .slice x.1.1 x.1.2.1 x.1.2.2
structure Rows2 (W : World) (a : Option Addr) (n : Nat) (l : List Rw) : Prop where
  one : One rI W a n l
  row : ∀ x ∈ l, Vals W x.1.1 x.1.2.1 x.2 ∧ x.1.2.1 ≤ 9223372036854775807
theorem Rows2.below {w w' : World} {a : Option Addr} {n : Nat} {l : List Rw} (h : Rows2 w a n l) (hb : Below w.heap.size w w') : Rows2 w' a n l := ⟨h.one.below hb, fun x hx => ⟨(h.row x hx).1.below hb, (h.row x hx).2⟩⟩
set_option maxHeartbeats 1000000 in
theorem l_IndexVal (F : Nat) (ca : Array Value) (HE : EntersF F) (p : Vl → Bool) (a : Option Addr) (n c : Nat) (l : List Vl) (hn : n ≤ 9223372036854775807) (w : World) (h : Vals w a n l)
    (hF : ∀ o ∈ l, ∀ w', Below w.heap.size w w' → Ret F (#[encV o] ++ ca) w' (.bool (p o))) : Ret 123 #[.slice a n c, .func (.func F) #[] ca] w (.int .i64 (idx p l 0)) := by
  have HL := Lib.hid h
  have HP := Lib.hid hF
  clear h hF
  go_enter Tryz.func123, Tryz.ntmps123
  go_wp2
  go_loopw [8] (fun s8 wr => ∃ (k : Nat), k ≤ n ∧ s8 = .int .i64 k ∧ Hid (idx p (l.drop k) k = idx p l 0) ∧ Hid (Below w.heap.size w wr)) (fun s8 _ => n - (intOf s8).toNat)
  case atStart => exact ⟨0, by omega, rfl, rfl, Below.refl _ _⟩
  case round =>
    obtain ⟨k, hk, rfl, HI, HB⟩ := hrel
    by_cases hlt : k < n
    · obtain ⟨g, q, o, rfl, hlk, hg, c0, c1, c2⟩ := (HL.out.below HB.out).at_ k hlt
      have HI2 := Lib.hid ((idx_drop hlk k).symm.trans HI.out)
      have hx := HP.out o (List.mem_of_getElem? hlk)
      clear HI hlk
      go_wp2_with fail
      refine (hx _ HB.out).mono ?_
      rintro e w1 ⟨rfl, hb1⟩
      have HB1 := Lib.hid (bel_trans HB.out hb1)
      clear hb1 hx
      cases hp : p o with
      | true =>
        rw [hp, if_pos rfl] at HI2
        clear hp
        go_wp2
        go_ret
        exact ⟨ret_int HI2.out, HB1.out⟩
      | false =>
        rw [hp, if_neg (by simp)] at HI2
        clear hp
        go_wp2
        refine ⟨⟨k + 1, by omega, by go_num, HI2.out, HB1.out⟩, by simp [intOf]; omega⟩
    · have he : idx p l 0 = -1 := by rw [← HI.out, idx_end (by have := HL.out.len; omega)]
      have HE := Lib.hid he
      clear he HI
      go_wp2
      go_ret
      exact ⟨ret_int HE.out.symm, HB.out⟩
theorem l_ContainsVal (F : Nat) (ca : Array Value) (HE : EntersF F) (p : Vl → Bool) (a : Option Addr) (n c : Nat) (l : List Vl) (hn : n ≤ 9223372036854775807) (w : World) (h : Vals w a n l)
    (hF : ∀ o ∈ l, ∀ w', Below w.heap.size w w' → Ret F (#[encV o] ++ ca) w' (.bool (p o))) : Ret 112 #[.slice a n c, .func (.func F) #[] ca] w (.bool (l.any p)) := by
  have HI := Lib.hid (idx_any (p := p) l 0)
  go_enter Tryz.func112, Tryz.ntmps112
  go_wp2_with fail
  refine (l_IndexVal F ca HE p a n c l hn _ h hF).mono ?_; rintro e w1 ⟨rfl, hbw1⟩; obtain ⟨hcw1, hfw1⟩ := bcell hbw1; have hzw1 := hbw1.size; (try simp [World.drew] at hzw1)
  go_wp2
  go_ret
  exact ⟨ret_bool HI.out, by repeat (first | exact Below.refl _ _ | assumption | (refine bel_trans ?_ (by assumption)) | (with_reducible apply bel_alloc) | (with_reducible apply Below.drew) | apply bel_alloc | apply Below.drew | refine bel_set ?_ (by simp; try omega) _)⟩
set_option maxHeartbeats 1000000 in
theorem l_IndexRow (F : Nat) (ca : Array Value) (HE : EntersF F) (p : Rw → Bool) (a : Option Addr) (n c : Nat) (l : List Rw) (hn : n ≤ 9223372036854775807) (w : World) (h : One rI w a n l)
    (hF : ∀ o ∈ l, ∀ w', Below w.heap.size w w' → Ret F (#[rI o] ++ ca) w' (.bool (p o))) : Ret 90 #[.slice a n c, .func (.func F) #[] ca] w (.int .i64 (idx p l 0)) := by
  have HL := Lib.hid h
  have HP := Lib.hid hF
  clear h hF
  go_enter Tryz.func90, Tryz.ntmps90
  go_wp2
  go_loopw [8] (fun s8 wr => ∃ (k : Nat), k ≤ n ∧ s8 = .int .i64 k ∧ Hid (idx p (l.drop k) k = idx p l 0) ∧ Hid (Below w.heap.size w wr)) (fun s8 _ => n - (intOf s8).toNat)
  case atStart => exact ⟨0, by omega, rfl, rfl, Below.refl _ _⟩
  case round =>
    obtain ⟨k, hk, rfl, HI, HB⟩ := hrel
    by_cases hlt : k < n
    · obtain ⟨g, q, o, rfl, hlk, hg, c0⟩ := (HL.out.below HB.out).at_ k hlt
      have HI2 := Lib.hid ((idx_drop hlk k).symm.trans HI.out)
      have hx := HP.out o (List.mem_of_getElem? hlk)
      clear HI hlk
      go_wp2_with fail
      refine (hx _ HB.out).mono ?_
      rintro e w1 ⟨rfl, hb1⟩
      have HB1 := Lib.hid (bel_trans HB.out hb1)
      clear hb1 hx
      cases hp : p o with
      | true =>
        rw [hp, if_pos rfl] at HI2
        clear hp
        go_wp2
        go_ret
        exact ⟨ret_int HI2.out, HB1.out⟩
      | false =>
        rw [hp, if_neg (by simp)] at HI2
        clear hp
        go_wp2
        refine ⟨⟨k + 1, by omega, by go_num, HI2.out, HB1.out⟩, by simp [intOf]; omega⟩
    · have he : idx p l 0 = -1 := by rw [← HI.out, idx_end (by have := HL.out.len; omega)]
      have HE := Lib.hid he
      clear he HI
      go_wp2
      go_ret
      exact ⟨ret_int HE.out.symm, HB.out⟩
theorem l_ContainsRow (F : Nat) (ca : Array Value) (HE : EntersF F) (p : Rw → Bool) (a : Option Addr) (n c : Nat) (l : List Rw) (hn : n ≤ 9223372036854775807) (w : World) (h : One rI w a n l)
    (hF : ∀ o ∈ l, ∀ w', Below w.heap.size w w' → Ret F (#[rI o] ++ ca) w' (.bool (p o))) : Ret 63 #[.slice a n c, .func (.func F) #[] ca] w (.bool (l.any p)) := by
  have HI := Lib.hid (idx_any (p := p) l 0)
  go_enter Tryz.func63, Tryz.ntmps63
  go_wp2_with fail
  refine (l_IndexRow F ca HE p a n c l hn _ h hF).mono ?_; rintro e w1 ⟨rfl, hbw1⟩; obtain ⟨hcw1, hfw1⟩ := bcell hbw1; have hzw1 := hbw1.size; (try simp [World.drew] at hzw1)
  go_wp2
  go_ret
  exact ⟨ret_bool HI.out, by repeat (first | exact Below.refl _ _ | assumption | (refine bel_trans ?_ (by assumption)) | (with_reducible apply bel_alloc) | (with_reducible apply Below.drew) | apply bel_alloc | apply Below.drew | refine bel_set ?_ (by simp; try omega) _)⟩
theorem c_isWrong (v : Vl) (w : World) : Ret 110 #[encV v] w (.bool (!vOk v)) := by
  go_enter Tryz.func110, Tryz.ntmps110
  go_wp2_with fail
  refine (c_Valid v.1 v.2.1 v.2.2 _).mono ?_; rintro e w1 ⟨rfl, hbw1⟩; obtain ⟨hcw1, hfw1⟩ := bcell hbw1; have hzw1 := hbw1.size; (try simp [World.drew] at hzw1)
  go_wp2
  go_ret
  exact ⟨rfl, by repeat (first | exact Below.refl _ _ | assumption | (refine bel_trans ?_ (by assumption)) | (with_reducible apply bel_alloc) | (with_reducible apply Below.drew) | apply bel_alloc | apply Below.drew | refine bel_set ?_ (by simp; try omega) _)⟩
theorem c_rowWrong (x : Rw) (b : Nat) (w : World) (h : Vals w x.1.1 x.1.2.1 x.2) (hn : x.1.2.1 ≤ 9223372036854775807) (hb : w.cell? ⟨b, 0, none⟩ = some (.func (.func 110) #[] #[])) :
    Ret 111 #[rI x, .pointer (some ⟨b, 0, none⟩)] w (.bool (x.2.any fun v => !vOk v)) := by
  go_enter Tryz.func111, Tryz.ntmps111
  go_wp2_with fail
  refine (l_ContainsVal 110 #[] (fun _ _ => by kernel_rfl) (fun v => !vOk v) _ _ _ x.2 hn _ h (fun v _ w' _ => c_isWrong v w')).mono ?_; rintro e w1 ⟨rfl, hbw1⟩; obtain ⟨hcw1, hfw1⟩ := bcell hbw1; have hzw1 := hbw1.size; (try simp [World.drew] at hzw1)
  go_wp2
  go_ret
  exact ⟨rfl, by repeat (first | exact Below.refl _ _ | assumption | (refine bel_trans ?_ (by assumption)) | (with_reducible apply bel_alloc) | (with_reducible apply Below.drew) | apply bel_alloc | apply Below.drew | refine bel_set ?_ (by simp; try omega) _)⟩
theorem c_notOne (x : Rw) (w : World) : Ret 89 #[rI x] w (.bool ((x.1.2.1 : Int) != 1)) := by
  go_enter Tryz.func89, Tryz.ntmps89
  go_wp2
  go_ret
  exact ⟨rfl, by repeat (first | exact Below.refl _ _ | assumption | (refine bel_trans ?_ (by assumption)) | (with_reducible apply bel_alloc) | (with_reducible apply Below.drew) | apply bel_alloc | apply Below.drew | refine bel_set ?_ (by simp; try omega) _)⟩
/-- A valid outcome. -/
def okOut (e : Int) (rows : List (List Vl)) : Bool := if e = 0 then rows.all (fun r => r.all vOk) else isErr e && rows.isEmpty
abbrev outV (a : Option Addr) (n c : Nat) (e : Int) : Value := .agg #[.slice a n c, .int .i64 e]
theorem any_wrong (l : List Rw) : l.any (fun x => x.2.any fun v => !vOk v) = !(l.map (·.2)).all (fun r => r.all vOk) := by
  rw [Bool.eq_iff_iff]
  simp
set_option maxHeartbeats 1000000 in
theorem c_isOutcome (a : Option Addr) (n c : Nat) (e : Int) (l : List Rw) (hn : n ≤ 9223372036854775807) (w : World) (h : Rows2 w a n l) : Ret 88 #[outV a n c e] w (.bool (okOut e (l.map (·.2)))) := by
  have HL := Lib.hid h
  have hlen := Lib.hid h.one.len
  clear h
  cases he : isErr e with
  | true =>
    have h0 : e ≠ 0 := by intro h; rw [h] at he; cases he
    have hR : Hid (((n : Int) == 0) = okOut e (l.map (·.2))) := by
      show _ = _
      unfold okOut
      rw [if_neg h0, he, Bool.true_and, hlen.out]
      cases l <;> simp
      omega
    have HE := Lib.hid he
    clear he
    go_enter Tryz.func88, Tryz.ntmps88
    go_wp2_with fail
    refine (c_isFailure _ _).mono ?_; rintro e w1 ⟨rfl, hbw1⟩; obtain ⟨hcw1, hfw1⟩ := bcell hbw1; have hzw1 := hbw1.size; (try simp [World.drew] at hzw1); have hk0w1 : w.heap.size < w1.heap.size := (by omega)
    rw [HE.out]
    go_wp2
    go_ret
    exact ⟨ret_bool hR.out, by repeat (first | exact Below.refl _ _ | assumption | (refine bel_trans ?_ (by assumption)) | (with_reducible apply bel_alloc) | (with_reducible apply Below.drew) | apply bel_alloc | apply Below.drew | refine bel_set ?_ (by simp; try omega) _)⟩
  | false =>
    have HE := Lib.hid he
    by_cases h0 : e = 0
    · subst h0
      have hR : Hid ((!(l.any fun x => x.2.any fun v => !vOk v)) = okOut 0 (l.map (·.2))) := by
        show _ = _
        rw [any_wrong, Bool.not_not]; rfl
      clear he
      go_enter Tryz.func88, Tryz.ntmps88
      go_wp2_with fail
      refine (c_isFailure _ _).mono ?_; rintro e w1 ⟨rfl, hbw1⟩; obtain ⟨hcw1, hfw1⟩ := bcell hbw1; have hzw1 := hbw1.size; (try simp [World.drew] at hzw1); have hk0w1 : w.heap.size < w1.heap.size := (by omega)
      rw [HE.out]
      have B1 : Below w.heap.size w w1 := by repeat (first | exact Below.refl _ _ | assumption | (refine bel_trans ?_ (by assumption)) | (with_reducible apply bel_alloc) | (with_reducible apply Below.drew) | apply bel_alloc | apply Below.drew | refine bel_set ?_ (by simp; try omega) _)
      go_wp2_with fail
      have HL2 : Hid (Rows2 (w1.alloc (.cells #[.func (.func 110) #[] #[]] 84)) a n l) := (HL.out.below B1).below (bel_alloc (Below.refl _ _) _)
      refine (l_ContainsRow 111 #[.pointer (some ⟨w1.heap.size, 0, none⟩)] (fun _ _ => by kernel_rfl) (fun x => x.2.any fun v => !vOk v) a n c l hn _ HL2.out.one (fun x hx w' hw' => c_rowWrong x w1.heap.size w' ((HL2.out.row x hx).1.below hw') (HL2.out.row x hx).2 ((hw'.cell (p := ⟨w1.heap.size, 0, none⟩) (by simp)).trans (by simp [go_sem])))).mono ?_
      rintro e w2 ⟨rfl, hb2⟩
      have B2 : Hid (Below w.heap.size w w2) := bel_trans (bel_alloc B1 _) hb2
      clear hb2
      go_wp2
      go_ret
      exact ⟨ret_bool hR.out, B2.out⟩
    · have hR : Hid (okOut e (l.map (·.2)) = false) := by
        show _ = _
        unfold okOut
        rw [if_neg h0, he]; rfl
      have h1 : (e == 0) = false := by simpa using h0
      clear he
      go_enter Tryz.func88, Tryz.ntmps88
      go_wp2_with fail
      refine (c_isFailure _ _).mono ?_; rintro e w1 ⟨rfl, hbw1⟩; obtain ⟨hcw1, hfw1⟩ := bcell hbw1; have hzw1 := hbw1.size; (try simp [World.drew] at hzw1); have hk0w1 : w.heap.size < w1.heap.size := (by omega)
      rw [HE.out]
      go_wp2
      go_ret
      exact ⟨ret_bool (by rw [hR.out]), by repeat (first | exact Below.refl _ _ | assumption | (refine bel_trans ?_ (by assumption)) | (with_reducible apply bel_alloc) | (with_reducible apply Below.drew) | apply bel_alloc | apply Below.drew | refine bel_set ?_ (by simp; try omega) _)⟩
/-- A valid outcome, each of whose rows has one value. -/
def okCol (e : Int) (rows : List (List Vl)) : Bool := okOut e rows && rows.all (fun r => r.length == 1)
theorem any_one : ∀ (l : List Rw), (∀ x ∈ l, x.1.2.1 = x.2.length) → l.any (fun x => ((x.1.2.1 : Int) != 1)) = !(l.map (·.2)).all (fun r => r.length == 1)
  | [], _ => rfl
  | x :: t, h => by
    have hx := h x List.mem_cons_self
    have e : ((x.1.2.1 : Int) != 1) = !(x.2.length == 1) := by
      rw [hx]
      by_cases h1 : x.2.length = 1
      · rw [h1]; rfl
      · have h2 : ¬ (x.2.length : Int) = 1 := by omega
        rw [bne_iff_ne.2 h2, beq_eq_false_iff_ne.2 h1]; rfl
    rw [List.any_cons, List.map_cons, List.all_cons, any_one t (fun y hy => h y (List.mem_cons_of_mem _ hy)), e, Bool.not_and]
set_option maxHeartbeats 1000000 in
theorem c_isColumn (a : Option Addr) (n c : Nat) (e : Int) (l : List Rw) (hn : n ≤ 9223372036854775807) (w : World) (h : Rows2 w a n l) : Ret 61 #[outV a n c e] w (.bool (okCol e (l.map (·.2)))) := by
  have HL := Lib.hid h
  clear h
  have h1 := Lib.hid (any_one l fun x hx => (HL.out.row x hx).1.len)
  go_enter Tryz.func61, Tryz.ntmps61
  go_wp2_with fail
  refine (c_isOutcome a n c e l hn _ (HL.out.below (bel_alloc (Below.refl _ _) _))).mono ?_; rintro e w1 ⟨rfl, hbw1⟩; obtain ⟨hcw1, hfw1⟩ := bcell hbw1; have hzw1 := hbw1.size; (try simp [World.drew] at hzw1); have hk0w1 : w.heap.size < w1.heap.size := (by omega)
  have B1 : Below w.heap.size w w1 := by repeat (first | exact Below.refl _ _ | assumption | (refine bel_trans ?_ (by assumption)) | (with_reducible apply bel_alloc) | (with_reducible apply Below.drew) | apply bel_alloc | apply Below.drew | refine bel_set ?_ (by simp; try omega) _)
  have HL2 := Lib.hid (HL.out.below B1)
  cases ho : okOut e (l.map (·.2)) with
  | false =>
    go_wp2
    go_ret
    exact ⟨ret_bool (by unfold okCol; rw [ho]; rfl), B1⟩
  | true =>
    go_wp2_with fail
    refine (l_ContainsRow 89 #[] (fun _ _ => by kernel_rfl) (fun x => ((x.1.2.1 : Int) != 1)) a n c l hn _ HL2.out.one (fun x _ w' _ => c_notOne x w')).mono ?_
    rintro e w2 ⟨rfl, hb2⟩
    have B2 : Hid (Below w.heap.size w w2) := bel_trans B1 hb2
    clear hb2
    go_wp2
    go_ret
    exact ⟨ret_bool (by unfold okCol; rw [ho, h1.out]; simp), B2.out⟩
end Go.Proofs.YtdipalinddfekaaGreatDoor.K
namespace Go.Proofs.YtdipalinddfekaaGreatDoor.K
open Go.ChangeShapes Go.WideShapes Go.ChangeAt Go.RowKit Go.Proofs.YtdipalinddfekaaGreatDoor.V
def existsO (e : Int) (rows : List (List Vl)) : Ot := if okOut e rows then (if e ≠ 0 then fl e else bo (decide (0 < rows.length))) else fl 1
def hd (l : List Vl) : Vl := l.headD (0, 0, ⟨#[]⟩)
def scalarO (e : Int) (rows : List (List Vl)) : Ot := if okCol e rows then (if e ≠ 0 then fl e else if 1 < rows.length then fl 6 else if rows.length = 0 then nul else ofV (hd (rows.headD []))) else fl 1
def inO (x : Ot) (e : Int) (rows : List (List Vl)) : Ot := if x.ok && okCol e rows then (if lst x.e e ≠ 0 then fl (lst x.e e) else inL x false (rows.map hd)) else fl 1
end Go.Proofs.YtdipalinddfekaaGreatDoor.K
