/- The iterator of slices.Chunk over outs, with chunks of two. -/
import Derived.Test.YtdbhencjomnjhaaGreatDoorGaj
import Derived.Test.YtdbhencjomnjhaaGreatDoorGac
import Derived.Test.YtdbhencjomnjhaaGreatDoorRows
import Derived.WalkKit
import Derived.ProofKit
import Derived.OpenShut
import Derived.Carry
import Derived.HandedShaped
import Derived.Lib.SmallJoins
import Derived.Test.YtdbhencjomnjhaaGreatDoorGad
import Derived.Deep.Slices
import Derived.Laws.OwnMore
import Derived.SizedLaws
import Derived.ChangeSame
namespace Go.Proofs.YtdbhencjomnjhaaGreatDoor.K
open Go.ChangeShapes Go.WideShapes Go.ChangeAt Go.RowKit Go.Proofs.YtdbhencjomnjhaaGreatDoor.V Go.Shelf
attribute [local go_sem] Oper.semAt_some
set_option maxRecDepth 100000 in
set_option maxHeartbeats 2000000 in
theorem chunkO_in (f : Nat) (hn1 : 1 ≤ f) (l Bs Bn g p n c : Nat) (hnc : n ≤ c) (hc : c ≤ maxLen) (hsz : n ≤ 140737488351232) (a : Option Addr) (ha : 0 < n → a = some ⟨g, p, none⟩)
    (J Jx : List (Fin (chunks n)) → World → Prop) (hD : ∀ s W m, J s W → J s (World.drewN W m))
    (hY : ∀ pre (x : Fin (chunks n)) W, J pre W → pre.length < chunks n → YieldAt Fence.wide (f - 1) Tryz.prog l #[.slice (some ⟨g, p + 2 * x.val * 4, none⟩) (wid n x.val) (wid n x.val)] W fun e W' =>
      (e = .returned (.bool true) ∧ J (pre ++ [x]) W' ∧ Kept Bs Bn W W') ∨ (e = .returned (.bool false) ∧ Jx (pre ++ [x]) W'))
    (W : World) (hBs : W.cell? ⟨Bs, 0, none⟩ = some (.slice a n c)) (hBn : W.cell? ⟨Bn, 0, none⟩ = some (.int .i64 2)) (h0 : J [] W) :
    CallsIn Fence.wide f Tryz.prog 55 #[.func (.yield l) #[] #[], .pointer (some ⟨Bs, 0, none⟩), .pointer (some ⟨Bn, 0, none⟩)] W fun e W' => (∃ v, e = .returned v) ∧
      ((∃ ys, ys = List.finRange (chunks n) ∧ J ys W') ∨ (∃ k, Jx (firsts n k) W')) := by
  have HC : c ≤ 9223372036854775807 := by unfold maxLen at hc; omega
  have HY := Lib.hid hY
  have HD := Lib.hid hD
  clear hY hD
  refine callsIn_of_wp Tryz.func55 rfl trivial ?_ rfl
  simp only [Tryz.ntmps55, List.size_toArray, List.length_cons, List.length_nil, Nat.reduceAdd, Nat.reduceSub, Array.replicate_succ, Array.replicate_zero, List.push_toArray, List.append_toArray, List.nil_append, List.cons_append]
  gi_wp2
  gi_loopw [4] (fun s4 wr => ∃ (k : Nat), k ≤ chunks n ∧ s4 = .int .i64 ((2 * k : Nat) : Int) ∧ Hid (J (firsts n k) wr) ∧ wr.cell? ⟨Bs, 0, none⟩ = some (.slice a n c) ∧ wr.cell? ⟨Bn, 0, none⟩ = some (.int .i64 2))
    (fun s4 _ => n + 2 - (intOf s4).toNat)
  case atStart => exact ⟨0, by omega, rfl, h0, hBs, hBn⟩
  case round =>
    obtain ⟨k, hk, rfl, HJ, hbs, hbn⟩ := hrel
    unfold chunks at hk
    by_cases hlt : 2 * k < n
    · obtain rfl := ha (by omega)
      have hkc : k < chunks n := by unfold chunks; omega
      have hw : (2 * (k : Int) + min 2 ((n - 2 * k : Nat) : Int)).toNat - 2 * k = wid n k := by unfold wid; omega
      have hfl : (firsts n k).length < chunks n := by unfold firsts; simp; omega
      gi_wp2
      gi_quiet (fail)
      obtain ⟨fn, tmps, assign, body, hy, hR⟩ := HY.out (firsts n k) ⟨k, hkc⟩ (wr.drewN nq) (HD.out _ _ nq HJ.out) hfl
      gi_wp2
      refine hR.mono ?_
      rintro e W3 (⟨rfl, hJ3, hk3⟩ | ⟨rfl, hJx3⟩)
      · have HJ3 : Hid (J (firsts n (k + 1)) W3) := by rw [firsts_succ hkc]; exact hJ3
        have hbs3 : W3.cell? ⟨Bs, 0, none⟩ = some (.slice (some ⟨g, p, none⟩) n c) := hk3.1.trans hbs
        have hbn3 : W3.cell? ⟨Bn, 0, none⟩ = some (.int .i64 2) := hk3.2.trans hbn
        clear hJ3 HJ hk3
        gi_wp2
        go_roundw
        case rel => exact ⟨k + 1, by omega, by go_num, HJ3.out, hbs3, hbn3⟩
        case measure => simp [intOf]; omega
      · have HX3 : Hid (Jx (firsts n (k + 1)) W3) := by rw [firsts_succ hkc]; exact hJx3
        clear HJ
        gi_wp2
        refine bodyPost_ret (results_none rfl _ _ _) rfl ?_
        exact ⟨⟨_, rfl⟩, .inr ⟨_, HX3.out⟩⟩
    · have e : decide (((2 * k : Nat) : Int) < (n : Int)) = false := by simp; omega
      have e2 : firsts n k = List.finRange (chunks n) := firsts_all (by unfold chunks; omega)
      have HJ2 : Hid (J (List.finRange (chunks n)) wr) := e2 ▸ HJ.out
      clear HJ e2
      gi_wp2
      go_end0
      exact ⟨⟨_, rfl⟩, .inl ⟨_, rfl, HJ2.out⟩⟩
theorem c_ChunkO (a : Option Addr) (n c : Nat) (w : World) : Calls Tryz.prog 36 #[.slice a n c, .int .i64 2] w fun e w' => e = .returned (.func (.func 55) #[] #[.pointer (some ⟨w.heap.size, 0, none⟩), .pointer (some ⟨w.heap.size + 1, 0, none⟩)]) ∧ (w.alloc (.cells #[.slice a n c] 23)).alloc (.cells #[.int .i64 2] 3) = w' := by
  go_enter Tryz.func36, Tryz.ntmps36
  go_wp2
  go_ret
  exact ⟨rfl, rfl⟩
theorem seqO (m : Nat) (hm : 1 ≤ m) (Bs Bn g p n c : Nat) (hnc : n ≤ c) (hc : c ≤ maxLen) (hsz : n ≤ 140737488351232) (a : Option Addr) (ha : 0 < n → a = some ⟨g, p, none⟩) (w : World) (hB : Bs < w.heap.size) (hB2 : Bn < w.heap.size)
    (hBs : w.cell? ⟨Bs, 0, none⟩ = some (.slice a n c)) (hBn : w.cell? ⟨Bn, 0, none⟩ = some (.int .i64 2)) :
    SeqStopsK Fence.wide m Tryz.prog 55 #[.pointer (some ⟨Bs, 0, none⟩), .pointer (some ⟨Bn, 0, none⟩)] (fun x : Fin (chunks n) => #[.slice (some ⟨g, p + 2 * x.val * 4, none⟩) (wid n x.val) (wid n x.val)]) (Kept Bs Bn)
      (fun ys => ys = List.finRange (chunks n)) (fun pre => ∃ k, pre = firsts n k) (chunks n) w :=
  fun l J Jx W hW hJ _ hY h0 =>
    (chunkO_in m hm l Bs Bn g p n c hnc hc hsz a ha J Jx (fun s W m hs => hJ s W _ none hs ⟨rfl, rfl, rfl, Nat.le_refl _, fun _ _ _ => rfl⟩ (fun r e => by cases e)) hY W ((hW.cell (p := ⟨Bs, 0, none⟩) hB).trans hBs) ((hW.cell (p := ⟨Bn, 0, none⟩) hB2).trans hBn) h0).mono
      fun e W' ⟨h1, h2⟩ => ⟨h1, h2.imp id fun ⟨k, hk⟩ => ⟨_, ⟨k, rfl⟩, hk⟩⟩
/-! ### What a chunk gives -/
def passAt (l : List Ot) (j : Nat) : Prop := 2 * j + 1 < l.length ∧ (l.getD (2 * j) nul).e = 0 ∧ isT (l.getD (2 * j) nul) = false
def outAt (l : List Ot) (j : Nat) : Ot := if 2 * j + 1 < l.length then (if (l.getD (2 * j) nul).e ≠ 0 then l.getD (2 * j) nul else l.getD (2 * j + 1) nul) else l.getD (2 * j) nul
theorem chunks_cons (x y : Ot) (t : List Ot) : chunks (x :: y :: t).length = chunks t.length + 1 := by simp [chunks]; omega
theorem pass_cons (x y : Ot) (t : List Ot) (j : Nat) : passAt (x :: y :: t) (j + 1) ↔ passAt t j := by
  unfold passAt
  have : 2 * (j + 1) = 2 * j + 1 + 1 := by omega
  simp only [this, List.length_cons, List.getD_cons_succ]
  constructor
  · rintro ⟨h1, h2⟩; exact ⟨by omega, h2⟩
  · rintro ⟨h1, h2⟩; exact ⟨by omega, h2⟩
theorem out_cons (x y : Ot) (t : List Ot) (j : Nat) : outAt (x :: y :: t) (j + 1) = outAt t j := by
  unfold outAt
  have : 2 * (j + 1) = 2 * j + 1 + 1 := by omega
  simp only [this, List.length_cons, List.getD_cons_succ]
  by_cases h : 2 * j + 1 < t.length
  · rw [if_pos h, if_pos (by omega)]
  · rw [if_neg h, if_neg (by omega)]
theorem choose_skip {x y : Ot} {t : List Ot} (h : passAt (x :: y :: t) 0) : choose (x :: y :: t) = choose t := by
  obtain ⟨-, h1, h2⟩ := h
  simp only [Nat.mul_zero, List.getD_cons_zero] at h1 h2
  rw [choose, if_neg (by simp [h1]), if_neg (by simp [h2])]
theorem choose_done : ∀ l : List Ot, (∀ j, j < chunks l.length → passAt l j) → choose l = nul
  | [], _ => rfl
  | [x], h => by
    have := (h 0 (by simp [chunks])).1
    simp at this
  | x :: y :: t, h => by
    rw [choose_skip (h 0 (by rw [chunks_cons]; omega))]
    exact choose_done t fun j hj => (pass_cons x y t j).1 (h (j + 1) (by rw [chunks_cons]; omega))
theorem choose_stop : ∀ (l : List Ot) (k : Nat), k < chunks l.length → (∀ j, j < k → passAt l j) → ¬ passAt l k → choose l = outAt l k
  | [], k, hk, _, _ => by simp [chunks] at hk
  | [x], k, hk, _, _ => by
    have : k = 0 := by simp [chunks] at hk; omega
    subst this
    rfl
  | x :: y :: t, 0, _, _, hn => by
    unfold passAt at hn
    simp only [Nat.mul_zero, List.getD_cons_zero, List.length_cons] at hn
    have hlt : 2 * 0 + 1 < (x :: y :: t).length := by simp
    unfold outAt
    rw [if_pos hlt, choose]
    simp only [Nat.mul_zero, List.getD_cons_zero, Nat.zero_add, List.getD_cons_succ]
    by_cases h1 : x.e = 0
    · cases h2 : isT x with
      | true => simp [h1]
      | false => exact absurd ⟨by omega, h1, h2⟩ hn
    · rw [if_pos h1, if_pos h1]
  | x :: y :: t, k + 1, hk, hp, hn => by
    rw [choose_skip (hp 0 (by omega)), out_cons]
    exact choose_stop t k (by rw [chunks_cons] at hk; omega) (fun j hj => (pass_cons x y t j).1 (hp (j + 1) (by omega))) (fun h => hn ((pass_cons x y t k).2 h))
theorem Box.keptO {A B : World} {b : Nat} {o : Ot} {row : Option Nat} (h : Box A b o) (hg : A.grownBy B row) (hr : ∀ r, row = some r → ∃ o : Obj, A.heap[r]? = some o ∧ o.isCells = false) : Box B b o :=
  ⟨Nat.lt_of_lt_of_le h.lt hg.size, cell_kept h.c0 hg hr, cell_kept h.c1 hg hr, cell_kept h.c2 hg hr, cell_kept h.c3 hg hr, (frozen_kept h.c0 hg hr).trans h.f0, (frozen_kept h.c1 hg hr).trans h.f1, (frozen_kept h.c2 hg hr).trans h.f2, (frozen_kept h.c3 hg hr).trans h.f3⟩
theorem others_below {W W' : World} (hb : Below W.heap.size W W') : KeepsOthers W W' := KeepsOthers.of_grownBy (row := none) ⟨hb.os, hb.tape, hb.output, hb.size, fun k hk _ => hb.block k hk⟩ (fun j o e => by cases e)
theorem others_put (W : World) (b : Nat) (o : Ot) : KeepsOthers W (put4 W b o) := (KeepsOthers.setCell _ _ _).trans ((KeepsOthers.setCell _ _ _).trans ((KeepsOthers.setCell _ _ _).trans (KeepsOthers.setCell _ _ _)))
theorem below_dr (W : World) : Below W.heap.size W W.drew := ⟨rfl, rfl, rfl, Nat.le_refl _, fun _ _ => rfl⟩
theorem getD_of {l : List Ot} {k : Nat} {o : Ot} (h : l[k]? = some o) : l.getD k nul = o := by rw [List.getD_eq_getElem?_getD, h]; rfl
theorem firsts_val {n k i : Nat} {x : Fin (chunks n)} (h : (firsts n k)[i]? = some x) : x.val = i := by
  unfold firsts at h
  rw [List.getElem?_take] at h
  split at h
  · rw [List.getElem?_eq_some_iff] at h
    obtain ⟨h1, rfl⟩ := h
    simp
  · cases h
theorem stop_is {l : List Ot} {n k : Nat} (hn : n = l.length) {ini : List (Fin (chunks n))} {y : Fin (chunks n)} (h : firsts n k = ini ++ [y]) (hp : ∀ x ∈ ini, passAt l x.val) (hq : ¬ passAt l y.val) : choose l = outAt l y.val := by
  have hy : y.val = ini.length := firsts_val (k := k) (i := ini.length) (by rw [h]; simp)
  have hl := y.isLt
  refine choose_stop l y.val (by rw [← hn]; exact hl) (fun j hj => ?_) hq
  have hji : j < ini.length := by omega
  have hx : (firsts n k)[j]? = some ini[j] := by rw [h, List.getElem?_append_left hji]; simp
  have he := firsts_val hx
  have hm := hp _ (List.getElem_mem hji)
  rw [he] at hm
  exact hm
theorem is_T {o : Ot} (h : o.ok = true) (ht : isT o = true) : o = bo true := by
  obtain ⟨k, n, s, e⟩ := o
  simp only [isT, Bool.and_eq_true, beq_iff_eq] at ht
  obtain ⟨he, hk, hn⟩ := ht
  subst he; subst hk; subst hn
  unfold Ot.ok vd at h
  simp at h
  rw [ba_nil h]
  rfl
set_option maxRecDepth 100000 in
set_option maxHeartbeats 4000000 in
theorem c_choose (a : Option Addr) (n c : Nat) (l : List Ot) (hnc : n ≤ c) (hc : c ≤ maxLen) (hsz : n ≤ 140737488351232) (hv : l.all Ot.ok = true) (w : World) (h : Outs w a n l) : Ret 16 #[.slice a n c] w (enc (choose l)) := by
  have HL := Lib.hid h
  have HLn := Lib.hid h.len
  have HV := Lib.hid hv
  have hgp : ∃ g p, 0 < n → a = some ⟨g, p, none⟩ := by
    by_cases h0 : 0 < n
    · obtain ⟨g, p, o, h1, -⟩ := h.at_ 0 h0
      exact ⟨g, p, fun _ => h1⟩
    · exact ⟨0, 0, fun e => absurd e h0⟩
  obtain ⟨g, p, hgp⟩ := hgp
  clear h hv
  refine (callsIn_wide (n := 3)).1 ?_
  refine callsIn_of_wp_marks Tryz.func16 rfl trivial ?_ rfl
  simp only [Tryz.ntmps16, List.size_toArray, List.length_cons, List.length_nil, Nat.reduceAdd, Nat.reduceSub, Array.replicate_succ, Array.replicate_zero, List.push_toArray, List.append_toArray, List.nil_append, List.cons_append]
  gi_wp2_with (refine ⟨trivial, ?_⟩; gi_at_call 36; refine (callsIn_wide.2 (c_ChunkO _ _ _ _)).mono ?_; rintro e w' ⟨rfl, rfl⟩)
  have hB0 : Below w.heap.size w (((w.alloc (.cells #[.int .u8 0, .int .i64 0, .string ⟨#[]⟩, .int .i64 0] 31)).alloc (.cells #[.slice a n c] 23)).alloc (.cells #[.int .i64 2] 3)) := by repeat (first | exact Below.refl _ _ | assumption | exact Go.Proofs.YtdbhencjomnjhaaGreatDoor.V.below_drewN _ _ | (refine bel_trans ?_ (Go.Proofs.YtdbhencjomnjhaaGreatDoor.V.below_drewN _ _)) | (refine bel_trans ?_ (by assumption)) | (with_reducible apply bel_alloc) | (with_reducible apply Below.drew) | apply bel_alloc | apply Below.drew | refine bel_set ?_ (by simp; try omega) _)
  refine wpIn_rangeFunc_ownF rfl (by omega) (gf := 55) (lb := #[.pointer (some ⟨w.heap.size + 1, 0, none⟩), .pointer (some ⟨w.heap.size + 1 + 1, 0, none⟩)]) rfl trivial (enters_of Tryz.func55 (by kernel_rfl) rfl)
    (seqO (3 - 1) (by omega) (w.heap.size + 1) (w.heap.size + 1 + 1) g p n c hnc hc hsz a hgp _ (by simp) (by simp) (by simp [go_sem]) (by simp [go_sem])) kept_t (kept_b (by simp) (by simp)) (Below.refl _ _) (fun _ => rfl)
    (fun pre W => ((∀ x ∈ pre, passAt l x.val) ∧ Box W w.heap.size nul ∧ w.heap.size + 3 ≤ W.heap.size) ∧ Below w.heap.size w W)
    (fun c pre W => (c = .ret ∧ (∃ ini y, pre = ini ++ [y] ∧ (∀ x ∈ ini, passAt l x.val) ∧ ¬ passAt l y.val ∧ Box W w.heap.size (outAt l y.val))) ∧ Below w.heap.size w W)
    (OwnFrom.and (Own.from (fun s A B row hs hg hr => ⟨hs.1, hs.2.1.keptO hg hr, Nat.le_trans hs.2.2 hg.size⟩) _) (ownFrom_below (Nat.le_refl _) (by simp; omega)))
    (fun c => OwnFrom.and (Own.from (fun s A B row hs hg hr => by
      obtain ⟨h1, ini, y, h2, h3, h4, h5⟩ := hs
      exact ⟨h1, ini, y, h2, h3, h4, h5.keptO hg hr⟩) _) (ownFrom_below (Nat.le_refl _) (by simp; omega)))
    ⟨⟨by simp, ((Box.new w nul).alloc _).alloc _, by simp⟩, hB0⟩
    (fun y => { tmps := #[.slice a n c, undef, .pointer (some ⟨w.heap.size, 0, none⟩), .slice (some ⟨g, p + 2 * y.val * 4, none⟩) (wid n y.val) (wid n y.val), undef, .slice a n c, .func (.func 55) #[] #[.pointer (some ⟨w.heap.size + 1, 0, none⟩), .pointer (some ⟨w.heap.size + 1 + 1, 0, none⟩)], .slice (some ⟨g, p + 2 * y.val * 4, none⟩) (wid n y.val) (wid n y.val), undef, undef, undef, undef, undef, undef, undef, undef, undef, undef, undef, undef, undef, undef, undef, undef, undef, undef, undef, undef], defers := [] }) ?assign ?body ?done ?stop
  case assign =>
    intro l x W K hK
    gi_wp2
    exact hK
  case body =>
    rintro lk pre y W ⟨⟨hp, hX, hbs⟩, hB⟩ hpre
    have HP := Lib.hid hp
    clear hp
    have hyl := y.isLt
    unfold chunks at hyl
    obtain rfl := hgp (by omega)
    obtain ⟨hx, b0, b1, b2, b3, f0, f1, f2, f3⟩ := hX
    have HX : Hid (Box W w.heap.size nul) := ⟨hx, b0, b1, b2, b3, f0, f1, f2, f3⟩
    obtain ⟨g1, p1, x0, e1, hx0, hg1, c0, c1, c2, c3⟩ := (HL.out.below hB).at_ (2 * y.val) (by omega)
    cases e1
    have d0 := getD_of hx0
    by_cases h2 : 2 * y.val + 1 < n
    · have hw : wid n y.val = 2 := by unfold wid; omega
      rw [hw]
      obtain ⟨g2, p2, x1, e2, hx1, hg2, m0, m1, m2, m3⟩ := (HL.out.below hB).at_ (2 * y.val + 1) (by omega)
      cases e2
      have d1 := getD_of hx1
      rw [show p + (2 * y.val + 1) * 4 = p + 2 * y.val * 4 + 4 by omega] at m0 m1 m2 m3
      by_cases he : x0.e = 0
      · cases hT : isT x0 with
        | true =>
          have hxe := is_T (List.all_eq_true.1 HV.out x0 (List.mem_of_getElem? hx0)) hT
          have hN : Hid (¬ passAt l y.val) := by
            rintro ⟨-, -, h3⟩
            rw [d0, hT] at h3
            cases h3
          have hO : Hid (outAt l y.val = x1) := by
            show _ = _
            unfold outAt
            rw [if_pos (by rw [← HLn.out]; exact h2), d0, d1, if_neg (by simp [he])]
          subst hxe
          have hc0 : W.cell? ⟨g, p + 2 * y.val * 4, none⟩ = some (.int .u8 3) := c0
          have hc1 : W.cell? ⟨g, p + 2 * y.val * 4 + 1, none⟩ = some (.int .i64 1) := c1
          have hc2 : W.cell? ⟨g, p + 2 * y.val * 4 + 2, none⟩ = some (.string ⟨#[]⟩) := c2
          have hc3 : W.cell? ⟨g, p + 2 * y.val * 4 + 3, none⟩ = some (.int .i64 0) := c3
          clear hx0 hx1 d0 d1 he hw hT c0 c1 c2 c3
          gi_wp2
          refine region_round (by kernel_rfl) (noDefer_spec (by kernel_rfl)) ?_
          refine wpAnyIn_ready (rs := [0, 1]) (by kernel_rfl) (by simp) (AllReadyIn.cons rfl (fun K hK => ?_) (AllReadyIn.cons rfl (fun K hK => ?_) AllReadyIn.nil))
          · go_simp
            refine hK _ _ ?_; clear hK K
            refine wpAnyIn_ready (rs := [1]) (by kernel_rfl) (by simp) (AllReadyIn.cons rfl (fun K hK => ?_) AllReadyIn.nil)
            go_simp
            refine ⟨trivial, (callsIn_wide.2 (c_truth_t _)).mono ?_⟩
            rintro e w4 ⟨rfl, hb4⟩
            have hBW : Below W.heap.size W w4 := by repeat (first | exact Below.refl _ _ | assumption | exact Go.Proofs.YtdbhencjomnjhaaGreatDoor.V.below_drewN _ _ | (refine bel_trans ?_ (Go.Proofs.YtdbhencjomnjhaaGreatDoor.V.below_drewN _ _)) | (refine bel_trans ?_ (by assumption)) | (with_reducible apply bel_alloc) | (with_reducible apply Below.drew) | apply bel_alloc | apply Below.drew | refine bel_set ?_ (by simp; try omega) _)
            have YC := (Box.new W (bo true)).below (show Below (W.alloc (.cells #[.int .u8 3, .int .i64 1, .string ⟨#[]⟩, .int .i64 0] 31)).heap.size (W.alloc (.cells #[.int .u8 3, .int .i64 1, .string ⟨#[]⟩, .int .i64 0] 31)) w4 from bel_trans (below_dr _) hb4)
            obtain ⟨yl, y0, y1, y2, y3, -, -, -, -⟩ := YC
            change w4.cell? _ = some (.int .u8 3) at y0
            change w4.cell? _ = some (.int .i64 1) at y1
            change w4.cell? _ = some (.string ⟨#[]⟩) at y2
            change w4.cell? _ = some (.int .i64 0) at y3
            replace m0 := (hBW.cell (p := ⟨g, _, none⟩) hg2).trans m0
            replace m1 := (hBW.cell (p := ⟨g, _, none⟩) hg2).trans m1
            replace m2 := (hBW.cell (p := ⟨g, _, none⟩) hg2).trans m2
            replace m3 := (hBW.cell (p := ⟨g, _, none⟩) hg2).trans m3
            obtain ⟨hx, b0, b1, b2, b3, f0, f1, f2, f3⟩ := HX.out.below hBW
            have HW := Lib.hid hBW
            clear hb4 hBW
            refine hK _ _ ?_; clear hK K
            refine wpAnyIn_ready (rs := [2]) (by kernel_rfl) (by simp) (AllReadyIn.cons rfl (fun K hK => ?_) AllReadyIn.nil)
            go_simp
            refine hK _ _ ?_; clear hK K
            refine wpAnyIn_done (by kernel_rfl) ?_ _
            gi_wp2
            exact ⟨(others_below HW.out).trans (others_put _ _ x1), ⟨rfl, pre, y, rfl, HP.out, hN.out, by rw [hO.out]; exact (HX.out.below HW.out).put x1⟩, put4_below (bel_trans hB HW.out) (Nat.le_refl _) x1⟩
          · go_simp
            refine ⟨trivial, (callsIn_wide.2 (c_truth_t _)).mono ?_⟩
            rintro e w4 ⟨rfl, hb4⟩
            have hBW : Below W.heap.size W w4 := by repeat (first | exact Below.refl _ _ | assumption | exact Go.Proofs.YtdbhencjomnjhaaGreatDoor.V.below_drewN _ _ | (refine bel_trans ?_ (Go.Proofs.YtdbhencjomnjhaaGreatDoor.V.below_drewN _ _)) | (refine bel_trans ?_ (by assumption)) | (with_reducible apply bel_alloc) | (with_reducible apply Below.drew) | apply bel_alloc | apply Below.drew | refine bel_set ?_ (by simp; try omega) _)
            have YC := (Box.new W (bo true)).below (show Below (W.alloc (.cells #[.int .u8 3, .int .i64 1, .string ⟨#[]⟩, .int .i64 0] 31)).heap.size (W.alloc (.cells #[.int .u8 3, .int .i64 1, .string ⟨#[]⟩, .int .i64 0] 31)) w4 from bel_trans (below_dr _) hb4)
            obtain ⟨yl, y0, y1, y2, y3, -, -, -, -⟩ := YC
            change w4.cell? _ = some (.int .u8 3) at y0
            change w4.cell? _ = some (.int .i64 1) at y1
            change w4.cell? _ = some (.string ⟨#[]⟩) at y2
            change w4.cell? _ = some (.int .i64 0) at y3
            replace m0 := (hBW.cell (p := ⟨g, _, none⟩) hg2).trans m0
            replace m1 := (hBW.cell (p := ⟨g, _, none⟩) hg2).trans m1
            replace m2 := (hBW.cell (p := ⟨g, _, none⟩) hg2).trans m2
            replace m3 := (hBW.cell (p := ⟨g, _, none⟩) hg2).trans m3
            obtain ⟨hx, b0, b1, b2, b3, f0, f1, f2, f3⟩ := HX.out.below hBW
            have HW := Lib.hid hBW
            clear hb4 hBW
            refine hK _ _ ?_; clear hK K
            refine wpAnyIn_ready (rs := [0]) (by kernel_rfl) (by simp) (AllReadyIn.cons rfl (fun K hK => ?_) AllReadyIn.nil)
            go_simp
            refine hK _ _ ?_; clear hK K
            refine wpAnyIn_ready (rs := [2]) (by kernel_rfl) (by simp) (AllReadyIn.cons rfl (fun K hK => ?_) AllReadyIn.nil)
            go_simp
            refine hK _ _ ?_; clear hK K
            refine wpAnyIn_done (by kernel_rfl) ?_ _
            gi_wp2
            exact ⟨(others_below HW.out).trans (others_put _ _ x1), ⟨rfl, pre, y, rfl, HP.out, hN.out, by rw [hO.out]; exact (HX.out.below HW.out).put x1⟩, put4_below (bel_trans hB HW.out) (Nat.le_refl _) x1⟩
        | false =>
          have hN : Hid (passAt l y.val) := ⟨by rw [← HLn.out]; exact h2, by rw [d0]; exact he, by rw [d0]; exact hT⟩
          have hT' : ¬ (x0.k = 3 ∧ x0.n = 1) := fun h => by
            simp [isT, he, h.1, h.2] at hT
          clear hx0 hx1 d0 d1 hw hT
          obtain ⟨xk, xn, xs, xe⟩ := x0
          have he : xe = 0 := he
          subst he
          have hT' : ¬ (xk = 3 ∧ xn = 1) := hT'
          have c0 : W.cell? ⟨g, p + 2 * y.val * 4, none⟩ = some (.int .u8 xk) := c0
          have c1 : W.cell? ⟨g, p + 2 * y.val * 4 + 1, none⟩ = some (.int .i64 xn) := c1
          have c2 : W.cell? ⟨g, p + 2 * y.val * 4 + 2, none⟩ = some (.string xs) := c2
          have c3 : W.cell? ⟨g, p + 2 * y.val * 4 + 3, none⟩ = some (.int .i64 0) := c3
          by_cases h3 : xk = 3
          · have h4 : ¬ xn = 1 := fun h4 => hT' ⟨h3, h4⟩
            subst h3
            clear hT'
            gi_wp2
            refine region_round (by kernel_rfl) (noDefer_spec (by kernel_rfl)) ?_
            refine wpAnyIn_ready (rs := [0, 1]) (by kernel_rfl) (by simp) (AllReadyIn.cons rfl (fun K hK => ?_) (AllReadyIn.cons rfl (fun K hK => ?_) AllReadyIn.nil))
            · go_simp
              refine hK _ _ ?_; clear hK K
              refine wpAnyIn_ready (rs := [1]) (by kernel_rfl) (by simp) (AllReadyIn.cons rfl (fun K hK => ?_) AllReadyIn.nil)
              go_simp
              refine ⟨trivial, (callsIn_wide.2 (c_truth_t _)).mono ?_⟩
              rintro e w4 ⟨rfl, hb4⟩
              have hBW : Below W.heap.size W w4 := by repeat (first | exact Below.refl _ _ | assumption | exact Go.Proofs.YtdbhencjomnjhaaGreatDoor.V.below_drewN _ _ | (refine bel_trans ?_ (Go.Proofs.YtdbhencjomnjhaaGreatDoor.V.below_drewN _ _)) | (refine bel_trans ?_ (by assumption)) | (with_reducible apply bel_alloc) | (with_reducible apply Below.drew) | apply bel_alloc | apply Below.drew | refine bel_set ?_ (by simp; try omega) _)
              have YC := (Box.new W (⟨3, xn, xs, 0⟩ : Ot)).below (show Below (W.alloc (.cells #[.int .u8 3, .int .i64 xn, .string xs, .int .i64 0] 31)).heap.size (W.alloc (.cells #[.int .u8 3, .int .i64 xn, .string xs, .int .i64 0] 31)) w4 from bel_trans (below_dr _) hb4)
              obtain ⟨yl, y0, y1, y2, y3, -, -, -, -⟩ := YC
              change w4.cell? _ = some (.int .u8 3) at y0
              change w4.cell? _ = some (.int .i64 xn) at y1
              change w4.cell? _ = some (.string xs) at y2
              change w4.cell? _ = some (.int .i64 0) at y3
              replace m0 := (hBW.cell (p := ⟨g, _, none⟩) hg2).trans m0
              replace m1 := (hBW.cell (p := ⟨g, _, none⟩) hg2).trans m1
              replace m2 := (hBW.cell (p := ⟨g, _, none⟩) hg2).trans m2
              replace m3 := (hBW.cell (p := ⟨g, _, none⟩) hg2).trans m3
              obtain ⟨hx, b0, b1, b2, b3, f0, f1, f2, f3⟩ := HX.out.below hBW
              have HW := Lib.hid hBW
              clear hb4 hBW
              refine hK _ _ ?_; clear hK K
              refine wpAnyIn_ready (rs := [2]) (by kernel_rfl) (by simp) (AllReadyIn.cons rfl (fun K hK => ?_) AllReadyIn.nil)
              go_simp
              refine hK _ _ ?_; clear hK K
              refine wpAnyIn_done (by kernel_rfl) ?_ _
              gi_wp2
              exact ⟨others_below HW.out, ⟨(HW.out.cell (p := ⟨w.heap.size + 1, 0, none⟩) (by show w.heap.size + 1 < _; omega)), (HW.out.cell (p := ⟨w.heap.size + 1 + 1, 0, none⟩) (by show w.heap.size + 1 + 1 < _; omega))⟩, ⟨fun z hz => (List.mem_append.1 hz).elim (HP.out z) (fun e => by simp at e; subst e; exact hN.out), HX.out.below HW.out, Nat.le_trans hbs HW.out.size⟩, bel_trans hB HW.out⟩
            · go_simp
              refine ⟨trivial, (callsIn_wide.2 (c_truth_t _)).mono ?_⟩
              rintro e w4 ⟨rfl, hb4⟩
              have hBW : Below W.heap.size W w4 := by repeat (first | exact Below.refl _ _ | assumption | exact Go.Proofs.YtdbhencjomnjhaaGreatDoor.V.below_drewN _ _ | (refine bel_trans ?_ (Go.Proofs.YtdbhencjomnjhaaGreatDoor.V.below_drewN _ _)) | (refine bel_trans ?_ (by assumption)) | (with_reducible apply bel_alloc) | (with_reducible apply Below.drew) | apply bel_alloc | apply Below.drew | refine bel_set ?_ (by simp; try omega) _)
              have YC := (Box.new W (⟨3, xn, xs, 0⟩ : Ot)).below (show Below (W.alloc (.cells #[.int .u8 3, .int .i64 xn, .string xs, .int .i64 0] 31)).heap.size (W.alloc (.cells #[.int .u8 3, .int .i64 xn, .string xs, .int .i64 0] 31)) w4 from bel_trans (below_dr _) hb4)
              obtain ⟨yl, y0, y1, y2, y3, -, -, -, -⟩ := YC
              change w4.cell? _ = some (.int .u8 3) at y0
              change w4.cell? _ = some (.int .i64 xn) at y1
              change w4.cell? _ = some (.string xs) at y2
              change w4.cell? _ = some (.int .i64 0) at y3
              replace m0 := (hBW.cell (p := ⟨g, _, none⟩) hg2).trans m0
              replace m1 := (hBW.cell (p := ⟨g, _, none⟩) hg2).trans m1
              replace m2 := (hBW.cell (p := ⟨g, _, none⟩) hg2).trans m2
              replace m3 := (hBW.cell (p := ⟨g, _, none⟩) hg2).trans m3
              obtain ⟨hx, b0, b1, b2, b3, f0, f1, f2, f3⟩ := HX.out.below hBW
              have HW := Lib.hid hBW
              clear hb4 hBW
              refine hK _ _ ?_; clear hK K
              refine wpAnyIn_ready (rs := [0]) (by kernel_rfl) (by simp) (AllReadyIn.cons rfl (fun K hK => ?_) AllReadyIn.nil)
              go_simp
              refine hK _ _ ?_; clear hK K
              refine wpAnyIn_ready (rs := [2]) (by kernel_rfl) (by simp) (AllReadyIn.cons rfl (fun K hK => ?_) AllReadyIn.nil)
              go_simp
              refine hK _ _ ?_; clear hK K
              refine wpAnyIn_done (by kernel_rfl) ?_ _
              gi_wp2
              exact ⟨others_below HW.out, ⟨(HW.out.cell (p := ⟨w.heap.size + 1, 0, none⟩) (by show w.heap.size + 1 < _; omega)), (HW.out.cell (p := ⟨w.heap.size + 1 + 1, 0, none⟩) (by show w.heap.size + 1 + 1 < _; omega))⟩, ⟨fun z hz => (List.mem_append.1 hz).elim (HP.out z) (fun e => by simp at e; subst e; exact hN.out), HX.out.below HW.out, Nat.le_trans hbs HW.out.size⟩, bel_trans hB HW.out⟩
          · clear hT'
            gi_wp2
            refine region_round (by kernel_rfl) (noDefer_spec (by kernel_rfl)) ?_
            refine wpAnyIn_ready (rs := [0, 1]) (by kernel_rfl) (by simp) (AllReadyIn.cons rfl (fun K hK => ?_) (AllReadyIn.cons rfl (fun K hK => ?_) AllReadyIn.nil))
            · go_simp
              refine hK _ _ ?_; clear hK K
              refine wpAnyIn_ready (rs := [1]) (by kernel_rfl) (by simp) (AllReadyIn.cons rfl (fun K hK => ?_) AllReadyIn.nil)
              go_simp
              refine ⟨trivial, (callsIn_wide.2 (c_truth_t _)).mono ?_⟩
              rintro e w4 ⟨rfl, hb4⟩
              have hBW : Below W.heap.size W w4 := by repeat (first | exact Below.refl _ _ | assumption | exact Go.Proofs.YtdbhencjomnjhaaGreatDoor.V.below_drewN _ _ | (refine bel_trans ?_ (Go.Proofs.YtdbhencjomnjhaaGreatDoor.V.below_drewN _ _)) | (refine bel_trans ?_ (by assumption)) | (with_reducible apply bel_alloc) | (with_reducible apply Below.drew) | apply bel_alloc | apply Below.drew | refine bel_set ?_ (by simp; try omega) _)
              have YC := (Box.new W (⟨xk, xn, xs, 0⟩ : Ot)).below (show Below (W.alloc (.cells #[.int .u8 xk, .int .i64 xn, .string xs, .int .i64 0] 31)).heap.size (W.alloc (.cells #[.int .u8 xk, .int .i64 xn, .string xs, .int .i64 0] 31)) w4 from bel_trans (below_dr _) hb4)
              obtain ⟨yl, y0, y1, y2, y3, -, -, -, -⟩ := YC
              change w4.cell? _ = some (.int .u8 xk) at y0
              change w4.cell? _ = some (.int .i64 xn) at y1
              change w4.cell? _ = some (.string xs) at y2
              change w4.cell? _ = some (.int .i64 0) at y3
              replace m0 := (hBW.cell (p := ⟨g, _, none⟩) hg2).trans m0
              replace m1 := (hBW.cell (p := ⟨g, _, none⟩) hg2).trans m1
              replace m2 := (hBW.cell (p := ⟨g, _, none⟩) hg2).trans m2
              replace m3 := (hBW.cell (p := ⟨g, _, none⟩) hg2).trans m3
              obtain ⟨hx, b0, b1, b2, b3, f0, f1, f2, f3⟩ := HX.out.below hBW
              have HW := Lib.hid hBW
              clear hb4 hBW
              refine hK _ _ ?_; clear hK K
              refine wpAnyIn_ready (rs := [2]) (by kernel_rfl) (by simp) (AllReadyIn.cons rfl (fun K hK => ?_) AllReadyIn.nil)
              go_simp
              refine hK _ _ ?_; clear hK K
              refine wpAnyIn_done (by kernel_rfl) ?_ _
              gi_wp2
              exact ⟨others_below HW.out, ⟨(HW.out.cell (p := ⟨w.heap.size + 1, 0, none⟩) (by show w.heap.size + 1 < _; omega)), (HW.out.cell (p := ⟨w.heap.size + 1 + 1, 0, none⟩) (by show w.heap.size + 1 + 1 < _; omega))⟩, ⟨fun z hz => (List.mem_append.1 hz).elim (HP.out z) (fun e => by simp at e; subst e; exact hN.out), HX.out.below HW.out, Nat.le_trans hbs HW.out.size⟩, bel_trans hB HW.out⟩
            · go_simp
              refine ⟨trivial, (callsIn_wide.2 (c_truth_t _)).mono ?_⟩
              rintro e w4 ⟨rfl, hb4⟩
              have hBW : Below W.heap.size W w4 := by repeat (first | exact Below.refl _ _ | assumption | exact Go.Proofs.YtdbhencjomnjhaaGreatDoor.V.below_drewN _ _ | (refine bel_trans ?_ (Go.Proofs.YtdbhencjomnjhaaGreatDoor.V.below_drewN _ _)) | (refine bel_trans ?_ (by assumption)) | (with_reducible apply bel_alloc) | (with_reducible apply Below.drew) | apply bel_alloc | apply Below.drew | refine bel_set ?_ (by simp; try omega) _)
              have YC := (Box.new W (⟨xk, xn, xs, 0⟩ : Ot)).below (show Below (W.alloc (.cells #[.int .u8 xk, .int .i64 xn, .string xs, .int .i64 0] 31)).heap.size (W.alloc (.cells #[.int .u8 xk, .int .i64 xn, .string xs, .int .i64 0] 31)) w4 from bel_trans (below_dr _) hb4)
              obtain ⟨yl, y0, y1, y2, y3, -, -, -, -⟩ := YC
              change w4.cell? _ = some (.int .u8 xk) at y0
              change w4.cell? _ = some (.int .i64 xn) at y1
              change w4.cell? _ = some (.string xs) at y2
              change w4.cell? _ = some (.int .i64 0) at y3
              replace m0 := (hBW.cell (p := ⟨g, _, none⟩) hg2).trans m0
              replace m1 := (hBW.cell (p := ⟨g, _, none⟩) hg2).trans m1
              replace m2 := (hBW.cell (p := ⟨g, _, none⟩) hg2).trans m2
              replace m3 := (hBW.cell (p := ⟨g, _, none⟩) hg2).trans m3
              obtain ⟨hx, b0, b1, b2, b3, f0, f1, f2, f3⟩ := HX.out.below hBW
              have HW := Lib.hid hBW
              clear hb4 hBW
              refine hK _ _ ?_; clear hK K
              refine wpAnyIn_ready (rs := [0]) (by kernel_rfl) (by simp) (AllReadyIn.cons rfl (fun K hK => ?_) AllReadyIn.nil)
              go_simp
              refine hK _ _ ?_; clear hK K
              refine wpAnyIn_ready (rs := [2]) (by kernel_rfl) (by simp) (AllReadyIn.cons rfl (fun K hK => ?_) AllReadyIn.nil)
              go_simp
              refine hK _ _ ?_; clear hK K
              refine wpAnyIn_done (by kernel_rfl) ?_ _
              gi_wp2
              exact ⟨others_below HW.out, ⟨(HW.out.cell (p := ⟨w.heap.size + 1, 0, none⟩) (by show w.heap.size + 1 < _; omega)), (HW.out.cell (p := ⟨w.heap.size + 1 + 1, 0, none⟩) (by show w.heap.size + 1 + 1 < _; omega))⟩, ⟨fun z hz => (List.mem_append.1 hz).elim (HP.out z) (fun e => by simp at e; subst e; exact hN.out), HX.out.below HW.out, Nat.le_trans hbs HW.out.size⟩, bel_trans hB HW.out⟩
      · have hN : Hid (¬ passAt l y.val) := by
          rintro ⟨-, h3, -⟩
          rw [d0] at h3
          exact he h3
        have hO : Hid (outAt l y.val = x0) := by
          show _ = _
          unfold outAt
          rw [if_pos (by rw [← HLn.out]; exact h2), d0, if_pos he]
        have he2 : (x0.e != 0) = true := by simpa using he
        clear hx0 hx1 d0 d1 he hw
        gi_wp2
        exact ⟨(others_put W _ x0).trans (others_below (bel_alloc (Below.refl _ _) _)), ⟨rfl, pre, y, rfl, HP.out, hN.out, by rw [hO.out]; exact (HX.out.put x0).alloc _⟩, bel_alloc (put4_below hB (Nat.le_refl _) x0) _⟩
    · have hw : wid n y.val = 1 := by unfold wid; omega
      rw [hw]
      have hN : Hid (¬ passAt l y.val) := by
        rintro ⟨h3, -⟩
        rw [← HLn.out] at h3
        exact h2 h3
      have hO : Hid (outAt l y.val = x0) := by
        show _ = _
        unfold outAt
        rw [if_neg (by rw [← HLn.out]; exact h2), d0]
      clear hx0 d0 hw
      gi_wp2
      exact ⟨others_put _ _ x0, ⟨rfl, pre, y, rfl, HP.out, hN.out, by rw [hO.out]; exact HX.out.put x0⟩, put4_below hB (Nat.le_refl _) x0⟩
  case done =>
    rintro D xs W hD rfl ⟨⟨hp, hX, hbs⟩, hB⟩ hK
    have HR : Hid (choose l = nul) := choose_done l fun j hj => hp ⟨j, by rw [HLn.out]; exact hj⟩ (List.mem_finRange _)
    clear hp
    gi_wp2_with (refine ⟨trivial, ?_⟩; gi_at_call 37; refine (callsIn_wide.2 (c_null _)).mono ?_; rintro e w4 ⟨rfl, hb4⟩; obtain ⟨hx, b0, b1, b2, b3, f0, f1, f2, f3⟩ := hX.below hb4)
    have hK' := ((others_below hb4).trans (others_put w4 w.heap.size nul)).same D _ hK rfl
    have hBox := (hX.below hb4).put nul
    have q := hBox.keptO (grownBy_putObj' _ D (.deferred none)) (fun r e => by cases e; exact ⟨_, hK', rfl⟩)
    obtain ⟨-, q0, q1, q2, q3, -, -, -, -⟩ := q
    refine ⟨by simp, .inl ⟨_, _, rfl, run_takeDeferred hK', ?_⟩⟩
    refine ⟨ov 0 0 ⟨#[]⟩ 0, ?_, by rw [HR.out], Below.trans (put4_below (bel_trans hB hb4) (Nat.le_refl _) nul) (belowK_b (w := w) (Nat.le_refl _) _ D _ _ (by simp at hD; omega) hK' rfl rfl)⟩
    simp [results, Tryz.f16, go_sem, q0, q1, q2, q3]
  case stop =>
    rintro D c pre W hD ⟨k, hk⟩ ⟨⟨rfl, ini, y, h2, h3, h4, hBox⟩, hB⟩ hK
    have HR : Hid (choose l = outAt l y.val) := stop_is HLn.out (hk.symm.trans h2) h3 h4
    clear h2 h3 h4 hk
    generalize outAt l y.val = o at HR hBox
    gi_wp2
    have q := hBox.keptO (grownBy_putObj' _ D (.deferred none)) (fun r e => by cases e; exact ⟨_, hK, rfl⟩)
    obtain ⟨-, q0, q1, q2, q3, -, -, -, -⟩ := q
    refine ⟨by simp, .inl ⟨_, _, rfl, run_takeDeferred hK, ?_⟩⟩
    refine ⟨ov o.k o.n o.s o.e, ?_, by rw [HR.out], Below.trans hB (belowK_b (w := w) (Nat.le_refl _) _ D _ _ (by simp at hD; omega) hK rfl rfl)⟩
    simp [results, Tryz.f16, go_sem, q0, q1, q2, q3]
end Go.Proofs.YtdbhencjomnjhaaGreatDoor.K
namespace Go.Proofs.YtdbhencjomnjhaaGreatDoor.L
open Go.ChangeShapes Go.WideShapes Go.ChangeAt Go.RowKit Go.Joins
section
variable {H : Type} {enc : TypeId × Value → H} {P : Program}
def rowed (P : Program) (ts : List TypeId) : Bool := ts.all fun t => P.readableRec t && decide (t < P.types.size)
theorem trodAll_below (hl : laidOutB P = true) {W W' : World} (hb : Below W.heap.size W W') : ∀ {ts : List TypeId} {vs : List Value} {ds : List (DataW H)} {ps : List MemPlace}, rowed P ts = true →
    DataW.TrodAll enc P W 0 (fun _ => true) true ts vs ds ps → (∀ x ∈ ps, x.block < W.heap.size) → DataW.TrodAll enc P W' 0 (fun b => decide (b < W.heap.size)) true ts vs ds ps
  | [], [], [], _, _, h, _ => h
  | [], [], _ :: _, _, _, h, _ => h.elim
  | [], _ :: _, _, _, _, h, _ => h.elim
  | _ :: _, [], _, _, _, h, _ => h.elim
  | _ :: _, _ :: _, [], _, _, h, _ => h.elim
  | t :: ts, v :: vs, d :: ds, ps, hr, h, hlt => by
    obtain ⟨p, q, h1, h2, rfl⟩ := h
    simp only [rowed, List.all_cons, Bool.and_eq_true, decide_eq_true_eq] at hr
    exact ⟨p, q, Below.trod hl hr.1.1 hr.1.2 h1 hb (fun x hx => hlt x (by simp [hx])), trodAll_below hl hb (by simpa [rowed] using hr.2) h2 (fun x hx => hlt x (by simp [hx])), rfl⟩
theorem law_post {f : Func} {s : ChangeSpec} {apart handsOn : Bool} {W W' : World} {args : Array Value} {ds gs : List (DataW H)} {before : List MemPlace} {tb : TypeId}
    (hl : laidOutB P = true) (hr : rowed P f.params.toList = true) (hres : f.resultTypes = #[tb]) (hb : P.underlying tb = some .bool) (hv : s.vars = [])
    (hfn : s.fn H (ds ++ gs) = { results := [.lit (.bool true)], args := ds })
    (hW : DataW.Whole enc P f.params.toList s.vars apart W args.toList ds gs before) (hB : Below W.heap.size W W') : s.post enc P f apart true handsOn false W args (.bool true) W' := by
  have hW' := hW
  have hlt := hW.lt
  obtain ⟨p, q, hA, hV, rfl, _, _⟩ := hW
  rw [hv] at hV
  obtain ⟨rfl, rfl⟩ := trodVars_none hV
  have hA' : DataW.TrodAll enc P W 0 (fun _ => true) true f.params.toList args.toList ds p := hA
  refine ⟨ds, [], p ++ [], [], p, [], hW', ?_, ?_, ?_, hB.frame _, fun h => by cases h⟩
  · rw [hfn, hres]
    exact trodAll_mk1 (shut_bool hb true)
  · rw [hfn]
    exact trodAll_below hl hB hr hA' (fun x hx => hlt x (by simp [hx]))
  · rw [hfn, hv]
    rfl

/-- The wrap of a row that lists variables, the world's shape kept. -/
theorem returnsInHanded_of_change_all {a : Assume} {C : Checked} {os : Os} {f : FuncId} {fn : Func} {s : ChangeSpec} {conds : List PathCond} {apart fresh handsOn again : Bool} {X : World → Array Value → Prop}
    (hX : ∀ (w w' : World) (args : Array Value), w.heap = w'.heap → X w args → X w' args)
    (own : ownKnob C.prog.godebug = none) (started : os.Started) (noInit : C.prog.inits.idxOf? f = none) (hfn : C.prog.funcs[f]? = some fn)
    (witness : ∃ (w : World) (tape : Tape) (i : Input), w.os = os ∧ (w.forCall tape i).Shaped C.prog ∧ i.vars = [] ∧ Input.okWide C.prog (w.forCall tape i) .any w.heap.size f i ∧
      ((s.pre enc C.prog fn conds apart (w.forCall tape i).memory i.args ∧ X (w.forCall tape i).memory i.args) ∧ sizedMet enc C.prog fn (OpenSpec.ofChange s) apart (w.forCall tape i).memory i.args) ∧ a.holds C.prog (lone (Frame.enter C.prog f i.args .normal) [] (w.forCall tape i)))
    (contract : ∀ (W : World) (base : Nat) (args : Array Value) (ds gs : List (DataW H)) (before : List MemPlace),
      (∀ (j : Nat) t v, fn.params[j]? = some t → args[j]? = some v → Value.okWide C.prog W .any base t v) →
      DataW.Whole enc C.prog fn.params.toList s.vars apart W args.toList ds gs before →
      conds.all (PathCond.test C.prog ⟨fn.params.toList, ds, s.plain.varTypes C.prog, gs⟩) = true →
      (DataW.weightsEach C.prog (fn.params.toList ++ s.plain.varTypes C.prog) (ds ++ gs)).all (· ≤ reachBytes) = true → X W args →
      W.ShapedOpen C.prog →
      a.holds C.prog (lone (Frame.enter C.prog f args .normal) [] W) →
      Calls C.prog f args W fun e W' => ∃ v, e = .returned v ∧ s.post enc C.prog fn apart fresh handsOn again W args v W') :
    ReturnsInHanded a C os f .any (fun w args => (s.pre enc C.prog fn conds apart w args ∧ X w args) ∧ sizedMet enc C.prog fn (OpenSpec.ofChange s) apart w args) (s.post enc C.prog fn apart fresh handsOn again) := by
  refine returnsInHanded_of_calls own started noInit witness ?_
  intro w tape i _ hsh _ hok hpre hholds
  obtain ⟨_, _, _, fn', hfn', _, _, _, _, hval⟩ := hok
  have e : fn' = fn := Option.some.inj (hfn'.symm.trans hfn)
  subst e
  obtain ⟨⟨⟨ds, gs, before, hw, hc⟩, hx⟩, hz⟩ := hpre
  have hw' := DataW.Whole.of_heap (w' := w.forCall tape i) (by rfl) hw
  refine (contract (w.forCall tape i) w.heap.size i.args ds gs before hval hw' hc (hz.weights hw) (hX _ _ _ (by rfl) hx) hsh hholds).mono fun e W' ⟨v, he, hp⟩ => ?_
  subst he
  exact ChangeSpec.post_blind hp
end
set_option maxRecDepth 100000
theorem cells_val : Tryz.prog.cellsOf 28 = 3 := by kernel_rfl
/-- A value as an argument: its three fields. -/
theorem open_val {H : Type} {enc : TypeId × Value → H} {W : World} {r : Reach} {b0 base : Nat} {sp : Nat → Bool} {held : Bool} {v : Value} {d : DataW H} {p : List MemPlace}
    (hv : Value.okWide Tryz.prog W r b0 28 v) (h : DataW.Trod enc Tryz.prog W base sp held 28 v d p) :
    ∃ (k n : Int) (s : ByteArray), v = .agg #[.int .u8 k, .int .i64 n, .string s] ∧ d = .agg [.lit (.int .u8 k), .lit (.int .i64 n), .lit (.string s.data.toList)] ∧ (Lit.int .u8 k).wf = true ∧ (Lit.int .i64 n).wf = true ∧ s.size ≤ maxLen := by
  obtain ⟨c0, c1, c2, y0, y1, y2, fu, rfl, e0, ep, t0, t1, t2⟩ := open_agg3 Tryz.underlying28 (by kernel_rfl) cells_val hv h
  obtain ⟨k, ek, rfl, wk⟩ := DataW.trod_int Tryz.underlying26 t0
  obtain ⟨n, en, rfl, wn⟩ := DataW.trod_int Tryz.underlying2 t1
  obtain ⟨s0, es, rfl, ws⟩ := DataW.trod_string Tryz.underlying9 t2
  simp only [List.cons.injEq, and_true] at ek en es
  subst ek en es
  exact ⟨k, n, s0, rfl, e0, wk, wn, ws⟩
end Go.Proofs.YtdbhencjomnjhaaGreatDoor.L
namespace Go.Proofs.YtdbhencjomnjhaaGreatDoor.KD
open Go.ChangeShapes Go.WideShapes Go.ChangeAt Go.RowKit Go.Proofs.YtdbhencjomnjhaaGreatDoor.V Go.Proofs.YtdbhencjomnjhaaGreatDoor.K
def oc (o : Ot) : List Value := [.int .u8 o.k, .int .i64 o.n, .string o.s, .int .i64 o.e]
def flat (l : List Ot) : List Value := l.flatMap oc
theorem flat_app (a b : List Ot) : flat (a ++ b) = flat a ++ flat b := by simp [flat]
theorem flat_len : ∀ l : List Ot, (flat l).length = l.length * 4
  | [] => rfl
  | o :: l => by
    have := flat_len l
    rw [show flat (o :: l) = oc o ++ flat l by simp [flat], List.length_append, this, List.length_cons]
    simp [oc]; omega
theorem flat_at : ∀ (l : List Ot) (k : Nat) (o : Ot), l[k]? = some o → ∀ j, j < 4 → (flat l)[k * 4 + j]? = (oc o)[j]?
  | x :: l, 0, o, h, j, hj => by
    have : x = o := Option.some.inj h
    subst this
    rw [show flat (x :: l) = oc x ++ flat l by simp [flat], Nat.zero_mul, Nat.zero_add, List.getElem?_append_left (by simp [oc]; omega)]
  | x :: l, k + 1, o, h, j, hj => by
    rw [show flat (x :: l) = oc x ++ flat l by simp [flat], List.getElem?_append_right (by simp [oc]; omega)]
    have e : (k + 1) * 4 + j - (oc x).length = k * 4 + j := by simp [oc]; omega
    rw [e]
    exact flat_at l k o h j hj
theorem infoOut : (Tryz.prog.info? 31).map (fun i => (i.zero, i.size, i.bytes)) = some (some (.agg #[.int .u8 0, .int .i64 0, .string ⟨#[]⟩, .int .i64 0]), 4, 40) := by kernel_rfl
theorem out_u (W : World) (a : Option Addr) (n : Nat) (ys : List Ot) (h : Outs W a n ys) (g p : Nat) (ha : a = some ⟨g, p, none⟩) : ∀ j u, (flat ys)[j]? = some u → W.cell? ((⟨g, p, none⟩ : Addr).add j) = some u := by
  intro j u hu
  have hj : j < ys.length * 4 := by rw [← flat_len]; exact (List.getElem?_eq_some_iff.1 hu).1
  have hk : j / 4 < n := by rw [h.len]; omega
  obtain ⟨g', p', o, h1, h2, h3, c0, c1, c2, c3⟩ := h.at_ (j / 4) hk
  rw [ha] at h1
  injection h1 with h1
  injection h1 with e1 e2
  subst e1; subst e2
  have hf := flat_at ys (j / 4) o h2 (j % 4) (Nat.mod_lt _ (by decide))
  rw [show j / 4 * 4 + j % 4 = j by omega, hu] at hf
  rw [Addr.add_lit]
  have hm := Nat.mod_lt j (show 0 < 4 by decide)
  have hj' : p + j = p + j / 4 * 4 + j % 4 := by omega
  rw [hj']
  have hc : j % 4 = 0 ∨ j % 4 = 1 ∨ j % 4 = 2 ∨ j % 4 = 3 := by omega
  rcases hc with e | e | e | e <;> rw [e] at hf ⊢ <;> (rw [hf]; first | exact c0 | exact c1 | exact c2 | exact c3)
/-- What an append of outs to a row of one's own leaves. -/
theorem app_outs {w W : World} {v : Value} {xs ys : List Ot} {a : Option Addr} {n c : Nat} (O : W.ownsRow w.heap.size 31 4 v xs.length (flat xs)) (hB : Below w.heap.size w W) (h : Outs W a n ys) (hac : a = none → c = 0) (hlen : xs.length + n ≤ 3000000000000) :
    ∃ a2 m cp w2, (Builtin.append_ #[23, 23] 23 #[v, .slice a n c]).run Tryz.prog W = .ok (.slice a2 m cp) w2 ∧ Hid (m = (xs ++ ys).length) ∧
      Hid (w2.ownsRow w.heap.size 31 4 (.slice a2 m cp) m (flat (xs ++ ys))) ∧ Hid (Below w.heap.size w w2) := by
  obtain ⟨i, hi, hz, hs, hby⟩ := info_parts infoOut
  have hn := h.len
  cases a with
  | none =>
    have h0 : n = 0 := by
      rcases Nat.eq_zero_or_pos n with e | e
      · exact e
      · obtain ⟨g, p, o, h1, _⟩ := h.at_ 0 e
        cases h1
    subst h0
    have hy : ys = [] := List.eq_nil_of_length_eq_zero hn.symm
    subst hy
    obtain rfl := hac rfl
    have hr := run_append_owned_none (P := Tryz.prog) (w := W) w.heap.size 23 23 31 i 4 Tryz.underlying23 hi v _ _ O
    obtain ⟨a2, cp, rfl⟩ := own_slice O
    rw [List.append_nil]
    exact ⟨a2, _, cp, W, hr, rfl, O, hB⟩
  | some ad =>
    have had : n = 0 ∨ ∃ g p, ad = ⟨g, p, none⟩ := by
      rcases Nat.eq_zero_or_pos n with e | e
      · exact .inl e
      · obtain ⟨g, p, o, h1, _⟩ := h.at_ 0 e
        exact .inr ⟨g, p, Option.some.inj h1⟩
    have hcells : ∀ j u, (flat ys)[j]? = some u → W.cell? (ad.add j) = some u := by
      rcases had with e | ⟨g, p, rfl⟩
      · subst e
        have hy : ys = [] := List.eq_nil_of_length_eq_zero hn.symm
        subst hy
        intro j u hu
        simp [flat] at hu
      · exact out_u W _ n ys h g p rfl
    obtain ⟨v2, w2, hr, O2, hg, -, -⟩ := run_append_own_at (P := Tryz.prog) (w := W) w.heap.size 23 23 31 i _ 4 40 Tryz.underlying23 hi hz hs hby (by rfl) (by omega) v _ _ O ad n c (flat ys) (by rw [flat_len, hn]) hcells
      (by
        intro u hu
        obtain ⟨o, -, ho⟩ := List.mem_flatMap.1 hu
        simp only [oc, List.mem_cons, List.mem_nil_iff, or_false] at ho
        rcases ho with rfl | rfl | rfl | rfl <;> rfl) (by unfold maxLen; omega) (by omega) hB.size
    have e2 : xs.length + n = (xs ++ ys).length := by rw [List.length_append, hn]
    rw [← flat_app, e2] at O2
    obtain ⟨a2, cp, rfl⟩ := own_slice O2
    have hrow : ∀ k, v.ownBlock = some k → w.heap.size ≤ k := fun k hk => (O.lt k hk).1
    exact ⟨a2, _, cp, w2, hr, rfl, O2, ⟨hg.os.trans hB.os, hg.tape.trans hB.tape, hg.output.trans hB.output, Nat.le_trans hB.size hg.size, fun k hk => (hg.block k (Nat.lt_of_lt_of_le hk hB.size) (fun e => by have := hrow k e.symm; omega)).trans (hB.block k hk)⟩⟩
/-- A row of one's own is a slice of outs. -/
theorem own_outs {w : World} {base : Nat} {e : TypeId} {a : Option Addr} {m c : Nat} {l : List Ot} (h : w.ownsRow base e 4 (.slice a m c) m (flat l)) (hm : m = l.length) : Outs w a m l := by
  have h0 := h
  rcases h.2 with ⟨e1, hn⟩ | ⟨g, cap, cur, e1, -, hg, hnc, hcm, -, -⟩
  · injection e1 with e1 e2 e3
    subst e1
    exact ⟨hm, fun k hk => absurd hk (by omega)⟩
  · injection e1 with e1 e2 e3
    subst e1
    refine ⟨hm, fun k hk => ?_⟩
    have hkl : k < l.length := by omega
    have hc := h0.cells (g := g) rfl
    have ho : l[k]? = some l[k] := List.getElem?_eq_getElem hkl
    have hf := flat_at l k l[k] ho
    refine ⟨g, 0, l[k], rfl, ho, (Array.getElem?_eq_some_iff.1 hg).1, ?_, ?_, ?_, ?_⟩
    · have := hc (k * 4 + 0) _ ((hf 0 (by decide)).trans rfl)
      rw [Addr.add_lit] at this
      simpa using this
    · have := hc (k * 4 + 1) _ ((hf 1 (by decide)).trans rfl)
      rw [Addr.add_lit] at this
      rw [Nat.add_assoc]; exact this
    · have := hc (k * 4 + 2) _ ((hf 2 (by decide)).trans rfl)
      rw [Addr.add_lit] at this
      rw [Nat.add_assoc]; exact this
    · have := hc (k * 4 + 3) _ ((hf 3 (by decide)).trans rfl)
      rw [Addr.add_lit] at this
      rw [Nat.add_assoc]; exact this
end Go.Proofs.YtdbhencjomnjhaaGreatDoor.KD
namespace Go.Proofs.YtdbhencjomnjhaaGreatDoor.KD
open Go.ChangeShapes Go.WideShapes Go.ChangeAt Go.RowKit Go.Proofs.YtdbhencjomnjhaaGreatDoor.V Go.Proofs.YtdbhencjomnjhaaGreatDoor.K
theorem bulk_one {H : Type} (d : DataW H) : 1 ≤ Rows.uptoBulk d := by
  unfold Rows.uptoBulk
  split <;> omega
theorem bulk_all {H : Type} (l : List (DataW H)) : l.length ≤ Rows.uptoBulkAll l := by
  induction l with
  | nil => simp
  | cons d l ih =>
    have := bulk_one d
    rw [Rows.uptoBulkAll, List.length_cons]
    omega
set_option maxRecDepth 20000
theorem cellsOut : Tryz.prog.cellsOf 31 = 4 := by kernel_rfl
theorem cellsVal : Tryz.prog.cellsOf 28 = 3 := by kernel_rfl
theorem cellsErr : Tryz.prog.cellsOf 29 = 1 := by kernel_rfl
theorem cellsKn : Tryz.prog.cellsOf 26 = 1 := by kernel_rfl
theorem cellsI64 : Tryz.prog.cellsOf 2 = 1 := by kernel_rfl
theorem cellsStr : Tryz.prog.cellsOf 9 = 1 := by kernel_rfl
instance : Inhabited Ot := ⟨nul⟩
theorem two_of {α : Type} : ∀ {l : List α}, l.length = 2 → ∃ a b, l = [a, b]
  | [a, b], _ => ⟨a, b, rfl⟩
theorem open_outs {H : Type} {enc : TypeId × Value → H} {W : World} {r : Reach} {b0 base : Nat} {sp : Nat → Bool} {held : Bool} {v : Value} {d : DataW H} {p : List MemPlace}
    (hv : Value.okWide Tryz.prog W r b0 23 v) (h : DataW.Trod enc Tryz.prog W base sp held 23 v d p) :
    ∃ (pa : Option Addr) (n ca : Nat) (l : List Ot), v = .slice pa n ca ∧ Outs W pa n l ∧ (pa = none → ca = 0) ∧ n ≤ ca ∧ n ≤ Rows.uptoBulk d := by
  obtain ⟨pa, l, ca, rfl⟩ := okWide_slice Tryz.underlying23 hv
  obtain ⟨fuel, hf⟩ := h
  rcases Go.Deep.open_slice Tryz.underlying23 hf with ⟨h0, _⟩ | ⟨a, len, cap, m, n, D, Pl, hcs, _, hl, hm, hmm, hx0, hx⟩
  · have e : Value.slice pa l ca = .slice none 0 0 := by simpa [Value.cells] using h0
    obtain ⟨rfl, rfl, rfl⟩ : pa = none ∧ l = 0 ∧ ca = 0 := by simpa using e
    exact ⟨none, 0, 0, [], rfl, ⟨rfl, fun k hk => absurd hk (Nat.not_lt_zero _)⟩, fun _ => rfl, by omega, by omega⟩
  · have e : Value.slice pa l ca = .slice (some a) len cap := by simpa [Value.cells] using hcs
    obtain ⟨rfl, rfl, rfl⟩ : pa = some a ∧ l = len ∧ ca = cap := by simpa using e
    have hlm : l ≤ m := by rw [hmm]; split <;> omega
    have each : ∀ i, i < l → ∃ q : Ot, W.cell? (a.add (i * 4)) = some (.int .u8 q.k) ∧ W.cell? (a.add (i * 4 + 1)) = some (.int .i64 q.n) ∧ W.cell? (a.add (i * 4 + 2)) = some (.string q.s) ∧ W.cell? (a.add (i * 4 + 3)) = some (.int .i64 q.e) := by
      intro i hi
      obtain ⟨cs', h1, h2⟩ := hx i (by omega)
      rw [cellsOut] at h1
      obtain ⟨_, hlen, hcell⟩ := World.cells?_some h1
      obtain ⟨xs, n', -, hxs, -, hlen2, hg⟩ := DataW.trod_struct Tryz.underlying31 h2
      obtain ⟨y0, y1, rfl⟩ := two_of (show xs.length = 2 from hlen2)
      match cs', hlen with
      | [v0, v1, v2, v3], _ =>
        have g0 : DataW.trod enc Tryz.prog W base sp held n' 28 (([v0, v1, v2, v3].drop 0).take (Tryz.prog.cellsOf 28)) = some y0 := hg 0 _ rfl
        have g1 : DataW.trod enc Tryz.prog W base sp held n' 29 (([v0, v1, v2, v3].drop 3).take (Tryz.prog.cellsOf 29)) = some y1 := hg 1 _ rfl
        rw [cellsVal] at g0
        rw [cellsErr] at g1
        obtain ⟨z0, z1, z2, k, hxy, _, u0, u1, u2⟩ := Go.Deep.trod_struct3 Tryz.underlying28 g0
        simp only [cellsKn, cellsI64, cellsStr, List.drop, List.take] at u0 u1 u2
        obtain ⟨q0, e0, _, w0⟩ := DataW.trod_int Tryz.underlying26 u0
        obtain ⟨q1, e1, _, _⟩ := DataW.trod_int Tryz.underlying2 u1
        obtain ⟨q2, e2, _, w2⟩ := DataW.trod_string Tryz.underlying9 u2
        simp only [List.drop, List.take] at g1
        obtain ⟨q3, e3, _, _⟩ := DataW.trod_int Tryz.underlying29 g1
        simp only [List.cons.injEq, and_true] at e0 e1 e2 e3
        subst e0; subst e1; subst e2; subst e3
        have c0 := hcell 0 (by omega)
        have c1 := hcell 1 (by omega)
        have c2 := hcell 2 (by omega)
        have c3 := hcell 3 (by omega)
        rw [Go.Deep.add_add] at c0 c1 c2 c3
        exact ⟨⟨q0, q1, q2, q3⟩, by simpa using c0, by simpa using c1, by simpa using c2, by simpa using c3⟩
    obtain ⟨q, hq⟩ := Go.Deep.choose_lt each
    obtain ⟨B, O, spot⟩ := a
    have hs : ∀ i, i < l → spot = none := fun i hi => by
      have h := World.cell?_spot (hq 0 (by omega)).1
      simpa [Addr.add] using h
    refine ⟨_, l, ca, (List.range l).map q, rfl, ⟨by simp, fun i hi => ?_⟩, fun h => (by cases h), hl, ?_⟩
    · have e := hs i hi
      subst e
      obtain ⟨c0, c1, c2, c3⟩ := hq i hi
      rw [Addr.add_lit] at c0 c1 c2 c3
      refine ⟨B, O, q i, rfl, by simp [hi], World.block_lt_of_cell? _ _ c0, c0, ?_, ?_, ?_⟩
      · rw [Nat.add_assoc]; exact c1
      · rw [Nat.add_assoc]; exact c2
      · rw [Nat.add_assoc]; exact c3
    · simp only [Prod.mk.injEq] at hx0
      rw [hx0.1, Rows.uptoBulk]
      have := bulk_all ((List.range l).map D)
      simp only [List.length_map, List.length_range] at this
      omega
theorem allO_drop {l : List Ot} {p : Ot → Bool} {k : Nat} {o : Ot} (h : l[k]? = some o) : (l.drop k).all p = (p o && (l.drop (k + 1)).all p) := by
  rw [List.drop_eq_getElem_cons (List.getElem?_eq_some_iff.1 h).1, List.all_cons, (List.getElem?_eq_some_iff.1 h).2]
end Go.Proofs.YtdbhencjomnjhaaGreatDoor.KD
