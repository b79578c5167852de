/- Keywords and marks. -/
import Derived.Test.YtdcanjfdgfpdfaaGreatDoorRr
import Derived.IntWalk
namespace Go.Proofs.YtdcanjfdgfpdfaaGreatDoor.V
open Go.ChangeShapes Go.WideShapes Go.ChangeAt Go.RowKit Go.Shelf
attribute [local go_sem] Oper.semAt_some
theorem kw_listed (K : ByteArray) (hK : fl [] K.data.toList = Lx.words) (h1 : K.size ≤ 4000) (h2 : asc K = true) (x : ByteArray) (w : World) (ht : Tab w) :
    Calls Tryz.prog 48 #[.string x, .string K] w fun e w' => e = .returned (.bool (Lx.isKw x.data.toList)) ∧ Below w.heap.size w w' :=
  (c_listed x K h1 h2 w ht).mono fun _ _ ⟨he, hb⟩ => ⟨by rw [he, hK]; rfl, hb⟩
set_option maxRecDepth 100000 in
theorem c_IsKeyword (x : ByteArray) (w : World) (ht : Tab w) : Calls Tryz.prog 45 #[.string x] w fun e w' => e = .returned (.bool (Lx.isKw x.data.toList)) ∧ Below w.heap.size w w' := by
  have HT := Lib.hid ht
  clear ht
  go_enter Tryz.func45, Tryz.ntmps45
  go_wp2_with fail
  refine (kw_listed _ (by decide +kernel) (by decide +kernel) (by decide +kernel) x _ HT.out).mono ?_
  rintro e w1 ⟨rfl, hb⟩
  go_wp2
  go_ret
  exact ⟨rfl, hb⟩
/-- A cell that may be written holds this. -/
def Cell (W : World) (b o : Nat) (v : Value) : Prop := W.cell? ⟨b, o, none⟩ = some v ∧ W.frozen? ⟨b, o, none⟩ = false
theorem Cell.kept {W W' : World} {row : Option Nat} {b o : Nat} {v : Value} (h : Cell W b o v) (hg : W.grownBy W' row) (hrow : ∀ r, row = some r → ∃ o : Obj, W.heap[r]? = some o ∧ o.isCells = false) : Cell W' b o v :=
  ⟨cell_kept h.1 hg hrow, (frozen_kept h.1 hg hrow).trans h.2⟩
theorem Cell.same {W : World} {b o : Nat} {u : Value} (h : Cell W b o u) (v : Value) : Cell (W.setCell ⟨b, o, none⟩ v) b o v :=
  ⟨World.cell?_setCell_same' _ _ _ (by rw [h.1]; rfl), by rw [World.frozen?_setCell]; exact h.2⟩
theorem Cell.other {W : World} {b o b' o' : Nat} {u : Value} (h : Cell W b o u) (v : Value) (hne : b ≠ b' ∨ o ≠ o') : Cell (W.setCell ⟨b', o', none⟩ v) b o u :=
  ⟨by rw [World.cell?_setCell_other _ _ _ _ (fun e => by injection e with e1 e2; omega)]; exact h.1, by rw [World.frozen?_setCell]; exact h.2⟩
theorem Cell.drew {W : World} {b o : Nat} {u : Value} (h : Cell W b o u) : Cell W.drew b o u := ⟨h.1, h.2⟩
/-- The five cells of the results written. -/
abbrev set5 (W : World) (g : Nat) (v0 v1 v2 v3 v4 : Value) : World :=
  ((((W.setCell ⟨g, 0, none⟩ v0).setCell ⟨g, 1, none⟩ v1).setCell ⟨g, 2, none⟩ v2).setCell ⟨g + 1, 0, none⟩ v3).setCell ⟨g + 1 + 1, 0, none⟩ v4
theorem mark_cells (g : Nat) (v0 v1 v2 v3 v4 : Value) {W : World} {u0 u1 u2 u3 u4 : Value} (h0 : Cell W g 0 u0) (h1 : Cell W g 1 u1) (h2 : Cell W g 2 u2) (h3 : Cell W (g + 1) 0 u3) (h4 : Cell W (g + 1 + 1) 0 u4) :
    Cell (set5 W g v0 v1 v2 v3 v4) g 0 v0 ∧ Cell (set5 W g v0 v1 v2 v3 v4) g 1 v1 ∧ Cell (set5 W g v0 v1 v2 v3 v4) g 2 v2 ∧ Cell (set5 W g v0 v1 v2 v3 v4) (g + 1) 0 v3 ∧ Cell (set5 W g v0 v1 v2 v3 v4) (g + 1 + 1) 0 v4 := by
  refine ⟨?_, ?_, ?_, ?_, ?_⟩
  · exact Cell.other (Cell.other (Cell.other (Cell.other (Cell.same h0 _) _ (.inr (by decide))) _ (.inr (by decide))) _ (.inl (by omega))) _ (.inl (by omega))
  · exact Cell.other (Cell.other (Cell.other (Cell.same (Cell.other h1 _ (.inr (by decide))) _) _ (.inr (by decide))) _ (.inl (by omega))) _ (.inl (by omega))
  · exact Cell.other (Cell.other (Cell.same (Cell.other (Cell.other h2 _ (.inr (by decide))) _ (.inr (by decide))) _) _ (.inl (by omega))) _ (.inl (by omega))
  · exact Cell.other (Cell.same (Cell.other (Cell.other (Cell.other h3 _ (.inl (by omega))) _ (.inl (by omega))) _ (.inl (by omega))) _) _ (.inl (by omega))
  · exact Cell.same (Cell.other (Cell.other (Cell.other (Cell.other h4 _ (.inl (by omega))) _ (.inl (by omega))) _ (.inl (by omega))) _ (.inl (by omega))) _
theorem mark_drew {W : World} {g : Nat} {v0 v1 v2 v3 v4 : Value} (h : Cell W g 0 v0 ∧ Cell W g 1 v1 ∧ Cell W g 2 v2 ∧ Cell W (g + 1) 0 v3 ∧ Cell W (g + 1 + 1) 0 v4) :
    Cell W.drew g 0 v0 ∧ Cell W.drew g 1 v1 ∧ Cell W.drew g 2 v2 ∧ Cell W.drew (g + 1) 0 v3 ∧ Cell W.drew (g + 1 + 1) 0 v4 := ⟨h.1.drew, h.2.1.drew, h.2.2.1.drew, h.2.2.2.1.drew, h.2.2.2.2.drew⟩
theorem keeps5 (W : World) (g : Nat) (v0 v1 v2 v3 v4 : Value) : KeepsOthers W (set5 W g v0 v1 v2 v3 v4) :=
  ((((KeepsOthers.setCell W _ v0).trans (KeepsOthers.setCell _ _ v1)).trans (KeepsOthers.setCell _ _ v2)).trans (KeepsOthers.setCell _ _ v3)).trans (KeepsOthers.setCell _ _ v4)
theorem bel_mark {w W : World} (h : Below w.heap.size w W) (v0 v1 v2 v3 v4 : Value) : Below w.heap.size w (set5 W (w.heap.size + 1 + 1) v0 v1 v2 v3 v4) :=
  bel_set (bel_set (bel_set (bel_set (bel_set h (by simp; omega) _) (by simp; omega) _) (by simp; omega) _) (by simp; omega) _) (by simp; omega) _
theorem mark_none {l : List UInt8} {ys : List ByteArray} (h : ys.map (·.data.toList) = Lx.marks) (hn : ∀ y ∈ ys, Lib.hasPrefix l y.data.toList = false) : Lx.mark l = .err 20 := by
  have : Lx.marks.find? (fun m => m.isPrefixOf l) = none := by
    rw [← h, List.find?_eq_none]
    intro x hx
    obtain ⟨y, hy, rfl⟩ := List.mem_map.1 hx
    have := hn y hy
    simp only [Lib.hasPrefix] at this
    simp [this]
  rw [Lx.mark, this]
theorem mark_some {l : List UInt8} {ini : List ByteArray} {y : ByteArray} (h : (ini ++ [y]).map (·.data.toList) <+: Lx.marks) (hn : ∀ z ∈ ini, Lib.hasPrefix l z.data.toList = false) (hy : Lib.hasPrefix l y.data.toList = true) : Lx.mark l = .ok 5 y.data.toList y.size := by
  have : Lx.marks.find? (fun m => m.isPrefixOf l) = some y.data.toList := by
    obtain ⟨r, hr⟩ := h
    rw [← hr, List.map_append, List.append_assoc, List.find?_append]
    have h1 : (ini.map (·.data.toList)).find? (fun m => m.isPrefixOf l) = none := by
      rw [List.find?_eq_none]
      intro x hx
      obtain ⟨z, hz, rfl⟩ := List.mem_map.1 hx
      have := hn z hz
      simp only [Lib.hasPrefix] at this
      simp [this]
    rw [h1]
    simp only [Lib.hasPrefix] at hy
    simp [hy]
  rw [Lx.mark, this]
  simp
theorem len_i64 (a n : Nat) : (a : Int) + n = ((a + n : Nat) : Int) := by omega
/-- What a function that reads a token hands back. -/
def tv (r : Lx.R) (p : Nat) : Value := match r with
  | .err e => .tuple #[tokV 0 ⟨#[]⟩ 0, .int .i64 0, .int .i64 e]
  | .ok k s n => .tuple #[tokV k ⟨s.toArray⟩ p, .int .i64 ((p + n : Nat) : Int), .int .i64 0]
set_option maxRecDepth 100000 in
set_option maxHeartbeats 2000000 in
theorem c_markAt (s : ByteArray) (a : Nat) (hs : s.size ≤ 4000) (haL : a < s.size) (w : World) (ht : Tab w) :
    Calls Tryz.prog 40 #[.string s, .int .i64 a] w fun e w' => e = .returned (tv (Lx.mark (s.data.toList.drop a)) a) ∧ Below w.heap.size w w' := by
  have HT := Lib.hid ht
  clear ht
  refine (callsIn_wide (n := 3)).1 ?_
  refine callsIn_of_wp_marks Tryz.func40 rfl trivial ?_ rfl
  simp only [Tryz.ntmps40, List.size_toArray, List.length_cons, List.length_nil, Nat.reduceAdd, Nat.reduceSub, Array.replicate_succ, Array.replicate_zero, List.push_toArray, List.append_toArray, List.nil_append, List.cons_append]
  gi_wp2_with (refine ⟨trivial, ?_⟩; gi_at_call 58; refine (callsIn_wide.2 (c_Seq _ _)).mono ?_; rintro e w' ⟨rfl, rfl⟩)
  have hB0 : Below w.heap.size w ((((((w.alloc (.cells #[.string s] 9)).alloc (.cells #[.int .i64 a] 3)).alloc (.cells #[.int .u8 0, .string ⟨#[]⟩, .int .i64 0] 36)).alloc (.cells #[.int .i64 0] 3)).alloc (.cells #[.int .i64 0] 23)).alloc (.cells #[.string ⟨#[60, 62, 32, 60, 61, 32, 62, 61, 32, 124, 124, 32, 40, 32, 41, 32, 44, 32, 46, 32, 59, 32, 42, 32, 43, 32, 45, 32, 47, 32, 37, 32, 61, 32, 60, 32, 62]⟩] 9)) :=
    bel_alloc (bel_alloc (bel_alloc (bel_alloc (bel_alloc (bel_alloc (Below.refl _ w) _) _) _) _) _) _
  refine wpIn_rangeFunc_ownF rfl (by omega) (gf := 70) (lb := #[.pointer (some ⟨w.heap.size + 1 + 1 + 1 + 1 + 1, 0, none⟩)]) rfl trivial (enters_of Tryz.func70 (by kernel_rfl) rfl)
    (seq_stops (3 - 1) (by omega) (w.heap.size + 1 + 1 + 1 + 1 + 1) ⟨#[60, 62, 32, 60, 61, 32, 62, 61, 32, 124, 124, 32, 40, 32, 41, 32, 44, 32, 46, 32, 59, 32, 42, 32, 43, 32, 45, 32, 47, 32, 37, 32, 61, 32, 60, 32, 62]⟩ (by decide) (by decide +kernel) _ (by simp [go_sem]) (by simp) (HT.out.below hB0)) belowK_t (belowK_b (Nat.le_refl _)) (Below.refl _ _) (fun _ => rfl)
    (fun pre W => ((∀ y ∈ pre, Lib.hasPrefix (s.data.toList.drop a) y.data.toList = false) ∧ Cell W w.heap.size 0 (.string s) ∧ Cell W (w.heap.size + 1) 0 (.int .i64 a) ∧ Cell W (w.heap.size + 1 + 1) 0 (.int .u8 0) ∧ Cell W (w.heap.size + 1 + 1) 1 (.string ⟨#[]⟩) ∧ Cell W (w.heap.size + 1 + 1) 2 (.int .i64 0) ∧
      Cell W (w.heap.size + 1 + 1 + 1) 0 (.int .i64 0) ∧ Cell W (w.heap.size + 1 + 1 + 1 + 1) 0 (.int .i64 0)) ∧ Below w.heap.size w W)
    (fun c pre W => (c = .ret ∧ (∃ ini y, pre = ini ++ [y] ∧ (∀ z ∈ ini, Lib.hasPrefix (s.data.toList.drop a) z.data.toList = false) ∧ Lib.hasPrefix (s.data.toList.drop a) y.data.toList = true ∧
      Cell W (w.heap.size + 1 + 1) 0 (.int .u8 5) ∧ Cell W (w.heap.size + 1 + 1) 1 (.string y) ∧ Cell W (w.heap.size + 1 + 1) 2 (.int .i64 a) ∧
      Cell W (w.heap.size + 1 + 1 + 1) 0 (.int .i64 (a + y.size)) ∧ Cell W (w.heap.size + 1 + 1 + 1 + 1) 0 (.int .i64 0))) ∧ Below w.heap.size w W)
    (OwnFrom.and (Own.from (fun s A B row hs hg hr => ⟨hs.1, hs.2.1.kept hg hr, hs.2.2.1.kept hg hr, hs.2.2.2.1.kept hg hr, hs.2.2.2.2.1.kept hg hr, hs.2.2.2.2.2.1.kept hg hr, hs.2.2.2.2.2.2.1.kept hg hr, hs.2.2.2.2.2.2.2.kept hg hr⟩) _) (ownFrom_below (Nat.le_refl _) (by simp; omega)))
    (fun c => OwnFrom.and (Own.from (fun s A B row hs hg hr => ⟨hs.1, by
      obtain ⟨ini, y, h1, h2, h3, h4, h5, h6, h7, h8⟩ := hs.2
      exact ⟨ini, y, h1, h2, h3, h4.kept hg hr, h5.kept hg hr, h6.kept hg hr, h7.kept hg hr, h8.kept hg hr⟩⟩) _) (ownFrom_below (Nat.le_refl _) (by simp; omega)))
    ⟨⟨by simp, by constructor <;> simp [go_sem] <;> rfl, by constructor <;> simp [go_sem] <;> rfl, by constructor <;> simp [go_sem] <;> rfl, by constructor <;> simp [go_sem] <;> rfl, by constructor <;> simp [go_sem] <;> rfl, by constructor <;> simp [go_sem] <;> rfl, by constructor <;> simp [go_sem] <;> rfl⟩, hB0⟩
    (fun y => { tmps := #[.string s, .int .i64 a, .pointer (some ⟨w.heap.size, 0, none⟩), .pointer (some ⟨w.heap.size + 1, 0, none⟩), .pointer (some ⟨w.heap.size + 1 + 1, 0, none⟩), .pointer (some ⟨w.heap.size + 1 + 1 + 1, 0, none⟩), .pointer (some ⟨w.heap.size + 1 + 1 + 1 + 1, 0, none⟩), .string y, .func (.func 70) #[] #[.pointer (some ⟨w.heap.size + 1 + 1 + 1 + 1 + 1, 0, none⟩)], .string y, undef, undef, undef, undef, undef, undef, undef, undef, undef, undef, undef, undef, undef], defers := [] }) ?assign ?body ?done ?stop
  case assign =>
    intro l x W K hK
    gi_wp2
    exact hK
  case body =>
    rintro l pre y W ⟨⟨hp, ⟨c0, f0⟩, ⟨c1, f1⟩, ⟨c2, f2⟩, ⟨c3, f3⟩, ⟨c4, f4⟩, ⟨c5, f5⟩, ⟨c6, f6⟩⟩, hB⟩ _
    have HP := Lib.hid hp
    clear hp
    cases hx : Lib.hasPrefix (s.data.toList.drop a) y.data.toList with
    | true =>
      have cP := Lib.hid (pre_at s y a true hx)
      have HX := Lib.hid hx
      have hy : a + y.size ≤ s.size := by
        have h1 := Lx.isPrefixOf_len (a := y.data.toList) hx
        have h2 : y.data.toList.length = y.size := by simp
        rw [List.length_drop] at h1
        have h3 : s.data.toList.length = s.size := by simp
        omega
      have hw : IntKind.i64.wrap ((a : Int) + y.size) = (a : Int) + y.size := IntWalk.i64_in _ (by omega)
      clear hx
      gi_wp2_with (refine ⟨trivial, ?_⟩; gi_at_call 34; refine (CallsIn.inRound l (callsIn_wide.2 (cP.out _))).mono ?_; rintro e w' ⟨rfl, rfl⟩)
      refine region_round (by kernel_rfl) (noDefer_spec (by kernel_rfl)) ?_
      refine wpAnyIn_take (i := 0) (v := ?_) rfl rfl (by kernel_rfl) (by kernel_rfl) (by kernel_rfl) (fun _ _ _ h => h) ⟨Or.inl ⟨by rfl, ?_⟩, fun _ => rfl⟩ ?_
      rotate_left
      · intro w; go_simp; with_reducible rfl
      refine wpAnyIn_take (i := 4) (v := ?_) rfl rfl (by kernel_rfl) (by kernel_rfl) (by kernel_rfl) (fun _ _ _ h => h) ⟨Or.inl ⟨by rfl, ?_⟩, fun _ => rfl⟩ ?_
      rotate_left
      · intro w; go_simp; with_reducible rfl
      refine wpAnyIn_take (i := 5) (v := ?_) rfl rfl (by kernel_rfl) (by kernel_rfl) (by kernel_rfl) (fun _ _ _ h => h) ⟨Or.inl ⟨by rfl, ?_⟩, fun _ => rfl⟩ ?_
      rotate_left
      · intro w; go_simp; with_reducible rfl
      refine wpAnyIn_ready (rs := [1, 3]) (by kernel_rfl) (by simp) ?_
      refine AllReadyIn.cons rfl (fun K hK => ?_) ?_
      · go_simp
        refine hK _ _ ?_; clear hK K
        refine wpAnyIn_take (i := 2) (v := ?_) rfl rfl (by kernel_rfl) (by kernel_rfl) (by kernel_rfl) (fun _ _ _ h => h) ⟨Or.inl ⟨by rfl, ?_⟩, fun _ => rfl⟩ ?_
        rotate_left
        · intro w; go_simp; with_reducible rfl
        refine wpAnyIn_ready (rs := [3, 7]) (by kernel_rfl) (by simp) ?_
        refine AllReadyIn.cons rfl (fun K hK => ?_) ?_
        · go_simp
          refine hK _ _ ?_; clear hK K
          refine wpAnyIn_take (i := 6) (v := ?_) rfl rfl (by kernel_rfl) (by kernel_rfl) (by kernel_rfl) (fun _ _ _ h => h) ⟨Or.inl ⟨by rfl, ?_⟩, fun _ => rfl⟩ ?_
          rotate_left
          · intro w; go_simp; with_reducible rfl
          refine wpAnyIn_ready (rs := [7]) (by kernel_rfl) (by simp) ?_
          refine AllReadyIn.cons rfl (fun K hK => ?_) ?_
          · go_simp
            refine hK _ _ ?_; clear hK K
            refine wpAnyIn_ready (rs := [8]) (by kernel_rfl) (by simp) ?_
            refine AllReadyIn.cons rfl (fun K hK => ?_) ?_
            · go_simp
              refine hK _ _ ?_; clear hK K
              refine wpAnyIn_ready (rs := [9]) (by kernel_rfl) (by simp) ?_
              refine AllReadyIn.cons rfl (fun K hK => ?_) ?_
              · go_simp
                refine hK _ _ ?_; clear hK K
                refine wpAnyIn_done (by kernel_rfl) ?_ _
                gi_wp2
                exact ⟨(keeps5 _ _ _ _ _ _ _).trans (KeepsOthers.drew _), ⟨rfl, pre, y, rfl, HP.out, HX.out, mark_drew (mark_cells (w.heap.size + 1 + 1) _ _ _ _ _ ⟨c2, f2⟩ ⟨c3, f3⟩ ⟨c4, f4⟩ ⟨c5, f5⟩ ⟨c6, f6⟩)⟩, (bel_mark hB _ _ _ _ _).drew⟩
              exact AllReadyIn.nil
            exact AllReadyIn.nil
          exact AllReadyIn.nil
        refine AllReadyIn.cons rfl (fun K hK => ?_) ?_
        · go_simp
          refine hK _ _ ?_; clear hK K
          refine wpAnyIn_ready (rs := [3]) (by kernel_rfl) (by simp) ?_
          refine AllReadyIn.cons rfl (fun K hK => ?_) ?_
          · go_simp
            refine hK _ _ ?_; clear hK K
            refine wpAnyIn_take (i := 6) (v := ?_) rfl rfl (by kernel_rfl) (by kernel_rfl) (by kernel_rfl) (fun _ _ _ h => h) ⟨Or.inl ⟨by rfl, ?_⟩, fun _ => rfl⟩ ?_
            rotate_left
            · intro w; go_simp; with_reducible rfl
            refine wpAnyIn_ready (rs := [8]) (by kernel_rfl) (by simp) ?_
            refine AllReadyIn.cons rfl (fun K hK => ?_) ?_
            · go_simp
              refine hK _ _ ?_; clear hK K
              refine wpAnyIn_ready (rs := [9]) (by kernel_rfl) (by simp) ?_
              refine AllReadyIn.cons rfl (fun K hK => ?_) ?_
              · go_simp
                refine hK _ _ ?_; clear hK K
                refine wpAnyIn_done (by kernel_rfl) ?_ _
                gi_wp2
                exact ⟨(keeps5 _ _ _ _ _ _ _).trans (KeepsOthers.drew _), ⟨rfl, pre, y, rfl, HP.out, HX.out, mark_drew (mark_cells (w.heap.size + 1 + 1) _ _ _ _ _ ⟨c2, f2⟩ ⟨c3, f3⟩ ⟨c4, f4⟩ ⟨c5, f5⟩ ⟨c6, f6⟩)⟩, (bel_mark hB _ _ _ _ _).drew⟩
              exact AllReadyIn.nil
            exact AllReadyIn.nil
          exact AllReadyIn.nil
        exact AllReadyIn.nil
      refine AllReadyIn.cons rfl (fun K hK => ?_) ?_
      · go_simp
        refine hK _ _ ?_; clear hK K
        refine wpAnyIn_take (i := 6) (v := ?_) rfl rfl (by kernel_rfl) (by kernel_rfl) (by kernel_rfl) (fun _ _ _ h => h) ⟨Or.inl ⟨by rfl, ?_⟩, fun _ => rfl⟩ ?_
        rotate_left
        · intro w; go_simp; with_reducible rfl
        refine wpAnyIn_ready (rs := [1]) (by kernel_rfl) (by simp) ?_
        refine AllReadyIn.cons rfl (fun K hK => ?_) ?_
        · go_simp
          refine hK _ _ ?_; clear hK K
          refine wpAnyIn_take (i := 2) (v := ?_) rfl rfl (by kernel_rfl) (by kernel_rfl) (by kernel_rfl) (fun _ _ _ h => h) ⟨Or.inl ⟨by rfl, ?_⟩, fun _ => rfl⟩ ?_
          rotate_left
          · intro w; go_simp; with_reducible rfl
          refine wpAnyIn_ready (rs := [7]) (by kernel_rfl) (by simp) ?_
          refine AllReadyIn.cons rfl (fun K hK => ?_) ?_
          · go_simp
            refine hK _ _ ?_; clear hK K
            refine wpAnyIn_ready (rs := [8]) (by kernel_rfl) (by simp) ?_
            refine AllReadyIn.cons rfl (fun K hK => ?_) ?_
            · go_simp
              refine hK _ _ ?_; clear hK K
              refine wpAnyIn_ready (rs := [9]) (by kernel_rfl) (by simp) ?_
              refine AllReadyIn.cons rfl (fun K hK => ?_) ?_
              · go_simp
                refine hK _ _ ?_; clear hK K
                refine wpAnyIn_done (by kernel_rfl) ?_ _
                gi_wp2
                exact ⟨(keeps5 _ _ _ _ _ _ _).trans (KeepsOthers.drew _), ⟨rfl, pre, y, rfl, HP.out, HX.out, mark_drew (mark_cells (w.heap.size + 1 + 1) _ _ _ _ _ ⟨c2, f2⟩ ⟨c3, f3⟩ ⟨c4, f4⟩ ⟨c5, f5⟩ ⟨c6, f6⟩)⟩, (bel_mark hB _ _ _ _ _).drew⟩
              exact AllReadyIn.nil
            exact AllReadyIn.nil
          exact AllReadyIn.nil
        exact AllReadyIn.nil
      exact AllReadyIn.nil
    | false =>
      have cP := Lib.hid (pre_at s y a false hx)
      have HX := Lib.hid hx
      clear hx
      gi_wp2_with (refine ⟨trivial, ?_⟩; gi_at_call 34; refine (CallsIn.inRound l (callsIn_wide.2 (cP.out _))).mono ?_; rintro e w' ⟨rfl, rfl⟩)
      exact ⟨KeepsOthers.refl _, Below.refl _ _, ⟨fun z hz => (List.mem_append.1 hz).elim (HP.out z) (fun e => by simp at e; subst e; exact HX.out), ⟨c0, f0⟩, ⟨c1, f1⟩, ⟨c2, f2⟩, ⟨c3, f3⟩, ⟨c4, f4⟩, ⟨c5, f5⟩, ⟨c6, f6⟩⟩, hB⟩
  case done =>
    rintro D ys W hD hys ⟨⟨hne, ⟨c0, f0⟩, ⟨c1, f1⟩, ⟨c2, f2⟩, ⟨c3, f3⟩, ⟨c4, f4⟩, ⟨c5, f5⟩, ⟨c6, f6⟩⟩, hB⟩ hK
    have HR : Hid (Lx.mark (s.data.toList.drop a) = .err 20) := by
      exact mark_none (hys.trans (by decide +kernel)) hne
    clear hne hys
    gi_wp2
    have hK' := (keeps5 W (w.heap.size + 1 + 1) (.int .u8 0) (.string ⟨#[]⟩) (.int .i64 0) (.int .i64 0) (.int .i64 20)).same D _ hK rfl
    obtain ⟨k0, k1, k2, k3, k4⟩ := mark_cells (w.heap.size + 1 + 1) (.int .u8 0) (.string ⟨#[]⟩) (.int .i64 0) (.int .i64 0) (.int .i64 20) ⟨c2, f2⟩ ⟨c3, f3⟩ ⟨c4, f4⟩ ⟨c5, f5⟩ ⟨c6, f6⟩
    have kp : ∀ r, some D = some r → ∃ o : Obj, (set5 W (w.heap.size + 1 + 1) (.int .u8 0) (.string ⟨#[]⟩) (.int .i64 0) (.int .i64 0) (.int .i64 20)).heap[r]? = some o ∧ o.isCells = false := fun r e => by cases e; exact ⟨_, hK', rfl⟩
    have q0 := (k0.kept (grownBy_putObj' _ D (.deferred none)) kp).1
    have q1 := (k1.kept (grownBy_putObj' _ D (.deferred none)) kp).1
    have q2 := (k2.kept (grownBy_putObj' _ D (.deferred none)) kp).1
    have q3 := (k3.kept (grownBy_putObj' _ D (.deferred none)) kp).1
    have q4 := (k4.kept (grownBy_putObj' _ D (.deferred none)) kp).1
    refine ⟨by simp, .inl ⟨_, _, rfl, run_takeDeferred hK', ?_⟩⟩
    refine ⟨tv (.err 20) a, ?_, by rw [HR.out], (bel_mark hB _ _ _ _ _).trans (belowK_b (w := w) (Nat.le_refl _) _ D _ _ (by simp at hD; omega) hK' rfl rfl)⟩
    simp [results, Tryz.f40, go_sem, q0, q1, q2, q3, q4, tv]
  case stop =>
    rintro D c pre W hD hpre ⟨⟨rfl, ⟨ini, y, hini, hnp, hyp, k0, k1, k2, k3, k4⟩⟩, hB⟩ hK
    have HR : Hid (Lx.mark (s.data.toList.drop a) = .ok 5 y.data.toList y.size) := by
      refine mark_some (ini := ini) ?_ hnp hyp
      rw [← hini]
      rwa [show fl [] (⟨#[60, 62, 32, 60, 61, 32, 62, 61, 32, 124, 124, 32, 40, 32, 41, 32, 44, 32, 46, 32, 59, 32, 42, 32, 43, 32, 45, 32, 47, 32, 37, 32, 61, 32, 60, 32, 62]⟩ : ByteArray).data.toList = Lx.marks by decide +kernel] at hpre
    clear hini hnp hyp hpre
    gi_wp2
    have kp : ∀ r, some D = some r → ∃ o : Obj, W.heap[r]? = some o ∧ o.isCells = false := fun r e => by cases e; exact ⟨_, hK, rfl⟩
    have q0 := (k0.kept (grownBy_putObj' _ D (.deferred none)) kp).1
    have q1 := (k1.kept (grownBy_putObj' _ D (.deferred none)) kp).1
    have q2 := (k2.kept (grownBy_putObj' _ D (.deferred none)) kp).1
    have q3 := (k3.kept (grownBy_putObj' _ D (.deferred none)) kp).1
    have q4 := (k4.kept (grownBy_putObj' _ D (.deferred none)) kp).1
    refine ⟨by simp, .inl ⟨_, _, rfl, run_takeDeferred hK, ?_⟩⟩
    refine ⟨tv (.ok 5 y.data.toList y.size) a, ?_, by rw [HR.out], hB.trans (belowK_b (w := w) (Nat.le_refl _) W D _ _ (by simp at hD; omega) hK rfl rfl)⟩
    simp [results, Tryz.f40, go_sem, q0, q1, q2, q3, q4, tv]
end Go.Proofs.YtdcanjfdgfpdfaaGreatDoor.V
