/- The contract of lex.Join. -/
import Derived.Test.YtdcanjfdgfpdfaaGreatDoorJc
import Derived.Test.YtdcanjfdgfpdfaaGreatDoorBd
import Derived.Test.YtdcanjfdgfpdfaaGreatDoorSm
import Derived.StillTailTactics
import Derived.BigQuiet
import Derived.IntWalk
namespace Go.Proofs.YtdcanjfdgfpdfaaGreatDoor.V
open Go.ChangeShapes Go.WideShapes Go.ChangeAt Go.RowKit Go.Shelf
/-- A slice of tokens, by what they are. -/
structure ReadsK (w : World) (a : Option Addr) (n : Nat) (l : List Lx.Key) : Prop where
  len : l.length = n
  at_ : ∀ k, k < n → ∃ (g o : Nat) (x : Int) (t : ByteArray) (p : Int), a = some ⟨g, o, none⟩ ∧ l[k]? = some (x, t.data.toList) ∧ t.size ≤ 9223372036854775000 ∧
    w.cell? ⟨g, o + k * 3, none⟩ = some (.int .u8 x) ∧ w.cell? ⟨g, o + k * 3 + 1, none⟩ = some (.string t) ∧ w.cell? ⟨g, o + k * 3 + 2, none⟩ = some (.int .i64 p)
theorem ReadsK.below {w w' : World} {a : Option Addr} {n : Nat} {l : List Lx.Key} (h : ReadsK w a n l) (hb : Below w.heap.size w w') : ReadsK w' a n l :=
  ⟨h.len, fun k hk => by
    obtain ⟨g, o, x, t, p, ha, hl, ht, c0, c1, c2⟩ := h.at_ k hk
    exact ⟨g, o, x, t, p, ha, hl, ht, cellb hb c0, cellb hb c1, cellb hb c2⟩⟩
theorem bld_below {T e : TypeId} {B b : Nat} {bs : List Value} {W W' : World} (h : Lib.IsBuilderF T e B b bs W) (hb : Below W.heap.size W W') : Lib.IsBuilderF T e B b bs W' := by
  have one : ∀ {p : Value}, Lib.BuilderAtF T e B b p bs W → Lib.BuilderAtF T e B b p bs W' := fun {p} h => by
    have hlt := h.lt
    obtain ⟨hB, v, hv, hown, hne⟩ := h
    exact ⟨hB, v, (hb.block b hlt).trans hv, hown.kept (row := none) ⟨hb.os, hb.tape, hb.output, hb.size, fun k hk _ => hb.block k hk⟩ (Classical.em _), hne⟩
  exact h.elim (fun x => .inl (one x)) (fun x => .inr (one x))
theorem bld_new (W : World) (B : Nat) (T e : TypeId) (hB : B ≤ W.heap.size) : Lib.IsBuilderF T e B W.heap.size [] (W.alloc (.cells #[.pointer none, .slice none 0 0] T)) :=
  .inl ⟨hB, _, by show (W.heap.push _)[W.heap.size]? = some _; simp, World.ownsRowF_of (World.ownsRow_nil _ _ _ _), by simp [Value.ownBlock]⟩
theorem bytes_app (l m : List UInt8) : Lib.byteCells l ++ Lib.byteCells m = Lib.byteCells (l ++ m) := by simp [Lib.byteCells]
theorem bytes_str (s : ByteArray) : Lib.strCells s = Lib.byteCells s.data.toList := rfl
theorem bytes_len (l : List UInt8) : (Lib.byteCells l).length = l.length := by simp [Lib.byteCells]
/-- A token's box, kept by a builder's writing. -/
theorem box_kept {e : TypeId} {b : Nat} {W W' : World} {k : Nat} {o : Obj} (h : Lib.OthersKept e (some b) W W') (hk : W.heap[k]? = some o) (hb : k ≠ b) (ho : ∀ c fz, o ≠ .cells c e fz) : W'.heap[k]? = some o := h k o hk (by simpa using hb) ho
theorem kw_len : ∀ w ∈ Lx.words, w.length ≤ 4000 := by decide
theorem mk_len : ∀ w ∈ Lx.marks, w.length ≤ 4000 := by decide
theorem valid_len {k : Int} {s : Lx.Bs} (h : Lx.valid (k, s) = true) : s.length ≤ 4000 := by
  by_cases h1 : k = 1
  · subst h1; exact kw_len _ (List.contains_iff_mem.1 h)
  by_cases h2 : k = 2
  · subst h2
    exact Nat.le_trans (Lx.name_parts h).2.1 (by decide)
  by_cases h3 : k = 3
  · subst h3
    rw [valid_3, Bool.and_eq_true, decide_eq_true_eq] at h
    exact h.1
  by_cases h4 : k = 4
  · subst h4
    rw [valid_4, decide_eq_true_eq] at h
    omega
  by_cases h5 : k = 5
  · subst h5; exact mk_len _ (List.contains_iff_mem.1 h)
  · rw [valid_0 _ h1 h2 h3 h4 h5] at h; cases h
theorem below_drew (w : World) : Below w.heap.size w w.drew := ⟨rfl, rfl, rfl, Nat.le_refl _, fun _ _ => rfl⟩
theorem wr_len2 (k : Int) (s : Lx.Bs) : (Lx.wr (k, s)).length ≤ 2 * s.length + 2 := by
  have := dbl_len2 s
  simp only [Lx.wr]
  split
  · simp only [List.length_cons, List.length_append, List.length_nil]; omega
  · omega
/-- The block of a token's box, and what it holds. -/
theorem box_cells {W : World} {h : Nat} {x : Int} {t : ByteArray} {p : Int} (hb : W.heap[h]? = some (boxT x t p)) : W.cell? ⟨h, 0, none⟩ = some (.int .u8 x) ∧ W.cell? ⟨h, 1, none⟩ = some (.string t) ∧ W.cell? ⟨h, 2, none⟩ = some (.int .i64 p) := by
  refine ⟨?_, ?_, ?_⟩ <;> simp [World.cell?, hb]
theorem box_new (W : World) (o : Obj) : (W.alloc o).heap[W.heap.size]? = some o := by show (W.heap.push _)[W.heap.size]? = some _; simp
/-- What Join returns. -/
def joinV (l : List Lx.Key) : Value := if l.all Lx.valid = true then (if (Lx.jn none l).length ≤ 4000 then .tuple #[.string ⟨(Lx.jn none l).toArray⟩, .int .i64 0] else .tuple #[.string ⟨#[]⟩, .int .i64 2]) else .tuple #[.string ⟨#[]⟩, .int .i64 1]
theorem joinV_bad {l : List Lx.Key} {k : Nat} {x : Lx.Key} (h : l[k]? = some x) (hv : Lx.valid x = false) : joinV l = .tuple #[.string ⟨#[]⟩, .int .i64 1] := by
  rw [joinV, if_neg]
  intro e
  rw [List.all_eq_true] at e
  rw [e x (List.mem_of_getElem? h)] at hv; cases hv
theorem joinV_long {l : List Lx.Key} {k : Nat} (h : l.all Lx.valid = true) (hl : 4000 < (Lx.jn none (l.take k)).length) : joinV l = .tuple #[.string ⟨#[]⟩, .int .i64 2] := by
  have := Lx.jn_mono l k
  rw [joinV, if_pos h, if_neg (by omega)]
theorem joinV_good {l : List Lx.Key} (h : l.all Lx.valid = true) (hl : (Lx.jn none l).length ≤ 4000) : joinV l = .tuple #[.string ⟨(Lx.jn none l).toArray⟩, .int .i64 0] := by
  rw [joinV, if_pos h, if_pos hl]
set_option maxRecDepth 20000 in
set_option maxHeartbeats 4000000 in
theorem c_Join (a : Option Addr) (n ca : Nat) (l : List Lx.Key) (w : World) (E : Env w) (hn : n ≤ 9223372036854775807) (h : ReadsK w a n l) :
    Calls Tryz.prog 10 #[.slice a n ca] w fun e w' => e = .returned (joinV l) ∧ Below w.heap.size w w' := by
  have HE := Lib.hid E
  have HA := Lib.hid h
  clear E h
  go_enter Tryz.func10, Tryz.ntmps10
  go_wp2
  go_loopw [5, 11] (fun _s5 s11 wr => ∃ k : Nat, k ≤ n ∧ s11 = .int .i64 k ∧ Hid (∀ (j : Nat) (x : Lx.Key), j < k → l[j]? = some x → Lx.valid x = true) ∧ Below w.heap.size w wr) (fun _ s11 _ => n - (intOf s11).toNat)
  case atStart => exact ⟨0, by omega, rfl, (fun j x h => absurd h (Nat.not_lt_zero _)), Below.refl _ _⟩
  case round =>
    obtain ⟨k, hk, rfl, HV, hb⟩ := hrel
    by_cases hlt : k < n
    · obtain ⟨g, o, x, t, p, rfl, hl, ht, c0, c1, c2⟩ := (HA.out.below hb).at_ k hlt
      have C := Lib.hid (fun w E => c_isToken x t p ht w E)
      have HE1 := Lib.hid ((HE.out.below hb).alloc (boxT x t p))
      have HB1 := Lib.hid (bel_alloc hb (boxT x t p))
      have HL := Lib.hid hl
      clear hb hl
      go_wp2_with fail
      refine (C.out _ HE1.out).mono ?_
      rintro e w1 ⟨rfl, hb1⟩
      have HB2 := Lib.hid (bel_trans HB1.out hb1)
      clear hb1 HE1 HB1 c0 c1 c2
      cases hv : Lx.valid (x, t.data.toList) with
      | true =>
        have HV2 : Hid (∀ (j : Nat) (x : Lx.Key), j < k + 1 → l[j]? = some x → Lx.valid x = true) := fun j y hj hy => by
          by_cases e : j = k
          · subst e
            rw [HL.out] at hy
            exact Option.some.inj hy ▸ hv
          · exact HV.out j y (by omega) hy
        clear hv HV
        go_wp2
        go_roundw
        case rel => exact ⟨k + 1, by omega, by go_num, HV2, HB2.out⟩
        case measure => simp [intOf]; omega
      | false =>
        have HR := Lib.hid (joinV_bad HL.out hv)
        clear hv HV
        go_wp2
        go_ret2
        exact ⟨by rw [HR.out]; rfl, HB2.out⟩
    · obtain rfl : k = n := by omega
      have HALL : Hid (l.all Lx.valid = true) := by
        show _ = _
        rw [List.all_eq_true]
        intro y hy
        obtain ⟨j, hj, e⟩ := List.getElem_of_mem hy
        exact HV.out j y (by rw [← HA.out.len]; exact hj) (by rw [← e]; exact List.getElem?_eq_getElem hj)
      have HE0 := Lib.hid HE.out
      have HB1 := Lib.hid hb
      have HA0 := Lib.hid HA.out
      have hsz := hb.size
      clear HV hb HE HA
      obtain ⟨b, hb5⟩ : ∃ b, wr.heap.size = b := ⟨_, rfl⟩
      have HNB : Hid (Lib.IsBuilderF 45 5 w.heap.size b (Lib.byteCells (Lx.jn none (l.take 0))) (wr.alloc (.cells #[.pointer none, .slice none 0 0] 45))) := by
        show Lib.IsBuilderF _ _ _ _ _ _
        rw [List.take_zero, Lx.jn, ← hb5]
        exact bld_new wr _ _ _ hsz
      have HB2 := Lib.hid (bel_alloc HB1.out (.cells #[.pointer none, .slice none 0 0] 45))
      go_wp2
      go_loopw [7, 8, 21] (fun _s7 _s8 s21 w2 => ∃ j : Nat, j ≤ k ∧ s21 = .int .i64 j ∧ Hid ((Lx.jn none (l.take j)).length ≤ 4000) ∧ Hid (Lib.IsBuilderF 45 5 w.heap.size b (Lib.byteCells (Lx.jn none (l.take j))) w2) ∧ Hid (Below w.heap.size w w2)) (fun _ _ s21 _ => k - (intOf s21).toNat)
      case atStart => exact ⟨0, by omega, rfl, by show _ ≤ _; rw [List.take_zero, Lx.jn]; exact Nat.zero_le _, HNB, HB2⟩
      case round =>
        obtain ⟨j, hj, rfl, HLn, HBl, HW⟩ := hrel
        clear HNB HB2
        by_cases hlt : j < k
        · obtain ⟨g, o, x, t, p, rfl, hl, -, c0, c1, c2⟩ := (HA0.out.below HW.out).at_ j hlt
          have hv : Lx.valid (x, t.data.toList) = true := List.all_eq_true.1 HALL.out _ (List.mem_of_getElem? hl)
          have ht : t.size ≤ 4000 := by rw [← lenL]; exact valid_len hv
          obtain ⟨J1, hJ1⟩ : ∃ J1, Lx.jn none (l.take (j + 1)) = J1 := ⟨_, rfl⟩
          have hJ2 := Lx.jn_take l j _ hl
          have hwl := wr_len2 x t.data.toList
          rw [lenL] at hwl
          have h3 : (j = 0) ∨ (∃ i y u q, j = i + 1 ∧ l[i]? = some (y, ByteArray.toList u) ∧ Lx.nearK (y, u.data.toList) (x, t.data.toList) = true ∧ wr.cell? ⟨g, o + i * 3, none⟩ = some (.int .u8 y) ∧ wr.cell? ⟨g, o + i * 3 + 1, none⟩ = some (.string u) ∧ wr.cell? ⟨g, o + i * 3 + 2, none⟩ = some (.int .i64 q)) ∨
              (∃ i y u q, j = i + 1 ∧ l[i]? = some (y, ByteArray.toList u) ∧ Lx.nearK (y, u.data.toList) (x, t.data.toList) = false ∧ wr.cell? ⟨g, o + i * 3, none⟩ = some (.int .u8 y) ∧ wr.cell? ⟨g, o + i * 3 + 1, none⟩ = some (.string u) ∧ wr.cell? ⟨g, o + i * 3 + 2, none⟩ = some (.int .i64 q)) := by
            rcases Nat.eq_zero_or_pos j with h | h
            · exact .inl h
            · obtain ⟨i, rfl⟩ : ∃ i, j = i + 1 := ⟨j - 1, by omega⟩
              obtain ⟨g', o', y, u, q, hga, hl', -, d0, d1, d2⟩ := (HA0.out.below HW.out).at_ i (by omega)
              have e := Option.some.inj hga
              obtain rfl : g = g' := congrArg Addr.block e
              obtain rfl : o = o' := congrArg Addr.off e
              rw [← ByteArray.toList_eq] at hl'
              cases hn : Lx.nearK (y, u.data.toList) (x, t.data.toList) with
              | true => exact .inr (.inl ⟨i, y, u, q, rfl, hl', hn, d0, d1, d2⟩)
              | false => exact .inr (.inr ⟨i, y, u, q, rfl, hl', hn, d0, d1, d2⟩)
          have glast : ∀ (i : Nat) (z : Lx.Key), j = i + 1 → l[i]? = some z → (l.take j).getLast? = some z := fun i z e hz => by
            rw [e, List.take_add_one, hz]; simp
          have CW := Lib.hid (fun w E => c_written x t p ht w E)
          have HBox := Lib.hid (bel_alloc HW.out (boxT x t p))
          have hbl : b < wr.heap.size := by
            rcases HBl.out with h | h
            · exact h.lt
            · exact h.lt
          clear hl hv
          rcases h3 with h0 | ⟨i, y, u, q, hi, hl', hn, d0, d1, d2⟩ | ⟨i, y, u, q, hi, hl', hn, d0, d1, d2⟩
          case' inl =>
            have hg1 : decide ((0 : Int) < (j : Int)) = false := decide_eq_false (by omega)
            have hg2 : decide (0 < j) = false := decide_eq_false (by omega)
            have HJ : Hid (J1 = Lx.jn none (l.take j) ++ [] ++ Lx.wr (x, t.data.toList)) := by
              show J1 = _
              rw [← hJ1, hJ2, h0]
              simp [Lx.gap, Lx.jn]
            have hgl : ([] : List UInt8).length ≤ 1 := by decide
            clear h0 hJ2 glast
            go_wp2_with fail
            go_quiet (fail)
            go_wp2_with fail
            refine (CW.out _ (HE0.out.below (bel_trans HBox.out (below_drewN _ _)))).mono ?_
            rintro e w6 ⟨⟨s, rfl, hs⟩, hb6⟩
            have HW6 := Lib.hid (bel_trans (bel_trans HBox.out (below_drewN _ _)) hb6)
            have HQ6 := Lib.hid (bld_below (bld_below (bld_below HBl.out (bel_alloc (Below.refl _ wr) (boxT x t p))) (below_drewN _ _)) hb6)
            rw [← List.append_nil (Lx.jn none (l.take j))] at HQ6
            clear hb6
          case' inr.inl =>
            have hg1 : decide ((0 : Int) < (j : Int)) = true := decide_eq_true (by omega)
            have hg2 : decide (0 < j) = true := decide_eq_true (by omega)
            have hii : (i : Int) < (k : Int) := by omega
            have hii0 : (0 : Int) ≤ (i : Int) := by omega
            have hsub : IntKind.i64.wrap ((j : Int) - 1) = (i : Int) := by
              rw [show (j : Int) - 1 = (i : Int) by omega]
              exact IntWalk.i64_in _ (by omega)
            have HJ : Hid (J1 = Lx.jn none (l.take j) ++ [] ++ Lx.wr (x, t.data.toList)) := by
              show J1 = _
              rw [← hJ1, hJ2, glast i _ hi hl', ByteArray.toList_eq]
              simp [Lx.gap, hn]
            have hgl : ([] : List UInt8).length ≤ 1 := by decide
            have CA := fun w E => c_apart y u q x t p w E
            rw [hn] at CA
            have CA := Lib.hid CA
            have e0 := cellb (bel_alloc (Below.refl _ wr) (boxT x t p)) d0
            have e1 := cellb (bel_alloc (Below.refl _ wr) (boxT x t p)) d1
            have e2 := cellb (bel_alloc (Below.refl _ wr) (boxT x t p)) d2
            clear hi hl' hn hJ2 glast d0 d1 d2
            go_wp2_with fail
            refine wp_region_still_tail 9 (by kernel_rfl) (by kernel_rfl) ?_
            simp only [List.take_succ_cons, List.take_zero, List.drop_succ_cons, List.drop_zero]
            change wpStill _ _ (World.drew (wr.alloc (boxT x t p))) _ _ _
            repeat still_step
            refine wpStill_nil ?_
            change wpList _ _ _ _ _ (World.drew (wr.alloc (boxT x t p)))
            go_wp2_with fail
            refine (CA.out _ (HE0.out.below (bel_trans HBox.out (below_drew _)))).mono ?_
            rintro e w4 ⟨rfl, hb4⟩
            have HW4 := Lib.hid (bel_trans (bel_trans HBox.out (below_drew _)) hb4)
            have HQ4 := Lib.hid (bld_below (bld_below (bld_below HBl.out (bel_alloc (Below.refl _ wr) (boxT x t p))) (below_drew _)) hb4)
            obtain ⟨b0, b1, b2⟩ := box_cells ((hb4.block wr.heap.size (by show wr.heap.size < (wr.heap.push _).size; simp)).trans (box_new wr (boxT x t p)))
            clear hb4 e0 e1 e2 c0 c1 c2 CA
            go_wp2_with fail
            refine (CW.out _ (HE0.out.below HW4.out)).mono ?_
            rintro e w6 ⟨⟨s, rfl, hs⟩, hb6⟩
            have HW6 := Lib.hid (bel_trans HW4.out hb6)
            have HQ6 := Lib.hid (bld_below HQ4.out hb6)
            rw [← List.append_nil (Lx.jn none (l.take j))] at HQ6
            clear hb6 b0 b1 b2
          case' inr.inr =>
            have hg1 : decide ((0 : Int) < (j : Int)) = true := decide_eq_true (by omega)
            have hg2 : decide (0 < j) = true := decide_eq_true (by omega)
            have hii : (i : Int) < (k : Int) := by omega
            have hii0 : (0 : Int) ≤ (i : Int) := by omega
            have hsub : IntKind.i64.wrap ((j : Int) - 1) = (i : Int) := by
              rw [show (j : Int) - 1 = (i : Int) by omega]
              exact IntWalk.i64_in _ (by omega)
            have HJ : Hid (J1 = Lx.jn none (l.take j) ++ [32] ++ Lx.wr (x, t.data.toList)) := by
              show J1 = _
              rw [← hJ1, hJ2, glast i _ hi hl', ByteArray.toList_eq]
              simp [Lx.gap, hn]
            have hgl : ([32] : List UInt8).length ≤ 1 := by decide
            have CA := fun w E => c_apart y u q x t p w E
            rw [hn] at CA
            have CA := Lib.hid CA
            have e0 := cellb (bel_alloc (Below.refl _ wr) (boxT x t p)) d0
            have e1 := cellb (bel_alloc (Below.refl _ wr) (boxT x t p)) d1
            have e2 := cellb (bel_alloc (Below.refl _ wr) (boxT x t p)) d2
            clear hi hl' hn hJ2 glast d0 d1 d2
            go_wp2_with fail
            refine wp_region_still_tail 9 (by kernel_rfl) (by kernel_rfl) ?_
            simp only [List.take_succ_cons, List.take_zero, List.drop_succ_cons, List.drop_zero]
            change wpStill _ _ (World.drew (wr.alloc (boxT x t p))) _ _ _
            repeat still_step
            refine wpStill_nil ?_
            change wpList _ _ _ _ _ (World.drew (wr.alloc (boxT x t p)))
            go_wp2_with fail
            refine (CA.out _ (HE0.out.below (bel_trans HBox.out (below_drew _)))).mono ?_
            rintro e w4 ⟨rfl, hb4⟩
            have HW4 := Lib.hid (bel_trans (bel_trans HBox.out (below_drew _)) hb4)
            have HQ4 := Lib.hid (bld_below (bld_below (bld_below HBl.out (bel_alloc (Below.refl _ wr) (boxT x t p))) (below_drew _)) hb4)
            have hb := (hb4.block wr.heap.size (by show wr.heap.size < (wr.heap.push _).size; simp)).trans (box_new wr (boxT x t p))
            clear hb4 e0 e1 e2 c0 c1 c2 CA
            go_wp2_with fail
            refine (Tryz.b_WriteByte w.heap.size b _ 32 _ HQ4.out ?_ HW4.out.size).mono ?_
            · rw [bytes_len]
              have := HLn.out
              omega
            rintro e w5 ⟨rfl, hB5, hb5', hk5⟩
            obtain ⟨b0, b1, b2⟩ := box_cells (box_kept hk5 hb (by omega) (fun c fz e => by injection e with _ e; exact absurd e (by decide)))
            have HW5 := Lib.hid (HW4.out.trans hb5')
            have HQ5 : Hid (Lib.IsBuilderF 45 5 w.heap.size b (Lib.byteCells (Lx.jn none (l.take j) ++ [32])) w5) := .inr (by rw [← bytes_app]; exact hB5)
            clear hB5 hb5' hk5 hb
            go_wp2_with fail
            refine (CW.out _ (HE0.out.below HW5.out)).mono ?_
            rintro e w6 ⟨⟨s, rfl, hs⟩, hb6⟩
            have HW6 := Lib.hid (bel_trans HW5.out hb6)
            have HQ6 := Lib.hid (bld_below HQ5.out hb6)
            clear hb6 b0 b1 b2
          all_goals
            have hsz6 : s.size ≤ 8002 := by
              rw [← lenL, hs]
              omega
            have HS := Lib.hid hs
            clear hs
            go_wp2_with fail
            refine (Tryz.b_WriteString w.heap.size b _ s _ HQ6.out ?_ HW6.out.size).mono ?_
            · rw [bytes_len, List.length_append]
              have := HLn.out
              omega
            rintro e w7 ⟨rfl, hB7, hb7, -⟩
            have HW7 := Lib.hid (HW6.out.trans hb7)
            have HQ7 : Hid (Lib.IsBuilderF 45 5 w.heap.size b (Lib.byteCells J1) w7) := .inr (by rw [HJ.out, ← HS.out, ← bytes_app]; exact hB7)
            clear hB7 hb7 HQ6 HW6
            go_wp2_with fail
            refine (Tryz.b_Len w.heap.size b _ _ HQ7.out).mono ?_
            rintro e w8 ⟨rfl, rfl⟩
            rw [bytes_len]
            obtain ⟨m, hm⟩ : ∃ m, J1.length = m := ⟨_, rfl⟩
            rw [hm]
            by_cases h4 : 4000 < m
            · have HR := Lib.hid (joinV_long (k := j + 1) HALL.out (by rw [hJ1, hm]; exact h4))
              have g4 : (4000 : Int) < (m : Int) := by omega
              clear hm hJ1
              go_wp2
              go_ret2
              exact ⟨by rw [HR.out]; rfl, HW7.out⟩
            · have g4 : ¬ (4000 : Int) < (m : Int) := by omega
              have HM : Hid ((Lx.jn none (l.take (j + 1))).length ≤ 4000) := by
                show _ ≤ _
                rw [hJ1, hm]; omega
              rw [← hJ1] at HQ7
              clear hm hJ1
              go_wp2
              go_roundw
              case rel => exact ⟨j + 1, by omega, by go_num, HM, HQ7, HW7⟩
              case measure => simp [intOf]; omega
        · obtain rfl : j = k := by omega
          have hl : l.take j = l := List.take_of_length_le (by rw [HA0.out.len]; exact Nat.le_refl _)
          rw [hl] at HLn HBl
          have HR := Lib.hid (joinV_good HALL.out HLn.out)
          clear hl HLn HA0
          go_wp2_with fail
          refine (Tryz.b_String w.heap.size b (Lx.jn none l) _ HBl.out HW.out.size).mono ?_
          rintro e w8 ⟨rfl, -, hb8, -⟩
          have HW8 := Lib.hid (HW.out.trans hb8)
          clear hb8
          go_wp2
          go_ret2
          exact ⟨by rw [HR.out]; rfl, HW8.out⟩
end Go.Proofs.YtdcanjfdgfpdfaaGreatDoor.V
