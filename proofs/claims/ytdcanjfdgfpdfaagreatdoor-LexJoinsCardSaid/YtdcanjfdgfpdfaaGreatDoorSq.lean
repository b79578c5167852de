/- The iterator of strings.FieldsSeq over ASCII text: its contract, and those of the two functions of package lex that range over it. -/
import Derived.Test.YtdcanjfdgfpdfaaGreatDoorCb
import Derived.RangeFuncNested
import Derived.RangeFuncBound
import Derived.RangeFuncCalls
import Derived.RangeFuncLeaves
import Derived.Shelf.Abstract
import Derived.Shelf.RegionOpen
import Derived.OwnWalkIn
import Derived.TacticsInMore
import Derived.LoopNIn
import Derived.LoopIn
import Derived.Lib.Space
namespace Go.Proofs.YtdcanjfdgfpdfaaGreatDoor.V
open Go.ChangeShapes Go.WideShapes Go.ChangeAt Go.RowKit Go.Shelf
attribute [local go_sem] Oper.semAt_some
/-- The words between blanks; `cur`: what of a word has come. -/
def fl (cur : List UInt8) : List UInt8 → List (List UInt8)
  | [] => if cur = [] then [] else [cur]
  | b :: t => if Lib.isSp b then (if cur = [] then fl [] t else cur :: fl [] t) else fl (cur ++ [b]) t
/-- What of a word has come when the loop stands at k, the word having begun at st. -/
def cur (l : List UInt8) (st : Int) (k : Nat) : List UInt8 := if st < 0 then [] else (l.drop st.toNat).take (k - st.toNat)
theorem cur_new (l : List UInt8) (k : Nat) : cur l (-1) k = [] := rfl
theorem cur_more {l : List UInt8} {st : Int} {k : Nat} {b : UInt8} (h0 : 0 ≤ st) (h1 : st ≤ k) (hb : l[k]? = some b) : cur l st (k + 1) = cur l st k ++ [b] := by
  unfold cur
  rw [if_neg (by omega), if_neg (by omega), show k + 1 - st.toNat = k - st.toNat + 1 by omega, List.take_add_one, List.getElem?_drop, show st.toNat + (k - st.toNat) = k by omega, hb]
  rfl
theorem cur_ne {l : List UInt8} {st : Int} {k : Nat} (h0 : 0 ≤ st) (h1 : st < k) (h2 : k ≤ l.length) : cur l st k ≠ [] := by
  unfold cur
  rw [if_neg (by omega)]
  intro e
  have := congrArg List.length e
  simp at this
  omega
theorem ext_cur (s : ByteArray) (st : Int) (k : Nat) (h0 : 0 ≤ st) : (s.extract st.toNat k).data.toList = cur s.data.toList st k := by
  rw [Lib.extract_data, cur, if_neg (by omega)]
theorem at_get (s : ByteArray) (k : Nat) (h : k < s.size) : s.data.toList[k]? = some s[k] := by
  rw [List.getElem?_eq_getElem (by simpa using h)]; rfl
theorem cur_one {s : ByteArray} {k : Nat} (h : k < s.size) : cur s.data.toList k (k + 1) = [s[k]] := by
  rw [cur_more (by omega) (by omega) (at_get s k h)]
  unfold cur
  rw [if_neg (by omega)]
  simp
theorem fl_new {s : ByteArray} {k : Nat} {st : Int} (h : k < s.size) (hsp : Lib.isSp s[k] = false) (h0 : st < 0) : fl (cur s.data.toList st k) (s.data.toList.drop k) = fl (cur s.data.toList k (k + 1)) (s.data.toList.drop (k + 1)) := by
  rw [cur_one h, drop_at s k h, fl, hsp, cur, if_pos h0]; rfl
theorem fl_word {s : ByteArray} {k : Nat} {st : Int} (h : k < s.size) (hsp : Lib.isSp s[k] = false) (h0 : 0 ≤ st) (h1 : st < k) : fl (cur s.data.toList st k) (s.data.toList.drop k) = fl (cur s.data.toList st (k + 1)) (s.data.toList.drop (k + 1)) := by
  rw [cur_more h0 (by omega) (at_get s k h), drop_at s k h, fl, hsp]; rfl
theorem fl_gap {s : ByteArray} {k : Nat} {st : Int} (h : k < s.size) (hsp : Lib.isSp s[k] = true) (h0 : st < 0) : fl (cur s.data.toList st k) (s.data.toList.drop k) = fl (cur s.data.toList st (k + 1)) (s.data.toList.drop (k + 1)) := by
  rw [drop_at s k h, fl, hsp, cur, cur, if_pos h0, if_pos h0, if_pos rfl, if_pos rfl]
theorem fl_cut {s : ByteArray} {k : Nat} {st : Int} (h : k < s.size) (hsp : Lib.isSp s[k] = true) (h0 : 0 ≤ st) (h1 : st < k) : fl (cur s.data.toList st k) (s.data.toList.drop k) = cur s.data.toList st k :: fl (cur s.data.toList (-1) (k + 1)) (s.data.toList.drop (k + 1)) := by
  rw [drop_at s k h, fl, hsp, if_pos rfl, if_neg (cur_ne h0 h1 (by simp; omega)), cur_new]
theorem fl_last {s : ByteArray} {k : Nat} {st : Int} (h : s.size ≤ k) (hk : k ≤ s.size) (h0 : 0 ≤ st) (h1 : st < k) : fl (cur s.data.toList st k) (s.data.toList.drop k) = [cur s.data.toList st k] := by
  rw [List.drop_of_length_le (by simpa using h), fl, if_neg (cur_ne h0 h1 (by simpa using hk))]
theorem fl_none {s : ByteArray} {k : Nat} {st : Int} (h : s.size ≤ k) (h0 : st < 0) : fl (cur s.data.toList st k) (s.data.toList.drop k) = [] := by
  rw [List.drop_of_length_le (by simpa using h), fl, cur, if_pos h0]; rfl
set_option maxRecDepth 100000 in
set_option maxHeartbeats 2000000 in
theorem fields1_in (F : Fence) (n : Nat) (hf : F.fn 70) (hro : F.round = none) (hn : 1 ≤ n) (l Bs n₀ : Nat) (s : ByteArray) (hs : s.size ≤ 4000) (hasc : s.data.toList.all (fun b => decide (b.toNat < 128)) = true) (hB : Bs < n₀) (hg : 0 < n₀)
    (J Jx : List ByteArray → World → Prop)
    (hY : ∀ pre x W, J pre W → pre.length < s.size + 1 → YieldAt F (n - 1) Tryz.prog l #[.string x] W fun e W' =>
      (e = .returned (.bool true) ∧ J (pre ++ [x]) W' ∧ Below n₀ W W') ∨ (e = .returned (.bool false) ∧ Jx (pre ++ [x]) W'))
    (W : World) (hBs : W.cell? ⟨Bs, 0, none⟩ = some (.string s)) (htab : ∀ i : Nat, i < 256 → W.cell? ⟨0, i, none⟩ = some (.int .u8 (if Lib.isSp (UInt8.ofNat i) then 1 else 0))) (h0 : J [] W) :
    CallsIn F n Tryz.prog 70 #[.func (.yield l) #[] #[], .pointer (some ⟨Bs, 0, none⟩)] W fun e W' => (∃ v, e = .returned v) ∧
      ((∃ ys : List ByteArray, ys.map (·.data.toList) = fl [] s.data.toList ∧ J ys W') ∨ (∃ pre : List ByteArray, pre.map (·.data.toList) <+: fl [] s.data.toList ∧ Jx pre W')) := by
  have HT := Lib.hid htab
  have HA := Lib.hid hasc
  have HY := Lib.hid hY
  clear htab hasc hY
  refine callsIn_of_wp Tryz.func70 rfl hf ?_ hro
  simp only [Tryz.ntmps70, List.size_toArray, List.length_cons, List.length_nil, Nat.reduceAdd, Nat.reduceSub, Array.replicate_succ, Array.replicate_zero, List.push_toArray, List.append_toArray, List.nil_append, List.cons_append]
  gi_wp2
  gi_loopw [3, 4] (fun s3 s4 wr => ∃ (k : Nat) (st : Int) (pre : List ByteArray), k ≤ s.size ∧ s3 = .int .i64 st ∧ s4 = .int .i64 k ∧ -1 ≤ st ∧ st < k ∧ pre.length ≤ k ∧
      Hid (pre.map (·.data.toList) ++ fl (cur s.data.toList st k) (s.data.toList.drop k) = fl [] s.data.toList) ∧ Hid (J pre wr) ∧ Below n₀ W wr)
    (fun _ s4 _ => s.size - (intOf s4).toNat)
  case atStart => exact ⟨0, -1, [], by omega, rfl, rfl, by omega, by omega, by simp, rfl, h0, Below.refl _ _⟩
  case round =>
    obtain ⟨k, st, pre, hk, rfl, rfl, hst1, hst2, hpl, HI, HJ, hb⟩ := hrel
    have hbs := (hb.cell (p := ⟨Bs, 0, none⟩) hB).trans hBs
    by_cases hlt : k < s.size
    · have hcell := (hb.cell (p := ⟨0, s[k].toNat, none⟩) hg).trans (HT.out s[k].toNat s[k].toNat_lt)
      have h128 : s[k].toNat < 128 := by
        have := List.all_eq_true.1 HA.out s[k] (by
          have e : s[k] = s.data.toList[k]'(by simpa using hlt) := rfl
          rw [e]; exact List.getElem_mem _)
        simpa using this
      have h128' : ((s[k].toNat : Int) < 128) := by omega
      rw [UInt8.ofNat_toNat] at hcell
      have hdr := Lib.hid (drop_at s k hlt)
      cases hsp : Lib.isSp s[k] with
      | false =>
        rw [hsp] at hcell
        simp only [Bool.false_eq_true, if_false] at hcell
        have HSP := Lib.hid hsp
        clear hsp
        by_cases hneg : st < 0
        · have HI' := Lib.hid ((congrArg (pre.map (·.data.toList) ++ ·) (fl_new hlt HSP.out hneg)).symm.trans HI.out)
          clear HI
          gi_wp2
          go_roundw
          case rel => exact ⟨k + 1, k, pre, by omega, rfl, by go_num, by omega, by omega, by omega, HI', HJ, hb⟩
          case measure => simp [intOf]; omega
        · have hpos : 0 ≤ st := by omega
          have HI' := Lib.hid ((congrArg (pre.map (·.data.toList) ++ ·) (fl_word hlt HSP.out hpos hst2)).symm.trans HI.out)
          clear HI
          gi_wp2
          go_roundw
          case rel => exact ⟨k + 1, st, pre, by omega, rfl, by go_num, by omega, by omega, by omega, HI', HJ, hb⟩
          case measure => simp [intOf]; omega
      | true =>
        rw [hsp] at hcell
        simp only [if_true] at hcell
        have HSP := Lib.hid hsp
        clear hsp
        by_cases hneg : st < 0
        · have HI' := Lib.hid ((congrArg (pre.map (·.data.toList) ++ ·) (fl_gap hlt HSP.out hneg)).symm.trans HI.out)
          clear HI
          gi_wp2
          go_roundw
          case rel => exact ⟨k + 1, st, pre, by omega, rfl, by go_num, by omega, by omega, by omega, HI', HJ, hb⟩
          case measure => simp [intOf]; omega
        · have hpos : 0 ≤ st := by omega
          have HI' := Lib.hid ((congrArg (pre.map (·.data.toList) ++ ·) (fl_cut hlt HSP.out hpos hst2)).symm.trans HI.out)
          clear HI
          obtain ⟨fn, tmps, assign, body, hy, hR⟩ := HY.out pre (s.extract st.toNat k) wr HJ.out (by omega)
          gi_wp2
          refine hR.mono ?_
          rintro e W3 (⟨rfl, hJ3, hk3⟩ | ⟨rfl, hJx3⟩)
          · have HI2 : Hid ((pre ++ [s.extract st.toNat k]).map (·.data.toList) ++ fl (cur s.data.toList (-1) (k + 1)) (s.data.toList.drop (k + 1)) = fl [] s.data.toList) := by
              show _ = _
              rw [← HI'.out, List.map_append, List.map_cons, List.map_nil, ext_cur s st k hpos, List.append_assoc]; rfl
            have HJ3 := Lib.hid hJ3
            clear hJ3 HI' HJ
            gi_wp2
            go_roundw
            case rel => exact ⟨k + 1, -1, pre ++ [s.extract st.toNat k], by omega, rfl, by go_num, by omega, by omega, by simp; omega, HI2, HJ3, hb.trans hk3⟩
            case measure => simp [intOf]; omega
          · have HP : Hid ((pre ++ [s.extract st.toNat k]).map (·.data.toList) <+: fl [] s.data.toList) := by
              refine ⟨fl (cur s.data.toList (-1) (k + 1)) (s.data.toList.drop (k + 1)), ?_⟩
              rw [← HI'.out, List.map_append, List.map_cons, List.map_nil, ext_cur s st k hpos, List.append_assoc]; rfl
            clear HI' HJ
            gi_wp2
            refine bodyPost_ret (results_none rfl _ _ _) rfl ?_
            exact ⟨⟨_, rfl⟩, .inr ⟨_, HP.out, hJx3⟩⟩
    · obtain rfl : k = s.size := by omega
      by_cases hneg : st < 0
      · have HI' := Lib.hid ((congrArg (pre.map (·.data.toList) ++ ·) (fl_none (Nat.le_refl _) hneg)).symm.trans HI.out)
        clear HI
        gi_wp2
        go_end0
        exact ⟨⟨_, rfl⟩, .inl ⟨pre, by simpa using HI'.out, HJ.out⟩⟩
      · have hpos : 0 ≤ st := by omega
        have HI' := Lib.hid ((congrArg (pre.map (·.data.toList) ++ ·) (fl_last (Nat.le_refl _) (Nat.le_refl _) hpos hst2)).symm.trans HI.out)
        clear HI
        obtain ⟨fn, tmps, assign, body, hy, hR⟩ := HY.out pre (s.extract st.toNat s.size) wr HJ.out (by omega)
        gi_wp2
        refine hR.mono ?_
        have HI2 : Hid ((pre ++ [s.extract st.toNat s.size]).map (·.data.toList) = fl [] s.data.toList) := by
          show _ = _
          rw [← HI'.out, List.map_append, List.map_cons, List.map_nil, ext_cur s st s.size hpos]
        clear HI' HJ
        rintro e W3 (⟨rfl, hJ3, hk3⟩ | ⟨rfl, hJx3⟩)
        · gi_wp2
          go_end0
          exact ⟨⟨_, rfl⟩, .inl ⟨_, HI2.out, hJ3⟩⟩
        · gi_wp2
          go_end0
          exact ⟨⟨_, rfl⟩, .inr ⟨_, by rw [HI2.out]; exact List.prefix_refl _, hJx3⟩⟩
end Go.Proofs.YtdcanjfdgfpdfaaGreatDoor.V
