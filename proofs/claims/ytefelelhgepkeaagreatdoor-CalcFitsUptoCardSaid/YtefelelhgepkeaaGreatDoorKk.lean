/- The iterator of slices.Chunk with chunks of two. -/
import Derived.Test.YtefelelhgepkeaaGreatDoorKj
import Derived.RangeFuncNested
import Derived.RangeFuncBound
import Derived.RangeFuncCalls
import Derived.RangeFuncLeaves
import Derived.Shelf.Abstract
import Derived.Shelf.RegionOpen
import Derived.OwnWalkIn
import Derived.TacticsInMore
import Derived.LoopNIn
import Derived.LoopIn
import Derived.BigRegionIn
import Derived.Sort.QuietIn
namespace Go.Proofs.YtefelelhgepkeaaGreatDoor.K
open Go.ChangeShapes Go.WideShapes Go.ChangeAt Go.RowKit Go.Proofs.YtefelelhgepkeaaGreatDoor.V Go.Shelf
attribute [local go_sem] Oper.semAt_some
/-- How many chunks there are. -/
def chunks (n : Nat) : Nat := (n + 1) / 2
/-- The places of the first chunks. -/
def firsts (n k : Nat) : List (Fin (chunks n)) := (List.finRange (chunks n)).take k
theorem firsts_succ {n k : Nat} (h : k < chunks n) : firsts n (k + 1) = firsts n k ++ [⟨k, h⟩] := by
  unfold firsts
  rw [List.take_succ_eq_append_getElem (by simpa using h)]
  simp
theorem firsts_all {n k : Nat} (h : chunks n ≤ k) : firsts n k = List.finRange (chunks n) := by
  unfold firsts
  exact List.take_of_length_le (by simpa using h)
/-- The iterator's own boxes are as they were. -/
def Kept (Bs Bn : Nat) (A B : World) : Prop := B.cell? ⟨Bs, 0, none⟩ = A.cell? ⟨Bs, 0, none⟩ ∧ B.cell? ⟨Bn, 0, none⟩ = A.cell? ⟨Bn, 0, none⟩
theorem kept_t {Bs Bn : Nat} {A B C : World} (h : Kept Bs Bn A B) (k : Kept Bs Bn B C) : Kept Bs Bn A C := ⟨k.1.trans h.1, k.2.trans h.2⟩
theorem kept_b {Bs Bn : Nat} {w : World} (h1 : Bs < w.heap.size) (h2 : Bn < w.heap.size) (W : World) (l : Nat) (o o' : Obj) (hl : w.heap.size ≤ l) (_ : W.heap[l]? = some o) (_ : o.isCells = false) (_ : o.isWalk = false) : Kept Bs Bn W (W.putObj l o') :=
  ⟨World.cell?_of_block (World.putObj_heap_other (by show Bs ≠ l; omega)), World.cell?_of_block (World.putObj_heap_other (by show Bn ≠ l; omega))⟩
def wid (n k : Nat) : Nat := min 2 (n - 2 * k)
set_option maxRecDepth 100000 in
set_option maxHeartbeats 2000000 in
theorem chunkK_in (f : Nat) (hn1 : 1 ≤ f) (l Bs Bn g p n c : Nat) (hnc : n ≤ c) (hc : c ≤ 9223372036854775807) (hsz : n ≤ 140737488351232) (a : Option Addr) (ha : 0 < n → a = some ⟨g, p, none⟩)
    (J Jx : List (Fin (chunks n)) → World → Prop) (hD : ∀ s W m, J s W → J s (World.drewN W m))
    (hY : ∀ pre (x : Fin (chunks n)) W, J pre W → pre.length < chunks n → YieldAt Fence.wide (f - 1) Tryz.prog l #[.slice (some ⟨g, p + 2 * x.val, none⟩) (wid n x.val) (wid n x.val)] W fun e W' =>
      (e = .returned (.bool true) ∧ J (pre ++ [x]) W' ∧ Kept Bs Bn W W') ∨ (e = .returned (.bool false) ∧ Jx (pre ++ [x]) W'))
    (W : World) (hBs : W.cell? ⟨Bs, 0, none⟩ = some (.slice a n c)) (hBn : W.cell? ⟨Bn, 0, none⟩ = some (.int .i64 2)) (h0 : J [] W) :
    CallsIn Fence.wide f Tryz.prog 99 #[.func (.yield l) #[] #[], .pointer (some ⟨Bs, 0, none⟩), .pointer (some ⟨Bn, 0, none⟩)] W fun e W' => (∃ v, e = .returned v) ∧
      ((∃ ys, ys = List.finRange (chunks n) ∧ J ys W') ∨ (∃ k, Jx (firsts n k) W')) := by
  have HY := Lib.hid hY
  have HD := Lib.hid hD
  clear hY hD
  refine callsIn_of_wp Tryz.func99 rfl trivial ?_ rfl
  simp only [Tryz.ntmps99, List.size_toArray, List.length_cons, List.length_nil, Nat.reduceAdd, Nat.reduceSub, Array.replicate_succ, Array.replicate_zero, List.push_toArray, List.append_toArray, List.nil_append, List.cons_append]
  gi_wp2
  gi_loopw [4] (fun s4 wr => ∃ (k : Nat), k ≤ chunks n ∧ s4 = .int .i64 ((2 * k : Nat) : Int) ∧ Hid (J (firsts n k) wr) ∧ wr.cell? ⟨Bs, 0, none⟩ = some (.slice a n c) ∧ wr.cell? ⟨Bn, 0, none⟩ = some (.int .i64 2))
    (fun s4 _ => n + 2 - (intOf s4).toNat)
  case atStart => exact ⟨0, by omega, rfl, h0, hBs, hBn⟩
  case round =>
    obtain ⟨k, hk, rfl, HJ, hbs, hbn⟩ := hrel
    unfold chunks at hk
    by_cases hlt : 2 * k < n
    · obtain rfl := ha (by omega)
      have hkc : k < chunks n := by unfold chunks; omega
      have hw : (2 * (k : Int) + min 2 ((n - 2 * k : Nat) : Int)).toNat - 2 * k = wid n k := by unfold wid; omega
      have hfl : (firsts n k).length < chunks n := by unfold firsts; simp; omega
      gi_wp2
      gi_quiet (fail)
      obtain ⟨fn, tmps, assign, body, hy, hR⟩ := HY.out (firsts n k) ⟨k, hkc⟩ (wr.drewN nq) (HD.out _ _ nq HJ.out) hfl
      gi_wp2
      refine hR.mono ?_
      rintro e W3 (⟨rfl, hJ3, hk3⟩ | ⟨rfl, hJx3⟩)
      · have HJ3 : Hid (J (firsts n (k + 1)) W3) := by rw [firsts_succ hkc]; exact hJ3
        have hbs3 : W3.cell? ⟨Bs, 0, none⟩ = some (.slice (some ⟨g, p, none⟩) n c) := hk3.1.trans hbs
        have hbn3 : W3.cell? ⟨Bn, 0, none⟩ = some (.int .i64 2) := hk3.2.trans hbn
        clear hJ3 HJ hk3
        gi_wp2
        go_roundw
        case rel => exact ⟨k + 1, by omega, by go_num, HJ3.out, hbs3, hbn3⟩
        case measure => simp [intOf]; omega
      · have HX3 : Hid (Jx (firsts n (k + 1)) W3) := by rw [firsts_succ hkc]; exact hJx3
        clear HJ
        gi_wp2
        refine bodyPost_ret (results_none rfl _ _ _) rfl ?_
        exact ⟨⟨_, rfl⟩, .inr ⟨_, HX3.out⟩⟩
    · have e : decide (((2 * k : Nat) : Int) < (n : Int)) = false := by simp; omega
      have e2 : firsts n k = List.finRange (chunks n) := firsts_all (by unfold chunks; omega)
      have HJ2 : Hid (J (List.finRange (chunks n)) wr) := e2 ▸ HJ.out
      clear HJ e2
      gi_wp2
      go_end0
      exact ⟨⟨_, rfl⟩, .inl ⟨_, rfl, HJ2.out⟩⟩
end Go.Proofs.YtefelelhgepkeaaGreatDoor.K
