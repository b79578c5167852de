/- Contracts of the functions of package lex that class bytes and find the ends of runs. -/
import Derived.Test.YtdcanjfdgfpdfaaGreatDoorBs
import Derived.Test.YtdcanjfdgfpdfaaGreatDoorLx
import Derived.LoopTactic
import Derived.Deep.DeepCutAuto
import Derived.Deep.LoopGhost
namespace Go.Proofs.YtdcanjfdgfpdfaaGreatDoor.V
open Go.ChangeShapes Go.WideShapes Go.ChangeAt Go.RowKit
/-- The number of a byte's class. -/
def cls (b : UInt8) : Int := if Lx.small b then 2 else if Lx.cap b then 3 else if Lx.digit b then 5 else if Lx.blank b then 1 else if b = 95 then 4 else if b = 39 then 6 else 0
theorem cls_n (b : UInt8) : cls b = if 97 ≤ b.toNat ∧ b.toNat ≤ 122 then 2 else if 65 ≤ b.toNat ∧ b.toNat ≤ 90 then 3 else if 48 ≤ b.toNat ∧ b.toNat ≤ 57 then 5 else
    if b.toNat = 32 ∨ b.toNat = 9 ∨ b.toNat = 10 ∨ b.toNat = 13 then 1 else if b.toNat = 95 then 4 else if b.toNat = 39 then 6 else 0 := by
  have e : ∀ c : UInt8, (b = c) = (b.toNat = c.toNat) := fun c => propext UInt8.toNat_inj.symm
  simp only [cls, Lx.small, Lx.cap, Lx.digit, Lx.blank, Bool.and_eq_true, decide_eq_true_eq, Bool.or_eq_true, beq_iff_eq, e, or_assoc]
  rfl
set_option maxHeartbeats 1000000 in
theorem c_classOf (b : UInt8) (w : World) : Calls Tryz.prog 36 #[.int .u8 (b.toNat : Int)] w fun e w' => e = .returned (.int .u8 (cls b)) ∧ w = w' := by
  have hb : b.toNat < 256 := b.toNat_lt
  have K := Lib.hid (cls_n b)
  generalize hn : b.toNat = n at *
  clear hn
  go_enter Tryz.func36, Tryz.ntmps36
  go_wp2
  all_goals
    go_ret
    refine ⟨ret_int ?_, rfl⟩
    try simp only [beq_iff_eq, beq_eq_false_iff_ne, ne_eq] at *
    rw [K.out]
    repeat (first | rw [if_pos (by omega)] | rw [if_neg (by omega)])
/-- The first place from a on at which p does not hold. -/
def runE (p : UInt8 → Bool) (l : List UInt8) (a : Nat) : Nat := a + ((l.drop a).takeWhile p).length
theorem drop_at (s : ByteArray) (k : Nat) (h : k < s.size) : s.data.toList.drop k = s[k] :: s.data.toList.drop (k + 1) := by
  rw [List.drop_eq_getElem_cons (by simpa using h)]; rfl
theorem runE_yes {p : UInt8 → Bool} {s : ByteArray} {k : Nat} (h : k < s.size) (hp : p s[k] = true) : runE p s.data.toList k = runE p s.data.toList (k + 1) := by
  unfold runE
  rw [drop_at s k h, List.takeWhile_cons_of_pos hp, List.length_cons]; omega
theorem runE_no {p : UInt8 → Bool} {s : ByteArray} {k : Nat} (h : k < s.size) (hp : p s[k] = false) : runE p s.data.toList k = k := by
  unfold runE
  rw [drop_at s k h, List.takeWhile_cons_of_neg (by simp [hp])]; rfl
theorem runE_end {p : UInt8 → Bool} {s : ByteArray} {k : Nat} (h : s.size ≤ k) : runE p s.data.toList k = k := by
  unfold runE
  rw [List.drop_of_length_le (by simpa using h)]; rfl
theorem runE_le {p : UInt8 → Bool} {l : List UInt8} {k : Nat} (h : k ≤ l.length) : k ≤ runE p l k ∧ runE p l k ≤ l.length := by
  unfold runE
  have := Lx.tw_le p (l.drop k)
  rw [List.length_drop] at this
  omega
def among (cs : List Int) (b : UInt8) : Bool := cs.contains (cls b)
set_option maxHeartbeats 1000000 in
theorem c_runEnd (s : ByteArray) (a g cap : Nat) (cs : List Int) (w : World) (hs : s.size ≤ 4000) (ha : a ≤ s.size) (hn : cs.length ≤ 4)
    (hc : ∀ (j : Nat) (c : Int), cs[j]? = some c → w.cell? ⟨g, j, none⟩ = some (.int .u8 c)) :
    Calls Tryz.prog 33 #[.string s, .int .i64 a, .slice (some ⟨g, 0, none⟩) cs.length cap] w fun e w' => e = .returned (.int .i64 (runE (among cs) s.data.toList a : Nat)) ∧ w = w' := by
  have HC := Lib.hid hc
  clear hc
  go_enter Tryz.func33, Tryz.ntmps33
  go_wp2
  go_step3
  go_wp2
  go_step3
  go_wp2
  go_loopg [1] (s.size - a) (fun n s1 wr => ∃ k : Nat, k + n = s.size ∧ s1 = .int .i64 k ∧ Hid (runE (among cs) s.data.toList k = runE (among cs) s.data.toList a) ∧ wr = w)
  case atStart => exact ⟨a, by omega, rfl, rfl, rfl⟩
  case round =>
    obtain ⟨k, hk, rfl, HR, rfl⟩ := hrel
    cases gk with
    | zero =>
      have hkz : ¬ ((k : Int) < (s.size : Int)) := by omega
      go_wp2
      try rw [Exit.noGoto_ret]
      go_ret
      exact ⟨ret_int (by rw [← HR.out, runE_end (by omega)]), rfl⟩
    | succ n =>
      have hlt : k < s.size := by omega
      go_wp2_with (first | (go_at_call 36; refine (c_classOf _ _).mono ?_; rintro e w' ⟨rfl, rfl⟩))
      go_loopg [22] cs.length (fun m s22 wy => ∃ j : Nat, j + m = cs.length ∧ s22 = .int .i64 j ∧ Hid (∀ (i : Nat) (c : Int), i < j → cs[i]? = some c → c ≠ cls s[k]) ∧ wy = wr)
      case atStart => exact ⟨0, by omega, rfl, (fun i c h => absurd h (Nat.not_lt_zero _)), rfl⟩
      case round =>
        obtain ⟨j, hj, rfl, HJ, rfl⟩ := hrel
        cases gk with
        | zero =>
          have hjz : ¬ ((j : Int) < (cs.length : Int)) := by omega
          have HN : Hid (runE (among cs) s.data.toList k = k) := by
            refine runE_no hlt ?_
            rw [Bool.eq_false_iff]
            intro hh
            obtain ⟨i, hi, e⟩ := List.getElem_of_mem (List.contains_iff_mem.1 hh)
            exact HJ i _ (by omega) (List.getElem?_eq_getElem hi) e
          go_wp2
          try rw [Exit.noGoto_ret]
          go_ret
          exact ⟨ret_int (by rw [← HR.out, HN.out]), rfl⟩
        | succ m =>
          have hjl : j < cs.length := by omega
          have hcell := HC.out j cs[j] (List.getElem?_eq_getElem hjl)
          by_cases hcc : cs[j] = cls s[k]
          · have hb : (cs[j] == cls s[k]) = true := by simpa using hcc
            have HN : Hid (runE (among cs) s.data.toList (k + 1) = runE (among cs) s.data.toList a) := by
              refine (runE_yes hlt ?_).symm.trans HR.out
              exact List.contains_iff_mem.2 (hcc ▸ List.getElem_mem hjl)
            clear hcc
            go_wp2
            go_roundg n
            case measure => omega
            case rel => exact ⟨k + 1, by omega, by go_num, HN, rfl⟩
          · have hb : (cs[j] == cls s[k]) = false := by simpa using hcc
            have HJ' : Hid (∀ (i : Nat) (c : Int), i < j + 1 → cs[i]? = some c → c ≠ cls s[k]) := by
              intro i c hi hc
              by_cases e : i = j
              · subst e
                rw [List.getElem?_eq_getElem hjl] at hc
                exact Option.some.inj hc ▸ hcc
              · exact HJ i c (by omega) hc
            clear hcc
            go_wp2
            go_roundg m
            case measure => omega
            case rel => exact ⟨j + 1, by omega, by go_num, HJ', rfl⟩
end Go.Proofs.YtdcanjfdgfpdfaaGreatDoor.V
