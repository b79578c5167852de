/- Contracts of the reference's unquoted and Read at any text. -/
import Derived.Test.YtjiilfbomcibjaaGreatDoorReadN
namespace Go.Proofs.YtjiilfbomcibjaaGreatDoor.V
open Go.ChangeShapes Go.WideShapes Go.ChangeAt Go.RowKit Go.Proofs.YtjiilfbomcibjaaGreatDoor.L
theorem unq_short (s : ByteArray) (h : s.size < 2) (w : World) : Calls Tryz.prog 61 #[.string s] w fun e w' => e = .returned (.tuple #[.string ⟨#[]⟩, .bool false]) ∧ Below w.heap.size w w' := by
  have e1 : decide ((s.size : Int) < 2) = true := by simp; omega
  go_enter Tryz.func61, Tryz.ntmps61
  go_wp2_with fail
  go_ret2
  exact ⟨rfl, Below.refl _ _⟩
theorem unq_first (s : ByteArray) (hs : s.size ≤ 140737488351232) (h : 2 ≤ s.size) (h1 : ¬ (s[0].toNat : Int) = 39) (w : World) : Calls Tryz.prog 61 #[.string s] w fun e w' => e = .returned (.tuple #[.string ⟨#[]⟩, .bool false]) ∧ Below w.heap.size w w' := by
  have e1 : decide ((s.size : Int) < 2) = false := by simp; omega
  have e2 : ((s[0].toNat : Int) != 39) = true := by simpa using h1
  go_enter Tryz.func61, Tryz.ntmps61
  go_wp2_with fail
  go_ret2
  exact ⟨rfl, Below.refl _ _⟩
theorem unq_last (s : ByteArray) (hs : s.size ≤ 140737488351232) (h : 2 ≤ s.size) (h1 : (s[0].toNat : Int) = 39) (h2 : ¬ (s[s.size - 1].toNat : Int) = 39) (w : World) : Calls Tryz.prog 61 #[.string s] w fun e w' => e = .returned (.tuple #[.string ⟨#[]⟩, .bool false]) ∧ Below w.heap.size w w' := by
  have e1 : decide ((s.size : Int) < 2) = false := by simp; omega
  have e2 : ((s[0].toNat : Int) != 39) = false := by simpa using h1
  have e3 : ((s[s.size - 1].toNat : Int) != 39) = true := by simpa using h2
  go_enter Tryz.func61, Tryz.ntmps61
  go_wp2_with fail
  go_ret2
  exact ⟨rfl, Below.refl _ _⟩
/-- What stands from place k on, ahead of the last byte. -/
def from' (s : ByteArray) (k : Nat) : List UInt8 := (s.data.toList.take (s.size - 1)).drop k
theorem from_cons (s : ByteArray) (k : Nat) (h : k + 1 < s.size) : from' s k = (s[k]'(by omega)) :: from' s (k + 1) := by
  unfold from'
  have hl : (s.data.toList.take (s.size - 1)).length = s.size - 1 := by rw [List.length_take]; simp
  rw [List.drop_eq_getElem_cons (by omega)]
  congr 1
  rw [List.getElem_take]
  rfl
theorem from_nil (s : ByteArray) : from' s (s.size - 1) = [] := by
  unfold from'
  exact List.drop_eq_nil_of_le (by rw [List.length_take]; omega)
theorem und_char (c : UInt8) (l : List UInt8) (h : c ≠ 39) : T.und (c :: l) = (T.und l).map (c :: ·) := by
  cases l with
  | nil =>
    have e0 : T.und [] = some [] := by rw [T.und]
    have e1 : T.und [c] = some [c] := by rw [T.und, if_neg h]
    rw [e0, e1]; rfl
  | cons d l => rw [T.und, if_neg h]
theorem und_alone (l : List UInt8) (h : l.head? ≠ some 39) : T.und (39 :: l) = none := by
  cases l with
  | nil => rw [T.und, if_pos rfl]
  | cons d l => rw [T.und, if_pos rfl, if_neg (fun e => h (by rw [e]; rfl))]
theorem und_pair (l : List UInt8) : T.und (39 :: 39 :: l) = (T.und l).map (39 :: ·) := by rw [T.und, if_pos rfl, if_pos rfl]
/-- What unquoted gives. -/
def unqV : Option (List UInt8) → Value
  | some t => .tuple #[.string ⟨t.toArray⟩, .bool true]
  | none => .tuple #[.string ⟨#[]⟩, .bool false]
/-- What is read so far, and what is left, are the whole. -/
def UInv (s : ByteArray) (k : Nat) (b : ByteArray) : Prop := T.und (from' s 1) = (T.und (from' s k)).map (b.data.toList ++ ·) ∧ b.size ≤ k
theorem uinv_start (s : ByteArray) : UInv s 1 ⟨#[]⟩ := ⟨by simp, by decide⟩
theorem uinv_char (s : ByteArray) (k : Nat) (b : ByteArray) (h : UInv s k b) (hk : k + 1 < s.size) (hc : ¬ ((s[k]'(by omega)).toNat : Int) = 39) : UInv s (k + 1) (b ++ s.extract k (k + 1)) := by
  obtain ⟨h1, h2⟩ := h
  have hn : s[k]'(by omega) ≠ 39 := fun e => hc (by rw [e]; rfl)
  refine ⟨?_, ?_⟩
  · rw [h1, from_cons s k hk, und_char _ _ hn, Option.map_map]
    congr 1
    funext t
    show b.data.toList ++ (s[k]'(by omega)) :: t = (b ++ s.extract k (k + 1)).data.toList ++ t
    rw [bytes_append, bytes_one s k (by omega)]
    simp
  · rw [ByteArray.size_append, ByteArray.size_extract]; omega
theorem uinv_pair (s : ByteArray) (k : Nat) (b : ByteArray) (h : UInv s k b) (hk : k + 2 < s.size) (hc : ((s[k]'(by omega)).toNat : Int) = 39) (hc2 : ((s[k + 1]'(by omega)).toNat : Int) = 39) : UInv s (k + 2) (b ++ s.extract (k + 1) (k + 2)) := by
  obtain ⟨h1, h2⟩ := h
  have e1 : s[k]'(by omega) = 39 := UInt8.toNat_inj.1 (by show (s[k]'(by omega)).toNat = 39; omega)
  have e2 : s[k + 1]'(by omega) = 39 := UInt8.toNat_inj.1 (by show (s[k + 1]'(by omega)).toNat = 39; omega)
  refine ⟨?_, ?_⟩
  · rw [h1, from_cons s k (by omega), from_cons s (k + 1) (by omega), e1, e2, und_pair, Option.map_map]
    congr 1
    funext t
    show b.data.toList ++ 39 :: t = (b ++ s.extract (k + 1) (k + 2)).data.toList ++ t
    rw [bytes_append, bytes_one s (k + 1) (by omega), e2]
    simp
  · rw [ByteArray.size_append, ByteArray.size_extract]; omega
theorem uinv_end (s b : ByteArray) (h : UInv s (s.size - 1) b) : unqV (T.und (from' s 1)) = .tuple #[.string b, .bool true] := by
  rw [h.1, from_nil, T.und]
  show Value.tuple #[.string ⟨(b.data.toList ++ []).toArray⟩, .bool true] = _
  simp
theorem uinv_none (s : ByteArray) (k : Nat) (b : ByteArray) (h : UInv s k b) (hk : k + 1 < s.size) (hc : ((s[k]'(by omega)).toNat : Int) = 39) (h2 : s.size ≤ k + 2 ∨ ∃ hx : k + 1 < s.size, ¬ ((s[k + 1]'hx).toNat : Int) = 39) : unqV (T.und (from' s 1)) = .tuple #[.string ⟨#[]⟩, .bool false] := by
  have e1 : s[k]'(by omega) = 39 := UInt8.toNat_inj.1 (by show (s[k]'(by omega)).toNat = 39; omega)
  rw [h.1, from_cons s k hk, e1, und_alone]
  · rfl
  · by_cases hx : k + 2 < s.size
    · rw [from_cons s (k + 1) (by omega)]
      rcases h2 with h2 | ⟨_, h2⟩
      · omega
      · intro e
        have e := Option.some.inj e
        exact h2 (by rw [e]; rfl)
    · rw [show k + 1 = s.size - 1 by omega, from_nil]
      simp
set_option maxRecDepth 20000 in
set_option maxHeartbeats 800000 in
theorem unq_mid (s : ByteArray) (hs : s.size ≤ 140737488351232) (h : 2 ≤ s.size) (h1 : (s[0].toNat : Int) = 39) (h2 : (s[s.size - 1].toNat : Int) = 39) (w : World) : Calls Tryz.prog 61 #[.string s] w fun e w' => e = .returned (unqV (T.und (from' s 1))) ∧ Below w.heap.size w w' := by
  have e1 : decide ((s.size : Int) < 2) = false := by simp; omega
  have e2 : ((s[0].toNat : Int) != 39) = false := by simpa using h1
  have e3 : ((s[s.size - 1].toNat : Int) != 39) = false := by simpa using h2
  go_enter Tryz.func61, Tryz.ntmps61
  go_wp2_with fail
  clear e1 e2 e3 h1 h2
  go_loopw [4, 5] (fun o i wr => ∃ (k : Nat) (b : ByteArray), 1 ≤ k ∧ k ≤ s.size - 1 ∧ o = .string b ∧ i = .int .i64 k ∧ wr = w ∧ UInv s k b) (fun _ i _ => s.size - (intOf i).toNat)
  case atStart => exact ⟨1, _, by omega, by omega, rfl, rfl, rfl, uinv_start s⟩
  case round =>
    obtain ⟨k, b, hk1, hk, rfl, rfl, rfl, hU⟩ := hrel
    have hbs := hU.2
    have HU := Lib.hid hU
    clear hU
    by_cases hk' : k + 1 < s.size
    · have hki : k < s.size := by omega
      by_cases hc : (s[k].toNat : Int) = 39
      · have e1 : ((s[k].toNat : Int) == 39) = true := by simpa using hc
        by_cases hx : k + 2 < s.size
        · have e2 : decide ((s.size : Int) - 1 ≤ (k : Int) + 1) = false := by simp; omega
          by_cases hc2 : (s[k + 1].toNat : Int) = 39
          · have e3 : ((s[k + 1].toNat : Int) != 39) = false := by simpa using hc2
            have R := Lib.hid (uinv_pair s k b HU.out hx hc hc2)
            clear hc hc2
            go_wp2
            go_roundw
            case rel => exact ⟨k + 2, _, by omega, by omega, rfl, by go_num, (by first | trivial | rfl), R.out⟩
            case measure => simp [intOf]; omega
          · have e3 : ((s[k + 1].toNat : Int) != 39) = true := by simpa using hc2
            have R := Lib.hid (uinv_none s k b HU.out hk' hc (.inr ⟨hk', hc2⟩))
            clear hc hc2
            go_wp2
            go_ret2
            exact ⟨congrArg Ending.returned R.out.symm, Below.refl _ _⟩
        · have e2 : decide ((s.size : Int) - 1 ≤ (k : Int) + 1) = true := by simp; omega
          have R := Lib.hid (uinv_none s k b HU.out hk' hc (.inl (by omega)))
          clear hc
          go_wp2
          go_ret2
          exact ⟨congrArg Ending.returned R.out.symm, Below.refl _ _⟩
      · have e1 : ((s[k].toNat : Int) == 39) = false := by simpa using hc
        have R := Lib.hid (uinv_char s k b HU.out hk' hc)
        clear hc
        go_wp2
        go_roundw
        case rel => exact ⟨k + 1, _, by omega, by omega, rfl, by go_num, (by first | trivial | rfl), R.out⟩
        case measure => simp [intOf]; omega
    · obtain rfl : k = s.size - 1 := by omega
      have R := Lib.hid (uinv_end s b HU.out)
      go_wp2
      go_ret2
      exact ⟨congrArg Ending.returned R.out.symm, Below.refl _ _⟩
end Go.Proofs.YtjiilfbomcibjaaGreatDoor.V
