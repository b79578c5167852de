/- The reference's text. -/
import Derived.Test.YtdcanjfdgfpdfaaGreatDoorRs
namespace Go.Proofs.YtdcanjfdgfpdfaaGreatDoor.V
open Go.ChangeShapes Go.WideShapes Go.ChangeAt Go.RowKit Go.Shelf
/-- What a text is when some of it is read. -/
def fin (n : Nat) (acc : List UInt8) (r : Option (List UInt8 × Nat)) : Lx.R := match r with
  | none => .err 21
  | some x => if 100 < (acc ++ x.1).length then .err 5 else .ok 4 (acc ++ x.1) (n + x.2)
theorem fin_start (l : List UInt8) : Lx.text l = fin 1 [] (Lx.body l.tail) := by
  rw [Lx.text]
  cases h : Lx.body l.tail with
  | none => rfl
  | some x => simp only [fin, List.nil_append, Nat.add_comm 1]
theorem fin_map (n d : Nat) (acc : List UInt8) (c : UInt8) (r : Option (List UInt8 × Nat)) : fin n acc (r.map fun x => (c :: x.1, x.2 + d)) = fin (n + d) (acc ++ [c]) r := by
  cases r with
  | none => rfl
  | some x => simp only [fin, Option.map_some, List.append_assoc, List.singleton_append]; rw [show n + (x.2 + d) = n + d + x.2 by omega]
theorem body_end {s : ByteArray} {k : Nat} (h : s.size ≤ k) : Lx.body (s.data.toList.drop k) = none := by
  rw [List.drop_of_length_le (by rw [lenL]; exact h)]; rfl
theorem body_one {s : ByteArray} {k : Nat} (h : k < s.size) (h39 : s[k] ≠ 39) : Lx.body (s.data.toList.drop k) = (Lx.body (s.data.toList.drop (k + 1))).map fun x => (s[k] :: x.1, x.2 + 1) := by
  rw [drop_at s k h, Lx.body_cons, if_neg h39]
theorem body_two {s : ByteArray} {k : Nat} (h : k + 1 < s.size) (h39 : s[k] = 39) (h2 : s[k + 1] = 39) : Lx.body (s.data.toList.drop k) = (Lx.body (s.data.toList.drop (k + 2))).map fun x => (39 :: x.1, x.2 + 2) := by
  rw [drop_at s k (by omega), drop_at s (k + 1) h, Lx.body_cons, if_pos h39, h2]
  rfl
theorem body_stop {s : ByteArray} {k : Nat} (h : k < s.size) (h39 : s[k] = 39) (h2 : ∀ h1 : k + 1 < s.size, s[k + 1] ≠ 39) : Lx.body (s.data.toList.drop k) = some ([], 1) := by
  rw [drop_at s k h, Lx.body_cons, if_pos h39]
  rcases Nat.lt_or_ge (k + 1) s.size with h1 | h1
  · rw [drop_at s (k + 1) h1]
    dsimp only
    rw [if_neg (h2 h1)]
  · rw [List.drop_of_length_le (by rw [lenL]; exact h1)]
theorem one_byte (s : ByteArray) (k : Nat) (h : k < s.size) : (s.extract k (k + 1)).data.toList = [s[k]] := by
  rw [Lib.extract_data, drop_at s k h]
  simp
theorem app_bytes (x y : ByteArray) : (x ++ y).data.toList = x.data.toList ++ y.data.toList := by simp
set_option maxHeartbeats 4000000 in
theorem r_text (s : ByteArray) (a : Nat) (hs : s.size ≤ 4000) (ha : a < s.size) (w : World) :
    Calls Tryz.prog 31 #[.string s, .int .i64 a] w fun e w' => e = .returned (tv (Lx.text (s.data.toList.drop a)) a) ∧ Below w.heap.size w w' := by
  have h0 : Lx.text (s.data.toList.drop a) = fin 1 [] (Lx.body (s.data.toList.drop (a + 1))) := by
    rw [fin_start, drop_at s a ha]; rfl
  obtain ⟨R, hR⟩ : ∃ R, Lx.text (s.data.toList.drop a) = R := ⟨_, rfl⟩
  rw [hR] at h0 ⊢
  have H0 := Lib.hid h0
  clear h0 hR
  go_enter Tryz.func31, Tryz.ntmps31
  go_wp2
  go_loop [7, 8] (fun s7 s8 => ∃ (k : Nat) (o : ByteArray), a < k ∧ k ≤ s.size ∧ o.size < k ∧ s7 = .string o ∧ s8 = .int .i64 k ∧ Hid (R = fin (k - a) o.data.toList (Lx.body (s.data.toList.drop k)))) (fun _ s8 => s.size - (intOf s8).toNat)
  case atStart => exact ⟨a + 1, ⟨#[]⟩, by omega, by omega, by show 0 < a + 1; omega, rfl, by go_num, by show R = _; rw [show a + 1 - a = 1 by omega]; exact H0.out⟩
  case round =>
    obtain ⟨k, o, hak, hk, hok, rfl, rfl, HR⟩ := hrel
    clear H0
    by_cases hlt : k < s.size
    · by_cases h39 : s[k] = 39
      · have g1 : ((s[k].toNat : Int) == 39) = true := by rw [h39]; rfl
        by_cases h2 : ∃ h1 : k + 1 < s.size, s[k + 1] = 39
        · obtain ⟨h1, h2⟩ := h2
          have g2 : ((s[k + 1].toNat : Int) != 39) = false := by rw [h2]; rfl
          have HR2 : Hid (R = fin (k + 2 - a) (o ++ s.extract (k + 1) (k + 2)).data.toList (Lx.body (s.data.toList.drop (k + 2)))) := by
            show R = _
            rw [HR.out, body_two h1 h39 h2, fin_map, app_bytes, one_byte s (k + 1) h1, h2, show k - a + 2 = k + 2 - a by omega]
          have hosz : (o ++ s.extract (k + 1) (k + 2)).size < k + 2 := by rw [ByteArray.size_append, ByteArray.size_extract]; omega
          clear h39 h2 HR
          go_wp2
          go_round
          case rel => exact ⟨k + 2, _, by omega, by omega, hosz, rfl, by go_num, HR2⟩
          case measure => simp [intOf]; omega
        · have HS : Hid (R = fin (k - a) o.data.toList (some ([], 1))) := by
            show R = _
            rw [HR.out, body_stop hlt h39 (fun h1 e => h2 ⟨h1, e⟩)]
          have hg : k + 1 = s.size ∨ ∃ h1 : k + 1 < s.size, ((s[k + 1].toNat : Int) != 39) = true := by
            rcases Nat.lt_or_ge (k + 1) s.size with h1 | h1
            · exact .inr ⟨h1, ne_bool (fun e => h2 ⟨h1, e⟩)⟩
            · exact .inl (by omega)
          clear h39 h2 HR
          by_cases h100 : 100 < o.size
          · have HE : Hid (R = .err 5) := by
              show R = _
              rw [HS.out, fin]; dsimp only; rw [List.append_nil, lenL, if_pos h100]
            clear HS
            rcases hg with h1 | ⟨h1, g2⟩
            case' inl =>
              have h1' : (s.size : Int) ≤ (k : Int) + 1 := by omega
            all_goals
              go_wp2
              refine bodyPost_ret (v := tv (.err 5) a) ?_ rfl ⟨by rw [HE.out], by repeat (first | exact Below.refl _ _ | apply bel_alloc | refine bel_set ?_ (by simp) _)⟩
              simp [results, Tryz.results31, go_sem, tv]
          · have HE : Hid (R = .ok 4 o.data.toList (k + 1 - a)) := by
              show R = _
              rw [HS.out, fin]; dsimp only; rw [List.append_nil, lenL, if_neg h100, show k - a + 1 = k + 1 - a by omega]
            clear HS
            rcases hg with h1 | ⟨h1, g2⟩
            case' inl =>
              have h1' : (s.size : Int) ≤ (k : Int) + 1 := by omega
            all_goals
              go_wp2
              refine bodyPost_ret (v := tv (.ok 4 o.data.toList (k + 1 - a)) a) ?_ rfl ⟨by rw [HE.out], by repeat (first | exact Below.refl _ _ | apply bel_alloc | refine bel_set ?_ (by simp) _)⟩
              simp [results, Tryz.results31, go_sem, tv]
              omega
      · have g1 : ((s[k].toNat : Int) == 39) = false := by
          have := ne_bool h39
          simpa using this
        have HR2 : Hid (R = fin (k + 1 - a) (o ++ s.extract k (k + 1)).data.toList (Lx.body (s.data.toList.drop (k + 1)))) := by
          show R = _
          rw [HR.out, body_one hlt h39, fin_map, app_bytes, one_byte s k hlt, show k - a + 1 = k + 1 - a by omega]
        have hosz : (o ++ s.extract k (k + 1)).size < k + 1 := by rw [ByteArray.size_append, ByteArray.size_extract]; omega
        clear h39 HR
        go_wp2
        go_round
        case rel => exact ⟨k + 1, _, by omega, by omega, hosz, rfl, by go_num, HR2⟩
        case measure => simp [intOf]; omega
    · have HE : Hid (R = .err 21) := by
        show R = _
        rw [HR.out, body_end (by omega)]; rfl
      clear HR
      go_wp2
      refine bodyPost_ret (v := tv (.err 21) a) ?_ rfl ⟨by rw [HE.out], by repeat (first | exact Below.refl _ _ | apply bel_alloc | refine bel_set ?_ (by simp) _)⟩
      simp [results, Tryz.results31, go_sem, tv]
end Go.Proofs.YtdcanjfdgfpdfaaGreatDoor.V
