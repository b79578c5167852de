/- The law about kinds: its walk, and an argument that is a slice of kinds. -/
import Derived.Test.YtgepdjkmonlncaaGreatDoorKy
import Derived.Test.YtgepdjkmonlncaaGreatDoorKr
import Derived.Test.YtgepdjkmonlncaaGreatDoorKo
import Derived.Deep.Slices
import Derived.SizedLaws
import Derived.ChangeSame
namespace Go.Proofs.YtgepdjkmonlncaaGreatDoor.K
open Go.ChangeShapes Go.WideShapes Go.ChangeAt Go.RowKit Go.Proofs.YtgepdjkmonlncaaGreatDoor.V
theorem walk_kinds (op : Int) (a : Option Addr) (n c : Nat) (l : List Int) (h1 : n ≤ c) (h2 : c ≤ 140737488351232) (w : World) (h : One kI w a n l) : Ret 3 #[.int .u8 op, .slice a n c] w (.bool true) := by
  have HL := Lib.hid h
  have hr : ∀ w, One kI w a n l → Ret 11 #[.int .u8 op, .slice a n c] w (kV (kind op l)) := fun w h => r_Kind op a n c l (by omega) w h
  have hk : ∀ w, One kI w a n l → Ret 12 #[.int .u8 op, .slice a n c] w (kV (kind op l)) := fun w h => c_Kind op a n c l h1 (by omega) (by omega) w h
  generalize kind op l = r at hr hk
  obtain ⟨x, y⟩ := r
  have hr' : ∀ w, One kI w a n l → Ret 11 #[.int .u8 op, .slice a n c] w (.tuple #[.int .u8 x, .int .i64 y]) := hr
  have hk' : ∀ w, One kI w a n l → Ret 12 #[.int .u8 op, .slice a n c] w (.tuple #[.int .u8 x, .int .i64 y]) := hk
  clear hr hk h
  go_enter Tryz.func3, Tryz.ntmps3
  go_wp2_with (first | (go_at_call 11; refine (hr' _ HL.out).mono ?_; rintro e w1 ⟨rfl, hb1⟩; have H1 := Lib.hid (HL.out.below hb1)) | (go_at_call 12; refine (hk' _ H1.out).mono ?_; rintro e w2 ⟨rfl, hb2⟩) | (go_at_call 13; refine (awake _).mono ?_; rintro e w3 ⟨rfl, hb3⟩))
  exact bodyPost_ret (v := .bool true) (by simp [results, Tryz.results3, go_sem, *]) rfl ⟨rfl, bel_trans (bel_trans hb1 hb2) hb3⟩
theorem cellsKd : Tryz.prog.cellsOf 24 = 1 := by kernel_rfl
theorem bytesKd : Tryz.prog.bytesOf 24 = 1 := by kernel_rfl
set_option maxRecDepth 100000 in
theorem open_kinds {H : Type} {enc : TypeId × Value → H} {W : World} {base b0 : Nat} {v : Value} {d : DataW H} {ps : List MemPlace} (hval : Value.okWide Tryz.prog W .any b0 23 v)
    (h : DataW.Trod enc Tryz.prog W base (fun _ => true) true 23 v d ps) (hz : ∀ x ∈ d.weights Tryz.prog 23, x ≤ reachBytes) :
    ∃ (a : Option Addr) (n ca : Nat) (l : List Int), v = .slice a n ca ∧ n ≤ ca ∧ ca ≤ 140737488351232 ∧ One kI W a n l := by
  obtain ⟨a, n, ca, rfl⟩ := okWide_slice Tryz.underlying23 hval
  obtain ⟨fuel, hf⟩ := h
  have hf' : DataW.trod enc Tryz.prog W base (fun _ => true) true fuel 23 [.slice a n ca] = some (d, ps) := by simpa [Value.cells] using hf
  rcases Go.Deep.open_slice1 Tryz.underlying23 cellsKd hf' with ⟨hcs, -⟩ | ⟨a', len, cap, m, nn, V, D, Pl, hcs, hb, hl, hm, hmm, hx, hi⟩
  · have e := List.head_eq_of_cons_eq hcs
    injection e with e1 e2 e3
    subst e1; subst e2; subst e3
    exact ⟨none, 0, 0, [], rfl, by omega, by omega, rfl, fun k hk => absurd hk (Nat.not_lt_zero _)⟩
  · have e := List.head_eq_of_cons_eq hcs
    injection e with e1 e2 e3
    subst e1; subst e2; subst e3
    rw [if_pos rfl] at hmm
    subst m
    have hd := (Prod.mk.inj hx).1
    have hca : ca ≤ 140737488351232 := by
      have := hz ((((List.range n).map D).length + ((List.range (ca - n)).map fun j => D (n + j)).length) * Tryz.prog.bytesOf 24) (by
        rw [hd, DataW.weights, Tryz.underlying23]
        exact List.mem_cons_self ..)
      have hr : reachBytes = 140737488351232 := rfl
      rw [bytesKd] at this
      simp at this
      omega
    have hone : ∀ i, i < n → ∃ z : Int, W.cell? (a'.add i) = some (.int .u8 z) := fun i hin => by
      obtain ⟨hc, ht⟩ := hi i (by omega)
      obtain ⟨x, e0, -, -⟩ := DataW.trod_int Tryz.underlying24 ht
      have k0 : V i = .int .u8 x := List.head_eq_of_cons_eq e0
      exact ⟨x, by rw [hc, k0]⟩
    obtain ⟨f, hf⟩ := Go.Deep.choose_lt hone
    refine ⟨some a', n, ca, (List.range n).map f, rfl, hl, hca, by simp, fun k hk => ?_⟩
    have h0 := hf k hk
    have hspot : a'.spot = none := by
      have c := hf 0 (by omega)
      have ea : a'.add 0 = a' := rfl
      rw [ea] at c
      unfold World.cell? at c
      cases hs : a'.spot with
      | none => rfl
      | some q =>
        rw [hs] at c
        split at c
        · simp at c
        · cases c
    obtain ⟨g, o, sp⟩ := a'
    dsimp only at hspot
    subst hspot
    have eadd : ∀ j : Nat, (⟨g, o, none⟩ : Addr).add j = ⟨g, o + j, none⟩ := fun j => by
      unfold Addr.add
      split
      · rename_i e
        rw [show j = 0 by omega]
        rfl
      · rfl
    rw [eadd] at h0
    exact ⟨g, o, f k, rfl, by simp [hk], World.block_lt_of_cell? _ _ h0, h0⟩
end Go.Proofs.YtgepdjkmonlncaaGreatDoor.K
