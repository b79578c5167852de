/- Rows as arguments: their values opened; a value put in front of both. -/
import Derived.Test.YtjiilfbomcibjaaGreatDoorRowsB
import Derived.Test.YtjiilfbomcibjaaGreatDoorLaw
import Derived.Deep.Slices
import Derived.Deep.Upon
import Derived.Deep.OwnRows
namespace Go.Proofs.YtjiilfbomcibjaaGreatDoor.V
open Go.ChangeShapes Go.WideShapes Go.ChangeAt Go.RowKit Go.Proofs.YtjiilfbomcibjaaGreatDoor.L Go.Deep
theorem cmpRow_front (la lb : Nat) (C D : Nat → Int) (h : ∀ i, D (i + 1) = C i) : ∀ d i, cmpRow (la + 1) (lb + 1) D d (i + 1) = cmpRow la lb C d i := by
  intro d
  induction d with
  | zero =>
    intro i
    rw [cmpRow, cmpRow]
    unfold cmpI
    split <;> split <;> (try split) <;> omega
  | succ d ih =>
    intro i
    rw [cmpRow, cmpRow, h i, ih]
/-- The same value put in front of both: they are compared as they are. -/
theorem cmpR_front (la lb : Nat) (C D : Nat → Int) (h0 : D 0 = 0) (h : ∀ i, D (i + 1) = C i) : cmpR (la + 1) (lb + 1) D = cmpR la lb C := by
  unfold cmpR
  rw [show min (la + 1) (lb + 1) = min la lb + 1 by omega, cmpRow, if_neg (by simpa using h0)]
  exact cmpRow_front la lb C D h _ _
/-- What was bounded stays: two functions that agree ahead of the shorter row's end compare alike. -/
theorem cmpRow_congr (la lb : Nat) (C D : Nat → Int) : ∀ d i, (∀ j, i ≤ j → j < i + d → C j = D j) → cmpRow la lb C d i = cmpRow la lb D d i := by
  intro d
  induction d with
  | zero => intro i _; rw [cmpRow, cmpRow]
  | succ d ih =>
    intro i h
    rw [cmpRow, cmpRow, h i (by omega) (by omega), ih (i + 1) (fun j h1 h2 => h j (by omega) (by omega))]
theorem cmpR_congr (la lb : Nat) (C D : Nat → Int) (h : ∀ j, j < min la lb → C j = D j) : cmpR la lb C = cmpR la lb D :=
  cmpRow_congr la lb C D _ 0 fun j _ h2 => h j (by omega)
/-! ### A row behind one value -/
def front {α : Type} (x : α) (F : Nat → α) (i : Nat) : α := if i = 0 then x else F (i - 1)
theorem infoV : (Tryz.prog.info? 24).map (fun i => (i.zero, i.size, i.bytes)) = some (some (.agg #[.int .u8 0, .int .i64 0, .string ⟨#[]⟩]), 3, 32) := by kernel_rfl
/-- The cells of a row's values. -/
def cellF (K N : Nat → Int) (S : Nat → ByteArray) (j : Nat) : Value := if j % 3 = 0 then .int .u8 (K (j / 3)) else if j % 3 = 1 then .int .i64 (N (j / 3)) else .string (S (j / 3))
theorem cellF_one (K N : Nat → Int) (S : Nat → ByteArray) (j : Nat) : (cellF K N S j).oneCell' = true := by unfold cellF; split <;> (try split) <;> rfl
theorem cellF_at (K N : Nat → Int) (S : Nat → ByteArray) (i : Nat) : cellF K N S (i * 3) = .int .u8 (K i) ∧ cellF K N S (i * 3 + 1) = .int .i64 (N i) ∧ cellF K N S (i * 3 + 2) = .string (S i) := by
  unfold cellF
  rw [show i * 3 % 3 = 0 by omega, show (i * 3 + 1) % 3 = 1 by omega, show (i * 3 + 2) % 3 = 2 by omega, show i * 3 / 3 = i by omega, show (i * 3 + 1) / 3 = i by omega, show (i * 3 + 2) / 3 = i by omega]
  simp
theorem row_of_cells {w : World} {l g : Nat} {K N : Nat → Int} {S : Nat → ByteArray} (h : ∀ j, j < l * 3 → w.cell? ⟨g, j, none⟩ = some (cellF K N S j)) (hk : ∀ i, i < l → 0 ≤ K i ∧ K i ≤ 255) (hs : ∀ i, i < l → (S i).size ≤ maxLen) :
    RowAt w (some ⟨g, 0, none⟩) l g 0 K N S := by
  refine ⟨fun _ => rfl, fun i hi => ?_, fun i hi => ?_, fun i hi => ?_, hk, hs⟩
  · rw [show 0 + i * 3 = i * 3 by omega, h _ (by omega), (cellF_at K N S i).1]
  · rw [show 0 + i * 3 + 1 = i * 3 + 1 by omega, h _ (by omega), (cellF_at K N S i).2.1]
  · rw [show 0 + i * 3 + 2 = i * 3 + 2 by omega, h _ (by omega), (cellF_at K N S i).2.2]
theorem row_cells {w : World} {p : Option Addr} {l B O : Nat} {K N : Nat → Int} {S : Nat → ByteArray} (h : RowAt w p l B O K N S) {j : Nat} (hj : j < l * 3) : w.cell? ⟨B, O + j, none⟩ = some (cellF K N S j) := by
  have h0 := h.kind (j / 3) (by omega)
  have h1 := h.num (j / 3) (by omega)
  have h2 := h.text (j / 3) (by omega)
  unfold cellF
  split
  · rw [show O + j = O + j / 3 * 3 by omega]; exact h0
  · split
    · rw [show O + j = O + j / 3 * 3 + 1 by omega]; exact h1
    · rw [show O + j = O + j / 3 * 3 + 2 by omega]; exact h2
theorem app (k n : Int) (s : ByteArray) (hk : 0 ≤ k ∧ k ≤ 255) (hs : s.size ≤ maxLen) (pa : Option Addr) (la ca BA OA : Nat) (KA NA : Nat → Int) (SA : Nat → ByteArray) (hla : la ≤ 1048576) (w : World) (RA : RowAt w pa la BA OA KA NA SA) :
    ∃ (g cap : Nat) (w2 : World), (Builtin.append_ #[30, 30] 30 #[.slice (some ⟨w.heap.size, 0, none⟩) 1 1, .slice pa la ca]).run Tryz.prog (w.alloc (.cells #[.int .u8 k, .int .i64 n, .string s] 24)) = .ok (.slice (some ⟨g, 0, none⟩) (1 + la) cap) w2 ∧
      Below w.heap.size w w2 ∧ RowAt w2 (some ⟨g, 0, none⟩) (1 + la) g 0 (front k KA) (front n NA) (front s SA) := by
  obtain ⟨i, hi, hzz⟩ := Option.map_eq_some_iff.1 infoV
  simp only [Prod.mk.injEq] at hzz
  obtain ⟨hz, hsz, hby⟩ := hzz
  obtain ⟨w1, hw1⟩ : ∃ w1, w1 = w.alloc (.cells #[.int .u8 k, .int .i64 n, .string s] 24) := ⟨_, rfl⟩
  have hb1 : Below w.heap.size w w1 := hw1 ▸ (Below.refl _ _).alloc (Nat.le_refl _) _
  have R1 := RA.below hb1
  have f0 : ∀ j, j < 3 → w1.cell? ⟨w.heap.size, j, none⟩ = some (cellF (front k KA) (front n NA) (front s SA) j) := by
    intro j hj
    rw [hw1]
    obtain rfl | rfl | rfl : j = 0 ∨ j = 1 ∨ j = 2 := by omega
    · simp [go_sem, cellF, front]
    · simp [go_sem, cellF, front]
    · simp [go_sem, cellF, front]
  have kr : ∀ i, i < 1 + la → 0 ≤ front k KA i ∧ front k KA i ≤ 255 := fun i h => by unfold front; split; exact hk; exact RA.range _ (by omega)
  have sr : ∀ i, i < 1 + la → (front s SA i).size ≤ maxLen := fun i h => by unfold front; split; exact hs; exact RA.size _ (by omega)
  rw [← hw1]
  by_cases h0 : la = 0
  · subst h0
    refine ⟨w.heap.size, 1, w1, ?_, hb1, row_of_cells (fun j hj => f0 j (by omega)) kr sr⟩
    refine run_append_nothing w1 30 30 30 24 i Tryz.underlying30 hi _ 1 1 (Nat.le_refl _) _ ?_
    cases pa with
    | none => exact Src.ofNil w1 Tryz.underlying30 ca
    | some a => exact Src.ofSlice w1 Tryz.underlying30 a 0 ca [] (by simp) (fun j u h => by simp at h) (fun u h => by cases h)
  · obtain rfl := RA.ptr (by omega)
    obtain ⟨olds, ho⟩ : ∃ olds : List Value, olds = (List.range 3).map (cellF (front k KA) (front n NA) (front s SA)) := ⟨_, rfl⟩
    obtain ⟨news, hn⟩ : ∃ news : List Value, news = (List.range (la * 3)).map fun j => cellF (front k KA) (front n NA) (front s SA) (3 + j) := ⟨_, rfl⟩
    have src : Src Tryz.prog i.size 30 (.slice (some ⟨BA, OA, none⟩) la ca) la news w1 := by
      rw [hsz]
      refine Src.ofSlice w1 Tryz.underlying30 ⟨BA, OA, none⟩ la ca news (by rw [hn]; simp) (fun j u hu => ?_) (fun u hu => ?_)
      · rw [hn] at hu
        simp only [List.getElem?_map, Option.map_eq_some_iff] at hu
        obtain ⟨m, hm, rfl⟩ := hu
        obtain ⟨hlt, rfl⟩ := List.getElem?_eq_some_iff.1 hm
        simp only [List.length_range] at hlt
        simp only [List.getElem_range]
        have e : cellF (front k KA) (front n NA) (front s SA) (3 + j) = cellF KA NA SA j := by
          unfold cellF front
          rw [show (3 + j) % 3 = j % 3 by omega, show (3 + j) / 3 = j / 3 + 1 by omega]
          simp
        rw [e, Addr.add_lit]
        exact row_cells R1 hlt
      · rw [hn, List.mem_map] at hu
        obtain ⟨j, _, rfl⟩ := hu
        exact cellF_one _ _ _ _
    have old : (Builtin.firstCells i.size 1 (.slice (some ⟨w.heap.size, 0, none⟩) 1 1)).run Tryz.prog w1.drew = .ok olds.toArray w1.drew := by
      rw [hsz]
      refine run_firstCells_some w1.drew 3 1 ⟨w.heap.size, 0, none⟩ 1 1 olds (by rw [ho]; simp) (fun j u hu => ?_)
      rw [ho] at hu
      simp only [List.getElem?_map, Option.map_eq_some_iff] at hu
      obtain ⟨m, hm, rfl⟩ := hu
      obtain ⟨hlt, rfl⟩ := List.getElem?_eq_some_iff.1 hm
      simp only [List.length_range] at hlt
      simp only [List.getElem_range]
      rw [Addr.add_lit, Nat.zero_add]
      exact f0 j hlt
    have fit : Builtin.nextslicecap (1 + la) 1 * i.bytes ≤ 281474976710656 := by
      have := nextslicecap_le (need := 1 + la) (old := 1) (by omega)
      rw [hby]
      omega
    have run := run_append_grow_src w1 30 30 30 24 i _ Tryz.underlying30 hi hz (some ⟨w.heap.size, 0, none⟩) 1 1 olds old _ la news src (by omega) (by omega) fit
    refine ⟨w1.heap.size, _, _, run, ?_, row_of_cells (fun j hj => ?_) kr sr⟩
    · exact bel_trans hb1 ((Below.refl _ _).drew.alloc (Nat.le_refl _) _)
    · have r := World.rowIs_alloc w1.drew ((olds ++ news).toArray ++ Builtin.zeroCells (Value.agg #[.int .u8 0, .int .i64 0, .string ⟨#[]⟩]).cells (grownCap w1 (1 + la) 1 24 - (1 + la))) 24 (fun j => (((olds ++ news).toArray ++ Builtin.zeroCells (Value.agg #[.int .u8 0, .int .i64 0, .string ⟨#[]⟩]).cells (grownCap w1 (1 + la) 1 24 - (1 + la)))[j]?).getD (.int .i64 0)) (fun i hi => by rw [Array.getElem?_eq_getElem hi]; rfl)
      have ll : (olds ++ news).length = 3 + la * 3 := by rw [List.length_append, ho, hn]; simp
      have c := r.cell (i := j) (by rw [Array.size_append]; simp only [List.size_toArray]; omega)
      refine c.trans ?_
      rw [Array.getElem?_append_left (by simp only [List.size_toArray]; omega), List.getElem?_toArray]
      by_cases h3 : j < 3
      · rw [List.getElem?_append_left (by rw [ho]; simpa using h3), ho]
        simp [h3]
      · rw [List.getElem?_append_right (by rw [ho]; simp; omega), ho, hn]
        simp only [List.length_map, List.length_range, List.getElem?_map]
        rw [List.getElem?_range (by omega)]
        simp only [Option.map_some, Option.getD_some]
        rw [show 3 + (j - 3) = j by omega]
end Go.Proofs.YtjiilfbomcibjaaGreatDoor.V
