/- Contracts of the functions of package value that make and judge values, and of those of the reference. -/
import Derived.Test.YtefelelhgepkeaaGreatDoorProg
import Derived.WalkKit
import Derived.ProofKit
import Derived.OpenShut
import Derived.WalkLawsBesides
import Derived.WalkSpells
import Derived.Outline
import Derived.Deep.QuietTactic
import Derived.BigQuiet
import Derived.Lib.Hide
import Derived.RowKit3
import Derived.Laws.StructEq
import Derived.Laws.ResultCell
import Derived.Deep.RegionHeld3
namespace Go.Proofs.YtefelelhgepkeaaGreatDoor.V
open Go.ChangeShapes Go.WideShapes Go.ChangeAt Go.RowKit
/-- A value, as the walk carries it. -/
abbrev val (k n : Int) (s : ByteArray) : Value := .agg #[.int .u8 k, .int .i64 n, .string s]
theorem bcell {W w1 : World} (hb : Below W.heap.size W w1) : (∀ b o, b < W.heap.size → w1.cell? ⟨b, o, none⟩ = W.cell? ⟨b, o, none⟩) ∧ (∀ b o, b < W.heap.size → w1.frozen? ⟨b, o, none⟩ = W.frozen? ⟨b, o, none⟩) :=
  ⟨fun b o h => hb.cell (p := ⟨b, o, none⟩) h, fun b o h => hb.frozen (p := ⟨b, o, none⟩) h⟩
theorem bel_alloc {w w1 : World} (h : Below w.heap.size w w1) (o : Obj) : Below w.heap.size w (w1.alloc o) := h.alloc h.size o
theorem bel_trans {w w1 w2 : World} (h : Below w.heap.size w w1) (k : Below w1.heap.size w1 w2) : Below w.heap.size w w2 := h.trans (k.mono h.size)
theorem bel_set {w w1 : World} (h : Below w.heap.size w w1) {p : Addr} (hp : w.heap.size ≤ p.block) (u : Value) : Below w.heap.size w (w1.setCell p u) := h.setCell hp u
theorem ret_int {k : IntKind} {a b : Int} (h : a = b) : Ending.returned (.int k a) = .returned (.int k b) := by rw [h]
theorem ret_bool {a b : Bool} (h : a = b) : Ending.returned (.bool a) = .returned (.bool b) := by rw [h]

/-! ### A region that draws its order, whose operations only read what was there and whose calls make new blocks alone: one walk in the order of the text. -/
/-- Further blocks, and a count of draws. -/
structure Ext where
  drawn : Nat
  blocks : Array Obj
instance : Nonempty Ext := ⟨⟨0, #[]⟩⟩
/-- The world with them. -/
def far (W : World) (x : Ext) : World := { W with heap := W.heap ++ x.blocks, drawn := x.drawn }
theorem below_far (W : World) (x : Ext) : Below W.heap.size W (far W x) :=
  ⟨rfl, rfl, rfl, by simp [far], fun k hk => by simp [far, Array.getElem?_append_left hk]⟩
theorem far_of_below {W w' : World} (h : Below W.heap.size W w') : ∃ x, w' = far W x := by
  refine ⟨⟨w'.drawn, w'.heap.extract W.heap.size w'.heap.size⟩, ?_⟩
  obtain ⟨h1, h2, h3, h4, h5⟩ := h
  have hh : w'.heap = W.heap ++ w'.heap.extract W.heap.size w'.heap.size := by
    apply Array.ext_getElem?
    intro i
    rcases Nat.lt_or_ge i W.heap.size with hi | hi
    · rw [Array.getElem?_append_left hi, h5 i hi]
    · rw [Array.getElem?_append_right hi, Array.getElem?_extract]
      split
      · rw [Nat.add_sub_cancel' hi]
      · rename_i hne
        rw [Array.getElem?_eq_none]
        omega
  obtain ⟨hp, tp, dr, o, out⟩ := w'
  simp only at h1 h2 h3 hh
  subst h1 h2 h3
  simp only [far]
  rw [← hh]
@[simp, go_sem] theorem cell?_far {W : World} {x : Ext} {a : Addr} (h : a.block < W.heap.size) : (far W x).cell? a = W.cell? a := (below_far W x).cell h
@[simp, go_sem] theorem frozen?_far {W : World} {x : Ext} {a : Addr} (h : a.block < W.heap.size) : (far W x).frozen? a = W.frozen? a := (below_far W x).frozen h
theorem region_far {P : Program} {id : Nat} {Q : Exit → Act → World → Prop} {a : Act} {w : World} {l : List Oper} (hm : P.follows .mixedOrders = true) (hB : Region.lexB .any l.toArray = true)
    (h : wpQuiet P l.toArray (fun w' => ∃ x, w' = far w x) (fun a' => ∀ w', Below w.heap.size w w' → Q .normal a' w') l a) : (Code.region id l.toArray true).wp P Q a w := by
  refine wp_region_quiet (C := fun w' => ∃ x, w' = far w x) hm hB ⟨⟨w.drawn + 1, #[]⟩, by simp [far]⟩ ?_
  have : (fun a' => ∀ w', (∃ x, w' = far w x) → Q .normal a' w') = fun a' => ∀ w', Below w.heap.size w w' → Q .normal a' w' := by
    funext a'
    apply propext
    exact ⟨fun h w' hb => h w' (far_of_below hb), fun h w' ⟨x, e⟩ => h w' (e ▸ below_far w x)⟩
  rw [this]
  simpa using h
theorem call_far {P : Program} {f : FuncId} {args : Array Value} {W : World} {x : Ext} {v : Value}
    (h : Calls P f args (far W x) fun e w' => e = .returned v ∧ Below (far W x).heap.size (far W x) w') : Calls P f args (far W x) fun e w'' => e = .returned v ∧ ∃ x, w'' = far W x :=
  h.mono fun _ _ ⟨he, hb⟩ => ⟨he, far_of_below (bel_trans (below_far W x) hb)⟩

theorem c_Int (n : Int) (w : World) : Calls Tryz.prog 112 #[.int .i64 n] w fun e w' => e = .returned (val 1 n ⟨#[]⟩) ∧ Below w.heap.size w w' := by
  go_enter Tryz.func112, Tryz.ntmps112
  go_wp2
  exact bodyPost_ret (v := val 1 n ⟨#[]⟩) (by simp [results, Tryz.results112, go_sem]) rfl ⟨rfl, (Below.refl _ _).alloc (Nat.le_refl _) _⟩
theorem r_Int (n : Int) (w : World) : Calls Tryz.prog 76 #[.int .i64 n] w fun e w' => e = .returned (val 1 n ⟨#[]⟩) ∧ Below w.heap.size w w' := by
  go_enter Tryz.func76, Tryz.ntmps76
  go_wp2
  exact bodyPost_ret (v := val 1 n ⟨#[]⟩) (by simp [results, Tryz.results76, go_sem]) rfl ⟨rfl, (Below.refl _ _).alloc (Nat.le_refl _) _⟩
theorem c_text (s : ByteArray) (w : World) : Calls Tryz.prog 116 #[.string s] w fun e w' => e = .returned (val 2 0 s) ∧ Below w.heap.size w w' := by
  go_enter Tryz.func116, Tryz.ntmps116
  go_wp2
  exact bodyPost_ret (v := val 2 0 s) (by simp [results, Tryz.results116, go_sem]) rfl ⟨rfl, (Below.refl _ _).alloc (Nat.le_refl _) _⟩
theorem c_Bool (b : Bool) (w : World) : Calls Tryz.prog 89 #[.bool b] w fun e w' => e = .returned (val 3 (if b then 1 else 0) ⟨#[]⟩) ∧ Below w.heap.size w w' := by
  cases b
  · go_enter Tryz.func89, Tryz.ntmps89
    go_wp2
    exact bodyPost_ret (v := val 3 0 ⟨#[]⟩) (by simp [results, Tryz.results89, go_sem]) rfl ⟨rfl, by repeat (first | exact Below.refl _ _ | apply bel_alloc | refine bel_set ?_ (by simp) _)⟩
  · go_enter Tryz.func89, Tryz.ntmps89
    go_wp2
    exact bodyPost_ret (v := val 3 1 ⟨#[]⟩) (by simp [results, Tryz.results89, go_sem]) rfl ⟨rfl, by repeat (first | exact Below.refl _ _ | apply bel_alloc | refine bel_set ?_ (by simp) _)⟩
theorem c_Bool_f (w : World) : Calls Tryz.prog 89 #[.bool false] w fun e w' => e = .returned (val 3 0 ⟨#[]⟩) ∧ Below w.heap.size w w' := c_Bool false w
theorem c_Bool_t (w : World) : Calls Tryz.prog 89 #[.bool true] w fun e w' => e = .returned (val 3 1 ⟨#[]⟩) ∧ Below w.heap.size w w' := c_Bool true w
theorem r_Bool (b : Bool) (w : World) : Calls Tryz.prog 68 #[.bool b] w fun e w' => e = .returned (val 3 (if b then 1 else 0) ⟨#[]⟩) ∧ Below w.heap.size w w' := by
  cases b
  · go_enter Tryz.func68, Tryz.ntmps68
    go_wp2
    exact bodyPost_ret (v := val 3 0 ⟨#[]⟩) (by simp [results, Tryz.results68, go_sem]) rfl ⟨rfl, by repeat (first | exact Below.refl _ _ | apply bel_alloc | refine bel_set ?_ (by simp) _)⟩
  · go_enter Tryz.func68, Tryz.ntmps68
    go_wp2
    exact bodyPost_ret (v := val 3 1 ⟨#[]⟩) (by simp [results, Tryz.results68, go_sem]) rfl ⟨rfl, by repeat (first | exact Below.refl _ _ | apply bel_alloc | refine bel_set ?_ (by simp) _)⟩
/-- The text with its error: too long, or the value. -/
def textOf (s : ByteArray) : Value := if 100 < s.size then .tuple #[val 0 0 ⟨#[]⟩, .int .i64 5] else .tuple #[val 2 0 s, .int .i64 0]
theorem c_Text (s : ByteArray) (w : World) : Calls Tryz.prog 113 #[.string s] w fun e w' => e = .returned (textOf s) ∧ Below w.heap.size w w' := by
  by_cases hs : 100 < s.size
  · have ht := Lib.hid (show textOf s = .tuple #[val 0 0 ⟨#[]⟩, .int .i64 5] by unfold textOf; rw [if_pos hs])
    go_enter Tryz.func113, Tryz.ntmps113
    go_wp2
    exact bodyPost_ret (v := .tuple #[val 0 0 ⟨#[]⟩, .int .i64 5]) (by simp [results, Tryz.results113, go_sem]) rfl ⟨by rw [ht.out], by repeat (first | exact Below.refl _ _ | apply bel_alloc | refine bel_set ?_ (by simp) _)⟩
  · have ht := Lib.hid (show textOf s = .tuple #[val 2 0 s, .int .i64 0] by unfold textOf; rw [if_neg hs])
    go_enter Tryz.func113, Tryz.ntmps113
    go_wp2_with (go_at_call 116; refine (c_text _ _).mono ?_; rintro e w' ⟨rfl, hb⟩; obtain ⟨hc, hf⟩ := bcell hb; have hz := hb.size; (try simp at hz))
    exact bodyPost_ret (v := .tuple #[val 2 0 s, .int .i64 0]) (by have hc := (bcell hb).1; simp [results, Tryz.results113, go_sem, hc]) rfl ⟨by rw [ht.out], by repeat (first | exact Below.refl _ _ | apply bel_alloc | refine bel_set ?_ (by simp) _ | refine bel_trans ?_ hb)⟩
theorem r_Text (s : ByteArray) (w : World) : Calls Tryz.prog 75 #[.string s] w fun e w' => e = .returned (textOf s) ∧ Below w.heap.size w w' := by
  by_cases hs : 100 < s.size
  · have ht := Lib.hid (show textOf s = .tuple #[val 0 0 ⟨#[]⟩, .int .i64 5] by unfold textOf; rw [if_pos hs])
    go_enter Tryz.func75, Tryz.ntmps75
    go_wp2
    exact bodyPost_ret (v := .tuple #[val 0 0 ⟨#[]⟩, .int .i64 5]) (by simp [results, Tryz.results75, go_sem]) rfl ⟨by rw [ht.out], by repeat (first | exact Below.refl _ _ | apply bel_alloc | refine bel_set ?_ (by simp) _)⟩
  · have ht := Lib.hid (show textOf s = .tuple #[val 2 0 s, .int .i64 0] by unfold textOf; rw [if_neg hs])
    go_enter Tryz.func75, Tryz.ntmps75
    go_wp2
    exact bodyPost_ret (v := .tuple #[val 2 0 s, .int .i64 0]) (by simp [results, Tryz.results75, go_sem]) rfl ⟨by rw [ht.out], by repeat (first | exact Below.refl _ _ | apply bel_alloc | refine bel_set ?_ (by simp) _)⟩
/-- All fields are equal. -/
def same (k n : Int) (s : ByteArray) (k' n' : Int) (s' : ByteArray) : Bool := k == k' && n == n' && s.toList == s'.toList
theorem r_Same (k n : Int) (s : ByteArray) (k' n' : Int) (s' : ByteArray) (w : World) : Calls Tryz.prog 31 #[val k n s, val k' n' s'] w fun e w' => e = .returned (.bool (same k n s k' n' s')) ∧ Below w.heap.size w w' := by
  go_enter Tryz.func31, Tryz.ntmps31
  go_wp2
  all_goals (go_ret; exact ⟨ret_bool (by simp [same, *]), by repeat (first | exact Below.refl _ _ | apply bel_alloc)⟩)
/-- The value is valid. -/
def valid (k n : Int) (s : ByteArray) : Bool :=
  if k = 0 then n == 0 && s.toList.isEmpty
  else if k = 1 then s.toList.isEmpty
  else if k = 2 then n == 0 && decide (s.size ≤ 100)
  else if k = 3 then (n == 0 || n == 1) && s.toList.isEmpty
  else false
set_option maxHeartbeats 400000 in
theorem c_Valid_1 (n : Int) (s : ByteArray) (hs : s.toList = []) (w : World) : Calls Tryz.prog 94 #[val 1 n s] w fun e w' => e = .returned (.bool true) ∧ Below w.heap.size w w' := by
  go_enter Tryz.func94, Tryz.ntmps94
  go_wp2
  first | (go_region_held3 (fun w' => w'.cell? ⟨w.heap.size, 0, none⟩ = some (.int .u8 1) ∧ w'.cell? ⟨w.heap.size, 1, none⟩ = some (.int .i64 n) ∧ w'.cell? ⟨w.heap.size, 2, none⟩ = some (.string s)) (simp [*]) (first | (go_at_call 112; refine (c_Int _ _).mono ?_; rintro e w' ⟨rfl, hb⟩; obtain ⟨hc, hf⟩ := bcell hb; have hz : w.heap.size < w'.heap.size := by (have h1 := hb.size; (try simp at h1); omega)))) | fail
  go_wp2
  go_ret
  exact ⟨ret_bool (by first | rfl | (simp; omega)), (by repeat (first | exact Below.refl _ _ | (refine bel_trans ?_ (by assumption)) | apply Below.drew | apply bel_alloc))⟩
set_option maxHeartbeats 400000 in
theorem c_Valid_2 (n : Int) (s : ByteArray) (hs : ¬ s.toList = []) (w : World) : Calls Tryz.prog 94 #[val 1 n s] w fun e w' => e = .returned (.bool false) ∧ Below w.heap.size w w' := by
  have hs' : (s.toList == []) = false := by simpa using hs
  go_enter Tryz.func94, Tryz.ntmps94
  go_wp2
  first | (go_region_held3 (fun w' => w'.cell? ⟨w.heap.size, 0, none⟩ = some (.int .u8 1) ∧ w'.cell? ⟨w.heap.size, 1, none⟩ = some (.int .i64 n) ∧ w'.cell? ⟨w.heap.size, 2, none⟩ = some (.string s)) (simp [*]) (first | (go_at_call 112; refine (c_Int _ _).mono ?_; rintro e w' ⟨rfl, hb⟩; obtain ⟨hc, hf⟩ := bcell hb; have hz : w.heap.size < w'.heap.size := by (have h1 := hb.size; (try simp at h1); omega)))) | fail
  go_wp2
  go_ret
  exact ⟨ret_bool (by first | rfl | (simp; omega)), (by repeat (first | exact Below.refl _ _ | (refine bel_trans ?_ (by assumption)) | apply Below.drew | apply bel_alloc))⟩
set_option maxHeartbeats 400000 in
theorem c_Valid_3 (s : ByteArray) (hl : s.size ≤ 100) (w : World) : Calls Tryz.prog 94 #[val 2 0 s] w fun e w' => e = .returned (.bool true) ∧ Below w.heap.size w w' := by
  have hl' : (s.size : Int) ≤ 100 := by omega
  go_enter Tryz.func94, Tryz.ntmps94
  go_wp2
  first | (go_region_held3 (fun w' => w'.cell? ⟨w.heap.size, 0, none⟩ = some (.int .u8 2) ∧ w'.cell? ⟨w.heap.size, 1, none⟩ = some (.int .i64 0) ∧ w'.cell? ⟨w.heap.size, 2, none⟩ = some (.string s)) (simp [*]) (first | (go_at_call 116; refine (c_text _ _).mono ?_; rintro e w' ⟨rfl, hb⟩; obtain ⟨hc, hf⟩ := bcell hb; have hz : w.heap.size < w'.heap.size := by (have h1 := hb.size; (try simp at h1); omega)))) | fail
  go_wp2
  go_ret
  exact ⟨ret_bool (by first | rfl | (simp; omega)), (by repeat (first | exact Below.refl _ _ | (refine bel_trans ?_ (by assumption)) | apply Below.drew | apply bel_alloc))⟩
set_option maxHeartbeats 400000 in
theorem c_Valid_4 (s : ByteArray) (hl : ¬ s.size ≤ 100) (w : World) : Calls Tryz.prog 94 #[val 2 0 s] w fun e w' => e = .returned (.bool false) ∧ Below w.heap.size w w' := by
  have hl' : ¬ (s.size : Int) ≤ 100 := by omega
  go_enter Tryz.func94, Tryz.ntmps94
  go_wp2
  first | (go_region_held3 (fun w' => w'.cell? ⟨w.heap.size, 0, none⟩ = some (.int .u8 2) ∧ w'.cell? ⟨w.heap.size, 1, none⟩ = some (.int .i64 0) ∧ w'.cell? ⟨w.heap.size, 2, none⟩ = some (.string s)) (simp [*]) (first | (go_at_call 116; refine (c_text _ _).mono ?_; rintro e w' ⟨rfl, hb⟩; obtain ⟨hc, hf⟩ := bcell hb; have hz : w.heap.size < w'.heap.size := by (have h1 := hb.size; (try simp at h1); omega)))) | fail
  go_wp2
  go_ret
  exact ⟨ret_bool (by first | rfl | (simp; omega)), (by repeat (first | exact Below.refl _ _ | (refine bel_trans ?_ (by assumption)) | apply Below.drew | apply bel_alloc))⟩
set_option maxHeartbeats 400000 in
theorem c_Valid_5 (n : Int) (s : ByteArray) (hn : ¬ n = 0) (w : World) : Calls Tryz.prog 94 #[val 2 n s] w fun e w' => e = .returned (.bool false) ∧ Below w.heap.size w w' := by
  have hn' : (n == 0) = false := by simpa using hn
  go_enter Tryz.func94, Tryz.ntmps94
  go_wp2
  first | (go_region_with (first | (go_at_call 116; refine (c_text _ _).mono ?_; rintro e w' ⟨rfl, hb⟩; obtain ⟨hc, hf⟩ := bcell hb; have hz : w.heap.size < w'.heap.size := by (have h1 := hb.size; (try simp at h1); omega)))) | fail
  all_goals (go_wp2; go_ret; exact ⟨ret_bool (by first | rfl | (simp; omega)), (by repeat (first | exact Below.refl _ _ | (refine bel_trans ?_ (by assumption)) | apply Below.drew | apply bel_alloc))⟩)
set_option maxHeartbeats 400000 in
theorem c_Valid_6 (s : ByteArray) (hs : s.toList = []) (w : World) : Calls Tryz.prog 94 #[val 3 0 s] w fun e w' => e = .returned (.bool true) ∧ Below w.heap.size w w' := by
  go_enter Tryz.func94, Tryz.ntmps94
  go_wp2
  first | (go_region_with (first | (go_at_call 89; with_reducible refine (c_Bool_f _).mono ?_; rintro e w' ⟨rfl, hb⟩; obtain ⟨hc, hf⟩ := bcell hb; have hz : w.heap.size < w'.heap.size := by (have h1 := hb.size; (try simp at h1); omega)) | (go_at_call 89; with_reducible refine (c_Bool_t _).mono ?_; rintro e w' ⟨rfl, hb⟩; obtain ⟨hc, hf⟩ := bcell hb; have hz : w.heap.size < w'.heap.size := by (have h1 := hb.size; (try simp at h1); omega)))) | fail
  all_goals (go_wp2; go_ret; exact ⟨ret_bool (by first | rfl | (simp; omega)), (by repeat (first | exact Below.refl _ _ | (refine bel_trans ?_ (by assumption)) | apply Below.drew | apply bel_alloc))⟩)
set_option maxHeartbeats 400000 in
theorem c_Valid_7 (s : ByteArray) (hs : ¬ s.toList = []) (w : World) : Calls Tryz.prog 94 #[val 3 0 s] w fun e w' => e = .returned (.bool false) ∧ Below w.heap.size w w' := by
  have hs' : (s.toList == []) = false := by simpa using hs
  go_enter Tryz.func94, Tryz.ntmps94
  go_wp2
  go_region_held3 (fun w' => w'.cell? ⟨w.heap.size, 0, none⟩ = some (.int .u8 3) ∧ w'.cell? ⟨w.heap.size, 1, none⟩ = some (.int .i64 0) ∧ w'.cell? ⟨w.heap.size, 2, none⟩ = some (.string s)) (simp [*])
    (first | (go_at_call 89; with_reducible refine (c_Bool_f _).mono ?_; rintro e w' ⟨rfl, hb⟩; obtain ⟨hc, hf⟩ := bcell hb; have hz : w.heap.size < w'.heap.size := by (have h1 := hb.size; (try simp at h1); omega)) | (go_at_call 89; with_reducible refine (c_Bool_t _).mono ?_; rintro e w' ⟨rfl, hb⟩; obtain ⟨hc, hf⟩ := bcell hb; have hz : w.heap.size < w'.heap.size := by (have h1 := hb.size; (try simp at h1); omega)))
  go_wp2
  go_ret
  exact ⟨ret_bool (by first | rfl | (simp; omega)), (by repeat (first | exact Below.refl _ _ | (refine bel_trans ?_ (by assumption)) | apply Below.drew | apply bel_alloc))⟩
set_option maxHeartbeats 400000 in
theorem c_Valid_8 (s : ByteArray) (hs : s.toList = []) (w : World) : Calls Tryz.prog 94 #[val 3 1 s] w fun e w' => e = .returned (.bool true) ∧ Below w.heap.size w w' := by
  go_enter Tryz.func94, Tryz.ntmps94
  go_wp2
  go_region_held3 (fun w' => w'.cell? ⟨w.heap.size, 0, none⟩ = some (.int .u8 3) ∧ w'.cell? ⟨w.heap.size, 1, none⟩ = some (.int .i64 1) ∧ w'.cell? ⟨w.heap.size, 2, none⟩ = some (.string s)) (simp [*])
    (first | (go_at_call 89; with_reducible refine (c_Bool_f _).mono ?_; rintro e w' ⟨rfl, hb⟩; obtain ⟨hc, hf⟩ := bcell hb; have hz : w.heap.size < w'.heap.size := by (have h1 := hb.size; (try simp at h1); omega)) | (go_at_call 89; with_reducible refine (c_Bool_t _).mono ?_; rintro e w' ⟨rfl, hb⟩; obtain ⟨hc, hf⟩ := bcell hb; have hz : w.heap.size < w'.heap.size := by (have h1 := hb.size; (try simp at h1); omega)))
  go_wp2
  go_ret
  exact ⟨ret_bool (by first | rfl | (simp; omega)), (by repeat (first | exact Below.refl _ _ | (refine bel_trans ?_ (by assumption)) | apply Below.drew | apply bel_alloc))⟩
set_option maxHeartbeats 400000 in
theorem c_Valid_9 (s : ByteArray) (hs : ¬ s.toList = []) (w : World) : Calls Tryz.prog 94 #[val 3 1 s] w fun e w' => e = .returned (.bool false) ∧ Below w.heap.size w w' := by
  have hs' : (s.toList == []) = false := by simpa using hs
  go_enter Tryz.func94, Tryz.ntmps94
  go_wp2
  go_region_held3 (fun w' => w'.cell? ⟨w.heap.size, 0, none⟩ = some (.int .u8 3) ∧ w'.cell? ⟨w.heap.size, 1, none⟩ = some (.int .i64 1) ∧ w'.cell? ⟨w.heap.size, 2, none⟩ = some (.string s)) (simp [*])
    (first | (go_at_call 89; with_reducible refine (c_Bool_f _).mono ?_; rintro e w' ⟨rfl, hb⟩; obtain ⟨hc, hf⟩ := bcell hb; have hz : w.heap.size < w'.heap.size := by (have h1 := hb.size; (try simp at h1); omega)) | (go_at_call 89; with_reducible refine (c_Bool_t _).mono ?_; rintro e w' ⟨rfl, hb⟩; obtain ⟨hc, hf⟩ := bcell hb; have hz : w.heap.size < w'.heap.size := by (have h1 := hb.size; (try simp at h1); omega)))
  go_wp2
  go_ret
  exact ⟨ret_bool (by first | rfl | (simp; omega)), (by repeat (first | exact Below.refl _ _ | (refine bel_trans ?_ (by assumption)) | apply Below.drew | apply bel_alloc))⟩
set_option maxHeartbeats 400000 in
theorem c_Valid_10 (n : Int) (s : ByteArray) (hn : ¬ n = 0) (hn1 : ¬ n = 1) (w : World) : Calls Tryz.prog 94 #[val 3 n s] w fun e w' => e = .returned (.bool false) ∧ Below w.heap.size w w' := by
  have hn' : (n == 0) = false := by simpa using hn
  have hn1' : (n == 1) = false := by simpa using hn1
  go_enter Tryz.func94, Tryz.ntmps94
  go_wp2
  go_region_held3 (fun w' => w'.cell? ⟨w.heap.size, 0, none⟩ = some (.int .u8 3) ∧ w'.cell? ⟨w.heap.size, 1, none⟩ = some (.int .i64 n) ∧ w'.cell? ⟨w.heap.size, 2, none⟩ = some (.string s)) (simp [*])
    (first | (go_at_call 89; with_reducible refine (c_Bool_f _).mono ?_; rintro e w' ⟨rfl, hb⟩; obtain ⟨hc, hf⟩ := bcell hb; have hz : w.heap.size < w'.heap.size := by (have h1 := hb.size; (try simp at h1); omega)) | (go_at_call 89; with_reducible refine (c_Bool_t _).mono ?_; rintro e w' ⟨rfl, hb⟩; obtain ⟨hc, hf⟩ := bcell hb; have hz : w.heap.size < w'.heap.size := by (have h1 := hb.size; (try simp at h1); omega)))
  go_wp2
  go_ret
  exact ⟨ret_bool (by first | rfl | (simp; omega)), (by repeat (first | exact Below.refl _ _ | (refine bel_trans ?_ (by assumption)) | apply Below.drew | apply bel_alloc))⟩
theorem c_Valid (k n : Int) (s : ByteArray) (w : World) : Calls Tryz.prog 94 #[val k n s] w fun e w' => e = .returned (.bool (valid k n s)) ∧ Below w.heap.size w w' := by
  by_cases k0 : k = 0
  · subst k0
    go_enter Tryz.func94, Tryz.ntmps94
    go_wp2
    all_goals (go_ret; exact ⟨ret_bool (by simp [valid, *]), by repeat (first | exact Below.refl _ _ | apply bel_alloc)⟩)
  by_cases k1 : k = 1
  · subst k1
    by_cases hs : s.toList = []
    · rw [show valid 1 n s = true by simp [valid, hs]]; exact c_Valid_1 n s hs w
    · rw [show valid 1 n s = false by simp [valid, hs]]; exact c_Valid_2 n s hs w
  by_cases k2 : k = 2
  · subst k2
    by_cases hn : n = 0
    · subst hn
      by_cases hl : s.size ≤ 100
      · rw [show valid 2 0 s = true by simp [valid, hl]]; exact c_Valid_3 s hl w
      · rw [show valid 2 0 s = false by simp [valid, hl]]; exact c_Valid_4 s hl w
    · rw [show valid 2 n s = false by simp [valid, hn]]; exact c_Valid_5 n s hn w
  by_cases k3 : k = 3
  · subst k3
    by_cases hn : n = 0
    · subst hn
      by_cases hs : s.toList = []
      · rw [show valid 3 0 s = true by simp [valid, hs]]; exact c_Valid_6 s hs w
      · rw [show valid 3 0 s = false by simp [valid, hs]]; exact c_Valid_7 s hs w
    by_cases hn1 : n = 1
    · subst hn1
      by_cases hs : s.toList = []
      · rw [show valid 3 1 s = true by simp [valid, hs]]; exact c_Valid_8 s hs w
      · rw [show valid 3 1 s = false by simp [valid, hs]]; exact c_Valid_9 s hs w
    · rw [show valid 3 n s = false by simp [valid, hn, hn1]]; exact c_Valid_10 n s hn hn1 w
  · have hv := Lib.hid (show valid k n s = false by unfold valid; rw [if_neg k0, if_neg k1, if_neg k2, if_neg k3])
    have e0 : (k == 0) = false := by simpa using k0
    have e1 : (k == 1) = false := by simpa using k1
    have e2 : (k == 2) = false := by simpa using k2
    have e3 : (k == 3) = false := by simpa using k3
    clear k0 k1 k2 k3
    go_enter Tryz.func94, Tryz.ntmps94
    go_wp2
    go_ret
    exact ⟨ret_bool hv.out.symm, by repeat (first | exact Below.refl _ _ | apply bel_alloc)⟩
theorem r_Valid (k n : Int) (s : ByteArray) (w : World) : Calls Tryz.prog 29 #[val k n s] w fun e w' => e = .returned (.bool (valid k n s)) ∧ Below w.heap.size w w' := by
  by_cases k0 : k = 0
  · subst k0
    go_enter Tryz.func29, Tryz.ntmps29
    go_wp2
    all_goals (go_ret; exact ⟨ret_bool (by simp [valid, *]), by repeat (first | exact Below.refl _ _ | apply bel_alloc)⟩)
  by_cases k1 : k = 1
  · subst k1
    clear k0
    go_enter Tryz.func29, Tryz.ntmps29
    go_wp2
    all_goals (go_ret; exact ⟨ret_bool (by simp [valid, *]), by repeat (first | exact Below.refl _ _ | apply bel_alloc)⟩)
  by_cases k2 : k = 2
  · subst k2
    clear k0 k1
    go_enter Tryz.func29, Tryz.ntmps29
    go_wp2
    all_goals (go_ret; exact ⟨ret_bool (by simp [valid, *]; try omega), by repeat (first | exact Below.refl _ _ | apply bel_alloc)⟩)
  by_cases k3 : k = 3
  · subst k3
    clear k0 k1 k2
    go_enter Tryz.func29, Tryz.ntmps29
    go_wp2
    all_goals (go_ret; exact ⟨ret_bool (by simp [valid, *]), by repeat (first | exact Below.refl _ _ | apply bel_alloc)⟩)
  · have hv := Lib.hid (show valid k n s = false by unfold valid; rw [if_neg k0, if_neg k1, if_neg k2, if_neg k3])
    have e0 : (k == 0) = false := by simpa using k0
    have e1 : (k == 1) = false := by simpa using k1
    have e2 : (k == 2) = false := by simpa using k2
    have e3 : (k == 3) = false := by simpa using k3
    clear k0 k1 k2 k3
    go_enter Tryz.func29, Tryz.ntmps29
    go_wp2
    go_ret
    exact ⟨ret_bool hv.out.symm, by repeat (first | exact Below.refl _ _ | apply bel_alloc)⟩
end Go.Proofs.YtefelelhgepkeaaGreatDoor.V
