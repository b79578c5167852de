/- Contracts of the functions of package value that make and judge values, and of those of the reference. -/
import Derived.Test.YtdbhencjomnjhaaGreatDoorProg
import Derived.WalkKit
import Derived.ProofKit
import Derived.OpenShut
import Derived.WalkLawsBesides
import Derived.WalkSpells
import Derived.Outline
import Derived.Deep.QuietTactic
import Derived.BigQuiet
import Derived.Lib.Hide
import Derived.RowKit3
import Derived.Laws.StructEq
import Derived.Laws.ResultCell
import Derived.Deep.RegionHeld3
import Derived.Test.YtdbhencjomnjhaaGreatDoorShelf
import Derived.Laws.Entries
import Derived.Laws.Bits64
import Derived.IntWalk
import Derived.LoopTactic
import Derived.Deep.LoopGhost
namespace Go.Proofs.YtdbhencjomnjhaaGreatDoor.V
open Go.ChangeShapes Go.WideShapes Go.ChangeAt Go.RowKit
/-- A value, as the walk carries it. -/
abbrev val (k n : Int) (s : ByteArray) : Value := .agg #[.int .u8 k, .int .i64 n, .string s]
theorem bcell {W w1 : World} (hb : Below W.heap.size W w1) : (∀ b o, b < W.heap.size → w1.cell? ⟨b, o, none⟩ = W.cell? ⟨b, o, none⟩) ∧ (∀ b o, b < W.heap.size → w1.frozen? ⟨b, o, none⟩ = W.frozen? ⟨b, o, none⟩) :=
  ⟨fun b o h => hb.cell (p := ⟨b, o, none⟩) h, fun b o h => hb.frozen (p := ⟨b, o, none⟩) h⟩
theorem bel_alloc {w w1 : World} (h : Below w.heap.size w w1) (o : Obj) : Below w.heap.size w (w1.alloc o) := h.alloc h.size o
theorem bel_trans {w w1 w2 : World} (h : Below w.heap.size w w1) (k : Below w1.heap.size w1 w2) : Below w.heap.size w w2 := h.trans (k.mono h.size)
theorem bel_set {w w1 : World} (h : Below w.heap.size w w1) {p : Addr} (hp : w.heap.size ≤ p.block) (u : Value) : Below w.heap.size w (w1.setCell p u) := h.setCell hp u
theorem ret_int {k : IntKind} {a b : Int} (h : a = b) : Ending.returned (.int k a) = .returned (.int k b) := by rw [h]
theorem ret_bool {a b : Bool} (h : a = b) : Ending.returned (.bool a) = .returned (.bool b) := by rw [h]

/-! ### A region that draws its order, whose operations only read what was there and whose calls make new blocks alone: one walk in the order of the text. -/
/-- Further blocks, and a count of draws. -/
structure Ext where
  drawn : Nat
  blocks : Array Obj
instance : Nonempty Ext := ⟨⟨0, #[]⟩⟩
/-- The world with them. -/
def far (W : World) (x : Ext) : World := { W with heap := W.heap ++ x.blocks, drawn := x.drawn }
theorem below_far (W : World) (x : Ext) : Below W.heap.size W (far W x) :=
  ⟨rfl, rfl, rfl, by simp [far], fun k hk => by simp [far, Array.getElem?_append_left hk]⟩
theorem far_of_below {W w' : World} (h : Below W.heap.size W w') : ∃ x, w' = far W x := by
  refine ⟨⟨w'.drawn, w'.heap.extract W.heap.size w'.heap.size⟩, ?_⟩
  obtain ⟨h1, h2, h3, h4, h5⟩ := h
  have hh : w'.heap = W.heap ++ w'.heap.extract W.heap.size w'.heap.size := by
    apply Array.ext_getElem?
    intro i
    rcases Nat.lt_or_ge i W.heap.size with hi | hi
    · rw [Array.getElem?_append_left hi, h5 i hi]
    · rw [Array.getElem?_append_right hi, Array.getElem?_extract]
      split
      · rw [Nat.add_sub_cancel' hi]
      · rename_i hne
        rw [Array.getElem?_eq_none]
        omega
  obtain ⟨hp, tp, dr, o, out⟩ := w'
  simp only at h1 h2 h3 hh
  subst h1 h2 h3
  simp only [far]
  rw [← hh]
@[simp, go_sem] theorem cell?_far {W : World} {x : Ext} {a : Addr} (h : a.block < W.heap.size) : (far W x).cell? a = W.cell? a := (below_far W x).cell h
@[simp, go_sem] theorem frozen?_far {W : World} {x : Ext} {a : Addr} (h : a.block < W.heap.size) : (far W x).frozen? a = W.frozen? a := (below_far W x).frozen h
theorem region_far {P : Program} {id : Nat} {Q : Exit → Act → World → Prop} {a : Act} {w : World} {l : List Oper} (hm : P.follows .mixedOrders = true) (hB : Region.lexB .any l.toArray = true)
    (h : wpQuiet P l.toArray (fun w' => ∃ x, w' = far w x) (fun a' => ∀ w', Below w.heap.size w w' → Q .normal a' w') l a) : (Code.region id l.toArray true).wp P Q a w := by
  refine wp_region_quiet (C := fun w' => ∃ x, w' = far w x) hm hB ⟨⟨w.drawn + 1, #[]⟩, by simp [far]⟩ ?_
  have : (fun a' => ∀ w', (∃ x, w' = far w x) → Q .normal a' w') = fun a' => ∀ w', Below w.heap.size w w' → Q .normal a' w' := by
    funext a'
    apply propext
    exact ⟨fun h w' hb => h w' (far_of_below hb), fun h w' ⟨x, e⟩ => h w' (e ▸ below_far w x)⟩
  rw [this]
  simpa using h
theorem call_far {P : Program} {f : FuncId} {args : Array Value} {W : World} {x : Ext} {v : Value}
    (h : Calls P f args (far W x) fun e w' => e = .returned v ∧ Below (far W x).heap.size (far W x) w') : Calls P f args (far W x) fun e w'' => e = .returned v ∧ ∃ x, w'' = far W x :=
  h.mono fun _ _ ⟨he, hb⟩ => ⟨he, far_of_below (bel_trans (below_far W x) hb)⟩

theorem c_Int (n : Int) (w : World) : Calls Tryz.prog 59 #[.int .i64 n] w fun e w' => e = .returned (val 1 n ⟨#[]⟩) ∧ Below w.heap.size w w' := by
  go_enter Tryz.func59, Tryz.ntmps59
  go_wp2
  exact bodyPost_ret (v := val 1 n ⟨#[]⟩) (by simp [results, Tryz.results59, go_sem]) rfl ⟨rfl, (Below.refl _ _).alloc (Nat.le_refl _) _⟩
theorem c_text (s : ByteArray) (w : World) : Calls Tryz.prog 67 #[.string s] w fun e w' => e = .returned (val 2 0 s) ∧ Below w.heap.size w w' := by
  go_enter Tryz.func67, Tryz.ntmps67
  go_wp2
  exact bodyPost_ret (v := val 2 0 s) (by simp [results, Tryz.results67, go_sem]) rfl ⟨rfl, (Below.refl _ _).alloc (Nat.le_refl _) _⟩
theorem c_Bool (b : Bool) (w : World) : Calls Tryz.prog 41 #[.bool b] w fun e w' => e = .returned (val 3 (if b then 1 else 0) ⟨#[]⟩) ∧ Below w.heap.size w w' := by
  cases b
  · go_enter Tryz.func41, Tryz.ntmps41
    go_wp2
    exact bodyPost_ret (v := val 3 0 ⟨#[]⟩) (by simp [results, Tryz.results41, go_sem]) rfl ⟨rfl, by repeat (first | exact Below.refl _ _ | apply bel_alloc | refine bel_set ?_ (by simp) _)⟩
  · go_enter Tryz.func41, Tryz.ntmps41
    go_wp2
    exact bodyPost_ret (v := val 3 1 ⟨#[]⟩) (by simp [results, Tryz.results41, go_sem]) rfl ⟨rfl, by repeat (first | exact Below.refl _ _ | apply bel_alloc | refine bel_set ?_ (by simp) _)⟩
theorem c_Bool_f (w : World) : Calls Tryz.prog 41 #[.bool false] w fun e w' => e = .returned (val 3 0 ⟨#[]⟩) ∧ Below w.heap.size w w' := c_Bool false w
theorem c_Bool_t (w : World) : Calls Tryz.prog 41 #[.bool true] w fun e w' => e = .returned (val 3 1 ⟨#[]⟩) ∧ Below w.heap.size w w' := c_Bool true w
theorem r_Bool (b : Bool) (w : World) : Calls Tryz.prog 44 #[.bool b] w fun e w' => e = .returned (val 3 (if b then 1 else 0) ⟨#[]⟩) ∧ Below w.heap.size w w' := by
  cases b
  · go_enter Tryz.func44, Tryz.ntmps44
    go_wp2
    exact bodyPost_ret (v := val 3 0 ⟨#[]⟩) (by simp [results, Tryz.results44, go_sem]) rfl ⟨rfl, by repeat (first | exact Below.refl _ _ | apply bel_alloc | refine bel_set ?_ (by simp) _)⟩
  · go_enter Tryz.func44, Tryz.ntmps44
    go_wp2
    exact bodyPost_ret (v := val 3 1 ⟨#[]⟩) (by simp [results, Tryz.results44, go_sem]) rfl ⟨rfl, by repeat (first | exact Below.refl _ _ | apply bel_alloc | refine bel_set ?_ (by simp) _)⟩
/-- The text with its error: too long, or the value. -/
def textOf (s : ByteArray) : Value := if 100 < s.size then .tuple #[val 0 0 ⟨#[]⟩, .int .i64 5] else .tuple #[val 2 0 s, .int .i64 0]
theorem c_Text (s : ByteArray) (w : World) : Calls Tryz.prog 60 #[.string s] w fun e w' => e = .returned (textOf s) ∧ Below w.heap.size w w' := by
  by_cases hs : 100 < s.size
  · have ht := Lib.hid (show textOf s = .tuple #[val 0 0 ⟨#[]⟩, .int .i64 5] by unfold textOf; rw [if_pos hs])
    go_enter Tryz.func60, Tryz.ntmps60
    go_wp2
    exact bodyPost_ret (v := .tuple #[val 0 0 ⟨#[]⟩, .int .i64 5]) (by simp [results, Tryz.results60, go_sem]) rfl ⟨by rw [ht.out], by repeat (first | exact Below.refl _ _ | apply bel_alloc | refine bel_set ?_ (by simp) _)⟩
  · have ht := Lib.hid (show textOf s = .tuple #[val 2 0 s, .int .i64 0] by unfold textOf; rw [if_neg hs])
    go_enter Tryz.func60, Tryz.ntmps60
    go_wp2_with (go_at_call 67; refine (c_text _ _).mono ?_; rintro e w' ⟨rfl, hb⟩; obtain ⟨hc, hf⟩ := bcell hb; have hz := hb.size; (try simp at hz))
    exact bodyPost_ret (v := .tuple #[val 2 0 s, .int .i64 0]) (by have hc := (bcell hb).1; simp [results, Tryz.results60, go_sem, hc]) rfl ⟨by rw [ht.out], by repeat (first | exact Below.refl _ _ | apply bel_alloc | refine bel_set ?_ (by simp) _ | refine bel_trans ?_ hb)⟩
/-- All fields are equal. -/
def same (k n : Int) (s : ByteArray) (k' n' : Int) (s' : ByteArray) : Bool := k == k' && n == n' && s.toList == s'.toList
theorem r_Same (k n : Int) (s : ByteArray) (k' n' : Int) (s' : ByteArray) (w : World) : Calls Tryz.prog 10 #[val k n s, val k' n' s'] w fun e w' => e = .returned (.bool (same k n s k' n' s')) ∧ Below w.heap.size w w' := by
  go_enter Tryz.func10, Tryz.ntmps10
  go_wp2
  all_goals (go_ret; exact ⟨ret_bool (by simp [same, *]), by repeat (first | exact Below.refl _ _ | apply bel_alloc)⟩)
/-- The value is valid. -/
def valid (k n : Int) (s : ByteArray) : Bool :=
  if k = 0 then n == 0 && s.toList.isEmpty
  else if k = 1 then s.toList.isEmpty
  else if k = 2 then n == 0 && decide (s.size ≤ 100)
  else if k = 3 then (n == 0 || n == 1) && s.toList.isEmpty
  else false
set_option maxHeartbeats 400000 in
theorem c_Valid_1 (n : Int) (s : ByteArray) (hs : s.toList = []) (w : World) : Calls Tryz.prog 52 #[val 1 n s] w fun e w' => e = .returned (.bool true) ∧ Below w.heap.size w w' := by
  go_enter Tryz.func52, Tryz.ntmps52
  go_wp2
  first | (go_region_held3 (fun w' => w'.cell? ⟨w.heap.size, 0, none⟩ = some (.int .u8 1) ∧ w'.cell? ⟨w.heap.size, 1, none⟩ = some (.int .i64 n) ∧ w'.cell? ⟨w.heap.size, 2, none⟩ = some (.string s)) (simp [*]) (first | (go_at_call 59; refine (c_Int _ _).mono ?_; rintro e w' ⟨rfl, hb⟩; obtain ⟨hc, hf⟩ := bcell hb; have hz : w.heap.size < w'.heap.size := by (have h1 := hb.size; (try simp at h1); omega)))) | fail
  go_wp2
  go_ret
  exact ⟨ret_bool (by first | rfl | (simp; omega)), (by repeat (first | exact Below.refl _ _ | (refine bel_trans ?_ (by assumption)) | apply Below.drew | apply bel_alloc))⟩
set_option maxHeartbeats 400000 in
theorem c_Valid_2 (n : Int) (s : ByteArray) (hs : ¬ s.toList = []) (w : World) : Calls Tryz.prog 52 #[val 1 n s] w fun e w' => e = .returned (.bool false) ∧ Below w.heap.size w w' := by
  have hs' : (s.toList == []) = false := by simpa using hs
  go_enter Tryz.func52, Tryz.ntmps52
  go_wp2
  first | (go_region_held3 (fun w' => w'.cell? ⟨w.heap.size, 0, none⟩ = some (.int .u8 1) ∧ w'.cell? ⟨w.heap.size, 1, none⟩ = some (.int .i64 n) ∧ w'.cell? ⟨w.heap.size, 2, none⟩ = some (.string s)) (simp [*]) (first | (go_at_call 59; refine (c_Int _ _).mono ?_; rintro e w' ⟨rfl, hb⟩; obtain ⟨hc, hf⟩ := bcell hb; have hz : w.heap.size < w'.heap.size := by (have h1 := hb.size; (try simp at h1); omega)))) | fail
  go_wp2
  go_ret
  exact ⟨ret_bool (by first | rfl | (simp; omega)), (by repeat (first | exact Below.refl _ _ | (refine bel_trans ?_ (by assumption)) | apply Below.drew | apply bel_alloc))⟩
set_option maxHeartbeats 400000 in
theorem c_Valid_3 (s : ByteArray) (hl : s.size ≤ 100) (w : World) : Calls Tryz.prog 52 #[val 2 0 s] w fun e w' => e = .returned (.bool true) ∧ Below w.heap.size w w' := by
  have hl' : (s.size : Int) ≤ 100 := by omega
  go_enter Tryz.func52, Tryz.ntmps52
  go_wp2
  first | (go_region_held3 (fun w' => w'.cell? ⟨w.heap.size, 0, none⟩ = some (.int .u8 2) ∧ w'.cell? ⟨w.heap.size, 1, none⟩ = some (.int .i64 0) ∧ w'.cell? ⟨w.heap.size, 2, none⟩ = some (.string s)) (simp [*]) (first | (go_at_call 67; refine (c_text _ _).mono ?_; rintro e w' ⟨rfl, hb⟩; obtain ⟨hc, hf⟩ := bcell hb; have hz : w.heap.size < w'.heap.size := by (have h1 := hb.size; (try simp at h1); omega)))) | fail
  go_wp2
  go_ret
  exact ⟨ret_bool (by first | rfl | (simp; omega)), (by repeat (first | exact Below.refl _ _ | (refine bel_trans ?_ (by assumption)) | apply Below.drew | apply bel_alloc))⟩
set_option maxHeartbeats 400000 in
theorem c_Valid_4 (s : ByteArray) (hl : ¬ s.size ≤ 100) (w : World) : Calls Tryz.prog 52 #[val 2 0 s] w fun e w' => e = .returned (.bool false) ∧ Below w.heap.size w w' := by
  have hl' : ¬ (s.size : Int) ≤ 100 := by omega
  go_enter Tryz.func52, Tryz.ntmps52
  go_wp2
  first | (go_region_held3 (fun w' => w'.cell? ⟨w.heap.size, 0, none⟩ = some (.int .u8 2) ∧ w'.cell? ⟨w.heap.size, 1, none⟩ = some (.int .i64 0) ∧ w'.cell? ⟨w.heap.size, 2, none⟩ = some (.string s)) (simp [*]) (first | (go_at_call 67; refine (c_text _ _).mono ?_; rintro e w' ⟨rfl, hb⟩; obtain ⟨hc, hf⟩ := bcell hb; have hz : w.heap.size < w'.heap.size := by (have h1 := hb.size; (try simp at h1); omega)))) | fail
  go_wp2
  go_ret
  exact ⟨ret_bool (by first | rfl | (simp; omega)), (by repeat (first | exact Below.refl _ _ | (refine bel_trans ?_ (by assumption)) | apply Below.drew | apply bel_alloc))⟩
set_option maxHeartbeats 400000 in
theorem c_Valid_5 (n : Int) (s : ByteArray) (hn : ¬ n = 0) (w : World) : Calls Tryz.prog 52 #[val 2 n s] w fun e w' => e = .returned (.bool false) ∧ Below w.heap.size w w' := by
  have hn' : (n == 0) = false := by simpa using hn
  go_enter Tryz.func52, Tryz.ntmps52
  go_wp2
  first | (go_region_with (first | (go_at_call 67; refine (c_text _ _).mono ?_; rintro e w' ⟨rfl, hb⟩; obtain ⟨hc, hf⟩ := bcell hb; have hz : w.heap.size < w'.heap.size := by (have h1 := hb.size; (try simp at h1); omega)))) | fail
  all_goals (go_wp2; go_ret; exact ⟨ret_bool (by first | rfl | (simp; omega)), (by repeat (first | exact Below.refl _ _ | (refine bel_trans ?_ (by assumption)) | apply Below.drew | apply bel_alloc))⟩)
set_option maxHeartbeats 400000 in
theorem c_Valid_6 (s : ByteArray) (hs : s.toList = []) (w : World) : Calls Tryz.prog 52 #[val 3 0 s] w fun e w' => e = .returned (.bool true) ∧ Below w.heap.size w w' := by
  go_enter Tryz.func52, Tryz.ntmps52
  go_wp2
  first | (go_region_with (first | (go_at_call 41; with_reducible refine (c_Bool_f _).mono ?_; rintro e w' ⟨rfl, hb⟩; obtain ⟨hc, hf⟩ := bcell hb; have hz : w.heap.size < w'.heap.size := by (have h1 := hb.size; (try simp at h1); omega)) | (go_at_call 41; with_reducible refine (c_Bool_t _).mono ?_; rintro e w' ⟨rfl, hb⟩; obtain ⟨hc, hf⟩ := bcell hb; have hz : w.heap.size < w'.heap.size := by (have h1 := hb.size; (try simp at h1); omega)))) | fail
  all_goals (go_wp2; go_ret; exact ⟨ret_bool (by first | rfl | (simp; omega)), (by repeat (first | exact Below.refl _ _ | (refine bel_trans ?_ (by assumption)) | apply Below.drew | apply bel_alloc))⟩)
set_option maxHeartbeats 400000 in
theorem c_Valid_7 (s : ByteArray) (hs : ¬ s.toList = []) (w : World) : Calls Tryz.prog 52 #[val 3 0 s] w fun e w' => e = .returned (.bool false) ∧ Below w.heap.size w w' := by
  have hs' : (s.toList == []) = false := by simpa using hs
  go_enter Tryz.func52, Tryz.ntmps52
  go_wp2
  go_region_held3 (fun w' => w'.cell? ⟨w.heap.size, 0, none⟩ = some (.int .u8 3) ∧ w'.cell? ⟨w.heap.size, 1, none⟩ = some (.int .i64 0) ∧ w'.cell? ⟨w.heap.size, 2, none⟩ = some (.string s)) (simp [*])
    (first | (go_at_call 41; with_reducible refine (c_Bool_f _).mono ?_; rintro e w' ⟨rfl, hb⟩; obtain ⟨hc, hf⟩ := bcell hb; have hz : w.heap.size < w'.heap.size := by (have h1 := hb.size; (try simp at h1); omega)) | (go_at_call 41; with_reducible refine (c_Bool_t _).mono ?_; rintro e w' ⟨rfl, hb⟩; obtain ⟨hc, hf⟩ := bcell hb; have hz : w.heap.size < w'.heap.size := by (have h1 := hb.size; (try simp at h1); omega)))
  go_wp2
  go_ret
  exact ⟨ret_bool (by first | rfl | (simp; omega)), (by repeat (first | exact Below.refl _ _ | (refine bel_trans ?_ (by assumption)) | apply Below.drew | apply bel_alloc))⟩
set_option maxHeartbeats 400000 in
theorem c_Valid_8 (s : ByteArray) (hs : s.toList = []) (w : World) : Calls Tryz.prog 52 #[val 3 1 s] w fun e w' => e = .returned (.bool true) ∧ Below w.heap.size w w' := by
  go_enter Tryz.func52, Tryz.ntmps52
  go_wp2
  go_region_held3 (fun w' => w'.cell? ⟨w.heap.size, 0, none⟩ = some (.int .u8 3) ∧ w'.cell? ⟨w.heap.size, 1, none⟩ = some (.int .i64 1) ∧ w'.cell? ⟨w.heap.size, 2, none⟩ = some (.string s)) (simp [*])
    (first | (go_at_call 41; with_reducible refine (c_Bool_f _).mono ?_; rintro e w' ⟨rfl, hb⟩; obtain ⟨hc, hf⟩ := bcell hb; have hz : w.heap.size < w'.heap.size := by (have h1 := hb.size; (try simp at h1); omega)) | (go_at_call 41; with_reducible refine (c_Bool_t _).mono ?_; rintro e w' ⟨rfl, hb⟩; obtain ⟨hc, hf⟩ := bcell hb; have hz : w.heap.size < w'.heap.size := by (have h1 := hb.size; (try simp at h1); omega)))
  go_wp2
  go_ret
  exact ⟨ret_bool (by first | rfl | (simp; omega)), (by repeat (first | exact Below.refl _ _ | (refine bel_trans ?_ (by assumption)) | apply Below.drew | apply bel_alloc))⟩
set_option maxHeartbeats 400000 in
theorem c_Valid_9 (s : ByteArray) (hs : ¬ s.toList = []) (w : World) : Calls Tryz.prog 52 #[val 3 1 s] w fun e w' => e = .returned (.bool false) ∧ Below w.heap.size w w' := by
  have hs' : (s.toList == []) = false := by simpa using hs
  go_enter Tryz.func52, Tryz.ntmps52
  go_wp2
  go_region_held3 (fun w' => w'.cell? ⟨w.heap.size, 0, none⟩ = some (.int .u8 3) ∧ w'.cell? ⟨w.heap.size, 1, none⟩ = some (.int .i64 1) ∧ w'.cell? ⟨w.heap.size, 2, none⟩ = some (.string s)) (simp [*])
    (first | (go_at_call 41; with_reducible refine (c_Bool_f _).mono ?_; rintro e w' ⟨rfl, hb⟩; obtain ⟨hc, hf⟩ := bcell hb; have hz : w.heap.size < w'.heap.size := by (have h1 := hb.size; (try simp at h1); omega)) | (go_at_call 41; with_reducible refine (c_Bool_t _).mono ?_; rintro e w' ⟨rfl, hb⟩; obtain ⟨hc, hf⟩ := bcell hb; have hz : w.heap.size < w'.heap.size := by (have h1 := hb.size; (try simp at h1); omega)))
  go_wp2
  go_ret
  exact ⟨ret_bool (by first | rfl | (simp; omega)), (by repeat (first | exact Below.refl _ _ | (refine bel_trans ?_ (by assumption)) | apply Below.drew | apply bel_alloc))⟩
set_option maxHeartbeats 400000 in
theorem c_Valid_10 (n : Int) (s : ByteArray) (hn : ¬ n = 0) (hn1 : ¬ n = 1) (w : World) : Calls Tryz.prog 52 #[val 3 n s] w fun e w' => e = .returned (.bool false) ∧ Below w.heap.size w w' := by
  have hn' : (n == 0) = false := by simpa using hn
  have hn1' : (n == 1) = false := by simpa using hn1
  go_enter Tryz.func52, Tryz.ntmps52
  go_wp2
  go_region_held3 (fun w' => w'.cell? ⟨w.heap.size, 0, none⟩ = some (.int .u8 3) ∧ w'.cell? ⟨w.heap.size, 1, none⟩ = some (.int .i64 n) ∧ w'.cell? ⟨w.heap.size, 2, none⟩ = some (.string s)) (simp [*])
    (first | (go_at_call 41; with_reducible refine (c_Bool_f _).mono ?_; rintro e w' ⟨rfl, hb⟩; obtain ⟨hc, hf⟩ := bcell hb; have hz : w.heap.size < w'.heap.size := by (have h1 := hb.size; (try simp at h1); omega)) | (go_at_call 41; with_reducible refine (c_Bool_t _).mono ?_; rintro e w' ⟨rfl, hb⟩; obtain ⟨hc, hf⟩ := bcell hb; have hz : w.heap.size < w'.heap.size := by (have h1 := hb.size; (try simp at h1); omega)))
  go_wp2
  go_ret
  exact ⟨ret_bool (by first | rfl | (simp; omega)), (by repeat (first | exact Below.refl _ _ | (refine bel_trans ?_ (by assumption)) | apply Below.drew | apply bel_alloc))⟩
theorem c_Valid (k n : Int) (s : ByteArray) (w : World) : Calls Tryz.prog 52 #[val k n s] w fun e w' => e = .returned (.bool (valid k n s)) ∧ Below w.heap.size w w' := by
  by_cases k0 : k = 0
  · subst k0
    go_enter Tryz.func52, Tryz.ntmps52
    go_wp2
    all_goals (go_ret; exact ⟨ret_bool (by simp [valid, *]), by repeat (first | exact Below.refl _ _ | apply bel_alloc)⟩)
  by_cases k1 : k = 1
  · subst k1
    by_cases hs : s.toList = []
    · rw [show valid 1 n s = true by simp [valid, hs]]; exact c_Valid_1 n s hs w
    · rw [show valid 1 n s = false by simp [valid, hs]]; exact c_Valid_2 n s hs w
  by_cases k2 : k = 2
  · subst k2
    by_cases hn : n = 0
    · subst hn
      by_cases hl : s.size ≤ 100
      · rw [show valid 2 0 s = true by simp [valid, hl]]; exact c_Valid_3 s hl w
      · rw [show valid 2 0 s = false by simp [valid, hl]]; exact c_Valid_4 s hl w
    · rw [show valid 2 n s = false by simp [valid, hn]]; exact c_Valid_5 n s hn w
  by_cases k3 : k = 3
  · subst k3
    by_cases hn : n = 0
    · subst hn
      by_cases hs : s.toList = []
      · rw [show valid 3 0 s = true by simp [valid, hs]]; exact c_Valid_6 s hs w
      · rw [show valid 3 0 s = false by simp [valid, hs]]; exact c_Valid_7 s hs w
    by_cases hn1 : n = 1
    · subst hn1
      by_cases hs : s.toList = []
      · rw [show valid 3 1 s = true by simp [valid, hs]]; exact c_Valid_8 s hs w
      · rw [show valid 3 1 s = false by simp [valid, hs]]; exact c_Valid_9 s hs w
    · rw [show valid 3 n s = false by simp [valid, hn, hn1]]; exact c_Valid_10 n s hn hn1 w
  · have hv := Lib.hid (show valid k n s = false by unfold valid; rw [if_neg k0, if_neg k1, if_neg k2, if_neg k3])
    have e0 : (k == 0) = false := by simpa using k0
    have e1 : (k == 1) = false := by simpa using k1
    have e2 : (k == 2) = false := by simpa using k2
    have e3 : (k == 3) = false := by simpa using k3
    clear k0 k1 k2 k3
    go_enter Tryz.func52, Tryz.ntmps52
    go_wp2
    go_ret
    exact ⟨ret_bool hv.out.symm, by repeat (first | exact Below.refl _ _ | apply bel_alloc)⟩
theorem r_Valid (k n : Int) (s : ByteArray) (w : World) : Calls Tryz.prog 8 #[val k n s] w fun e w' => e = .returned (.bool (valid k n s)) ∧ Below w.heap.size w w' := by
  by_cases k0 : k = 0
  · subst k0
    go_enter Tryz.func8, Tryz.ntmps8
    go_wp2
    all_goals (go_ret; exact ⟨ret_bool (by simp [valid, *]), by repeat (first | exact Below.refl _ _ | apply bel_alloc)⟩)
  by_cases k1 : k = 1
  · subst k1
    clear k0
    go_enter Tryz.func8, Tryz.ntmps8
    go_wp2
    all_goals (go_ret; exact ⟨ret_bool (by simp [valid, *]), by repeat (first | exact Below.refl _ _ | apply bel_alloc)⟩)
  by_cases k2 : k = 2
  · subst k2
    clear k0 k1
    go_enter Tryz.func8, Tryz.ntmps8
    go_wp2
    all_goals (go_ret; exact ⟨ret_bool (by simp [valid, *]; try omega), by repeat (first | exact Below.refl _ _ | apply bel_alloc)⟩)
  by_cases k3 : k = 3
  · subst k3
    clear k0 k1 k2
    go_enter Tryz.func8, Tryz.ntmps8
    go_wp2
    all_goals (go_ret; exact ⟨ret_bool (by simp [valid, *]), by repeat (first | exact Below.refl _ _ | apply bel_alloc)⟩)
  · have hv := Lib.hid (show valid k n s = false by unfold valid; rw [if_neg k0, if_neg k1, if_neg k2, if_neg k3])
    have e0 : (k == 0) = false := by simpa using k0
    have e1 : (k == 1) = false := by simpa using k1
    have e2 : (k == 2) = false := by simpa using k2
    have e3 : (k == 3) = false := by simpa using k3
    clear k0 k1 k2 k3
    go_enter Tryz.func8, Tryz.ntmps8
    go_wp2
    go_ret
    exact ⟨ret_bool hv.out.symm, by repeat (first | exact Below.refl _ _ | apply bel_alloc)⟩
end Go.Proofs.YtdbhencjomnjhaaGreatDoor.V
namespace Go.Proofs.YtdbhencjomnjhaaGreatDoor.K
/-- An out: the value's kind, integer and text, and the error. -/
structure Ot where
  k : Int
  n : Int
  s : ByteArray
  e : Int
/-- A valid value. -/
def vd (k n : Int) (s : ByteArray) : Bool :=
  if k = 0 then n == 0 && s.toList.isEmpty
  else if k = 1 then s.toList.isEmpty
  else if k = 2 then n == 0 && decide (s.size ≤ 100)
  else if k = 3 then (n == 0 || n == 1) && s.toList.isEmpty
  else false
def isErr (e : Int) : Bool := e == 3 || e == 4 || e == 5 || e == 6
def Ot.ok (o : Ot) : Bool := if o.e = 0 then vd o.k o.n o.s else isErr o.e && (o.k == 0 && o.n == 0 && o.s.toList == (⟨#[]⟩ : ByteArray).toList)
abbrev nul : Ot := ⟨0, 0, ⟨#[]⟩, 0⟩
abbrev bo (b : Bool) : Ot := ⟨3, if b then 1 else 0, ⟨#[]⟩, 0⟩
abbrev fl (e : Int) : Ot := ⟨0, 0, ⟨#[]⟩, e⟩
def isT (o : Ot) : Bool := o.e == 0 && (o.k == 3 && o.n == 1)
def isN (o : Ot) : Bool := o.e == 0 && o.k == 0
def lst (a b : Int) : Int := if a = 0 ∨ (b ≠ 0 ∧ b < a) then b else a
theorem ba_nil {s : ByteArray} (h : s.toList = []) : s = ⟨#[]⟩ := by
  have h2 : s.data.toList = [] := by rw [← ByteArray.toList_eq]; exact h
  obtain ⟨d⟩ := s
  have : d = #[] := Array.toList_eq_nil_iff.1 h2
  rw [this]
theorem ba_nil' : (⟨#[]⟩ : ByteArray).toList = [] := by decide +kernel
/-! ### Kinds -/
def agree (a b : Int) : Bool := a == b || (a == 0 || b == 0)
def com : Int → List Int → Option Int
  | o, [] => some o
  | o, x :: t => if agree o x then com (if o = 0 then x else o) t else none
def allAg (l : List Int) (k : Int) : Bool := l.all (agree · k)
theorem com_all {k : Int} (hk : k ≠ 0) : ∀ l : List Int, com k l = if allAg l k then some k else none
  | [] => rfl
  | x :: t => by
    rw [com, if_neg hk, com_all hk t, allAg, allAg, List.all_cons]
    have : agree k x = agree x k := by unfold agree; rw [Bool.eq_iff_iff]; simp; omega
    rw [this]
    cases agree x k <;> simp
/-- The conditions and the values of a CASE. -/
def parts : List Int → List Int × List Int
  | [] => ([], [])
  | [x] => ([], [x])
  | x :: y :: t => (x :: (parts t).1, y :: (parts t).2)
/-- The same, one by one: `c`: a condition stands here if one stands behind it. -/
def cks : Bool → List Int → List Int × List Int
  | _, [] => ([], [])
  | c, x :: t => if c && !t.isEmpty then (x :: (cks (!c) t).1, (cks (!c) t).2) else ((cks (!c) t).1, x :: (cks (!c) t).2)
theorem cks_parts : ∀ l : List Int, cks true l = parts l
  | [] => rfl
  | [x] => rfl
  | x :: y :: t => by
    have := cks_parts t
    simp only [cks, parts, Bool.not_true, Bool.not_false, Bool.true_and, List.isEmpty_cons, Bool.false_and, Bool.false_eq_true, if_true, if_false]
    rw [this]
/-- The sort of an operator, and the number of its kids; -1 if that is not fixed. -/
def sortOf (op : Int) : Int × Int :=
  if op = 4 then (1, 1) else if 5 ≤ op ∧ op ≤ 9 then (1, 2) else if op = 10 then (2, 2) else if op = 11 then (3, 1) else if 12 ≤ op ∧ op ≤ 18 then (4, 2) else if op = 19 then (5, 2)
  else if op = 20 then (6, 1) else if op = 21 ∨ op = 22 then (7, 1) else if op = 23 ∨ op = 24 then (8, -1) else if op = 25 then (9, -1) else if op = 26 then (10, -1) else (0, 0)
/-- The kind, if the kinds of the kids are as they must be. -/
def kindOf (s : Int) (l : List Int) : Option Int :=
  if s = 1 then (if allAg l 1 then some 1 else none)
  else if s = 2 then (if allAg l 2 then some 2 else none)
  else if s = 3 then (if allAg l 2 then some 1 else none)
  else if s = 4 then (if agree (l.getD 0 0) (l.getD 1 0) then some 3 else none)
  else if s = 5 then (if allAg l 2 then some 3 else none)
  else if s = 6 then some 3
  else if s = 7 ∨ s = 8 then (if allAg l 3 then some 3 else none)
  else if s = 9 then (if allAg (parts l).1 3 then com 0 (parts l).2 else none)
  else com 0 l
/-- Whether the operator takes so many kids, of kinds that are. -/
def takes (op : Int) (l : List Int) : Bool :=
  !((sortOf op).1 == 0 || (decide (0 ≤ (sortOf op).2) && (l.length : Int) != (sortOf op).2) || ((sortOf op).1 == 9 && decide (l.length < 2)) || ((sortOf op).1 == 10 && decide (l.length < 1))) && l.all (fun k => decide (k ≤ 3))
/-- The kind of a node, and the error. -/
def kind (op : Int) (l : List Int) : Int × Int :=
  if takes op l then (match kindOf (sortOf op).1 l with | some k => (k, 0) | none => (0, 50)) else (0, 1)
/-! ### Chains -/
def chain (d : Bool) : Bool → Int → List Ot → Ot
  | nl, e, [] => if nl then nul else if e ≠ 0 then fl e else bo (!d)
  | nl, e, o :: t => if o.e = 0 ∧ o.k = 3 ∧ isT o = d then bo d else chain d (nl || isN o) (lst e o.e) t
/-- A condition: an out that may stand in a chain. -/
def tr (o : Ot) : Bool := o.ok && (o.e != 0 || (o.k == 0 || o.k == 3))
theorem tr_cases {o : Ot} (h : tr o = true) : o = nul ∨ o = bo true ∨ o = bo false ∨ ∃ e, isErr e = true ∧ o = fl e := by
  obtain ⟨k, n, s, e⟩ := o
  unfold tr Ot.ok at h
  rw [ba_nil'] at h
  by_cases he : e = 0
  · subst he
    simp [vd] at h
    obtain ⟨h, rfl | rfl⟩ := h
    · simp at h
      obtain ⟨rfl, h⟩ := h
      rw [ba_nil h]; exact .inl rfl
    · simp at h
      obtain ⟨rfl | rfl, h⟩ := h
      · rw [ba_nil h]; exact .inr (.inr (.inl rfl))
      · rw [ba_nil h]; exact .inr (.inl rfl)
  · simp [he] at h
    obtain ⟨h, ⟨rfl, rfl⟩, hs⟩ := h
    rw [ba_nil hs]
    exact .inr (.inr (.inr ⟨e, h, rfl⟩))
/-- The place of a condition in the chain of `d`. -/
def rk (d : Bool) (o : Ot) : Int := if o.e ≠ 0 then o.e else if o.k = 0 then 1 else if (o.n == 1) = d then 0 else 9
def mr (d : Bool) : List Ot → Int
  | [] => 9
  | o :: t => min (rk d o) (mr d t)
/-- The condition with a place. -/
def dec (d : Bool) (r : Int) : Ot := if r = 0 then bo d else if r = 1 then nul else if r = 9 then bo (!d) else fl r
def isRk (r : Int) : Prop := r = 0 ∨ r = 1 ∨ r = 3 ∨ r = 4 ∨ r = 5 ∨ r = 6 ∨ r = 9
theorem err_cases {e : Int} (h : isErr e = true) : e = 3 ∨ e = 4 ∨ e = 5 ∨ e = 6 := by simpa [isErr, or_assoc] using h
theorem rk_is {d : Bool} {o : Ot} (h : tr o = true) : isRk (rk d o) := by
  unfold isRk
  rcases tr_cases h with rfl | rfl | rfl | ⟨e, he, rfl⟩
  · simp [rk]
  · cases d <;> simp [rk]
  · cases d <;> simp [rk]
  · rcases err_cases he with rfl | rfl | rfl | rfl <;> simp [rk]
theorem isRk_min {a b : Int} (ha : isRk a) (hb : isRk b) : isRk (min a b) := by
  rcases Int.le_total a b with h | h
  · rw [Int.min_eq_left h]; exact ha
  · rw [Int.min_eq_right h]; exact hb
theorem mr_is {d : Bool} : ∀ {l : List Ot}, l.all tr = true → isRk (mr d l)
  | [], _ => by simp [mr, isRk]
  | o :: t, h => by
    rw [List.all_cons, Bool.and_eq_true] at h
    exact isRk_min (rk_is h.1) (mr_is h.2)
theorem rk_dec {d : Bool} {r : Int} (h : isRk r) : rk d (dec d r) = r := by
  rcases h with rfl | rfl | rfl | rfl | rfl | rfl | rfl <;> cases d <;> simp [dec, rk]
theorem dec_rk {d : Bool} {o : Ot} (h : tr o = true) : dec d (rk d o) = o := by
  rcases tr_cases h with rfl | rfl | rfl | ⟨e, he, rfl⟩
  · simp [rk, dec]
  · cases d <;> simp [rk, dec]
  · cases d <;> simp [rk, dec]
  · rcases err_cases he with rfl | rfl | rfl | rfl <;> simp [rk, dec]
theorem tr_dec {d : Bool} {r : Int} (h : isRk r) : tr (dec d r) = true := by
  rcases h with rfl | rfl | rfl | rfl | rfl | rfl | rfl <;> cases d <;> simp [dec, tr, Ot.ok, vd, isErr, ba_nil']
theorem lst_zero (e : Int) : lst e 0 = e := by unfold lst; split <;> omega
theorem chain_gen (d : Bool) : ∀ (l : List Ot) (nl : Bool) (e : Int), l.all tr = true → (e = 0 ∨ isErr e = true) →
    chain d nl e l = dec d (min (if nl then 1 else 9) (min (if e = 0 then 9 else e) (mr d l)))
  | [], nl, e, _, he => by
    rcases he with rfl | he
    · cases nl <;> cases d <;> simp [chain, mr, dec, Int.min_def]
    · rcases err_cases he with rfl | rfl | rfl | rfl <;> cases nl <;> simp [chain, mr, dec, Int.min_def]
  | o :: t, nl, e, h, he => by
    rw [List.all_cons, Bool.and_eq_true] at h
    have hm := mr_is (d := d) h.2
    have h01 : ∀ a : Bool, (0 : Int) ≤ if a then 1 else 9 := by intro a; cases a <;> simp
    have hE : (0 : Int) ≤ if e = 0 then 9 else e := by
      rcases he with rfl | he
      · simp
      · have := err_cases he; split <;> omega
    have hM : 0 ≤ mr d t := by unfold isRk at hm; omega
    rcases tr_cases h.1 with rfl | rfl | rfl | ⟨f, hf, rfl⟩
    · rw [chain, if_neg (by simp), chain_gen d t _ _ h.2 (by rw [lst_zero]; exact he), lst_zero]
      congr 1
      cases nl <;> simp [isN, mr, rk] <;> omega
    · cases d
      · rw [chain, if_neg (by simp [isT]), chain_gen _ t _ _ h.2 (by rw [lst_zero]; exact he), lst_zero]
        congr 1
        cases nl <;> simp [isN, mr, rk] <;> omega
      · rw [chain, if_pos (by simp [isT])]
        have : min (if nl then 1 else 9) (min (if e = 0 then 9 else e) (mr true (bo true :: t))) = 0 := by
          have := h01 nl
          simp [mr, rk] at *; omega
        rw [this]; simp [dec]
    · cases d
      · rw [chain, if_pos (by simp [isT])]
        have : min (if nl then 1 else 9) (min (if e = 0 then 9 else e) (mr false (bo false :: t))) = 0 := by
          have := h01 nl
          simp [mr, rk] at *; omega
        rw [this]; simp [dec]
      · rw [chain, if_neg (by simp [isT]), chain_gen _ t _ _ h.2 (by rw [lst_zero]; exact he), lst_zero]
        congr 1
        cases nl <;> simp [isN, mr, rk] <;> omega
    · have hf' := err_cases hf
      have hl : lst e f = 0 ∨ isErr (lst e f) = true := by
        unfold lst; split
        · exact .inr hf
        · exact he
      rw [chain, if_neg (by simp), chain_gen d t _ _ h.2 hl]
      congr 1
      have : (isN (fl f)) = false := by simp [isN]; omega
      rw [this, Bool.or_false]
      congr 1
      have hr : rk d (fl f) = f := by simp [rk]; omega
      rw [mr, hr]
      rcases he with rfl | he
      · have : lst 0 f = f := by simp [lst]
        rw [this]; simp; omega
      · have := err_cases he
        unfold lst
        split <;> (repeat' split) <;> omega
/-- What a chain comes to. -/
theorem chain_is (d : Bool) {l : List Ot} (h : l.all tr = true) : chain d false 0 l = dec d (mr d l) := by
  rw [chain_gen d l false 0 h (.inl rfl)]
  have := mr_is (d := d) h
  congr 1
  unfold isRk at this
  simp; omega
theorem mr_append (d : Bool) : ∀ a b : List Ot, mr d (a ++ b) = min (mr d a) (mr d b)
  | [], b => by
    have : ∀ l : List Ot, mr d l ≤ 9 := by
      intro l; induction l with
      | nil => simp [mr]
      | cons o t ih => rw [mr]; omega
    have := this b
    rw [List.nil_append, mr]; omega
  | o :: t, b => by rw [List.cons_append, mr, mr, mr_append d t b]; omega
theorem mr_reverse (d : Bool) : ∀ l : List Ot, mr d l.reverse = mr d l
  | [] => rfl
  | o :: t => by
    rw [List.reverse_cons, mr_append, mr_reverse d t, mr, mr, mr]
    have : ∀ l : List Ot, mr d l ≤ 9 := by
      intro l; induction l with
      | nil => simp [mr]
      | cons o t ih => rw [mr]; omega
    have := this t
    omega
/-- NOT. -/
def neg (o : Ot) : Ot := if o.k = 3 then bo (!(o.n == 1)) else o
theorem rk_neg {d : Bool} {o : Ot} (h : tr o = true) : rk d (neg o) = rk (!d) o := by
  rcases tr_cases h with rfl | rfl | rfl | ⟨e, he, rfl⟩
  · simp [rk, neg]
  · cases d <;> simp [rk, neg]
  · cases d <;> simp [rk, neg]
  · rcases err_cases he with rfl | rfl | rfl | rfl <;> simp [rk, neg]
theorem tr_neg {o : Ot} (h : tr o = true) : tr (neg o) = true := by
  rcases tr_cases h with rfl | rfl | rfl | ⟨e, he, rfl⟩
  · exact h
  · simp [neg, tr, Ot.ok, vd, ba_nil']
  · simp [neg, tr, Ot.ok, vd, ba_nil']
  · exact h
theorem mr_neg {d : Bool} : ∀ {l : List Ot}, l.all tr = true → mr d (l.map neg) = mr (!d) l
  | [], _ => rfl
  | o :: t, h => by
    rw [List.all_cons, Bool.and_eq_true] at h
    rw [List.map_cons, mr, mr, rk_neg h.1, mr_neg h.2]
theorem neg_dec {d : Bool} {r : Int} (h : isRk r) : neg (dec d r) = dec (!d) r := by
  rcases h with rfl | rfl | rfl | rfl | rfl | rfl | rfl <;> cases d <;> simp [dec, neg]
theorem all_neg : ∀ {l : List Ot}, l.all tr = true → (l.map neg).all tr = true
  | [], _ => rfl
  | o :: t, h => by
    rw [List.all_cons, Bool.and_eq_true] at h
    rw [List.map_cons, List.all_cons, tr_neg h.1, all_neg h.2]; rfl
/-- The program's chain of AND: of the conditions the one with the first place. -/
def andP : Ot → List Ot → Ot
  | f, [] => f
  | f, o :: t => andP (if rk false o < rk false f then o else f) t
theorem andP_is : ∀ (l : List Ot) (f : Ot), l.all tr = true → tr f = true → andP f l = dec false (min (rk false f) (mr false l))
  | [], f, _, hf => by
    have h9 : rk false f ≤ 9 := by have := rk_is (d := false) hf; unfold isRk at this; omega
    rw [andP, mr, Int.min_eq_left h9, dec_rk hf]
  | o :: t, f, h, hf => by
    rw [List.all_cons, Bool.and_eq_true] at h
    rw [andP, mr]
    split
    · rw [andP_is t o h.2 h.1]; congr 1; omega
    · rw [andP_is t f h.2 hf]; congr 1; omega
theorem and_is {l : List Ot} (h : l.all tr = true) : andP (bo true) l = chain false false 0 l := by
  rw [andP_is l _ h (by decide +kernel), chain_is false h]
  congr 1
  have := mr_is (d := false) h
  unfold isRk at this
  simp [rk]; omega
theorem or_is {l : List Ot} (h : l.all tr = true) : neg (andP (bo true) (l.map neg)) = chain true false 0 l := by
  rw [and_is (all_neg h), chain_is false (all_neg h), chain_is true h, mr_neg h, neg_dec (mr_is h)]
  rfl
end Go.Proofs.YtdbhencjomnjhaaGreatDoor.K
namespace Go.Proofs.YtdbhencjomnjhaaGreatDoor.V
open Go.ChangeShapes Go.WideShapes Go.ChangeAt Go.RowKit
/-! ### The sign of bitwise operations on integers of 64 bits -/
theorem wrap_toInt (b : BitVec 64) : IntKind.i64.wrap (b.toNat : Int) = b.toInt := by
  have := b.isLt
  simp only [IntKind.wrap, IntKind.bits, IntKind.signed]
  rw [BitVec.toInt_eq_toNat_cond]
  simp only [Bool.true_and, decide_eq_true_eq, show ((2 : Int) ^ (64 - 1)) = 9223372036854775808 from rfl, show ((2 : Int) ^ 64) = 18446744073709551616 from rfl, show (2 ^ 64 : Nat) = 18446744073709551616 from rfl] at *
  split <;> split <;> omega
theorem toInt_neg (b : BitVec 64) : b.toInt < 0 ↔ b.msb = true := by
  rw [BitVec.msb_eq_toInt]; simp
theorem msb_ofInt (x : Int) (h1 : -9223372036854775808 ≤ x) (h2 : x ≤ 9223372036854775807) : (BitVec.ofInt 64 x).msb = decide (x < 0) := by
  rw [BitVec.msb_eq_toInt, BitVec.toInt_ofInt]
  congr 1
  simp [Int.bmod]
  omega
theorem neg_xor (x y : Int) (h1 : -9223372036854775808 ≤ x) (h2 : x ≤ 9223372036854775807) (h3 : -9223372036854775808 ≤ y) (h4 : y ≤ 9223372036854775807) :
    (bits .xor .i64 x y < 0) ↔ ((decide (x < 0)) ≠ decide (y < 0)) := by
  show IntKind.i64.wrap ((BitVec.ofInt 64 x ^^^ BitVec.ofInt 64 y).toNat : Int) < 0 ↔ _
  rw [wrap_toInt, toInt_neg, BitVec.msb_xor, msb_ofInt x h1 h2, msb_ofInt y h3 h4]
  simp
theorem neg_and (x y : Int) (h1 : -9223372036854775808 ≤ x) (h2 : x ≤ 9223372036854775807) (h3 : -9223372036854775808 ≤ y) (h4 : y ≤ 9223372036854775807) :
    (bits .and .i64 x y < 0) ↔ (x < 0 ∧ y < 0) := by
  show IntKind.i64.wrap ((BitVec.ofInt 64 x &&& BitVec.ofInt 64 y).toNat : Int) < 0 ↔ _
  rw [wrap_toInt, toInt_neg, BitVec.msb_and, msb_ofInt x h1 h2, msb_ofInt y h3 h4]
  simp
theorem bits_bd (op : BinOp) (x y : Int) : -9223372036854775808 ≤ bits op .i64 x y ∧ bits op .i64 x y ≤ 9223372036854775807 := bounds_i64 (wf_bits op .i64 x y)
theorem and_xor (a b s : Int) (ha : -9223372036854775808 ≤ a ∧ a ≤ 9223372036854775807) (hb : -9223372036854775808 ≤ b ∧ b ≤ 9223372036854775807) (hs : -9223372036854775808 ≤ s ∧ s ≤ 9223372036854775807) :
    (bits .and .i64 (bits .xor .i64 a s) (bits .xor .i64 b s) < 0) ↔ (decide (a < 0) ≠ decide (s < 0) ∧ decide (b < 0) ≠ decide (s < 0)) := by
  have h1 := bits_bd .xor a s
  have h2 := bits_bd .xor b s
  rw [neg_and _ _ h1.1 h1.2 h2.1 h2.2, neg_xor a s ha.1 ha.2 hs.1 hs.2, neg_xor b s hb.1 hb.2 hs.1 hs.2]
theorem and_xor' (a b s : Int) (ha : -9223372036854775808 ≤ a ∧ a ≤ 9223372036854775807) (hb : -9223372036854775808 ≤ b ∧ b ≤ 9223372036854775807) (hs : -9223372036854775808 ≤ s ∧ s ≤ 9223372036854775807) :
    (bits .and .i64 (bits .xor .i64 a b) (bits .xor .i64 a s) < 0) ↔ (decide (a < 0) ≠ decide (b < 0) ∧ decide (a < 0) ≠ decide (s < 0)) := by
  have h1 := bits_bd .xor a b
  have h2 := bits_bd .xor a s
  rw [neg_and _ _ h1.1 h1.2 h2.1 h2.2, neg_xor a b ha.1 ha.2 hb.1 hb.2, neg_xor a s ha.1 ha.2 hs.1 hs.2]
/-! ### Sums -/
/-- An integer of 64 bits. -/
def Fits (n : Int) : Prop := -9223372036854775808 ≤ n ∧ n ≤ 9223372036854775807
instance (n : Int) : Decidable (Fits n) := inferInstanceAs (Decidable (_ ∧ _))
/-- A number and an error. -/
abbrev pair (n e : Int) : Value := .tuple #[.int .i64 n, .int .i64 e]
/-- The exact number, or ErrOverflow. -/
def exact (n : Int) : Value := if Fits n then pair n 0 else pair 0 4
theorem exact_in (n : Int) (h : Fits n) : exact n = pair n 0 := if_pos h
theorem exact_out (n : Int) (h : ¬ Fits n) : exact n = pair 0 4 := if_neg h
theorem fin (n m e : Int) (h : (Fits n ∧ m = n ∧ e = 0) ∨ (¬ Fits n ∧ m = 0 ∧ e = 4)) : Ending.returned (pair m e) = .returned (exact n) := by
  rcases h with ⟨h, rfl, rfl⟩ | ⟨h, rfl, rfl⟩
  · rw [exact_in _ h]
  · rw [exact_out _ h]
theorem pair_fst {m n e : Int} (h : m = n) : Ending.returned (pair m e) = .returned (pair n e) := by rw [h]
theorem wrap_fits (n : Int) : Fits (wrap64 n) := by unfold Fits wrap64; omega
theorem c_Add (a b : Int) (ha : Fits a) (hb : Fits b) (w : World) : Calls Tryz.prog 74 #[.int .i64 a, .int .i64 b] w fun e w' => e = .returned (exact (a + b)) ∧ w = w' := by
  have hs := wrap_fits (a + b)
  have hx := and_xor a b (wrap64 (a + b)) ha hb hs
  by_cases h : Fits (a + b)
  · rw [exact_in _ h]
    have e : wrap64 (a + b) = a + b := IntWalk.wrap64_in _ h
    rw [e] at hx
    have hn : ¬ bits .and .i64 (bits .xor .i64 a (a + b)) (bits .xor .i64 b (a + b)) < 0 := fun hlt => by
      have hx := hx.1 hlt
      simp at hx
      omega
    obtain ⟨h1, h2⟩ := h
    clear hx e hs
    go_enter Tryz.func74, Tryz.ntmps74
    go_wp2
    go_ret2
    exact ⟨rfl, rfl⟩
  · rw [exact_out _ h]
    have hn : bits .and .i64 (bits .xor .i64 a (wrap64 (a + b))) (bits .xor .i64 b (wrap64 (a + b))) < 0 := by
      refine hx.2 ?_
      unfold Fits at *
      unfold wrap64
      simp
      omega
    clear hx hs h
    go_enter Tryz.func74, Tryz.ntmps74
    go_wp2
    go_ret2
    exact ⟨rfl, rfl⟩
theorem c_Sub (a b : Int) (ha : Fits a) (hb : Fits b) (w : World) : Calls Tryz.prog 73 #[.int .i64 a, .int .i64 b] w fun e w' => e = .returned (exact (a - b)) ∧ w = w' := by
  have hs := wrap_fits (a - b)
  have hx := and_xor' a b (wrap64 (a - b)) ha hb hs
  by_cases h : Fits (a - b)
  · rw [exact_in _ h]
    have e : wrap64 (a - b) = a - b := IntWalk.wrap64_in _ h
    rw [e] at hx
    have hn : ¬ bits .and .i64 (bits .xor .i64 a b) (bits .xor .i64 a (a - b)) < 0 := fun hlt => by
      have hx := hx.1 hlt
      simp at hx
      omega
    obtain ⟨h1, h2⟩ := h
    clear hx e hs
    go_enter Tryz.func73, Tryz.ntmps73
    go_wp2
    go_ret2
    exact ⟨rfl, rfl⟩
  · rw [exact_out _ h]
    have hn : bits .and .i64 (bits .xor .i64 a b) (bits .xor .i64 a (wrap64 (a - b))) < 0 := by
      refine hx.2 ?_
      unfold Fits at *
      unfold wrap64
      simp
      omega
    clear hx hs h
    go_enter Tryz.func73, Tryz.ntmps73
    go_wp2
    go_ret2
    exact ⟨rfl, rfl⟩
/-- The quotient, or an error. -/
def divV (a b : Int) : Value := if b = 0 then pair 0 3 else exact (a.tdiv b)
theorem tdiv_fits (a b : Int) (ha : Fits a) (hb0 : b ≠ 0) (h : ¬ (a = -9223372036854775808 ∧ b = -1)) : Fits (a.tdiv b) := by
  unfold Fits at *
  by_cases h1 : b = -1
  · subst h1; rw [Int.tdiv_neg, Int.tdiv_one]; omega
  by_cases h2 : b = 1
  · subst h2; rw [Int.tdiv_one]; omega
  · have : (a.tdiv b).natAbs = a.natAbs / b.natAbs := Int.natAbs_tdiv a b
    have h3 : a.natAbs / b.natAbs ≤ a.natAbs / 2 := Nat.div_le_div_left (by omega) (by omega)
    omega
theorem c_Div (a b : Int) (ha : Fits a) (hb : Fits b) (w : World) : Calls Tryz.prog 76 #[.int .i64 a, .int .i64 b] w fun e w' => e = .returned (divV a b) ∧ w = w' := by
  by_cases h0 : b = 0
  · rw [show divV a b = pair 0 3 from if_pos h0]
    subst h0
    go_enter Tryz.func76, Tryz.ntmps76
    go_wp2
    go_ret2
    exact ⟨rfl, rfl⟩
  rw [show divV a b = exact (a.tdiv b) from if_neg h0]
  by_cases h1 : a = -9223372036854775808 ∧ b = -1
  · obtain ⟨rfl, rfl⟩ := h1
    rw [show exact ((-9223372036854775808 : Int).tdiv (-1)) = pair 0 4 from exact_out _ (by unfold Fits; decide)]
    go_enter Tryz.func76, Tryz.ntmps76
    go_wp2
    go_ret2
    exact ⟨rfl, rfl⟩
  · have hf := tdiv_fits a b ha h0 h1
    rw [exact_in _ hf]
    have hw := Lib.hid (IntWalk.wrap64_in _ hf)
    have h0' : (b == 0) = false := by simpa using h0
    clear hf
    by_cases hm : a = -9223372036854775808
    · subst hm
      have h1' : (b == -1) = false := by simp; intro h; exact h1 ⟨rfl, h⟩
      have hw2 := Lib.hid (show wrap64 (-(9223372036854775808 : Int).tdiv b) = (-9223372036854775808 : Int).tdiv b by rw [← Int.neg_tdiv]; exact hw.out)
      clear h1
      go_enter Tryz.func76, Tryz.ntmps76
      go_wp2
      go_ret2
      exact ⟨pair_fst hw2.out, rfl⟩
    · have hm' : (a == -9223372036854775808) = false := by simpa using hm
      clear h1 hm
      go_enter Tryz.func76, Tryz.ntmps76
      go_wp2
      go_ret2
      exact ⟨pair_fst hw.out, rfl⟩
/-- The remainder, or an error. -/
def modV (a b : Int) : Value := if b = 0 then pair 0 3 else pair (a.tmod b) 0
theorem tmod_fits (a b : Int) (ha : Fits a) : Fits (a.tmod b) := by
  unfold Fits at *
  by_cases h : 0 ≤ a
  · have h1 := Int.tmod_nonneg b h
    have h2 := Int.natAbs_tmod a b
    have h3 : a.natAbs % b.natAbs ≤ a.natAbs := Nat.mod_le _ _
    omega
  · have h1 := Int.tmod_nonneg b (show 0 ≤ -a by omega)
    have h0 := Int.neg_tmod a b
    have h2 := Int.natAbs_tmod (-a) b
    have h3 : (-a).natAbs % b.natAbs ≤ (-a).natAbs := Nat.mod_le _ _
    omega
theorem c_Mod (a b : Int) (_ : Fits a) (w : World) : Calls Tryz.prog 77 #[.int .i64 a, .int .i64 b] w fun e w' => e = .returned (modV a b) ∧ w = w' := by
  by_cases h0 : b = 0
  · rw [show modV a b = pair 0 3 from if_pos h0]
    subst h0
    go_enter Tryz.func77, Tryz.ntmps77
    go_wp2
    go_ret2
    exact ⟨rfl, rfl⟩
  rw [show modV a b = pair (a.tmod b) 0 from if_neg h0]
  have h0' : (b == 0) = false := by simpa using h0
  go_enter Tryz.func77, Tryz.ntmps77
  go_wp2
  go_ret2
  exact ⟨rfl, rfl⟩
end Go.Proofs.YtdbhencjomnjhaaGreatDoor.V
namespace Go.Proofs.YtdbhencjomnjhaaGreatDoor.V
open Go.ChangeShapes Go.WideShapes Go.ChangeAt Go.RowKit
/-- Two integers compared. -/
def cmpI (a b : Int) : Int := if a < b then -1 else if b < a then 1 else 0
theorem l_cmp64 (a b : Int) (w : World) : Calls Tryz.prog 69 #[.int .i64 a, .int .i64 b] w fun e w' => e = .returned (.int .i64 (cmpI a b)) ∧ w = w' := by
  go_enter Tryz.func69, Tryz.ntmps69
  go_wp2
  all_goals (go_ret; exact ⟨ret_int (by unfold cmpI; omega), rfl⟩)
theorem l_cmpK (a b : Int) (w : World) : Calls Tryz.prog 68 #[.int .u8 a, .int .u8 b] w fun e w' => e = .returned (.int .i64 (cmpI a b)) ∧ w = w' := by
  go_enter Tryz.func68, Tryz.ntmps68
  go_wp2
  all_goals (go_ret; exact ⟨ret_int (by unfold cmpI; omega), rfl⟩)
/-- Two texts compared. -/
def cmpT (a b : ByteArray) : Int := Lib.compareBytes a.data.toList b.data.toList
theorem l_strings (a b : ByteArray) (w : World) : Calls Tryz.prog 70 #[.string a, .string b] w fun e w' => e = .returned (.int .i64 (cmpT a b)) ∧ w = w' :=
  (Tryz.strings_Compare a b w).mono fun _ _ ⟨he, hw⟩ => ⟨he, hw.symm⟩
theorem below_drewN (w : World) (n : Nat) : Below w.heap.size w (w.drewN n) := ⟨rfl, rfl, rfl, Nat.le_refl _, fun _ _ => rfl⟩
theorem to_below {P : Program} {f : FuncId} {args : Array Value} {w : World} {v : Value} (h : Calls P f args w fun e w' => e = .returned v ∧ w = w') : Calls P f args w fun e w' => e = .returned v ∧ Below w.heap.size w w' :=
  h.mono fun _ _ ⟨he, hw⟩ => ⟨he, hw ▸ Below.refl _ _⟩
theorem to_below_drew {P : Program} {f : FuncId} {args : Array Value} {w : World} {v : Value} (h : Calls P f args w fun e w' => e = .returned v ∧ ∃ n, w' = w.drewN n) : Calls P f args w fun e w' => e = .returned v ∧ Below w.heap.size w w' :=
  h.mono fun _ _ ⟨he, _, hw⟩ => ⟨he, hw ▸ below_drewN _ _⟩
/-- Two values compared. -/
def cmpV (k n : Int) (s : ByteArray) (k' n' : Int) (s' : ByteArray) : Int :=
  if k ≠ k' then cmpI k k' else if k = 0 then 0 else if k = 1 ∨ k = 3 then cmpI n n' else if k = 2 then cmpT s s'
  else if cmpI n n' ≠ 0 then cmpI n n' else cmpT s s'
/-- The first number that is not zero. -/
def orI (x y : Int) : Int := if x = 0 then y else x
theorem l_or (x y : Int) (b : Nat) (w : World) (h0 : w.cell? ⟨b, 0, none⟩ = some (.int .i64 x)) (h1 : w.cell? ⟨b, 1, none⟩ = some (.int .i64 y)) : Calls Tryz.prog 31 #[.slice (some ⟨b, 0, none⟩) 2 2] w fun e w' => e = .returned (.int .i64 (orI x y)) ∧ Below w.heap.size w w' := by
  go_enter Tryz.func31, Tryz.ntmps31
  go_wp2
  go_loop [8] (fun i => ∃ k : Nat, i = .int .i64 k ∧ k ≤ 2 ∧ Hid ((0 < k → x = 0) ∧ (1 < k → y = 0))) (fun i => 2 - (intOf i).toNat)
  case atStart => exact ⟨0, rfl, by omega, by omega, by omega⟩
  case round =>
    obtain ⟨k, rfl, hk, hx⟩ := hrel
    have hk3 : k = 0 ∨ k = 1 ∨ k = 2 := by omega
    rcases hk3 with rfl | rfl | rfl
    · by_cases h : x = 0
      · have h' : (x != 0) = false := by simpa using h
        have H := Lib.hid h
        clear h
        go_wp2
        go_round
        case rel => exact ⟨1, rfl, by omega, fun _ => H.out, by omega⟩
        case measure => simp [intOf]
      · have h' : (x != 0) = true := by simpa using h
        go_wp2
        go_ret
        exact ⟨ret_int (by rw [orI, if_neg h]), Below.refl _ _⟩
    · have hx0 := Lib.hid (hx.out.1 (by omega))
      by_cases h : y = 0
      · have h' : (y != 0) = false := by simpa using h
        have H := Lib.hid h
        clear h
        go_wp2
        go_round
        case rel => exact ⟨2, rfl, by omega, fun _ => hx0.out, fun _ => H.out⟩
        case measure => simp [intOf]
      · have h' : (y != 0) = true := by simpa using h
        go_wp2
        go_ret
        exact ⟨ret_int (by rw [orI, if_pos hx0.out]), Below.refl _ _⟩
    · have hx0 := hx.out
      go_wp2
      go_ret
      exact ⟨ret_int (by simp [orI]), Below.refl _ _⟩
theorem c_Compare_0 (n : Int) (s : ByteArray) (n' : Int) (s' : ByteArray) (hs : s.size ≤ maxLen) (hs' : s'.size ≤ maxLen) (w : World) :
    Calls Tryz.prog 57 #[val 0 n s, val 0 n' s'] w fun e w' => e = .returned (.int .i64 (0)) ∧ Below w.heap.size w w' := by
  have Hs := Lib.hid hs
  have Hs' := Lib.hid hs'
  clear hs hs'
  go_enter Tryz.func57, Tryz.ntmps57
  go_wp2_with (first | (go_at_call 69; refine (to_below (l_cmp64 _ _ _)).mono ?_; rintro e w' ⟨rfl, hb⟩; obtain ⟨hc, hf⟩ := bcell hb) | (go_at_call 68; refine (to_below (l_cmpK _ _ _)).mono ?_; rintro e w' ⟨rfl, hb⟩; obtain ⟨hc, hf⟩ := bcell hb) | (go_at_call 70; refine (to_below (l_strings _ _ _)).mono ?_; rintro e w' ⟨rfl, hb⟩; obtain ⟨hc, hf⟩ := bcell hb))
  go_ret
  exact ⟨rfl, (by repeat (first | exact Below.refl _ _ | (refine bel_trans ?_ (by assumption)) | apply bel_alloc | apply Below.drew))⟩
theorem c_Compare_1 (n : Int) (s : ByteArray) (n' : Int) (s' : ByteArray) (hs : s.size ≤ maxLen) (hs' : s'.size ≤ maxLen) (w : World) :
    Calls Tryz.prog 57 #[val 1 n s, val 1 n' s'] w fun e w' => e = .returned (.int .i64 (cmpI n n')) ∧ Below w.heap.size w w' := by
  have Hs := Lib.hid hs
  have Hs' := Lib.hid hs'
  clear hs hs'
  go_enter Tryz.func57, Tryz.ntmps57
  go_wp2_with (first | (go_at_call 69; refine (to_below (l_cmp64 _ _ _)).mono ?_; rintro e w' ⟨rfl, hb⟩; obtain ⟨hc, hf⟩ := bcell hb) | (go_at_call 68; refine (to_below (l_cmpK _ _ _)).mono ?_; rintro e w' ⟨rfl, hb⟩; obtain ⟨hc, hf⟩ := bcell hb) | (go_at_call 70; refine (to_below (l_strings _ _ _)).mono ?_; rintro e w' ⟨rfl, hb⟩; obtain ⟨hc, hf⟩ := bcell hb))
  go_ret
  exact ⟨rfl, (by repeat (first | exact Below.refl _ _ | (refine bel_trans ?_ (by assumption)) | apply bel_alloc | apply Below.drew))⟩
theorem c_Compare_3 (n : Int) (s : ByteArray) (n' : Int) (s' : ByteArray) (hs : s.size ≤ maxLen) (hs' : s'.size ≤ maxLen) (w : World) :
    Calls Tryz.prog 57 #[val 3 n s, val 3 n' s'] w fun e w' => e = .returned (.int .i64 (cmpI n n')) ∧ Below w.heap.size w w' := by
  have Hs := Lib.hid hs
  have Hs' := Lib.hid hs'
  clear hs hs'
  go_enter Tryz.func57, Tryz.ntmps57
  go_wp2_with (first | (go_at_call 69; refine (to_below (l_cmp64 _ _ _)).mono ?_; rintro e w' ⟨rfl, hb⟩; obtain ⟨hc, hf⟩ := bcell hb) | (go_at_call 68; refine (to_below (l_cmpK _ _ _)).mono ?_; rintro e w' ⟨rfl, hb⟩; obtain ⟨hc, hf⟩ := bcell hb) | (go_at_call 70; refine (to_below (l_strings _ _ _)).mono ?_; rintro e w' ⟨rfl, hb⟩; obtain ⟨hc, hf⟩ := bcell hb))
  go_ret
  exact ⟨rfl, (by repeat (first | exact Below.refl _ _ | (refine bel_trans ?_ (by assumption)) | apply bel_alloc | apply Below.drew))⟩
theorem c_Compare_2 (n : Int) (s : ByteArray) (n' : Int) (s' : ByteArray) (hs : s.size ≤ maxLen) (hs' : s'.size ≤ maxLen) (w : World) :
    Calls Tryz.prog 57 #[val 2 n s, val 2 n' s'] w fun e w' => e = .returned (.int .i64 (cmpT s s')) ∧ Below w.heap.size w w' := by
  have Hs := Lib.hid hs
  have Hs' := Lib.hid hs'
  clear hs hs'
  go_enter Tryz.func57, Tryz.ntmps57
  go_wp2_with (first | (go_at_call 69; refine (to_below (l_cmp64 _ _ _)).mono ?_; rintro e w' ⟨rfl, hb⟩; obtain ⟨hc, hf⟩ := bcell hb) | (go_at_call 68; refine (to_below (l_cmpK _ _ _)).mono ?_; rintro e w' ⟨rfl, hb⟩; obtain ⟨hc, hf⟩ := bcell hb) | (go_at_call 70; refine (to_below (l_strings _ _ _)).mono ?_; rintro e w' ⟨rfl, hb⟩; obtain ⟨hc, hf⟩ := bcell hb))
  go_ret
  exact ⟨rfl, (by repeat (first | exact Below.refl _ _ | (refine bel_trans ?_ (by assumption)) | apply bel_alloc | apply Below.drew))⟩
theorem c_Compare_x (k n : Int) (s : ByteArray) (n' : Int) (s' : ByteArray) (hs : s.size ≤ maxLen) (hs' : s'.size ≤ maxLen) (k0 : ¬ k = 0) (k1 : ¬ k = 1) (k2 : ¬ k = 2) (k3 : ¬ k = 3) (hc : ¬ cmpI n n' = 0) (w : World) :
    Calls Tryz.prog 57 #[val k n s, val k n' s'] w fun e w' => e = .returned (.int .i64 (cmpI n n')) ∧ Below w.heap.size w w' := by
  have Hs := Lib.hid hs
  have Hs' := Lib.hid hs'
  clear hs hs'
  have e0 : (k == 0) = false := by simpa using k0
  have e1 : (k == 1) = false := by simpa using k1
  have e2 : (k == 2) = false := by simpa using k2
  have e3 : (k == 3) = false := by simpa using k3
  clear k0 k1 k2 k3
  have hc0 := Lib.hid hc
  have hc' : (cmpI n n' != 0) = true := by simpa using hc
  go_enter Tryz.func57, Tryz.ntmps57
  go_wp2
  go_region_held3 (fun w' => w'.cell? ⟨w.heap.size, 1, none⟩ = some (.int .i64 n) ∧ w'.cell? ⟨w.heap.size, 2, none⟩ = some (.string s) ∧ w'.cell? ⟨w.heap.size + 1, 1, none⟩ = some (.int .i64 n') ∧ w'.cell? ⟨w.heap.size + 1, 2, none⟩ = some (.string s')) (simp [*, go_sem, World.cell?_alloc_past])
    (first | (go_at_call 69; refine (l_cmp64 _ _ _).mono ?_; rintro e w' ⟨rfl, rfl⟩) | (go_at_call 70; refine (l_strings _ _ _).mono ?_; rintro e w' ⟨rfl, rfl⟩) | (go_at_call 31; refine (l_or (cmpI n n') (cmpT s s') _ _ ?_ ?_).mono ?_; (simp [go_sem]); (simp [go_sem]); rintro e w' ⟨rfl, hb⟩; obtain ⟨hc, hf⟩ := bcell hb; have hz : w.heap.size + 1 < w'.heap.size := Nat.lt_of_lt_of_le (by simp) hb.size; have hz0 : w.heap.size < w'.heap.size := by omega))
  go_wp2
  go_ret
  exact ⟨ret_int (by unfold orI; exact if_neg hc0.out), (by repeat (first | exact Below.refl _ _ | (refine bel_trans ?_ (by assumption)) | apply bel_alloc | apply Below.drew))⟩
theorem c_Compare_y (k n : Int) (s : ByteArray) (n' : Int) (s' : ByteArray) (hs : s.size ≤ maxLen) (hs' : s'.size ≤ maxLen) (k0 : ¬ k = 0) (k1 : ¬ k = 1) (k2 : ¬ k = 2) (k3 : ¬ k = 3) (hc : cmpI n n' = 0) (w : World) :
    Calls Tryz.prog 57 #[val k n s, val k n' s'] w fun e w' => e = .returned (.int .i64 (cmpT s s')) ∧ Below w.heap.size w w' := by
  have Hs := Lib.hid hs
  have Hs' := Lib.hid hs'
  clear hs hs'
  have e0 : (k == 0) = false := by simpa using k0
  have e1 : (k == 1) = false := by simpa using k1
  have e2 : (k == 2) = false := by simpa using k2
  have e3 : (k == 3) = false := by simpa using k3
  clear k0 k1 k2 k3
  have hc0 := Lib.hid hc
  have hc' : (cmpI n n' != 0) = false := by simpa using hc
  clear hc
  go_enter Tryz.func57, Tryz.ntmps57
  go_wp2
  go_region_held3 (fun w' => w'.cell? ⟨w.heap.size, 1, none⟩ = some (.int .i64 n) ∧ w'.cell? ⟨w.heap.size, 2, none⟩ = some (.string s) ∧ w'.cell? ⟨w.heap.size + 1, 1, none⟩ = some (.int .i64 n') ∧ w'.cell? ⟨w.heap.size + 1, 2, none⟩ = some (.string s')) (simp [*, go_sem, World.cell?_alloc_past])
    (first | (go_at_call 69; refine (l_cmp64 _ _ _).mono ?_; rintro e w' ⟨rfl, rfl⟩) | (go_at_call 70; refine (l_strings _ _ _).mono ?_; rintro e w' ⟨rfl, rfl⟩) | (go_at_call 31; refine (l_or (cmpI n n') (cmpT s s') _ _ ?_ ?_).mono ?_; (simp [go_sem]); (simp [go_sem]); rintro e w' ⟨rfl, hb⟩; obtain ⟨hc, hf⟩ := bcell hb; have hz : w.heap.size + 1 < w'.heap.size := Nat.lt_of_lt_of_le (by simp) hb.size; have hz0 : w.heap.size < w'.heap.size := by omega))
  go_wp2
  go_ret
  exact ⟨ret_int (by unfold orI; exact if_pos hc0.out), (by repeat (first | exact Below.refl _ _ | (refine bel_trans ?_ (by assumption)) | apply bel_alloc | apply Below.drew))⟩
theorem c_Compare_k (k k' n : Int) (s : ByteArray) (n' : Int) (s' : ByteArray) (hs : s.size ≤ maxLen) (hs' : s'.size ≤ maxLen) (_ : 0 ≤ k) (_ : k ≤ 255) (_ : 0 ≤ k') (_ : k' ≤ 255) (hk : ¬ k = k') (w : World) :
    Calls Tryz.prog 57 #[val k n s, val k' n' s'] w fun e w' => e = .returned (.int .i64 (cmpI k k')) ∧ Below w.heap.size w w' := by
  have Hs := Lib.hid hs
  have Hs' := Lib.hid hs'
  clear hs hs'
  have hb : (k != k') = true := by simpa using hk
  have hb' : (k == k') = false := by simpa using hk
  clear hk
  go_enter Tryz.func57, Tryz.ntmps57
  go_wp2_with (first | (go_at_call 69; refine (to_below (l_cmp64 _ _ _)).mono ?_; rintro e w' ⟨rfl, hb⟩; obtain ⟨hc, hf⟩ := bcell hb) | (go_at_call 68; refine (to_below (l_cmpK _ _ _)).mono ?_; rintro e w' ⟨rfl, hb⟩; obtain ⟨hc, hf⟩ := bcell hb) | (go_at_call 70; refine (to_below (l_strings _ _ _)).mono ?_; rintro e w' ⟨rfl, hb⟩; obtain ⟨hc, hf⟩ := bcell hb))
  go_ret
  exact ⟨rfl, (by repeat (first | exact Below.refl _ _ | (refine bel_trans ?_ (by assumption)) | apply bel_alloc | apply Below.drew))⟩
theorem c_Compare (k n : Int) (s : ByteArray) (k' n' : Int) (s' : ByteArray) (hk : 0 ≤ k ∧ k ≤ 255) (hk' : 0 ≤ k' ∧ k' ≤ 255) (hs : s.size ≤ maxLen) (hs' : s'.size ≤ maxLen) (w : World) :
    Calls Tryz.prog 57 #[val k n s, val k' n' s'] w fun e w' => e = .returned (.int .i64 (cmpV k n s k' n' s')) ∧ Below w.heap.size w w' := by
  have kb := hk
  have kb' := hk'
  clear hk hk'
  by_cases hk : k = k'
  · subst hk
    by_cases k0 : k = 0
    · subst k0; exact c_Compare_0 n s n' s' hs hs' w
    by_cases k1 : k = 1
    · subst k1; exact c_Compare_1 n s n' s' hs hs' w
    by_cases k2 : k = 2
    · subst k2; exact c_Compare_2 n s n' s' hs hs' w
    by_cases k3 : k = 3
    · subst k3; exact c_Compare_3 n s n' s' hs hs' w
    by_cases hc : cmpI n n' = 0
    · rw [show cmpV k n s k n' s' = cmpT s s' by simp [cmpV, k0, k1, k2, k3, hc]]; exact c_Compare_y k n s n' s' hs hs' k0 k1 k2 k3 hc w
    · rw [show cmpV k n s k n' s' = cmpI n n' by simp [cmpV, k0, k1, k2, k3, hc]]; exact c_Compare_x k n s n' s' hs hs' k0 k1 k2 k3 hc w
  · rw [show cmpV k n s k' n' s' = cmpI k k' by simp [cmpV, hk]]; exact c_Compare_k k k' n s n' s' hs hs' kb.1 kb.2 kb'.1 kb'.2 hk w
end Go.Proofs.YtdbhencjomnjhaaGreatDoor.V
