/-
  Plain facts on metadata, without any program: which are valid; their bytes; what bytes are.
  The contracts of meta's small functions: within, nearest, May, isAbove.
  The contract of meta's Print; its bytes are the call's own.
-/
import Derived.Test.YtlikhmhomkiadaaDoorQ10
import Derived.Test.YtlikhmhomkiadaaDoorQ12
import Derived.Test.YtlikhmhomkiadaaDoorQ13
import Derived.Test.YtlikhmhomkiadaaDoorQ14
import Derived.Test.YtlikhmhomkiadaaDoorQ17
import Derived.Deep.RegionHeld3
namespace Go.Proofs.YtlikhmhomkiadaaDoor
set_option maxRecDepth 100000
open Go

/-- Which metadata are valid. -/
def mayU (a b c : Int) : Bool := decide (((a = 0 ∧ b = 0) ∨ (1 ≤ a ∧ a ≤ 1099511627776 ∧ 0 ≤ b ∧ b ≤ 6)) ∧ 1 ≤ c ∧ c ≤ 1099511627776)
theorem mayU_iff {a b c : Int} : mayU a b c = true ↔ (((a = 0 ∧ b = 0) ∨ (1 ≤ a ∧ a ≤ 1099511627776 ∧ 0 ≤ b ∧ b ≤ 6)) ∧ 1 ≤ c ∧ c ≤ 1099511627776) := by unfold mayU; exact decide_eq_true_iff
/-- The nearest valid metadata's numbers. -/
def nuA (a b : Int) : Int := if a = 0 ∧ b = 0 then a else max 1 (min a 1099511627776)
def nuB (a b : Int) : Int := if a = 0 ∧ b = 0 then b else max 0 (min b 6)
def nuC (c : Int) : Int := max 1 (min c 1099511627776)
theorem nearU_iff (a b c : Int) : (a = nuA a b ∧ b = nuB a b ∧ c = nuC c) ↔ mayU a b c = true := by
  rw [mayU_iff]
  unfold nuA nuB nuC
  by_cases h : a = 0 ∧ b = 0
  · rw [if_pos h, if_pos h]
    omega
  · rw [if_neg h, if_neg h]
    omega
theorem nearU_eq (a b c : Int) : (a == nuA a b && (b == nuB a b && c == nuC c)) = mayU a b c := by
  rw [Bool.eq_iff_iff, ← nearU_iff]
  simp

/-- Is the ballot x, y above a, b? -/
def abvB (x y a b : Int) : Bool := if x = a then decide (b < y) else decide (a < x)
def promOk (a b c x y : Int) : Bool := mayU a b c && (mayU x y c && abvB x y a b)
/-- Their numbers, the widths of these, and the bytes of the first k of them. -/
def uFld (a b c : Nat) : Nat → Nat
  | 0 => a
  | 1 => b
  | _ => c
def uW : Nat → Nat
  | 0 => 6
  | 1 => 1
  | _ => 6
def uPre (f : Nat → Nat) : Nat → List Nat
  | 0 => []
  | k + 1 => uPre f k ++ digs (uW k) (f k)
theorem uW_le (k : Nat) : uW k ≤ 6 := by
  match k with
  | 0 | 1 => decide
  | _ + 2 => exact Nat.le_refl _
theorem uPre_len_le (f : Nat → Nat) (k : Nat) : (uPre f k).length ≤ 6 * k := by
  induction k with
  | zero => simp [uPre]
  | succ k ih =>
    have := uW_le k
    simp only [uPre, List.length_append, digs_length]
    omega
/-- The bytes of metadata. -/
def uBytes (a b c : Nat) : List Nat := uPre (uFld a b c) 3
theorem uBytes_len (a b c : Nat) : (uBytes a b c).length = 13 := by simp [uBytes, uPre, digs_length, uW]
theorem uBytes_lt (a b c : Nat) : ∀ x ∈ uBytes a b c, x < 256 := by
  intro x hx
  simp only [uBytes, uPre, List.mem_append, List.not_mem_nil, false_or] at hx
  rcases hx with (h | h) | h <;> exact digs_lt _ _ _ h
theorem uFld_fits {a b c : Nat} (h : mayU a b c = true) (k : Nat) : fitsB (uW k) (uFld a b c k) = true := by
  rw [mayU_iff] at h
  refine fits_iff.2 ?_
  match k with
  | 0 => exact ⟨rfl, by omega, by show a < 281474976710656; omega⟩
  | 1 => exact ⟨rfl, by omega, by show b < 256; omega⟩
  | _ + 2 => exact ⟨rfl, by omega, by show c < 281474976710656; omega⟩
theorem uBytes_eq {a b c : Nat} (h : b < 256) : uBytes a b c = digs 6 a ++ [b] ++ digs 6 c := by
  simp only [uBytes, uPre, uW, uFld, List.nil_append]
  rw [show digs 1 b = [b] by simp [digs]; omega]
theorem mayU_nat {a b c : Int} (h : mayU a b c = true) : ∃ a' b' c' : Nat, a = a' ∧ b = b' ∧ c = c' := by
  rw [mayU_iff] at h
  obtain ⟨a', rfl⟩ := Int.eq_ofNat_of_zero_le (show 0 ≤ a by omega)
  obtain ⟨b', rfl⟩ := Int.eq_ofNat_of_zero_le (show 0 ≤ b by omega)
  obtain ⟨c', rfl⟩ := Int.eq_ofNat_of_zero_le (show 0 ≤ c by omega)
  exact ⟨a', b', c', rfl, rfl, rfl⟩

/-- Where the numbers begin, and what they are. -/
def uPos : Nat → Nat
  | 0 => 0
  | 1 => 6
  | 2 => 7
  | _ => 13
def uNum (l : List Nat) (k : Nat) : Nat := num ((l.drop (uPos k)).take (uW k))
theorem uPos_step {k : Nat} (h : k < 3) : uPos (k + 1) = uPos k + uW k := by
  have hj' : k = 0 ∨ k = 1 ∨ k = 2 := by omega
  rcases hj' with rfl | rfl | rfl <;> rfl
theorem uPos_le (k : Nat) : uPos k ≤ 13 := by unfold uPos; split <;> omega
theorem uW_ok (k : Nat) : wOk (uW k) = true := by
  match k with
  | 0 | 1 => rfl
  | _ + 2 => rfl
/-- Are the bytes those of valid metadata? -/
def uV (l : List Nat) : Bool := decide (l.length = 13) && mayU (uNum l 0) (uNum l 1) (uNum l 2)
/-- What Parse answers. -/
def uF (l : List Nat) (k : Nat) : Nat := if uV l = true then uNum l k else 0
def uE (l : List Nat) : Int := if uV l = true then 0 else 80
theorem uF_yes {l : List Nat} (h : uV l = true) (k : Nat) : uF l k = uNum l k := by unfold uF; rw [if_pos h]
theorem uE_yes {l : List Nat} (h : uV l = true) : uE l = 0 := by unfold uE; rw [if_pos h]
theorem uF_no {l : List Nat} (h : uV l = false) (k : Nat) : uF l k = 0 := by unfold uF; rw [if_neg (by rw [h]; simp)]
theorem uE_no {l : List Nat} (h : uV l = false) : uE l = 80 := by unfold uE; rw [if_neg (by rw [h]; simp)]
theorem uV_len {l : List Nat} (h : l.length ≠ 13) : uV l = false := by unfold uV; simp [h]
theorem uV_may {l : List Nat} (h : mayU (uNum l 0) (uNum l 1) (uNum l 2) = false) : uV l = false := by unfold uV; simp [h]
theorem uV_both {l : List Nat} (h : l.length = 13) (hm : mayU (uNum l 0) (uNum l 1) (uNum l 2) = true) : uV l = true := by unfold uV; simp [h, hm]
theorem uV_parts {l : List Nat} (h : uV l = true) : l.length = 13 ∧ mayU (uNum l 0) (uNum l 1) (uNum l 2) = true := by
  unfold uV at h
  simpa using h
theorem uF_may {l : List Nat} (h : uV l = true) : mayU (uF l 0) (uF l 1) (uF l 2) = true := by
  rw [uF_yes h, uF_yes h, uF_yes h]
  exact (uV_parts h).2

/-- What Print answers: the bytes, and which error (0: none). -/
def uL (a b c : Int) : List Nat := if mayU a b c = true then uBytes a.toNat b.toNat c.toNat else []
def uR (a b c : Int) : Int := if mayU a b c = true then 0 else 2
theorem uL_yes {a b c : Int} (h : mayU a b c = true) : uL a b c = uBytes a.toNat b.toNat c.toNat := by unfold uL; rw [if_pos h]
theorem uR_yes {a b c : Int} (h : mayU a b c = true) : uR a b c = 0 := by unfold uR; rw [if_pos h]
theorem uL_no {a b c : Int} (h : mayU a b c = false) : uL a b c = [] := by unfold uL; rw [if_neg (by rw [h]; simp)]
theorem uR_no {a b c : Int} (h : mayU a b c = false) : uR a b c = 2 := by unfold uR; rw [if_neg (by rw [h]; simp)]
theorem uL_len {a b c : Int} (h : mayU a b c = true) : (uL a b c).length = 13 := by rw [uL_yes h, uBytes_len]
theorem uL_len_le (a b c : Int) : (uL a b c).length ≤ 13 := by
  by_cases h : mayU a b c = true
  · rw [uL_len h]; exact Nat.le_refl _
  · rw [uL_no (by simpa using h)]; simp
theorem uL_lt (a b c : Int) : ∀ x ∈ uL a b c, x < 256 := by
  by_cases h : mayU a b c = true
  · rw [uL_yes h]; exact uBytes_lt _ _ _
  · rw [uL_no (by simpa using h)]; simp

/- There and back. -/
theorem uNum_bytes (a b c k : Nat) (hk : k < 3) (h : uFld a b c k < 256 ^ uW k) : uNum (uBytes a b c) k = uFld a b c k := by
  have key : ((uBytes a b c).drop (uPos k)).take (uW k) = digs (uW k) (uFld a b c k) := by
    have hj' : k = 0 ∨ k = 1 ∨ k = 2 := by omega
    rcases hj' with rfl | rfl | rfl <;> rfl
  unfold uNum
  rw [key, num_digs _ _ h]
theorem uV_bytes {a b c : Nat} (h : mayU a b c = true) : uV (uBytes a b c) = true ∧ ∀ k, k < 3 → uF (uBytes a b c) k = uFld a b c k := by
  have hf : ∀ k, k < 3 → uNum (uBytes a b c) k = uFld a b c k := fun k hk => uNum_bytes a b c k hk (by
    have := (fits_iff.1 (uFld_fits h k)).2.2
    simpa using this)
  have hv : uV (uBytes a b c) = true := uV_both (uBytes_len a b c) (by
    rw [hf 0 (by omega), hf 1 (by omega), hf 2 (by omega)]
    exact h)
  exact ⟨hv, fun k hk => by rw [uF_yes hv, hf k hk]⟩
/-- Valid metadata's bytes are parsed as they were. -/
theorem uBack {a b c : Int} (h : mayU a b c = true) : uV (uL a b c) = true ∧ (uF (uL a b c) 0 : Int) = a ∧ (uF (uL a b c) 1 : Int) = b ∧ (uF (uL a b c) 2 : Int) = c := by
  obtain ⟨a, b, c, rfl, rfl, rfl⟩ := mayU_nat h
  rw [uL_yes h]
  simp only [Int.toNat_natCast]
  obtain ⟨hv, hf⟩ := uV_bytes h
  exact ⟨hv, by rw [hf 0 (by omega)]; rfl, by rw [hf 1 (by omega)]; rfl, by rw [hf 2 (by omega)]; rfl⟩
theorem uBytes_of {l : List Nat} (h : l.length = 13) (hl : ∀ b ∈ l, b < 256) : uBytes (uNum l 0) (uNum l 1) (uNum l 2) = l := by
  have step : ∀ k, k < 3 → digs (uW k) (uNum l k) = (l.drop (uPos k)).take (uW k) := by
    intro k hk
    have hp := uPos_step hk
    have h15 := uPos_le (k + 1)
    have e := digs_num ((l.drop (uPos k)).take (uW k)) (fun b hb => hl b (List.mem_of_mem_drop (List.mem_of_mem_take hb)))
    rw [List.length_take, List.length_drop, Nat.min_eq_left (by omega)] at e
    exact e
  have fl : ∀ k, k < 3 → uFld (uNum l 0) (uNum l 1) (uNum l 2) k = uNum l k := by
    intro k hk
    have hj' : k = 0 ∨ k = 1 ∨ k = 2 := by omega
    rcases hj' with rfl | rfl | rfl <;> rfl
  have all : ∀ k, k ≤ 3 → uPre (uFld (uNum l 0) (uNum l 1) (uNum l 2)) k = l.take (uPos k) := by
    intro k
    induction k with
    | zero => intro _; simp [uPre, uPos]
    | succ k ih =>
      intro hk
      rw [uPre, ih (by omega), fl k (by omega), step k (by omega), uPos_step (by omega), List.take_add]
  have := all 3 (by omega)
  rw [show uPos 3 = 13 from rfl, List.take_of_length_le (by omega)] at this
  exact this
/-- Valid bytes are those of what they are. -/
theorem uL_of {l : List Nat} (h : uV l = true) (hl : ∀ b ∈ l, b < 256) : uL (uF l 0) (uF l 1) (uF l 2) = l ∧ uR (uF l 0) (uF l 1) (uF l 2) = 0 := by
  have hp := uV_parts h
  rw [uF_yes h, uF_yes h, uF_yes h]
  exact ⟨by rw [uL_yes hp.2]; simp only [Int.toNat_natCast]; exact uBytes_of hp.1 hl, uR_yes hp.2⟩
end Go.Proofs.YtlikhmhomkiadaaDoor

namespace Go.Proofs.YtlikhmhomkiadaaDoor
set_option maxRecDepth 100000
open Go Go.RowKit

theorem withinU (a n b : Int) (w : World) :
    Calls Tryd.prog 45 #[.int .i64 a, .int .i64 n, .int .i64 b] w fun e w' => e = .returned (.int .i64 (max a (min n b))) ∧ w = w' := by
  have fin : ∀ x y : Int, x = y → Ending.returned (Value.int .i64 x) = .returned (.int .i64 y) := fun x y h => by rw [h]
  go_enter Tryd.func45, Tryd.ntmps45
  go_wp2
  all_goals (go_ret; refine ⟨fin _ _ ?_, rfl⟩; omega)
theorem isAboveU (x y a b : Int) (w : World) :
    Calls Tryd.prog 33 #[.agg #[.int .i64 x, .int .i64 y], .agg #[.int .i64 a, .int .i64 b]] w fun e w' => e = .returned (.bool (abvB x y a b)) ∧ Ext w w' := by
  have fin : ∀ x y : Bool, x = y → Ending.returned (Value.bool x) = .returned (.bool y) := fun x y h => by rw [h]
  have hE := ((Ext.refl w).alloc (.cells #[.int .i64 x, .int .i64 y] 23)).alloc (.cells #[.int .i64 a, .int .i64 b] 23)
  have HE := Lib.hid hE
  have HA : Hid (x = a → abvB x y a b = decide (b < y)) := Lib.hid fun h => by unfold abvB; rw [if_pos h]
  have HB : Hid (x ≠ a → abvB x y a b = decide (a < x)) := Lib.hid fun h => by unfold abvB; rw [if_neg h]
  clear hE
  by_cases hxa : x = a
  · subst hxa
    rw [HA.out rfl]
    go_enter Tryd.func33, Tryd.ntmps33
    go_wp2_with fail
    go_ret
    exact ⟨rfl, HE.out⟩
  · have hne : (x == a) = false := by rw [beq_eq_false_iff_ne]; exact hxa
    rw [HB.out hxa]
    go_enter Tryd.func33, Tryd.ntmps33
    go_wp2_with fail
    go_ret
    exact ⟨rfl, HE.out⟩
theorem ballot_neq (a b : Int) (w : World) : (binOp .neq 23 (.agg #[.int .i64 a, .int .i64 b]) (.agg #[.int .i64 0, .int .i64 0])).run Tryd.prog w = .ok (.bool (!(a == 0 && b == 0))) w := by
  have hf : Tryd.prog.stoodInHeld 23 = false := by kernel_rfl
  have hu := Tryd.underlying23
  rw [run_neq_struct, run_equalIn_agg _ _ _ _ _ (by rw [Program.fieldsOf, hu]) hf, Program.fieldsOf, hu]
  simp [Op.eqFields, go_sem]
  by_cases h1 : a = 0 <;> by_cases h2 : b = 0 <;> simp [h1, h2]
theorem meta_eql (a b c a' b' c' : Int) (w : World) : (binOp .eql 25 (.agg #[.int .i64 a, .int .i64 b, .int .i64 c]) (.agg #[.int .i64 a', .int .i64 b', .int .i64 c'])).run Tryd.prog w = .ok (.bool (a == a' && (b == b' && c == c'))) w := by
  have hf : Tryd.prog.stoodInHeld 25 = false := by kernel_rfl
  have hu := Tryd.underlying25
  have hu2 := Tryd.underlying23
  rw [run_eql_struct, run_equalIn_agg _ _ _ _ _ (by rw [Program.fieldsOf, hu]) hf, Program.fieldsOf, hu]
  simp [Op.eqFields, go_sem]
  by_cases h1 : a = a' <;> by_cases h2 : b = b' <;> by_cases h3 : c = c' <;> simp [h1, h2, h3]

theorem three_cells {w : World} {g : Nat} {x0 x1 x2 : Value} {t : TypeId} (h : w.heap[g]? = some (.cells #[x0, x1, x2] t (0, 0))) :
    (w.cell? ⟨g, 0, none⟩ = some x0 ∧ w.cell? ⟨g, 1, none⟩ = some x1 ∧ w.cell? ⟨g, 2, none⟩ = some x2) ∧ (w.frozen? ⟨g, 0, none⟩ = false ∧ w.frozen? ⟨g, 1, none⟩ = false ∧ w.frozen? ⟨g, 2, none⟩ = false) :=
  ⟨⟨cell_of_row w g 0 _ _ _ h, cell_of_row w g 1 _ _ _ h, cell_of_row w g 2 _ _ _ h⟩, ⟨frozen_of_row w g 0 _ _ h, frozen_of_row w g 1 _ _ h, frozen_of_row w g 2 _ _ h⟩⟩
theorem three_ext {w w' : World} (h : Ext w w') {g : Nat} (hg : w.heap.size ≤ g) (x0 x1 x2 : Value) :
    Ext w (((w'.setCell ⟨g, 0, none⟩ x0).setCell ⟨g, 1, none⟩ x1).setCell ⟨g, 2, none⟩ x2) :=
  ((h.setCell (p := ⟨g, 0, none⟩) hg _).setCell (p := ⟨g, 1, none⟩) hg _).setCell (p := ⟨g, 2, none⟩) hg _
theorem three_row {w : World} {g : Nat} {x0 x1 x2 : Value} {t : TypeId} (h : w.heap[g]? = some (.cells #[x0, x1, x2] t (0, 0))) (y0 y1 y2 : Value) :
    (((w.setCell ⟨g, 0, none⟩ y0).setCell ⟨g, 1, none⟩ y1).setCell ⟨g, 2, none⟩ y2).heap[g]? = some (.cells #[y0, y1, y2] t (0, 0)) := by
  have h0 := setCell_eq_setRow w g 0 _ _ _ y0 h
  have r0 := setRow_heap w g _ (#[x0, x1, x2].setIfInBounds 0 y0) _ _ h
  have h1 := setCell_eq_setRow _ g 1 _ _ _ y1 (h0 ▸ r0)
  have r1 := setRow_heap _ g _ ((#[x0, x1, x2].setIfInBounds 0 y0).setIfInBounds 1 y1) _ _ (h0 ▸ r0)
  have h2 := setCell_eq_setRow _ g 2 _ _ _ y2 (h1 ▸ r1)
  have r2 := setRow_heap _ g _ (((#[x0, x1, x2].setIfInBounds 0 y0).setIfInBounds 1 y1).setIfInBounds 2 y2) _ _ (h1 ▸ r1)
  rw [h2]
  exact r2

set_option maxRecDepth 100000 in
set_option maxHeartbeats 1600000 in
theorem nearestU (a b c : Int) (w : World) :
    Calls Tryd.prog 30 #[.agg #[.int .i64 a, .int .i64 b, .int .i64 c]] w fun r w' => r = .returned (.agg #[.int .i64 (nuA a b), .int .i64 (nuB a b), .int .i64 (nuC c)]) ∧ Ext w w' := by
  have hbn := ballot_neq a b
  by_cases h : a = 0 ∧ b = 0
  · obtain ⟨rfl, rfl⟩ := h
    go_enter Tryd.func30, Tryd.ntmps30
    go_wp2_with fail
    refine (withinU _ _ _ _).mono ?_
    rintro e' w' ⟨rfl, rfl⟩
    go_wp2_with fail
    refine bodyPost_ret (v := .agg #[.int .i64 0, .int .i64 0, .int .i64 (max 1 (min c 1099511627776))]) ?_ rfl ⟨rfl, ((Ext.refl w).alloc _).alloc _⟩
    simp [results, Tryd.results30, go_sem]
  · have hq : (!(a == 0 && b == 0)) = true := by
      simp
      omega
    rw [hq] at hbn
    have hA : nuA a b = max 1 (min a 1099511627776) := by unfold nuA; rw [if_neg h]
    have hB : nuB a b = max 0 (min b 6) := by unfold nuB; rw [if_neg h]
    rw [hA, hB]
    clear hA hB hq h
    go_enter Tryd.func30, Tryd.ntmps30
    go_wp2_with fail
    refine (withinU _ _ _ _).mono ?_
    rintro e' w' ⟨rfl, rfl⟩
    go_wp2_with fail
    refine (withinU _ _ _ _).mono ?_
    rintro e' w' ⟨rfl, rfl⟩
    go_wp2_with fail
    refine (withinU _ _ _ _).mono ?_
    rintro e' w' ⟨rfl, rfl⟩
    go_wp2_with fail
    refine bodyPost_ret (v := .agg #[.int .i64 (max 1 (min a 1099511627776)), .int .i64 (max 0 (min b 6)), .int .i64 (max 1 (min c 1099511627776))]) ?_ rfl ⟨rfl, ((Ext.refl w).alloc _).alloc _⟩
    simp [results, Tryd.results30, go_sem]

set_option maxRecDepth 100000 in
set_option maxHeartbeats 1600000 in
theorem mayU_any (a b c : Int) (w : World) :
    Calls Tryd.prog 12 #[.agg #[.int .i64 a, .int .i64 b, .int .i64 c]] w fun r w' => r = .returned (.bool (mayU a b c)) ∧ Ext w w' := by
  have hE := (Ext.refl w).alloc (.cells #[.int .i64 a, .int .i64 b, .int .i64 c] 25)
  obtain ⟨⟨i0, i1, i2⟩, _⟩ := three_cells (heap_alloc_new w (.cells #[.int .i64 a, .int .i64 b, .int .i64 c] 25))
  have HE := Lib.hid hE
  have HM := Lib.hid (nearU_eq a b c)
  have hq := meta_eql a b c (nuA a b) (nuB a b) (nuC c)
  have hg : Tryd.prog.eqGuardType Tryd.prog.depth 25 = false := by kernel_rfl
  clear hE
  go_enter Tryd.func12, Tryd.ntmps12
  go_wp2_with fail
  generalize (w.alloc (.cells #[.int .i64 a, .int .i64 b, .int .i64 c] 25)) = W at *
  generalize w.heap.size = g at *
  go_region_held3 (fun w' => w'.cell? ⟨g, 0, none⟩ = some (.int .i64 a) ∧ w'.cell? ⟨g, 1, none⟩ = some (.int .i64 b) ∧ w'.cell? ⟨g, 2, none⟩ = some (.int .i64 c))
    (first | with_reducible exact ⟨i0, i1, i2⟩ | exact ⟨Ext.cell hx i0, Ext.cell hx i1, Ext.cell hx i2⟩ | go_keep)
    (first
      | (go_at_call 30; ((with_reducible refine (nearestU _ _ _ _).mono ?_); rintro r w' ⟨rfl, hx⟩)))
  rw [HM.out]
  have HE := Lib.hid (HE.out.trans (((Ext.refl W).drew).trans hx))
  clear hx hq hg i0 i1 i2
  go_wp2_with fail
  go_ret
  exact ⟨rfl, HE.out⟩

/-- Where the numbers lie, with their widths. -/
def fieldsV (g : Nat) : Value := .agg #[.pointer (some ⟨g, 0, none⟩), .int .i64 6, .pointer (some ⟨g, 1, none⟩), .int .i64 1, .pointer (some ⟨g, 2, none⟩), .int .i64 6]
set_option maxRecDepth 100000 in
theorem fieldsU (g : Nat) (x0 x1 x2 : Value) (w : World) (h : w.heap[g]? = some (.cells #[x0, x1, x2] 25 (0, 0))) :
    Calls Tryd.prog 24 #[.pointer (some ⟨g, 0, none⟩)] w fun r w' => r = .returned (fieldsV g) ∧ Ext w w' := by
  have hx := (Ext.refl w).alloc (.cells #[.pointer none, .int .i64 0, .pointer none, .int .i64 0, .pointer none, .int .i64 0] 61)
  obtain ⟨⟨c0, c1, c2⟩, _⟩ := three_cells ((hx.block g (Array.getElem?_eq_some_iff.1 h).1).trans h)
  clear h hx
  go_enter Tryd.func24, Tryd.ntmps24
  go_wp2_with fail
  go_region
  go_wp2_with fail
  refine bodyPost_ret (v := fieldsV g) ?_ rfl ⟨rfl, ((Ext.refl w).alloc _).drew⟩
  simp [results, Tryd.results24, go_sem, fieldsV]
end Go.Proofs.YtlikhmhomkiadaaDoor

namespace Go.Proofs.YtlikhmhomkiadaaDoor
set_option maxRecDepth 100000
open Go Go.RowKit

/-- A slice that lies in no block below. -/
def Fresh (n : Nat) (A : Option Addr) : Prop := ∀ g o, A = some ⟨g, o, none⟩ → n ≤ g
theorem Fresh.none_ (n : Nat) : Fresh n none := fun g o h => by cases h
theorem Fresh.le {n m : Nat} {A : Option Addr} (h : Fresh m A) (k : n ≤ m) : Fresh n A := fun g o e => Nat.le_trans k (h g o e)
theorem join2_new {A1 A2 : Option Addr} {n1 n2 c1 c2 : Nat} {l1 l2 : List Nat} (w : World) (h1 : By w A1 n1 c1 l1) (h2 : By w A2 n2 c2 l2) (hN : n1 + n2 ≤ 140737488355328) :
    Calls Tryd.prog 26 #[.slice (some ⟨w.heap.size, 0, none⟩) 2 2] (w.alloc (.cells #[.slice A1 n1 c1, .slice A2 n2 c2] 26)) fun e w' => ∃ A' c', e = .returned (.slice A' (n1 + n2) c') ∧ By w' A' (n1 + n2) c' (l1 ++ l2) ∧ Fresh w.heap.size A' ∧ Ext w w' := by
  have hcat : cat [(.slice A1 n1 c1, l1), (.slice A2 n2 c2, l2)] = l1 ++ l2 := by simp [cat]
  have hlen : (cat [(.slice A1 n1 c1, l1), (.slice A2 n2 c2, l2)]).length = n1 + n2 := by rw [hcat, List.length_append, h1.len, h2.len]
  refine (join_any _ 2 2 [(.slice A1 n1 c1, l1), (.slice A2 n2 c2, l2)] _ (parts_lit rfl rfl ?_) (by omega) (by rw [hlen]; exact hN)).mono ?_
  · intro p hp
    simp only [List.mem_cons, List.not_mem_nil, or_false] at hp
    rcases hp with rfl | rfl
    · exact ⟨_, _, _, rfl, h1⟩
    · exact ⟨_, _, _, rfl, h2⟩
  rintro e w' ⟨A', c', rfl, hown, hx⟩
  rw [hlen] at hown
  have hf : Fresh w.heap.size A' := fun g o e => by
    subst e
    have := (hown.lt g rfl).1
    simp at this
    omega
  rw [hcat] at hown
  rw [hlen]
  refine ⟨A', c', rfl, Bs.of_own hown ?_, hf, ((Ext.refl w).alloc _).trans hx⟩
  intro b hb
  simp only [List.mem_append] at hb
  rcases hb with h | h
  · exact h1.rd.lt b h
  · exact h2.rd.lt b h

theorem field_index (g k : Nat) (hk : k < 3) (w : World) : (Instr.index 61 (.agg #[.pointer (some ⟨g, 0, none⟩), .int .i64 6, .pointer (some ⟨g, 1, none⟩), .int .i64 1, .pointer (some ⟨g, 2, none⟩), .int .i64 6]) (.int .i64 k)).run Tryd.prog w = .ok (.agg #[.pointer (some ⟨g, k, none⟩), .int .i64 (uW k)]) w := by
  have hj' : k = 0 ∨ k = 1 ∨ k = 2 := by omega
  rcases hj' with rfl | rfl | rfl <;> (show _ = _; kernel_rfl)
theorem keepF {u V w' : World} {f g k : Nat} {p q x : Value} {t : TypeId} (hk : Hid (Ext u w')) (hV : u = V.drew) (h : Hid (V.heap[f]? = some (.cells #[p, q] t (0, 0)))) (hc : Hid (V.cell? ⟨g, k, none⟩ = some x)) :
    w'.cell? ⟨f, 1, none⟩ = some q ∧ w'.cell? ⟨f, 0, none⟩ = some p ∧ w'.cell? ⟨g, k, none⟩ = some x := by
  subst hV
  have h2 := (hk.out.block f (Array.getElem?_eq_some_iff.1 h.out).1).trans h.out
  exact ⟨cell_of_row w' f 1 _ _ _ h2, cell_of_row w' f 0 _ _ _ h2, Ext.cell hk.out hc.out⟩
theorem three_at {w : World} {g k : Nat} {a b c : Nat} {t : TypeId} (h : w.heap[g]? = some (.cells #[.int .i64 a, .int .i64 b, .int .i64 c] t (0, 0))) (hk : k < 3) : w.cell? ⟨g, k, none⟩ = some (.int .i64 (uFld a b c k)) := by
  have hj' : k = 0 ∨ k = 1 ∨ k = 2 := by omega
  rcases hj' with rfl | rfl | rfl
  · exact cell_of_row w g 0 _ _ _ h
  · exact cell_of_row w g 1 _ _ _ h
  · exact cell_of_row w g 2 _ _ _ h

set_option maxRecDepth 100000 in
set_option maxHeartbeats 1600000 in
theorem printU_no (a b c : Int) (w : World) (hm : mayU a b c = false) :
    Calls Tryd.prog 8 #[.agg #[.int .i64 a, .int .i64 b, .int .i64 c]] w fun r w' => r = .returned (.tuple #[.slice none 0 0, .int .i64 2]) ∧ Ext w w' := by
  have hE := (Ext.refl w).alloc (.cells #[.int .i64 a, .int .i64 b, .int .i64 c] 25)
  have HE := Lib.hid hE
  have HM := Lib.hid hm
  clear hE hm
  go_enter Tryd.func8, Tryd.ntmps8
  go_wp2_with fail
  refine (mayU_any _ _ _ _).mono ?_
  rw [HM.out]
  rintro r w1 ⟨rfl, hx⟩
  have HE := Lib.hid (HE.out.trans hx)
  clear hx
  go_wp2_with fail
  go_ret2
  exact ⟨rfl, HE.out⟩

set_option maxRecDepth 100000 in
set_option maxHeartbeats 1600000 in
theorem printU_yes (a b c : Nat) (w : World) (hL : Laid w) (hm : mayU a b c = true) :
    Calls Tryd.prog 8 #[.agg #[.int .i64 a, .int .i64 b, .int .i64 c]] w fun r w' => ∃ A cp, r = .returned (.tuple #[.slice A 13 cp, .int .i64 0]) ∧ By w' A 13 cp (uBytes a b c) ∧ Fresh w.heap.size A ∧ Ext w w' := by
  have hE := (Ext.refl w).alloc (.cells #[.int .i64 a, .int .i64 b, .int .i64 c] 25)
  have HT := Lib.hid (heap_alloc_new w (.cells #[.int .i64 a, .int .i64 b, .int .i64 c] 25))
  have HL := Lib.hid (hL.ext hE)
  have HE := Lib.hid hE
  have HM := Lib.hid hm
  clear hE hm hL
  go_enter Tryd.func8, Tryd.ntmps8
  go_wp2_with fail
  refine (mayU_any _ _ _ _).mono ?_
  rw [HM.out]
  rintro r w1 ⟨rfl, hx⟩
  have HT := Lib.hid ((hx.block _ (Array.getElem?_eq_some_iff.1 HT.out).1).trans HT.out)
  have HL := Lib.hid (HL.out.ext hx)
  have HE := Lib.hid (HE.out.trans hx)
  clear hx
  go_wp2_with fail
  refine (fieldsU _ _ _ _ _ HT.out).mono ?_
  unfold fieldsV
  rintro r w2 ⟨rfl, hx⟩
  have HT := Lib.hid ((hx.block _ (Array.getElem?_eq_some_iff.1 HT.out).1).trans HT.out)
  have HL := Lib.hid (HL.out.ext hx)
  have HE := Lib.hid (HE.out.trans hx)
  clear hx
  generalize hg : w.heap.size = g at *
  go_wp2_with fail
  go_loopw [4, 13] (fun v i wr => ∃ k : Nat, k ≤ 3 ∧ i = .int .i64 k ∧ ∃ A n cp, v = .slice A n cp ∧ Hid (By wr A n cp (uPre (uFld a b c) k)) ∧ Hid (Fresh g A) ∧ Hid (Ext w2 wr)) (fun _ i _ => 3 - (intOf i).toNat)
  case atStart => exact ⟨0, Nat.zero_le _, rfl, none, 0, 0, rfl, Lib.hid (By.nil_ _), Lib.hid (Fresh.none_ _), Lib.hid (Ext.refl _)⟩
  case round =>
    obtain ⟨k, hk, rfl, A, n, cp, rfl, HB, HF, HX⟩ := hrel
    by_cases hlt : k < 3
    · have hn : n ≤ 18 := by
        have h1 := HB.out.len
        have h2 := uPre_len_le (uFld a b c) k
        omega
      have hcap := HB.out.cap
      have hI := field_index g k hlt
      have hwl := uW_le k
      have HTr : Hid (wr.heap[g]? = _) := Lib.hid ((HX.out.block _ (Array.getElem?_eq_some_iff.1 HT.out).1).trans HT.out)
      have HV := Lib.hid (heap_alloc_new wr (.cells #[.pointer (some ⟨g, k, none⟩), .int .i64 (uW k)] 60))
      have HC : Hid ((wr.alloc (.cells #[.pointer (some ⟨g, k, none⟩), .int .i64 (uW k)] 60)).cell? ⟨g, k, none⟩ = _) := Lib.hid (Ext.cell ((Ext.refl wr).alloc _) (three_at HTr.out hlt))
      go_wp2_with fail
      have hk1 : Hid (Ext (wr.alloc (.cells #[.pointer (some ⟨g, k, none⟩), .int .i64 (uW k)] 60)).drew (wr.alloc (.cells #[.pointer (some ⟨g, k, none⟩), .int .i64 (uW k)] 60)).drew) := Lib.hid (Ext.refl _)
      have HXV : Hid (Ext wr (wr.alloc (.cells #[.pointer (some ⟨g, k, none⟩), .int .i64 (uW k)] 60)).drew) := Lib.hid ((Ext.refl wr).alloc _).drew
      go_region_held3 (fun w' => w'.cell? ⟨wr.heap.size, 1, none⟩ = some (.int .i64 (uW k)) ∧ w'.cell? ⟨wr.heap.size, 0, none⟩ = some (.pointer (some ⟨g, k, none⟩)) ∧ w'.cell? ⟨g, k, none⟩ = some (.int .i64 (uFld a b c k)))
        (first | exact keepF (by assumption) rfl HV HC)
        (first
          | (go_at_call 25; ((with_reducible refine (put_by _ _ _ (HL.out.ext (HX.out.trans HXV.out)) (uFld_fits HM.out k)).mono ?_); rintro r w3 ⟨A2, c2, rfl, hb, hx⟩; have HB2 := Lib.hid hb; have HK1 := Lib.hid hx; have HX3 := Lib.hid (HXV.out.trans hx); clear hb hx)))
      have HB := Lib.hid (HB.out.ext HX3.out)
      have HX := Lib.hid (HX.out.trans HX3.out)
      clear hI hk1 HK1
      go_wp2_with fail
      refine (join2_new _ HB.out HB2.out (by omega)).mono ?_
      rintro r w4 ⟨A3, c3, rfl, hb, hf, hx⟩
      have HB3 := Lib.hid hb
      have HF3 := Lib.hid (hf.le (Nat.le_trans (Nat.le_of_eq hg.symm) (Nat.le_trans (Ext.size HE.out) (Ext.size HX.out))))
      have HX := Lib.hid (HX.out.trans hx)
      clear hx hb hf
      go_wp2_with fail
      go_roundw
      case rel => exact ⟨k + 1, by omega, by go_num, A3, _, c3, rfl, HB3, HF3, HX⟩
      case measure => simp [intOf]; omega
    · have HK : Hid (k = 3) := Lib.hid (by omega)
      have hb := HB.out
      rw [HK.out] at hb
      have hn : n = 13 := hb.len.symm.trans (uBytes_len a b c)
      subst hn
      have HB := Lib.hid hb
      clear hb
      go_wp2_with fail
      go_ret2
      exact ⟨A, cp, rfl, HB.out, hg.symm ▸ HF.out, HE.out.trans HX.out⟩

theorem printU_any (a b c : Int) (w : World) (hL : Laid w) :
    Calls Tryd.prog 8 #[.agg #[.int .i64 a, .int .i64 b, .int .i64 c]] w fun r w' => ∃ A cp, r = .returned (.tuple #[.slice A (uL a b c).length cp, .int .i64 (uR a b c)]) ∧ By w' A (uL a b c).length cp (uL a b c) ∧ Fresh w.heap.size A ∧ Ext w w' := by
  by_cases h : mayU a b c = true
  · obtain ⟨a, b, c, rfl, rfl, rfl⟩ := mayU_nat h
    rw [uL_yes h, uR_yes h]
    simp only [Int.toNat_natCast, uBytes_len]
    exact printU_yes a b c w hL h
  · have h' : mayU a b c = false := by simpa using h
    rw [uL_no h', uR_no h']
    exact (printU_no a b c w h').mono fun _ w' ⟨h1, h2⟩ => ⟨none, 0, h1, By.nil_ w', Fresh.none_ _, h2⟩
end Go.Proofs.YtlikhmhomkiadaaDoor
