/-
  Entries and operations compared with what is blank; the contract of entry's May.
-/
import Derived.Test.YtoapjgkfggggmaaDoorEMayOp
namespace Go.Proofs.YtoapjgkfggggmaaDoor
open Go Go.RowKit

theorem toList_nil (s : ByteArray) : s.toList = [] ↔ s.size = 0 := by
  rw [← List.isEmpty_iff, str_empty, decide_eq_true_iff]
theorem ent_eql_noop (cl sq : Int) (ok : Nat) (key old val : ByteArray) (w : World) :
    (binOp .eql 27 (.agg #[.int .u8 1, .int .i64 cl, .int .i64 sq, .int .u8 (ok : Int), .string key, .string old, .string val]) (.agg #[.int .u8 1, .int .i64 0, .int .i64 0, .int .u8 0, .string ⟨#[]⟩, .string ⟨#[]⟩, .string ⟨#[]⟩])).run Tryd.prog w = .ok (.bool (enOk ⟨1, cl, sq, ok, key, old, val⟩)) w := by
  obtain ⟨r, hr⟩ : ∃ r, enOk ⟨1, cl, sq, ok, key, old, val⟩ = r := ⟨_, rfl⟩
  rw [hr]
  have hf : Tryd.prog.stoodInHeld 27 = false := by kernel_rfl
  have hu := Tryd.underlying27
  have hu2 := Tryd.underlying25
  rw [run_eql_struct, run_equalIn_agg _ _ _ _ _ (by rw [Program.fieldsOf, hu]) hf, Program.fieldsOf, hu]
  simp [Op.eqFields, go_sem]
  simp only [toList_nil]
  have hb : ∀ b : Bool, enOk ⟨1, cl, sq, ok, key, old, val⟩ = b → Result.ok (α := Value) (Value.bool b) w = Result.ok (Value.bool r) w := fun b h => by rw [← h, hr]
  by_cases h1 : cl = 0
  · by_cases h2 : sq = 0
    · by_cases h3 : ok = 0
      · by_cases h4 : key.size = 0
        · by_cases h5 : old.size = 0
          · by_cases h6 : val.size = 0
            · rw [if_pos h1, if_pos h2, if_pos h3, if_pos h4, if_pos h5, if_pos h6]
              exact hb _ (enOk_iff.2 (.inl ⟨rfl, h1, h2, h3, h4, h5, h6⟩))
            · rw [if_pos h1, if_pos h2, if_pos h3, if_pos h4, if_pos h5, if_neg h6]
              exact hb _ (bad_of (by dsimp only; omega))
          · rw [if_pos h1, if_pos h2, if_pos h3, if_pos h4, if_neg h5]
            exact hb _ (bad_of (by dsimp only; omega))
        · rw [if_pos h1, if_pos h2, if_pos h3, if_neg h4]
          exact hb _ (bad_of (by dsimp only; omega))
      · rw [if_pos h1, if_pos h2, if_neg h3]
        exact hb _ (bad_of (by dsimp only; omega))
    · rw [if_pos h1, if_neg h2]
      exact hb _ (bad_of (by dsimp only; omega))
  · rw [if_neg h1]
    exact hb _ (bad_of (by dsimp only; omega))
theorem op_eql_zero (ok : Nat) (key old val : ByteArray) (w : World) :
    (binOp .eql 25 (.agg #[.int .u8 (ok : Int), .string key, .string old, .string val]) (.agg #[.int .u8 0, .string ⟨#[]⟩, .string ⟨#[]⟩, .string ⟨#[]⟩])).run Tryd.prog w = .ok (.bool (decide (ok = 0 ∧ key.size = 0 ∧ old.size = 0 ∧ val.size = 0))) w := by
  obtain ⟨r, hr⟩ : ∃ r, decide (ok = 0 ∧ key.size = 0 ∧ old.size = 0 ∧ val.size = 0) = r := ⟨_, rfl⟩
  rw [hr]
  have hf : Tryd.prog.stoodInHeld 25 = false := by kernel_rfl
  have hu2 := Tryd.underlying25
  rw [run_eql_struct, run_equalIn_agg _ _ _ _ _ (by rw [Program.fieldsOf, hu2]) hf, Program.fieldsOf, hu2]
  simp [Op.eqFields, go_sem]
  simp only [toList_nil]
  have hb : ∀ b : Bool, decide (ok = 0 ∧ key.size = 0 ∧ old.size = 0 ∧ val.size = 0) = b → Result.ok (α := Value) (Value.bool b) w = Result.ok (Value.bool r) w := fun b h => by rw [← h, hr]
  by_cases h3 : ok = 0
  · by_cases h4 : key.size = 0
    · by_cases h5 : old.size = 0
      · by_cases h6 : val.size = 0
        · rw [if_pos h3, if_pos h4, if_pos h5, if_pos h6]
          exact hb _ (decide_eq_true ⟨h3, h4, h5, h6⟩)
        · rw [if_pos h3, if_pos h4, if_pos h5, if_neg h6]
          exact hb _ (decide_eq_false (by omega))
      · rw [if_pos h3, if_pos h4, if_neg h5]
        exact hb _ (decide_eq_false (by omega))
    · rw [if_pos h3, if_neg h4]
      exact hb _ (decide_eq_false (by omega))
  · rw [if_neg h3]
    exact hb _ (decide_eq_false (by omega))
/-- An entry is as itself. -/
theorem ent_eql_self (k : Nat) (cl sq : Int) (ok : Nat) (key old val : ByteArray) (w : World) :
    (binOp .eql 27 (.agg #[.int .u8 (k : Int), .int .i64 cl, .int .i64 sq, .int .u8 (ok : Int), .string key, .string old, .string val]) (.agg #[.int .u8 (k : Int), .int .i64 cl, .int .i64 sq, .int .u8 (ok : Int), .string key, .string old, .string val])).run Tryd.prog w = .ok (.bool true) w := by
  have hf : Tryd.prog.stoodInHeld 27 = false := by kernel_rfl
  have hu := Tryd.underlying27
  have hu2 := Tryd.underlying25
  rw [run_eql_struct, run_equalIn_agg _ _ _ _ _ (by rw [Program.fieldsOf, hu]) hf, Program.fieldsOf, hu]
  simp [Op.eqFields, go_sem]
theorem ent_neq_self (k : Nat) (cl sq : Int) (ok : Nat) (key old val : ByteArray) (w : World) :
    (binOp .neq 27 (.agg #[.int .u8 (k : Int), .int .i64 cl, .int .i64 sq, .int .u8 (ok : Int), .string key, .string old, .string val]) (.agg #[.int .u8 (k : Int), .int .i64 cl, .int .i64 sq, .int .u8 (ok : Int), .string key, .string old, .string val])).run Tryd.prog w = .ok (.bool false) w := by
  have hf : Tryd.prog.stoodInHeld 27 = false := by kernel_rfl
  have hu := Tryd.underlying27
  have hu2 := Tryd.underlying25
  rw [run_neq_struct, run_equalIn_agg _ _ _ _ _ (by rw [Program.fieldsOf, hu]) hf, Program.fieldsOf, hu]
  simp [Op.eqFields, go_sem]
theorem bal_eql_self (x y : Int) (w : World) : (binOp .eql 23 (.agg #[.int .i64 x, .int .i64 y]) (.agg #[.int .i64 x, .int .i64 y])).run Tryd.prog w = .ok (.bool true) w := by
  have hf : Tryd.prog.stoodInHeld 23 = false := by kernel_rfl
  have hu := Tryd.underlying23
  rw [run_eql_struct, run_equalIn_agg _ _ _ _ _ (by rw [Program.fieldsOf, hu]) hf, Program.fieldsOf, hu]
  simp [Op.eqFields, go_sem]
theorem bal_neq_self (x y : Int) (w : World) : (binOp .neq 23 (.agg #[.int .i64 x, .int .i64 y]) (.agg #[.int .i64 x, .int .i64 y])).run Tryd.prog w = .ok (.bool false) w := by
  have hf : Tryd.prog.stoodInHeld 23 = false := by kernel_rfl
  have hu := Tryd.underlying23
  rw [run_neq_struct, run_equalIn_agg _ _ _ _ _ (by rw [Program.fieldsOf, hu]) hf, Program.fieldsOf, hu]
  simp [Op.eqFields, go_sem]

theorem cast_ne_one (n : Nat) : ((n : Int) != 1) = !(n == 1) := by
  rw [Bool.eq_iff_iff]
  simp
  omega
/-- May an entry of kind 2 be, by parts. -/
theorem enOk_two (cl sq : Int) (ok : Nat) (key old val : ByteArray) : enOk ⟨2, cl, sq, ok, key, old, val⟩ = ((decide (0 ≤ cl) && decide (cl ≤ 3)) && ((decide (1 ≤ sq) && decide (sq ≤ 1099511627776)) && (opOk ok key old val && !(ok == 1)))) := by
  rw [Bool.eq_iff_iff, enOk_iff]
  simp [and_assoc]
set_option maxRecDepth 100000 in
set_option maxHeartbeats 1000000 in
theorem may_any (k : Nat) (cl sq : Int) (ok : Nat) (key old val : ByteArray) (w : World) :
    Calls Tryd.prog 16 #[.agg #[.int .u8 (k : Int), .int .i64 cl, .int .i64 sq, .int .u8 (ok : Int), .string key, .string old, .string val]] w fun e w' => e = .returned (.bool (enOk ⟨k, cl, sq, ok, key, old, val⟩)) ∧ Ext w w' := by
  have HE := Lib.hid ((Ext.refl w).alloc (.cells #[.int .u8 (k : Int), .int .i64 cl, .int .i64 sq, .int .u8 (ok : Int), .string key, .string old, .string val] 27))
  have HT := Lib.hid (heap_alloc_new w (.cells #[.int .u8 (k : Int), .int .i64 cl, .int .i64 sq, .int .u8 (ok : Int), .string key, .string old, .string val] 27))
  have fin : ∀ x y : Bool, x = y → Ending.returned (Value.bool x) = .returned (.bool y) := fun x y h => by rw [h]
  by_cases h1 : k = 1
  · subst h1
    have hq := ent_eql_noop cl sq ok key old val
    have hg : Tryd.prog.eqGuardType Tryd.prog.depth 27 = false := by kernel_rfl
    go_enter Tryd.func16, Tryd.ntmps16
    go_wp2_with fail
    go_ret
    exact ⟨rfl, HE.out⟩
  have e1 : ((k : Int) == 1) = false := by rw [beq_eq_false_iff_ne]; omega
  by_cases h2 : k = 2
  · subst h2
    have HC := Lib.hid (enOk_two cl sq ok key old val)
    obtain ⟨q, hq⟩ : ∃ q, enOk ⟨2, cl, sq, ok, key, old, val⟩ = q := ⟨_, rfl⟩
    rw [hq] at HC ⊢
    clear hq e1 h1
    cases b1 : (decide (0 ≤ cl) && decide (cl ≤ 3)) <;> cases b2 : (decide (1 ≤ sq) && decide (sq ≤ 1099511627776)) <;> cases b3 : opOk ok key old val
    all_goals
      rw [b1, b2, b3] at HC
      have B1 := Lib.hid b1
      have B2 := Lib.hid b2
      have B3 := Lib.hid b3
      clear b1 b2 b3
      go_enter Tryd.func16, Tryd.ntmps16
      go_wp2_with fail
      refine (within_any _ _ _ _).mono ?_
      rw [B1.out]
      rintro e w1 ⟨rfl, rfl⟩
      go_wp2_with (refine (within_any _ _ _ _).mono ?_; rw [B2.out]; rintro e w1 ⟨rfl, rfl⟩)
      first
        | (go_ret; exact ⟨fin _ _ HC.out.symm, HE.out⟩)
        | (refine (mayOp_any _ _ _ _ _).mono ?_
           rw [B3.out]
           rintro e w2 ⟨rfl, hx⟩
           have hc := cell_of_row w2 w.heap.size 3 _ _ _ (heap_ext HT.out hx)
           have HE := Lib.hid (HE.out.trans hx)
           clear hx
           go_wp2_with fail
           go_ret
           refine ⟨fin _ _ ?_, HE.out⟩
           rw [HC.out]
           first
             | rfl
             | (simp only [Bool.true_and]; exact cast_ne_one _))
  · have e2 : ((k : Int) == 2) = false := by rw [beq_eq_false_iff_ne]; omega
    have HB : Hid (enOk ⟨k, cl, sq, ok, key, old, val⟩ = false) := Lib.hid (bad_of (by dsimp only; omega))
    clear h1 h2
    go_enter Tryd.func16, Tryd.ntmps16
    go_wp2_with fail
    go_ret
    exact ⟨fin _ _ HB.out.symm, HE.out⟩
end Go.Proofs.YtoapjgkfggggmaaDoor
