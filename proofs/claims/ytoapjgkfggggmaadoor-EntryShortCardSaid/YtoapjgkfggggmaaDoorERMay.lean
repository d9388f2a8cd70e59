/-
  The contracts of the document's MayOp and May of entries.
-/
import Derived.Test.YtoapjgkfggggmaaDoorEMay
namespace Go.Proofs.YtoapjgkfggggmaaDoor
open Go Go.RowKit

theorem opOk_part (k : Nat) (key old val : ByteArray) (h : ¬ ((key.size : Int) < 1) ∧ ¬ (8 < (key.size : Int)) ∧ ¬ (16 < (old.size : Int)) ∧ ¬ (16 < (val.size : Int))) :
    opOk k key old val = if k = 1 ∨ k = 3 then decide (old.size = 0) && decide (val.size = 0) else if k = 2 then decide (old.size = 0) else decide (k = 4) := by
  rw [Bool.eq_iff_iff, opOk_iff]
  by_cases h1 : k = 1 ∨ k = 3
  · rw [if_pos h1, Bool.and_eq_true, decide_eq_true_iff, decide_eq_true_iff]
    omega
  · rw [if_neg h1]
    by_cases h2 : k = 2
    · rw [if_pos h2, decide_eq_true_iff]
      omega
    · rw [if_neg h2, decide_eq_true_iff]
      omega
theorem opOk_far (k : Nat) (key old val : ByteArray) (h : ((key.size : Int) < 1) ∨ (8 < (key.size : Int)) ∨ (16 < (old.size : Int)) ∨ (16 < (val.size : Int))) : opOk k key old val = false := by
  rw [Bool.eq_false_iff]
  intro hk
  have := opOk_iff.1 hk
  omega
set_option maxRecDepth 100000 in
set_option maxHeartbeats 1000000 in
theorem rmayOp_any (k : Nat) (key old val : ByteArray) (w : World) :
    Calls Tryd.prog 15 #[.agg #[.int .u8 (k : Int), .string key, .string old, .string val]] w fun e w' => e = .returned (.bool (opOk k key old val)) ∧ Ext w w' := by
  have HE := Lib.hid ((Ext.refl w).alloc (.cells #[.int .u8 (k : Int), .string key, .string old, .string val] 25))
  have fin : ∀ x y : Bool, x = y → Ending.returned (Value.bool x) = .returned (.bool y) := fun x y h => by rw [h]
  obtain ⟨r, hr⟩ : ∃ r, opOk k key old val = r := ⟨_, rfl⟩
  rw [hr]
  by_cases hf : ((key.size : Int) < 1) ∨ (8 < (key.size : Int)) ∨ (16 < (old.size : Int)) ∨ (16 < (val.size : Int))
  · have HF : Hid (r = false) := Lib.hid (by rw [← hr]; exact opOk_far k key old val hf)
    clear hr
    by_cases q1 : (key.size : Int) < 1
    · clear hf
      go_enter Tryd.func15, Tryd.ntmps15
      go_wp2_with fail
      go_ret
      exact ⟨fin _ _ HF.out.symm, HE.out⟩
    by_cases q2 : 8 < (key.size : Int)
    · clear hf
      go_enter Tryd.func15, Tryd.ntmps15
      go_wp2_with fail
      go_ret
      exact ⟨fin _ _ HF.out.symm, HE.out⟩
    by_cases q3 : 16 < (old.size : Int)
    · clear hf
      go_enter Tryd.func15, Tryd.ntmps15
      go_wp2_with fail
      go_ret
      exact ⟨fin _ _ HF.out.symm, HE.out⟩
    have q4 : 16 < (val.size : Int) := by omega
    clear hf
    go_enter Tryd.func15, Tryd.ntmps15
    go_wp2_with fail
    go_ret
    exact ⟨fin _ _ HF.out.symm, HE.out⟩
  · have hp := opOk_part k key old val (by omega)
    rw [hr] at hp
    obtain ⟨q1, q2, q3, q4⟩ : ¬ ((key.size : Int) < 1) ∧ ¬ (8 < (key.size : Int)) ∧ ¬ (16 < (old.size : Int)) ∧ ¬ (16 < (val.size : Int)) := by omega
    clear hf hr
    have eo := str_empty old
    have ev := str_empty val
    by_cases h1 : k = 1
    · subst h1
      rw [if_pos (.inl rfl), ← eo, ← ev] at hp
      have HP := Lib.hid hp
      clear hp eo ev
      cases b1 : old.toList.isEmpty <;> cases b2 : val.toList.isEmpty
      all_goals
        rw [b1, b2] at HP
        go_enter Tryd.func15, Tryd.ntmps15
        go_wp2_with fail
        go_ret
        exact ⟨fin _ _ HP.out.symm, HE.out⟩
    by_cases h3 : k = 3
    · subst h3
      rw [if_pos (.inr rfl), ← eo, ← ev] at hp
      have HP := Lib.hid hp
      clear hp eo ev h1
      cases b1 : old.toList.isEmpty <;> cases b2 : val.toList.isEmpty
      all_goals
        rw [b1, b2] at HP
        go_enter Tryd.func15, Tryd.ntmps15
        go_wp2_with fail
        go_ret
        exact ⟨fin _ _ HP.out.symm, HE.out⟩
    rw [if_neg (by omega)] at hp
    by_cases h2 : k = 2
    · subst h2
      rw [if_pos rfl, ← eo] at hp
      have HP := Lib.hid hp
      clear hp eo ev h1 h3
      cases b1 : old.toList.isEmpty
      all_goals
        rw [b1] at HP
        go_enter Tryd.func15, Tryd.ntmps15
        go_wp2_with fail
        go_ret
        exact ⟨fin _ _ HP.out.symm, HE.out⟩
    rw [if_neg h2] at hp
    have e1 : ((k : Int) == 1) = false := by rw [beq_eq_false_iff_ne]; omega
    have e2 : ((k : Int) == 2) = false := by rw [beq_eq_false_iff_ne]; omega
    have e3 : ((k : Int) == 3) = false := by rw [beq_eq_false_iff_ne]; omega
    by_cases h4 : k = 4
    · subst h4
      have HP : Hid (r = true) := Lib.hid (by rw [hp]; rfl)
      clear hp eo ev h1 h2 h3 e1 e2 e3
      go_enter Tryd.func15, Tryd.ntmps15
      go_wp2_with fail
      go_ret
      exact ⟨fin _ _ HP.out.symm, HE.out⟩
    · have e4 : ((k : Int) == 4) = false := by rw [beq_eq_false_iff_ne]; omega
      have HP : Hid (r = false) := Lib.hid (by rw [hp]; exact decide_eq_false h4)
      clear hp eo ev h1 h2 h3 h4
      go_enter Tryd.func15, Tryd.ntmps15
      go_wp2_with fail
      go_ret
      exact ⟨fin _ _ HP.out.symm, HE.out⟩
set_option maxRecDepth 100000 in
set_option maxHeartbeats 1000000 in
theorem rmay_any (k : Nat) (cl sq : Int) (ok : Nat) (key old val : ByteArray) (w : World) :
    Calls Tryd.prog 17 #[.agg #[.int .u8 (k : Int), .int .i64 cl, .int .i64 sq, .int .u8 (ok : Int), .string key, .string old, .string val]] w fun e w' => e = .returned (.bool (enOk ⟨k, cl, sq, ok, key, old, val⟩)) ∧ Ext w w' := by
  have HE := Lib.hid ((Ext.refl w).alloc (.cells #[.int .u8 (k : Int), .int .i64 cl, .int .i64 sq, .int .u8 (ok : Int), .string key, .string old, .string val] 27))
  have HT := Lib.hid (heap_alloc_new w (.cells #[.int .u8 (k : Int), .int .i64 cl, .int .i64 sq, .int .u8 (ok : Int), .string key, .string old, .string val] 27))
  have fin : ∀ x y : Bool, x = y → Ending.returned (Value.bool x) = .returned (.bool y) := fun x y h => by rw [h]
  have hz := op_eql_zero ok key old val
  have hg : Tryd.prog.eqGuardType Tryd.prog.depth 25 = false := by kernel_rfl
  obtain ⟨z, hzz⟩ : ∃ z, decide (ok = 0 ∧ key.size = 0 ∧ old.size = 0 ∧ val.size = 0) = z := ⟨_, rfl⟩
  rw [hzz] at hz
  obtain ⟨q, hq⟩ : ∃ q, enOk ⟨k, cl, sq, ok, key, old, val⟩ = q := ⟨_, rfl⟩
  rw [hq]
  by_cases h1 : k = 1
  · subst h1
    have hc : q = ((cl == 0) && ((sq == 0) && z)) := by
      rw [← hq, ← hzz, Bool.eq_iff_iff, enOk_iff, Bool.and_eq_true, Bool.and_eq_true, beq_iff_eq, beq_iff_eq, decide_eq_true_iff]
      dsimp only
      omega
    have HC := Lib.hid hc
    clear hc hq hzz
    cases b1 : (cl == 0) <;> cases b2 : (sq == 0)
    all_goals
      rw [b1, b2] at HC
      go_enter Tryd.func17, Tryd.ntmps17
      go_wp2_with fail
      go_ret
      exact ⟨fin _ _ HC.out.symm, HE.out⟩
  have e1 : ((k : Int) == 1) = false := by rw [beq_eq_false_iff_ne]; omega
  by_cases h2 : k = 2
  · subst h2
    have HC := Lib.hid (enOk_two cl sq ok key old val)
    rw [hq] at HC
    clear hq hzz h1 e1
    have hcase : (decide (0 ≤ cl) = false) ∨ (decide (0 ≤ cl) = true ∧ decide (cl ≤ 3) = false) ∨ (decide (0 ≤ cl) = true ∧ decide (cl ≤ 3) = true ∧ decide (1 ≤ sq) = false) ∨ (decide (0 ≤ cl) = true ∧ decide (cl ≤ 3) = true ∧ decide (1 ≤ sq) = true ∧ decide (sq ≤ 1099511627776) = false) ∨ (decide (0 ≤ cl) = true ∧ decide (cl ≤ 3) = true ∧ decide (1 ≤ sq) = true ∧ decide (sq ≤ 1099511627776) = true) := by
      cases decide (0 ≤ cl) <;> cases decide (cl ≤ 3) <;> cases decide (1 ≤ sq) <;> cases decide (sq ≤ 1099511627776) <;> simp
    cases b1 : (cl == 0) <;> cases b2 : (sq == 0) <;> rcases hcase with c1 | ⟨c1, c2⟩ | ⟨c1, c2, d1⟩ | ⟨c1, c2, d1, d2⟩ | ⟨c1, c2, d1, d2⟩
    all_goals first
      | (rw [c1, c2, d1, d2] at HC
         go_enter Tryd.func17, Tryd.ntmps17
         go_wp2_with fail
         first
           | (go_ret; exact ⟨fin _ _ (by rw [HC.out]; rfl), HE.out⟩)
           | (refine (rmayOp_any _ _ _ _ _).mono ?_
              rintro e w2 ⟨rfl, hx⟩
              have hc := cell_of_row w2 w.heap.size 3 _ _ _ (heap_ext HT.out hx)
              have HE := Lib.hid (HE.out.trans hx)
              clear hx
              cases b3 : opOk ok key old val
              all_goals
                rw [b3] at HC
                go_wp2_with fail
                go_ret
                refine ⟨fin _ _ ?_, HE.out⟩
                rw [HC.out]
                first
                  | rfl
                  | (simp only [Bool.true_and]; exact cast_ne_one _)))
      | (have HF : Hid (q = false) := Lib.hid (by rw [HC.out]; first | (rw [c1, c2, d1]; simp; done) | (rw [c1, c2]; simp; done) | (rw [c1]; simp; done))
         go_enter Tryd.func17, Tryd.ntmps17
         go_wp2_with fail
         go_ret
         exact ⟨fin _ _ HF.out.symm, HE.out⟩)
  · have e2 : ((k : Int) == 2) = false := by rw [beq_eq_false_iff_ne]; omega
    have HB : Hid (q = false) := Lib.hid (by rw [← hq]; exact bad_of (by dsimp only; omega))
    clear h1 h2 hq hzz
    cases b1 : (cl == 0) <;> cases b2 : (sq == 0)
    all_goals
      go_enter Tryd.func17, Tryd.ntmps17
      go_wp2_with fail
      go_ret
      exact ⟨fin _ _ HB.out.symm, HE.out⟩
end Go.Proofs.YtoapjgkfggggmaaDoor
