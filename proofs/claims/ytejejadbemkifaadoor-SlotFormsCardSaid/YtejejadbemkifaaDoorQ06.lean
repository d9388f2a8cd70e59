/-
  The contracts of the document's own Copy and Same, in the words 'By' (a slice that reads as bytes) and 'Ext' (nothing that was there is written).
  The contracts of entry's small functions: isWithin, mayBallot, limits, texts and its methods.
  The contract of entry's MayOp.
  Entries and operations compared with what is blank; the contract of entry's May.
  The contract of Join in the words 'By' (a slice that reads as bytes) and 'Ext' (nothing that was there is written).
  The contracts of Text and Join, in the words 'By' (a slice that reads as bytes) and 'Ext' (nothing that was there is written).
-/
import Derived.Test.YtejejadbemkifaaDoorQ01
import Derived.Test.YtejejadbemkifaaDoorQ05
import Derived.Deep.RegionHeld3
import Derived.Laws.EntriesVeiled
namespace Go.Proofs.YtejejadbemkifaaDoor
set_option maxRecDepth 100000
open Go Go.RowKit

theorem same_by (A A' : Option Addr) (l l' : List Nat) (n n' c c' : Nat) (w : World) (hb : By w A n c l) (hb' : By w A' n' c' l') :
    Calls Tryd.prog 10 #[.slice A n c, .slice A' n' c'] w fun e w' => e = .returned (.bool (decide (l = l'))) ∧ Ext w w' :=
  (same_any A A' l l' n n' c c' _ w hb.len hb'.len hb.rd hb'.rd (by have := hb.cap; have := hb.most; unfold maxLen; omega)).mono fun _ _ ⟨h, k, hk⟩ => ⟨h, by subst hk; exact (Ext.refl _).drewN k⟩

theorem copy_by (A : Option Addr) (l : List Nat) (n c : Nat) (w : World) (hb : By w A n c l) (hm : n ≤ 140737488355328) :
    Calls Tryd.prog 5 #[.slice A n c] w fun e w' => ∃ A' c', e = .returned (.slice A' n c') ∧ By w' A' n c' l ∧ Ext w w' ∧ w'.ownsRow w.heap.size 5 1 (.slice A' n c') n (vb l) :=
  (copy_any A l n c _ w hb.len hb.rd (Bs.nil_ hb) hm).mono fun _ _ ⟨A', c', h1, _, _, h4, h5⟩ => ⟨A', c', h1, Bs.of_own h4 hb.rd.lt, h5, h4⟩
/-- A literal of bytes that the call has just made out of a constant text. -/
theorem By.litm (w : World) (l : List Nat) (t : TypeId) (fr : Nat × Nat) (hb : ∀ b ∈ l, b < 256) (hm : l.length ≤ 9223372036854775807) (cs : Array Value) (hcs : cs = (vb l).toArray) : By (w.alloc (.cells cs t fr)) (some ⟨w.heap.size, 0, none⟩) l.length l.length l := by
  subst hcs
  exact By.of_row (heap_alloc_new w _) (fun j x hx => vb_at hx) hb rfl (Nat.le_refl _) hm
/-- The second of two literals of bytes that the call has just made. -/
theorem By.lit2 (w : World) (o : Obj) (l : List Nat) (t : TypeId) (hb : ∀ b ∈ l, b < 256) (hm : l.length ≤ 9223372036854775807) (cs : Array Value) (hcs : cs = (vb l).toArray) : By ((w.alloc o).alloc (.cells cs t)) (some ⟨w.heap.size + 1, 0, none⟩) l.length l.length l := by
  rw [show w.heap.size + 1 = (w.alloc o).heap.size from by simp]
  exact By.lit _ l t hb hm cs hcs
end Go.Proofs.YtejejadbemkifaaDoor

namespace Go.Proofs.YtejejadbemkifaaDoor
set_option maxRecDepth 100000
open Go Go.RowKit

theorem within_any (a n b : Int) (w : World) :
    Calls Tryd.prog 35 #[.int .i64 a, .int .i64 n, .int .i64 b] w fun e w' => e = .returned (.bool (decide (a ≤ n) && decide (n ≤ b))) ∧ w' = w := by
  cases h1 : decide (a ≤ n) <;> cases h2 : decide (n ≤ b)
  all_goals
    go_enter Tryd.func35, Tryd.ntmps35
    go_wp2_with fail
    go_ret
    exact ⟨rfl, rfl⟩
/-- The most that a kind's texts may have. -/
def limK (k : Nat) : Int := if 1 ≤ k ∧ k ≤ 4 then 8 else 0
def limO (k : Nat) : Int := if k = 4 then 16 else 0
def limV (k : Nat) : Int := if k = 4 ∨ k = 2 then 16 else 0
set_option maxHeartbeats 600000 in
theorem limits_any (k : Nat) (w : World) :
    Calls Tryd.prog 56 #[.int .u8 (k : Int)] w fun e w' => e = .returned (.agg #[.int .i64 (limK k), .int .i64 (limO k), .int .i64 (limV k)]) ∧ Ext w w' := by
  by_cases h4 : k = 4
  · subst h4
    try clear h4
    try clear h2
    try clear h1
    go_enter Tryd.func56, Tryd.ntmps56
    go_wp2_with fail
    refine bodyPost_ret (v := .agg #[.int .i64 8, .int .i64 16, .int .i64 16]) ?_ rfl ⟨rfl, (Ext.refl w).alloc _⟩
    simp [results, Tryd.results56, go_sem]
  by_cases h2 : k = 2
  · subst h2
    try clear h4
    try clear h2
    try clear h1
    go_enter Tryd.func56, Tryd.ntmps56
    go_wp2_with fail
    refine bodyPost_ret (v := .agg #[.int .i64 8, .int .i64 0, .int .i64 16]) ?_ rfl ⟨rfl, (Ext.refl w).alloc _⟩
    simp [results, Tryd.results56, go_sem]
  by_cases h1 : k = 1
  · subst h1
    try clear h4
    try clear h2
    try clear h1
    go_enter Tryd.func56, Tryd.ntmps56
    go_wp2_with fail
    refine bodyPost_ret (v := .agg #[.int .i64 8, .int .i64 0, .int .i64 0]) ?_ rfl ⟨rfl, (Ext.refl w).alloc _⟩
    simp [results, Tryd.results56, go_sem]
  by_cases h3 : k = 3
  · subst h3
    try clear h4
    try clear h2
    try clear h1
    go_enter Tryd.func56, Tryd.ntmps56
    go_wp2_with fail
    refine bodyPost_ret (v := .agg #[.int .i64 8, .int .i64 0, .int .i64 0]) ?_ rfl ⟨rfl, (Ext.refl w).alloc _⟩
    simp [results, Tryd.results56, go_sem]
  · have e1 : limK k = 0 := if_neg (by omega)
    have e2 : limO k = 0 := if_neg (by omega)
    have e3 : limV k = 0 := if_neg (by omega)
    rw [e1, e2, e3]
    have g4 : ((k : Int) == 4) = false := by rw [beq_eq_false_iff_ne]; omega
    have g2 : ((k : Int) == 2) = false := by rw [beq_eq_false_iff_ne]; omega
    have g1 : ((k : Int) == 1) = false := by rw [beq_eq_false_iff_ne]; omega
    have g3 : ((k : Int) == 3) = false := by rw [beq_eq_false_iff_ne]; omega
    clear e1 e2 e3 h4 h2 h1 h3
    go_enter Tryd.func56, Tryd.ntmps56
    go_wp2_with fail
    refine bodyPost_ret (v := .agg #[.int .i64 0, .int .i64 0, .int .i64 0]) ?_ rfl ⟨rfl, (Ext.refl w).alloc _⟩
    simp [results, Tryd.results56, go_sem]
theorem texts_any (w : World) :
    Calls Tryd.prog 50 #[] w fun e w' => e = .returned (.agg #[.func (.func 57) #[] #[], .func (.func 58) #[] #[], .func (.func 59) #[] #[]]) ∧ Ext w w' := by
  go_enter Tryd.func50, Tryd.ntmps50
  go_wp2_with fail
  refine bodyPost_ret (v := .agg #[.func (.func 57) #[] #[], .func (.func 58) #[] #[], .func (.func 59) #[] #[]]) ?_ rfl ⟨rfl, (Ext.refl w).alloc _⟩
  simp [results, Tryd.results50, go_sem]
theorem texts_at0 (w : World) : (Instr.index 91 (.agg #[.func (.func 57) #[] #[], .func (.func 58) #[] #[], .func (.func 59) #[] #[]]) (.int .i64 0)).run Tryd.prog w = .ok (.func (.func 57) #[] #[]) w := by show _ = _; kernel_rfl
theorem texts_at1 (w : World) : (Instr.index 91 (.agg #[.func (.func 57) #[] #[], .func (.func 58) #[] #[], .func (.func 59) #[] #[]]) (.int .i64 1)).run Tryd.prog w = .ok (.func (.func 58) #[] #[]) w := by show _ = _; kernel_rfl
theorem texts_at2 (w : World) : (Instr.index 91 (.agg #[.func (.func 57) #[] #[], .func (.func 58) #[] #[], .func (.func 59) #[] #[]]) (.int .i64 2)).run Tryd.prog w = .ok (.func (.func 59) #[] #[]) w := by show _ = _; kernel_rfl
theorem key_of (g : Nat) (w : World) :
    Calls Tryd.prog 57 #[.pointer (some ⟨g, 0, none⟩)] w fun e w' => e = .returned (.pointer (some ⟨g, 1, none⟩)) ∧ w' = w := by
  go_enter Tryd.func57, Tryd.ntmps57
  go_wp2_with fail
  go_ret
  exact ⟨rfl, rfl⟩
theorem old_of (g : Nat) (w : World) :
    Calls Tryd.prog 58 #[.pointer (some ⟨g, 0, none⟩)] w fun e w' => e = .returned (.pointer (some ⟨g, 2, none⟩)) ∧ w' = w := by
  go_enter Tryd.func58, Tryd.ntmps58
  go_wp2_with fail
  go_ret
  exact ⟨rfl, rfl⟩
theorem val_of (g : Nat) (w : World) :
    Calls Tryd.prog 59 #[.pointer (some ⟨g, 0, none⟩)] w fun e w' => e = .returned (.pointer (some ⟨g, 3, none⟩)) ∧ w' = w := by
  go_enter Tryd.func59, Tryd.ntmps59
  go_wp2_with fail
  go_ret
  exact ⟨rfl, rfl⟩
set_option maxHeartbeats 600000 in
theorem mayBallot_any (x y : Int) (w : World) :
    Calls Tryd.prog 29 #[.agg #[.int .i64 x, .int .i64 y]] w fun e w' => e = .returned (.bool (balE x y)) ∧ Ext w w' := by
  have HE := Lib.hid ((Ext.refl w).alloc (.cells #[.int .i64 x, .int .i64 y] 23))
  have hb : balE x y = ((decide (1 ≤ x) && decide (x ≤ 1099511627776)) && (decide (0 ≤ y) && decide (y ≤ 6))) := by
    rw [Bool.eq_iff_iff, balE_iff]
    simp [and_assoc]
  have HB := Lib.hid hb
  rw [hb]
  clear hb
  cases h1 : (decide (1 ≤ x) && decide (x ≤ 1099511627776))
  all_goals
    have H1 := Lib.hid h1
    clear h1
    go_enter Tryd.func29, Tryd.ntmps29
    go_wp2_with fail
    refine (within_any _ _ _ _).mono ?_
    rw [H1.out]
    rintro e w1 ⟨rfl, rfl⟩
    go_wp2_with (refine (within_any _ _ _ _).mono ?_; rintro e w1 ⟨rfl, rfl⟩)
    go_ret
    exact ⟨rfl, HE.out⟩
end Go.Proofs.YtejejadbemkifaaDoor

namespace Go.Proofs.YtejejadbemkifaaDoor
set_option maxRecDepth 100000
open Go Go.RowKit

theorem str_empty (s : ByteArray) : s.toList.isEmpty = decide (s.size = 0) := by
  rw [ByteArray.toList_eq]
  obtain ⟨⟨l⟩⟩ := s
  cases l with
  | nil => rfl
  | cons x r =>
    have h : ¬ (ByteArray.size ⟨⟨x :: r⟩⟩ = 0) := fun h => by cases h
    rw [decide_eq_false h]
    rfl
theorem str_ne_empty (s : ByteArray) : (!s.toList.isEmpty) = decide (s.size ≠ 0) := by
  rw [str_empty]
  by_cases h : s.size = 0 <;> simp [h]
theorem opOk_big {k : Nat} {key old val : ByteArray} (h : limK k < key.size ∨ limO k < old.size ∨ limV k < val.size) : opOk k key old val = false := by
  rw [Bool.eq_false_iff]
  intro hk
  have := opOk_iff.1 hk
  unfold limK limO limV at h
  split at h <;> split at h <;> split at h <;> omega
theorem opOk_not_big {k : Nat} {key old val : ByteArray} (h : ¬ (limK k < key.size ∨ limO k < old.size ∨ limV k < val.size)) : opOk k key old val = decide (key.size ≠ 0) := by
  rw [Bool.eq_iff_iff, opOk_iff, decide_eq_true_iff]
  unfold limK limO limV at h
  split at h <;> split at h <;> split at h <;> omega
theorem four_cells {w : World} {g : Nat} {x0 x1 x2 x3 : Value} {t : TypeId} (h : w.heap[g]? = some (.cells #[x0, x1, x2, x3] t (0, 0))) :
    w.cell? ⟨g, 0, none⟩ = some x0 ∧ w.cell? ⟨g, 1, none⟩ = some x1 ∧ w.cell? ⟨g, 2, none⟩ = some x2 ∧ w.cell? ⟨g, 3, none⟩ = some x3 :=
  ⟨cell_of_row w g 0 _ _ _ h, cell_of_row w g 1 _ _ _ h, cell_of_row w g 2 _ _ _ h, cell_of_row w g 3 _ _ _ h⟩
theorem three_cellsE {w : World} {g : Nat} {x0 x1 x2 : Value} {t : TypeId} (h : w.heap[g]? = some (.cells #[x0, x1, x2] t (0, 0))) :
    w.cell? ⟨g, 0, none⟩ = some x0 ∧ w.cell? ⟨g, 1, none⟩ = some x1 ∧ w.cell? ⟨g, 2, none⟩ = some x2 :=
  ⟨cell_of_row w g 0 _ _ _ h, cell_of_row w g 1 _ _ _ h, cell_of_row w g 2 _ _ _ h⟩
theorem heap_ext {w w' : World} {g : Nat} {o : Obj} (h : w.heap[g]? = some o) (k : Ext w w') : w'.heap[g]? = some o := (k.block g (Array.getElem?_eq_some_iff.1 h).1).trans h
set_option maxRecDepth 100000 in
set_option maxHeartbeats 1000000 in
theorem mayOp_any (k : Nat) (key old val : ByteArray) (w : World) :
    Calls Tryd.prog 49 #[.agg #[.int .u8 (k : Int), .string key, .string old, .string val]] w fun e w' => e = .returned (.bool (opOk k key old val)) ∧ Ext w w' := by
  have HE := Lib.hid ((Ext.refl w).alloc (.cells #[.int .u8 (k : Int), .string key, .string old, .string val] 49))
  have HT := Lib.hid (heap_alloc_new w (.cells #[.int .u8 (k : Int), .string key, .string old, .string val] 49))
  obtain ⟨a, ha⟩ : ∃ a, limK k = a := ⟨_, rfl⟩
  obtain ⟨b, hb⟩ : ∃ b, limO k = b := ⟨_, rfl⟩
  obtain ⟨c, hc⟩ : ∃ c, limV k = c := ⟨_, rfl⟩
  obtain ⟨r, hr⟩ : ∃ r, opOk k key old val = r := ⟨_, rfl⟩
  rw [hr]
  have HL := Lib.hid (limits_any k)
  rw [ha, hb, hc] at HL
  have fin : ∀ x y : Bool, x = y → Ending.returned (Value.bool x) = .returned (.bool y) := fun x y h => by rw [h]
  go_enter Tryd.func49, Tryd.ntmps49
  go_wp2_with fail
  refine (HL.out _).mono ?_
  rintro e w1 ⟨rfl, hx⟩
  have hT := heap_ext HT.out hx
  have HE := Lib.hid (HE.out.trans hx)
  have hx2 := (Ext.refl w1).alloc (.cells #[.int .i64 a, .int .i64 b, .int .i64 c] 39)
  have HM := Lib.hid (heap_alloc_new w1 (.cells #[.int .i64 a, .int .i64 b, .int .i64 c] 39))
  have HT := Lib.hid (heap_ext hT hx2)
  obtain ⟨i0, i1, i2, i3⟩ := four_cells HT.out
  have HE := Lib.hid (HE.out.trans hx2)
  clear hx hT hx2
  go_wp2_with fail
  have hsz : (w1.alloc (.cells #[.int .i64 a, .int .i64 b, .int .i64 c] 39)).heap.size = w1.heap.size + 1 := by simp
  generalize (w1.alloc (.cells #[.int .i64 a, .int .i64 b, .int .i64 c] 39)) = w2 at *
  have HF := Lib.hid (heap_alloc_new w2 (.cells #[.int .u8 (k : Int), .string key, .string old, .string val] 89))
  have hsz : w2.heap.size = w1.heap.size + 1 := by assumption
  rw [hsz] at HF
  refine (texts_any _).mono ?_
  rintro e w3 ⟨rfl, hx⟩
  have hx2 := ((Ext.refl w2).alloc (.cells #[.int .u8 (k : Int), .string key, .string old, .string val] 89)).trans hx
  have hF := heap_ext HF.out hx
  have hM := heap_ext HM.out hx2
  have hO := heap_ext HT.out hx2
  have HE := Lib.hid (HE.out.trans hx2)
  clear i0 i1 i2 i3 hx hx2
  obtain ⟨f0, f1, f2, f3⟩ := four_cells hF
  obtain ⟨m0, m1, m2⟩ := three_cellsE hM
  obtain ⟨_, o1, _, _⟩ := four_cells hO
  clear hF hM hO f0
  have t0 := texts_at0
  have t1 := texts_at1
  have t2 := texts_at2
  go_wp2_with fail
  refine wp_loop_rounds 4 ?_
  rw [rounds_succ]
  go_wp2_with fail
  go_region_held3 (fun w' => w'.cell? ⟨w1.heap.size + 1, 1, none⟩ = some (.string key) ∧ w'.cell? ⟨w1.heap.size, 0, none⟩ = some (.int .i64 a))
    (first | with_reducible exact ⟨f1, m0⟩ | go_keep)
    (first
      | (go_at_call 57; ((with_reducible refine (key_of _ _).mono ?_); rintro r w' ⟨rfl, rfl⟩)))
  by_cases q : a < (key.size : Int)
  · have HRF : Hid (r = false) := Lib.hid (by rw [← hr]; exact opOk_big (.inl (by omega)))
    clear ha hb hc hr
    go_wp2_with fail
    go_ret
    exact ⟨fin _ _ HRF.out.symm, by first | exact HE.out.drew | exact HE.out.drew.drew | exact HE.out.drew.drew.drew⟩
  have q0 := q
  clear q
  go_wp2_with fail
  rw [rounds_succ]
  go_wp2_with fail
  go_region_held3 (fun w' => w'.cell? ⟨w1.heap.size + 1, 2, none⟩ = some (.string old) ∧ w'.cell? ⟨w1.heap.size, 1, none⟩ = some (.int .i64 b))
    (first | with_reducible exact ⟨f2, m1⟩ | go_keep)
    (first
      | (go_at_call 58; ((with_reducible refine (old_of _ _).mono ?_); rintro r w' ⟨rfl, rfl⟩)))
  by_cases q : b < (old.size : Int)
  · have HRF : Hid (r = false) := Lib.hid (by rw [← hr]; exact opOk_big (.inr (.inl (by omega))))
    clear ha hb hc hr
    go_wp2_with fail
    go_ret
    exact ⟨fin _ _ HRF.out.symm, by first | exact HE.out.drew | exact HE.out.drew.drew | exact HE.out.drew.drew.drew⟩
  have q1 := q
  clear q
  go_wp2_with fail
  rw [rounds_succ]
  go_wp2_with fail
  go_region_held3 (fun w' => w'.cell? ⟨w1.heap.size + 1, 3, none⟩ = some (.string val) ∧ w'.cell? ⟨w1.heap.size, 2, none⟩ = some (.int .i64 c))
    (first | with_reducible exact ⟨f3, m2⟩ | go_keep)
    (first
      | (go_at_call 59; ((with_reducible refine (val_of _ _).mono ?_); rintro r w' ⟨rfl, rfl⟩)))
  by_cases q : c < (val.size : Int)
  · have HRF : Hid (r = false) := Lib.hid (by rw [← hr]; exact opOk_big (.inr (.inr (by omega))))
    clear ha hb hc hr
    go_wp2_with fail
    go_ret
    exact ⟨fin _ _ HRF.out.symm, by first | exact HE.out.drew | exact HE.out.drew.drew | exact HE.out.drew.drew.drew⟩
  have q2 := q
  clear q
  go_wp2_with fail
  rw [rounds_succ]
  go_wp2_with fail
  go_ret
  refine ⟨fin _ _ ?_, HE.out.drew.drew.drew⟩
  rw [← hr, opOk_not_big (by rw [ha, hb, hc]; omega)]
  exact str_ne_empty key
end Go.Proofs.YtejejadbemkifaaDoor

namespace Go.Proofs.YtejejadbemkifaaDoor
set_option maxRecDepth 100000
open Go Go.RowKit

theorem toList_nil (s : ByteArray) : s.toList = [] ↔ s.size = 0 := by
  rw [← List.isEmpty_iff, str_empty, decide_eq_true_iff]
theorem ent_eql_noop (cl sq : Int) (ok : Nat) (key old val : ByteArray) (w : World) :
    (binOp .eql 51 (.agg #[.int .u8 1, .int .i64 cl, .int .i64 sq, .int .u8 (ok : Int), .string key, .string old, .string val]) (.agg #[.int .u8 1, .int .i64 0, .int .i64 0, .int .u8 0, .string ⟨#[]⟩, .string ⟨#[]⟩, .string ⟨#[]⟩])).run Tryd.prog w = .ok (.bool (enOk ⟨1, cl, sq, ok, key, old, val⟩)) w := by
  obtain ⟨r, hr⟩ : ∃ r, enOk ⟨1, cl, sq, ok, key, old, val⟩ = r := ⟨_, rfl⟩
  rw [hr]
  have hf : Tryd.prog.stoodInHeld 51 = false := by kernel_rfl
  have hu := Tryd.underlying51
  have hu2 := Tryd.underlying49
  rw [run_eql_struct, run_equalIn_agg _ _ _ _ _ (by rw [Program.fieldsOf, hu]) hf, Program.fieldsOf, hu]
  simp [Op.eqFields, go_sem]
  simp only [toList_nil]
  have hb : ∀ b : Bool, enOk ⟨1, cl, sq, ok, key, old, val⟩ = b → Result.ok (α := Value) (Value.bool b) w = Result.ok (Value.bool r) w := fun b h => by rw [← h, hr]
  by_cases h1 : cl = 0
  · by_cases h2 : sq = 0
    · by_cases h3 : ok = 0
      · by_cases h4 : key.size = 0
        · by_cases h5 : old.size = 0
          · by_cases h6 : val.size = 0
            · rw [if_pos h1, if_pos h2, if_pos h3, if_pos h4, if_pos h5, if_pos h6]
              exact hb _ (enOk_iff.2 (.inl ⟨rfl, h1, h2, h3, h4, h5, h6⟩))
            · rw [if_pos h1, if_pos h2, if_pos h3, if_pos h4, if_pos h5, if_neg h6]
              exact hb _ (bad_of (by dsimp only; omega))
          · rw [if_pos h1, if_pos h2, if_pos h3, if_pos h4, if_neg h5]
            exact hb _ (bad_of (by dsimp only; omega))
        · rw [if_pos h1, if_pos h2, if_pos h3, if_neg h4]
          exact hb _ (bad_of (by dsimp only; omega))
      · rw [if_pos h1, if_pos h2, if_neg h3]
        exact hb _ (bad_of (by dsimp only; omega))
    · rw [if_pos h1, if_neg h2]
      exact hb _ (bad_of (by dsimp only; omega))
  · rw [if_neg h1]
    exact hb _ (bad_of (by dsimp only; omega))
theorem op_eql_zero (ok : Nat) (key old val : ByteArray) (w : World) :
    (binOp .eql 49 (.agg #[.int .u8 (ok : Int), .string key, .string old, .string val]) (.agg #[.int .u8 0, .string ⟨#[]⟩, .string ⟨#[]⟩, .string ⟨#[]⟩])).run Tryd.prog w = .ok (.bool (decide (ok = 0 ∧ key.size = 0 ∧ old.size = 0 ∧ val.size = 0))) w := by
  obtain ⟨r, hr⟩ : ∃ r, decide (ok = 0 ∧ key.size = 0 ∧ old.size = 0 ∧ val.size = 0) = r := ⟨_, rfl⟩
  rw [hr]
  have hf : Tryd.prog.stoodInHeld 49 = false := by kernel_rfl
  have hu2 := Tryd.underlying49
  rw [run_eql_struct, run_equalIn_agg _ _ _ _ _ (by rw [Program.fieldsOf, hu2]) hf, Program.fieldsOf, hu2]
  simp [Op.eqFields, go_sem]
  simp only [toList_nil]
  have hb : ∀ b : Bool, decide (ok = 0 ∧ key.size = 0 ∧ old.size = 0 ∧ val.size = 0) = b → Result.ok (α := Value) (Value.bool b) w = Result.ok (Value.bool r) w := fun b h => by rw [← h, hr]
  by_cases h3 : ok = 0
  · by_cases h4 : key.size = 0
    · by_cases h5 : old.size = 0
      · by_cases h6 : val.size = 0
        · rw [if_pos h3, if_pos h4, if_pos h5, if_pos h6]
          exact hb _ (decide_eq_true ⟨h3, h4, h5, h6⟩)
        · rw [if_pos h3, if_pos h4, if_pos h5, if_neg h6]
          exact hb _ (decide_eq_false (by omega))
      · rw [if_pos h3, if_pos h4, if_neg h5]
        exact hb _ (decide_eq_false (by omega))
    · rw [if_pos h3, if_neg h4]
      exact hb _ (decide_eq_false (by omega))
  · rw [if_neg h3]
    exact hb _ (decide_eq_false (by omega))
/-- An entry is as itself. -/
theorem ent_eql_self (k : Nat) (cl sq : Int) (ok : Nat) (key old val : ByteArray) (w : World) :
    (binOp .eql 51 (.agg #[.int .u8 (k : Int), .int .i64 cl, .int .i64 sq, .int .u8 (ok : Int), .string key, .string old, .string val]) (.agg #[.int .u8 (k : Int), .int .i64 cl, .int .i64 sq, .int .u8 (ok : Int), .string key, .string old, .string val])).run Tryd.prog w = .ok (.bool true) w := by
  have hf : Tryd.prog.stoodInHeld 51 = false := by kernel_rfl
  have hu := Tryd.underlying51
  have hu2 := Tryd.underlying49
  rw [run_eql_struct, run_equalIn_agg _ _ _ _ _ (by rw [Program.fieldsOf, hu]) hf, Program.fieldsOf, hu]
  simp [Op.eqFields, go_sem]
theorem ent_neq_self (k : Nat) (cl sq : Int) (ok : Nat) (key old val : ByteArray) (w : World) :
    (binOp .neq 51 (.agg #[.int .u8 (k : Int), .int .i64 cl, .int .i64 sq, .int .u8 (ok : Int), .string key, .string old, .string val]) (.agg #[.int .u8 (k : Int), .int .i64 cl, .int .i64 sq, .int .u8 (ok : Int), .string key, .string old, .string val])).run Tryd.prog w = .ok (.bool false) w := by
  have hf : Tryd.prog.stoodInHeld 51 = false := by kernel_rfl
  have hu := Tryd.underlying51
  have hu2 := Tryd.underlying49
  rw [run_neq_struct, run_equalIn_agg _ _ _ _ _ (by rw [Program.fieldsOf, hu]) hf, Program.fieldsOf, hu]
  simp [Op.eqFields, go_sem]
theorem bal_eql_self (x y : Int) (w : World) : (binOp .eql 23 (.agg #[.int .i64 x, .int .i64 y]) (.agg #[.int .i64 x, .int .i64 y])).run Tryd.prog w = .ok (.bool true) w := by
  have hf : Tryd.prog.stoodInHeld 23 = false := by kernel_rfl
  have hu := Tryd.underlying23
  rw [run_eql_struct, run_equalIn_agg _ _ _ _ _ (by rw [Program.fieldsOf, hu]) hf, Program.fieldsOf, hu]
  simp [Op.eqFields, go_sem]
theorem bal_neq_self (x y : Int) (w : World) : (binOp .neq 23 (.agg #[.int .i64 x, .int .i64 y]) (.agg #[.int .i64 x, .int .i64 y])).run Tryd.prog w = .ok (.bool false) w := by
  have hf : Tryd.prog.stoodInHeld 23 = false := by kernel_rfl
  have hu := Tryd.underlying23
  rw [run_neq_struct, run_equalIn_agg _ _ _ _ _ (by rw [Program.fieldsOf, hu]) hf, Program.fieldsOf, hu]
  simp [Op.eqFields, go_sem]

theorem cast_ne_one (n : Nat) : ((n : Int) != 1) = !(n == 1) := by
  rw [Bool.eq_iff_iff]
  simp
  omega
/-- May an entry of kind 2 be, by parts. -/
theorem enOk_two (cl sq : Int) (ok : Nat) (key old val : ByteArray) : enOk ⟨2, cl, sq, ok, key, old, val⟩ = ((decide (0 ≤ cl) && decide (cl ≤ 3)) && ((decide (1 ≤ sq) && decide (sq ≤ 1099511627776)) && (opOk ok key old val && !(ok == 1)))) := by
  rw [Bool.eq_iff_iff, enOk_iff]
  simp [and_assoc]
set_option maxRecDepth 100000 in
set_option maxHeartbeats 1000000 in
theorem may_any (k : Nat) (cl sq : Int) (ok : Nat) (key old val : ByteArray) (w : World) :
    Calls Tryd.prog 36 #[.agg #[.int .u8 (k : Int), .int .i64 cl, .int .i64 sq, .int .u8 (ok : Int), .string key, .string old, .string val]] w fun e w' => e = .returned (.bool (enOk ⟨k, cl, sq, ok, key, old, val⟩)) ∧ Ext w w' := by
  have HE := Lib.hid ((Ext.refl w).alloc (.cells #[.int .u8 (k : Int), .int .i64 cl, .int .i64 sq, .int .u8 (ok : Int), .string key, .string old, .string val] 51))
  have HT := Lib.hid (heap_alloc_new w (.cells #[.int .u8 (k : Int), .int .i64 cl, .int .i64 sq, .int .u8 (ok : Int), .string key, .string old, .string val] 51))
  have fin : ∀ x y : Bool, x = y → Ending.returned (Value.bool x) = .returned (.bool y) := fun x y h => by rw [h]
  by_cases h1 : k = 1
  · subst h1
    have hq := ent_eql_noop cl sq ok key old val
    have hg : Tryd.prog.eqGuardType Tryd.prog.depth 51 = false := by kernel_rfl
    go_enter Tryd.func36, Tryd.ntmps36
    go_wp2_with fail
    go_ret
    exact ⟨rfl, HE.out⟩
  have e1 : ((k : Int) == 1) = false := by rw [beq_eq_false_iff_ne]; omega
  by_cases h2 : k = 2
  · subst h2
    have HC := Lib.hid (enOk_two cl sq ok key old val)
    obtain ⟨q, hq⟩ : ∃ q, enOk ⟨2, cl, sq, ok, key, old, val⟩ = q := ⟨_, rfl⟩
    rw [hq] at HC ⊢
    clear hq e1 h1
    cases b1 : (decide (0 ≤ cl) && decide (cl ≤ 3)) <;> cases b2 : (decide (1 ≤ sq) && decide (sq ≤ 1099511627776)) <;> cases b3 : opOk ok key old val
    all_goals
      rw [b1, b2, b3] at HC
      have B1 := Lib.hid b1
      have B2 := Lib.hid b2
      have B3 := Lib.hid b3
      clear b1 b2 b3
      go_enter Tryd.func36, Tryd.ntmps36
      go_wp2_with fail
      refine (within_any _ _ _ _).mono ?_
      rw [B1.out]
      rintro e w1 ⟨rfl, rfl⟩
      go_wp2_with (refine (within_any _ _ _ _).mono ?_; rw [B2.out]; rintro e w1 ⟨rfl, rfl⟩)
      first
        | (go_ret; exact ⟨fin _ _ HC.out.symm, HE.out⟩)
        | (refine (mayOp_any _ _ _ _ _).mono ?_
           rw [B3.out]
           rintro e w2 ⟨rfl, hx⟩
           have hc := cell_of_row w2 w.heap.size 3 _ _ _ (heap_ext HT.out hx)
           have HE := Lib.hid (HE.out.trans hx)
           clear hx
           go_wp2_with fail
           go_ret
           refine ⟨fin _ _ ?_, HE.out⟩
           rw [HC.out]
           first
             | rfl
             | (simp only [Bool.true_and]; exact cast_ne_one _))
  · have e2 : ((k : Int) == 2) = false := by rw [beq_eq_false_iff_ne]; omega
    have HB : Hid (enOk ⟨k, cl, sq, ok, key, old, val⟩ = false) := Lib.hid (bad_of (by dsimp only; omega))
    clear h1 h2
    go_enter Tryd.func36, Tryd.ntmps36
    go_wp2_with fail
    go_ret
    exact ⟨fin _ _ HB.out.symm, HE.out⟩
end Go.Proofs.YtejejadbemkifaaDoor

namespace Go.Proofs.YtejejadbemkifaaDoor
set_option maxRecDepth 100000
open Go Go.RowKit

theorem parts_lit {w : World} {ps : List (Value × List Nat)} {m : Nat} {cs : Array Value} {t : TypeId} (hm : ps.length = m) (hcs : cs = (ps.map (·.1)).toArray) (he : ∀ p ∈ ps, ∃ A n c, p.1 = .slice A n c ∧ By w A n c p.2) :
    Parts (w.alloc (.cells cs t)) (w.alloc (.cells cs t)).heap.size (some ⟨w.heap.size, 0, none⟩) m ps := by
  subst hcs
  refine ⟨hm, fun _ => ⟨_, 0, rfl, by simp, fun j p hp => ?_⟩, fun p hp => ?_⟩
  · rw [Nat.zero_add, cell_of_row _ w.heap.size j _ t (0, 0) (heap_alloc_new w _), List.getElem?_toArray, List.getElem?_map, hp]
    rfl
  · obtain ⟨A, n, c, e, h⟩ := he p hp
    exact ⟨A, n, c, e, h.ext ((Ext.refl w).alloc _)⟩
theorem join_by (ps : List (Value × List Nat)) (m N : Nat) (w : World) (cs : Array Value) (hm : ps.length = m) (hcs : cs = (ps.map (·.1)).toArray) (he : ∀ p ∈ ps, ∃ A n c, p.1 = .slice A n c ∧ By w A n c p.2)
    (hN : (cat ps).length = N) (hb : ∀ b ∈ cat ps, b < 256) (hm9 : m ≤ 1000) (hN9 : N ≤ 140737488355328) :
    Calls Tryd.prog 14 #[.slice (some ⟨w.heap.size, 0, none⟩) m m] (w.alloc (.cells cs 24)) fun e w' => ∃ A' c', e = .returned (.slice A' N c') ∧ By w' A' N c' (cat ps) ∧ Ext w w' := by
  refine (join_any _ m m ps _ (parts_lit hm hcs he) (by omega) (by omega)).mono ?_
  rintro e w' ⟨A', c', rfl, hown, hx⟩
  rw [hN] at hown
  exact ⟨A', c', by rw [hN], Bs.of_own hown hb, ((Ext.refl w).alloc _).trans hx⟩
theorem join2_by {A1 A2 : Option Addr} {n1 n2 c1 c2 : Nat} {l1 l2 : List Nat} (w : World) (h1 : By w A1 n1 c1 l1) (h2 : By w A2 n2 c2 l2) (hN : n1 + n2 ≤ 140737488355328) :
    Calls Tryd.prog 14 #[.slice (some ⟨w.heap.size, 0, none⟩) 2 2] (w.alloc (.cells #[.slice A1 n1 c1, .slice A2 n2 c2] 24)) fun e w' => ∃ A' c', e = .returned (.slice A' (n1 + n2) c') ∧ By w' A' (n1 + n2) c' (l1 ++ l2) ∧ Ext w w' := by
  have hcat : cat [(.slice A1 n1 c1, l1), (.slice A2 n2 c2, l2)] = l1 ++ l2 := by simp [cat]
  rw [← hcat]
  refine join_by _ 2 _ w _ rfl rfl ?_ (by rw [hcat, List.length_append, h1.len, h2.len]) ?_ (by omega) hN
  · intro p hp
    simp only [List.mem_cons, List.not_mem_nil, or_false] at hp
    rcases hp with rfl | rfl
    · exact ⟨_, _, _, rfl, h1⟩
    · exact ⟨_, _, _, rfl, h2⟩
  · rw [hcat]
    intro b hb
    simp only [List.mem_append] at hb
    rcases hb with h | h
    · exact h1.rd.lt b h
    · exact h2.rd.lt b h
theorem join3_by {A1 A2 A3 : Option Addr} {n1 n2 n3 c1 c2 c3 : Nat} {l1 l2 l3 : List Nat} (w : World) (h1 : By w A1 n1 c1 l1) (h2 : By w A2 n2 c2 l2) (h3 : By w A3 n3 c3 l3) (hN : n1 + n2 + n3 ≤ 140737488355328) :
    Calls Tryd.prog 14 #[.slice (some ⟨w.heap.size, 0, none⟩) 3 3] (w.alloc (.cells #[.slice A1 n1 c1, .slice A2 n2 c2, .slice A3 n3 c3] 24)) fun e w' => ∃ A' c', e = .returned (.slice A' (n1 + n2 + n3) c') ∧ By w' A' (n1 + n2 + n3) c' (l1 ++ l2 ++ l3) ∧ Ext w w' := by
  have hcat : cat [(.slice A1 n1 c1, l1), (.slice A2 n2 c2, l2), (.slice A3 n3 c3, l3)] = l1 ++ l2 ++ l3 := by simp [cat]
  rw [← hcat]
  refine join_by _ 3 _ w _ rfl rfl ?_ (by rw [hcat, List.length_append, List.length_append, h1.len, h2.len, h3.len]) ?_ (by omega) hN
  · intro p hp
    simp only [List.mem_cons, List.not_mem_nil, or_false] at hp
    rcases hp with rfl | rfl | rfl
    · exact ⟨_, _, _, rfl, h1⟩
    · exact ⟨_, _, _, rfl, h2⟩
    · exact ⟨_, _, _, rfl, h3⟩
  · rw [hcat]
    intro b hb
    simp only [List.mem_append] at hb
    rcases hb with (h | h) | h
    · exact h1.rd.lt b h
    · exact h2.rd.lt b h
    · exact h3.rd.lt b h
end Go.Proofs.YtejejadbemkifaaDoor

namespace Go.Proofs.YtejejadbemkifaaDoor
set_option maxRecDepth 100000
open Go Go.RowKit

theorem text_by (s : ByteArray) (w : World) (hs : s.size ≤ 255) :
    Calls Tryd.prog 51 #[.string s] w fun e w' => ∃ A' c', e = .returned (.tuple #[.slice A' (s.size + 1) c', .int .i64 0]) ∧ By w' A' (s.size + 1) c' (s.size :: bl s) ∧ Ext w w' :=
  (otext_yes s w hs).mono fun _ _ ⟨A', c', h1, h2, h3⟩ => ⟨A', c', h1, Bs.of_own h2 (by
    intro b hb
    simp only [List.mem_cons] at hb
    rcases hb with rfl | hb
    · omega
    · exact bl_lt s b hb), h3⟩
theorem text_no_by (s : ByteArray) (w : World) (hs : 255 < s.size) (hm : s.size ≤ 9223372036854775807) :
    Calls Tryd.prog 51 #[.string s] w fun e w' => e = .returned (.tuple #[.slice none 0 0, .int .i64 3]) ∧ Ext w w' :=
  (otext_no s w hs hm).mono fun _ _ ⟨h, hw⟩ => ⟨h, by subst hw; exact Ext.refl _⟩
end Go.Proofs.YtejejadbemkifaaDoor
