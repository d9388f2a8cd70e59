/-
  The contract of the statements' own awake: the chapter's examples.
-/
import Derived.Test.YtejejadbemkifaaS21
namespace Go.Proofs.Ytejejadbemkifaa
set_option maxRecDepth 100000
open Go Go.RowKit
theorem is0 (w : World) : Calls Try.prog 12 #[.agg #[.int .u8 0, .int .i64 0, .int .i64 0, .int .i64 0, .int .i64 0], .agg #[.int .u8 0, .int .i64 0, .int .i64 0, .int .i64 0, .int .u8 0, .int .i64 0, .int .i64 0, .int .u8 0, .string ⟨#[]⟩, .string ⟨#[]⟩, .string ⟨#[]⟩], .agg #[.int .u8 0, .int .i64 0, .int .i64 0, .int .i64 0, .int .u8 0, .int .i64 0, .int .i64 0, .int .u8 0, .string ⟨#[]⟩, .string ⟨#[]⟩, .string ⟨#[]⟩], .int .u8 0, .int .u8 1, .int .i64 (-1)] w fun e w' => e = .returned (.bool true) ∧ Ext w w' :=
  is_of ⟨0, 0, 0, 0, 0⟩ {} {} w (by decide) (by decide) (by decide) (by decide) 0 1 (-1) (by decide +kernel) (by decide +kernel) (by decide +kernel)
theorem is1 (w : World) : Calls Try.prog 12 #[.agg #[.int .u8 0, .int .i64 0, .int .i64 0, .int .i64 0, .int .i64 0], .agg #[.int .u8 2, .int .i64 0, .int .i64 0, .int .i64 0, .int .u8 0, .int .i64 0, .int .i64 0, .int .u8 0, .string ⟨#[]⟩, .string ⟨#[]⟩, .string ⟨#[]⟩], .agg #[.int .u8 0, .int .i64 0, .int .i64 0, .int .i64 0, .int .u8 0, .int .i64 0, .int .i64 0, .int .u8 0, .string ⟨#[]⟩, .string ⟨#[]⟩, .string ⟨#[]⟩], .int .u8 1, .int .u8 1, .int .i64 (-1)] w fun e w' => e = .returned (.bool true) ∧ Ext w w' :=
  is_of ⟨0, 0, 0, 0, 0⟩ { st := 2 } {} w (by decide) (by decide) (by decide) (by decide) 1 1 (-1) (by decide +kernel) (by decide +kernel) (by decide +kernel)
theorem is2 (w : World) : Calls Try.prog 12 #[.agg #[.int .u8 1, .int .i64 5, .int .i64 2, .int .i64 1, .int .i64 1], .agg #[.int .u8 2, .int .i64 0, .int .i64 0, .int .i64 0, .int .u8 0, .int .i64 0, .int .i64 0, .int .u8 0, .string ⟨#[]⟩, .string ⟨#[]⟩, .string ⟨#[]⟩], .agg #[.int .u8 1, .int .i64 5, .int .i64 2, .int .i64 1, .int .u8 1, .int .i64 0, .int .i64 0, .int .u8 0, .string ⟨#[]⟩, .string ⟨#[]⟩, .string ⟨#[]⟩], .int .u8 3, .int .u8 2, .int .i64 (1)] w fun e w' => e = .returned (.bool true) ∧ Ext w w' :=
  is_of ⟨1, 5, 2, 1, 1⟩ { st := 2 } ⟨1, 5, 2, 1, { k := 1 }⟩ w (by decide) (by decide) (by decide) (by decide) 3 2 (1) (by decide +kernel) (by decide +kernel) (by decide +kernel)
theorem is3 (w : World) : Calls Try.prog 12 #[.agg #[.int .u8 1, .int .i64 5, .int .i64 2, .int .i64 1, .int .i64 1], .agg #[.int .u8 1, .int .i64 5, .int .i64 1, .int .i64 0, .int .u8 1, .int .i64 0, .int .i64 0, .int .u8 0, .string ⟨#[]⟩, .string ⟨#[]⟩, .string ⟨#[]⟩], .agg #[.int .u8 2, .int .i64 0, .int .i64 0, .int .i64 0, .int .u8 0, .int .i64 0, .int .i64 0, .int .u8 0, .string ⟨#[]⟩, .string ⟨#[]⟩, .string ⟨#[]⟩], .int .u8 2, .int .u8 3, .int .i64 (-1)] w fun e w' => e = .returned (.bool true) ∧ Ext w w' :=
  is_of ⟨1, 5, 2, 1, 1⟩ ⟨1, 5, 1, 0, { k := 1 }⟩ { st := 2 } w (by decide) (by decide) (by decide) (by decide) 2 3 (-1) (by decide +kernel) (by decide +kernel) (by decide +kernel)
theorem is4 (w : World) : Calls Try.prog 12 #[.agg #[.int .u8 2, .int .i64 0, .int .i64 0, .int .i64 0, .int .i64 0], .agg #[.int .u8 1, .int .i64 5, .int .i64 2, .int .i64 1, .int .u8 1, .int .i64 0, .int .i64 0, .int .u8 0, .string ⟨#[]⟩, .string ⟨#[]⟩, .string ⟨#[]⟩], .agg #[.int .u8 2, .int .i64 0, .int .i64 0, .int .i64 0, .int .u8 0, .int .i64 0, .int .i64 0, .int .u8 0, .string ⟨#[]⟩, .string ⟨#[]⟩, .string ⟨#[]⟩], .int .u8 2, .int .u8 4, .int .i64 (-1)] w fun e w' => e = .returned (.bool true) ∧ Ext w w' :=
  is_of ⟨2, 0, 0, 0, 0⟩ ⟨1, 5, 2, 1, { k := 1 }⟩ { st := 2 } w (by decide) (by decide) (by decide) (by decide) 2 4 (-1) (by decide +kernel) (by decide +kernel) (by decide +kernel)
theorem is5 (w : World) : Calls Try.prog 12 #[.agg #[.int .u8 1, .int .i64 29, .int .i64 2, .int .i64 1, .int .i64 0], .agg #[.int .u8 0, .int .i64 0, .int .i64 0, .int .i64 0, .int .u8 0, .int .i64 0, .int .i64 0, .int .u8 0, .string ⟨#[]⟩, .string ⟨#[]⟩, .string ⟨#[]⟩], .agg #[.int .u8 0, .int .i64 0, .int .i64 0, .int .i64 0, .int .u8 0, .int .i64 0, .int .i64 0, .int .u8 0, .string ⟨#[]⟩, .string ⟨#[]⟩, .string ⟨#[]⟩], .int .u8 2, .int .u8 4, .int .i64 (-1)] w fun e w' => e = .returned (.bool true) ∧ Ext w w' :=
  is_of ⟨1, 29, 2, 1, 0⟩ {} {} w (by decide) (by decide) (by decide) (by decide) 2 4 (-1) (by decide +kernel) (by decide +kernel) (by decide +kernel)
theorem aw_keep {W w' : World} {g1 g2 g3 g4 : Nat} (h : W.heap[g1]? = some (.cells #[.int .u8 0, .int .i64 0, .int .i64 0, .int .i64 0, .int .u8 0, .int .i64 0, .int .i64 0, .int .u8 0, .string ⟨#[]⟩, .string ⟨#[]⟩, .string ⟨#[]⟩] 33 (0, 0)) ∧ W.heap[g2]? = some (.cells #[.int .u8 2, .int .i64 0, .int .i64 0, .int .i64 0, .int .u8 0, .int .i64 0, .int .i64 0, .int .u8 0, .string ⟨#[]⟩, .string ⟨#[]⟩, .string ⟨#[]⟩] 33 (0, 0)) ∧ W.heap[g3]? = some (.cells #[.int .u8 1, .int .i64 5, .int .i64 2, .int .i64 1, .int .i64 1] 27 (0, 0)) ∧ W.heap[g4]? = some (.cells #[.int .u8 1, .int .i64 29, .int .i64 2, .int .i64 1, .int .i64 0] 27 (0, 0))) (k : Ext W w') : w'.heap[g1]? = some (.cells #[.int .u8 0, .int .i64 0, .int .i64 0, .int .i64 0, .int .u8 0, .int .i64 0, .int .i64 0, .int .u8 0, .string ⟨#[]⟩, .string ⟨#[]⟩, .string ⟨#[]⟩] 33 (0, 0)) ∧ w'.heap[g2]? = some (.cells #[.int .u8 2, .int .i64 0, .int .i64 0, .int .i64 0, .int .u8 0, .int .i64 0, .int .i64 0, .int .u8 0, .string ⟨#[]⟩, .string ⟨#[]⟩, .string ⟨#[]⟩] 33 (0, 0)) ∧ w'.heap[g3]? = some (.cells #[.int .u8 1, .int .i64 5, .int .i64 2, .int .i64 1, .int .i64 1] 27 (0, 0)) ∧ w'.heap[g4]? = some (.cells #[.int .u8 1, .int .i64 29, .int .i64 2, .int .i64 1, .int .i64 0] 27 (0, 0)) := ⟨keep_row k h.1, keep_row k h.2.1, keep_row k h.2.2.1, keep_row k h.2.2.2⟩
theorem aw_make (w : World) : ∃ g1 g2 g3 g4 : Nat, w.heap.size = g1 ∧ w.heap.size + 1 = g2 ∧ w.heap.size + 1 + 1 = g3 ∧ w.heap.size + 1 + 1 + 1 = g4 ∧ (((((w.alloc (.cells #[.int .u8 0, .int .i64 0, .int .i64 0, .int .i64 0, .int .u8 0, .int .i64 0, .int .i64 0, .int .u8 0, .string ⟨#[]⟩, .string ⟨#[]⟩, .string ⟨#[]⟩] 33)).alloc (.cells #[.int .u8 2, .int .i64 0, .int .i64 0, .int .i64 0, .int .u8 0, .int .i64 0, .int .i64 0, .int .u8 0, .string ⟨#[]⟩, .string ⟨#[]⟩, .string ⟨#[]⟩] 33)).alloc (.cells #[.int .u8 1, .int .i64 5, .int .i64 2, .int .i64 1, .int .i64 1] 27)).alloc (.cells #[.int .u8 1, .int .i64 29, .int .i64 2, .int .i64 1, .int .i64 0] 27)).heap[g1]? = some (.cells #[.int .u8 0, .int .i64 0, .int .i64 0, .int .i64 0, .int .u8 0, .int .i64 0, .int .i64 0, .int .u8 0, .string ⟨#[]⟩, .string ⟨#[]⟩, .string ⟨#[]⟩] 33 (0, 0)) ∧ ((((w.alloc (.cells #[.int .u8 0, .int .i64 0, .int .i64 0, .int .i64 0, .int .u8 0, .int .i64 0, .int .i64 0, .int .u8 0, .string ⟨#[]⟩, .string ⟨#[]⟩, .string ⟨#[]⟩] 33)).alloc (.cells #[.int .u8 2, .int .i64 0, .int .i64 0, .int .i64 0, .int .u8 0, .int .i64 0, .int .i64 0, .int .u8 0, .string ⟨#[]⟩, .string ⟨#[]⟩, .string ⟨#[]⟩] 33)).alloc (.cells #[.int .u8 1, .int .i64 5, .int .i64 2, .int .i64 1, .int .i64 1] 27)).alloc (.cells #[.int .u8 1, .int .i64 29, .int .i64 2, .int .i64 1, .int .i64 0] 27)).heap[g2]? = some (.cells #[.int .u8 2, .int .i64 0, .int .i64 0, .int .i64 0, .int .u8 0, .int .i64 0, .int .i64 0, .int .u8 0, .string ⟨#[]⟩, .string ⟨#[]⟩, .string ⟨#[]⟩] 33 (0, 0)) ∧ ((((w.alloc (.cells #[.int .u8 0, .int .i64 0, .int .i64 0, .int .i64 0, .int .u8 0, .int .i64 0, .int .i64 0, .int .u8 0, .string ⟨#[]⟩, .string ⟨#[]⟩, .string ⟨#[]⟩] 33)).alloc (.cells #[.int .u8 2, .int .i64 0, .int .i64 0, .int .i64 0, .int .u8 0, .int .i64 0, .int .i64 0, .int .u8 0, .string ⟨#[]⟩, .string ⟨#[]⟩, .string ⟨#[]⟩] 33)).alloc (.cells #[.int .u8 1, .int .i64 5, .int .i64 2, .int .i64 1, .int .i64 1] 27)).alloc (.cells #[.int .u8 1, .int .i64 29, .int .i64 2, .int .i64 1, .int .i64 0] 27)).heap[g3]? = some (.cells #[.int .u8 1, .int .i64 5, .int .i64 2, .int .i64 1, .int .i64 1] 27 (0, 0)) ∧ ((((w.alloc (.cells #[.int .u8 0, .int .i64 0, .int .i64 0, .int .i64 0, .int .u8 0, .int .i64 0, .int .i64 0, .int .u8 0, .string ⟨#[]⟩, .string ⟨#[]⟩, .string ⟨#[]⟩] 33)).alloc (.cells #[.int .u8 2, .int .i64 0, .int .i64 0, .int .i64 0, .int .u8 0, .int .i64 0, .int .i64 0, .int .u8 0, .string ⟨#[]⟩, .string ⟨#[]⟩, .string ⟨#[]⟩] 33)).alloc (.cells #[.int .u8 1, .int .i64 5, .int .i64 2, .int .i64 1, .int .i64 1] 27)).alloc (.cells #[.int .u8 1, .int .i64 29, .int .i64 2, .int .i64 1, .int .i64 0] 27)).heap[g4]? = some (.cells #[.int .u8 1, .int .i64 29, .int .i64 2, .int .i64 1, .int .i64 0] 27 (0, 0))) := by
  have row : ∀ (V : World) (cs : Array Value) (t : TypeId) (k : Nat), k = V.heap.size → (V.alloc (.cells cs t)).heap[k]? = some (.cells cs t (0, 0)) := fun V cs t k hk => by subst hk; exact heap_alloc_new V _
  have past : ∀ (V : World) (o ob : Obj) (k : Nat), V.heap[k]? = some ob → (V.alloc o).heap[k]? = some ob := fun V o ob k h => keep_row ((Ext.refl V).alloc o) h
  refine ⟨_, _, _, _, rfl, rfl, rfl, rfl, ?_, ?_, ?_, ?_⟩
  · exact past _ _ _ _ (past _ _ _ _ (past _ _ _ _ (row _ _ _ _ rfl)))
  · exact past _ _ _ _ (past _ _ _ _ (row _ _ _ _ (by simp)))
  · exact past _ _ _ _ (row _ _ _ _ (by simp))
  · exact row _ _ _ _ (by simp)
theorem yieldsIf_row {ops : Array Oper} {S : World → Prop} {op : Oper} {a : Act} (hw : Region.wanted op (yielded ops a.tmps) = true) (ty : TypeId) (x : Operand) (ho : op.op = .load ty x)
    (b : Nat) (hx : a.eval x = .pointer (some ⟨b, 0, none⟩)) (cs : List Value) (t : TypeId) (d : TypeDesc) (hS : ∀ w, S w → w.heap[b]? = some (.cells cs.toArray t (0, 0))) (hu : Try.prog.underlying ty = some d) (hd : d.isRow = true)
    (hi : (Try.prog.info? ty).map (·.size) = some cs.length) : YieldsIf Try.prog ops S op (.agg cs.toArray) a := yieldsIf_load_mid hw ty x ho b 0 hx cs d (fun w h => row_range cs (hS w h) 0) hu hd hi
set_option maxRecDepth 100000 in
set_option maxHeartbeats 1600000 in
theorem awake_of (w : World) : Calls Try.prog 5 #[] w fun e w' => e = .returned (.bool true) ∧ Ext w w' := by
  obtain ⟨g1, g2, g3, g4, hg1, hg2, hg3, hg4, hS⟩ := aw_make w
  have HS := Lib.hid hS
  have HE := Lib.hid (((((Ext.refl w).alloc (.cells #[.int .u8 0, .int .i64 0, .int .i64 0, .int .i64 0, .int .u8 0, .int .i64 0, .int .i64 0, .int .u8 0, .string ⟨#[]⟩, .string ⟨#[]⟩, .string ⟨#[]⟩] 33)).alloc (.cells #[.int .u8 2, .int .i64 0, .int .i64 0, .int .i64 0, .int .u8 0, .int .i64 0, .int .i64 0, .int .u8 0, .string ⟨#[]⟩, .string ⟨#[]⟩, .string ⟨#[]⟩] 33)).alloc (.cells #[.int .u8 1, .int .i64 5, .int .i64 2, .int .i64 1, .int .i64 1] 27)).alloc (.cells #[.int .u8 1, .int .i64 29, .int .i64 2, .int .i64 1, .int .i64 0] 27))
  have HG := Lib.hid (⟨hg1, hg2, hg3, hg4⟩ : _ ∧ _ ∧ _ ∧ _)
  have HGD := Lib.hid (fun i r y V => goodv_of i r y V)
  have I0 := Lib.hid is0
  have I1 := Lib.hid is1
  have I2 := Lib.hid is2
  have I3 := Lib.hid is3
  have I4 := Lib.hid is4
  have I5 := Lib.hid is5
  clear hS hg1 hg2 hg3 hg4
  go_enter Try.func5, Try.ntmps5
  go_upto_region 4 with (fail)
  rw [HG.out.2.2.2, HG.out.2.2.1, HG.out.2.1, HG.out.1]
  generalize ((((w.alloc (.cells #[.int .u8 0, .int .i64 0, .int .i64 0, .int .i64 0, .int .u8 0, .int .i64 0, .int .i64 0, .int .u8 0, .string ⟨#[]⟩, .string ⟨#[]⟩, .string ⟨#[]⟩] 33)).alloc (.cells #[.int .u8 2, .int .i64 0, .int .i64 0, .int .i64 0, .int .u8 0, .int .i64 0, .int .i64 0, .int .u8 0, .string ⟨#[]⟩, .string ⟨#[]⟩, .string ⟨#[]⟩] 33)).alloc (.cells #[.int .u8 1, .int .i64 5, .int .i64 2, .int .i64 1, .int .i64 1] 27)).alloc (.cells #[.int .u8 1, .int .i64 29, .int .i64 2, .int .i64 1, .int .i64 0] 27)) = W at *
  have HX := Lib.hid (Ext.refl W).drew
  refine wp_region_held_drew (S := fun w' => w'.heap[g1]? = some (.cells #[.int .u8 0, .int .i64 0, .int .i64 0, .int .i64 0, .int .u8 0, .int .i64 0, .int .i64 0, .int .u8 0, .string ⟨#[]⟩, .string ⟨#[]⟩, .string ⟨#[]⟩] 33 (0, 0)) ∧ w'.heap[g2]? = some (.cells #[.int .u8 2, .int .i64 0, .int .i64 0, .int .i64 0, .int .u8 0, .int .i64 0, .int .i64 0, .int .u8 0, .string ⟨#[]⟩, .string ⟨#[]⟩, .string ⟨#[]⟩] 33 (0, 0)) ∧ w'.heap[g3]? = some (.cells #[.int .u8 1, .int .i64 5, .int .i64 2, .int .i64 1, .int .i64 1] 27 (0, 0)) ∧ w'.heap[g4]? = some (.cells #[.int .u8 1, .int .i64 29, .int .i64 2, .int .i64 1, .int .i64 0] 27 (0, 0))) (by kernel_rfl) (aw_keep HS.out HX.out) (fun hHeld => ?_)
  refine wpAnyH_take (i := 0) (oi := { dst := some 11, op := Go.Op.build 27 #[], type := 27, pos := "outright.go:28", after := #[], guard := none }) (v := ?_) rfl (by kernel_rfl) (by kernel_rfl) (by kernel_rfl) (fun _ _ _ h => h) (Or.inl ⟨by rfl, ?_⟩) (by assumption) ?_
  rotate_left
  · intro w9 hSw
    try dsimp only at hSw
    go_simp
    try with_reducible rfl
  try simp only [Act.put, List.setIfInBounds_toArray, List.set_cons_zero, List.set_cons_succ]
  refine wpAnyH_take (i := 1) (oi := { dst := some 12, op := Go.Op.load 33 (Go.Operand.tmp 1), type := 33, pos := "outright.go:28", after := #[], guard := none }) (v := .agg #[.int .u8 0, .int .i64 0, .int .i64 0, .int .i64 0, .int .u8 0, .int .i64 0, .int .i64 0, .int .u8 0, .string ⟨#[]⟩, .string ⟨#[]⟩, .string ⟨#[]⟩]) rfl (by kernel_rfl) (by kernel_rfl) (by kernel_rfl) (fun _ _ _ h => h) (yieldsIf_row (by rfl) 33 (.tmp 1) rfl g1 rfl [.int .u8 0, .int .i64 0, .int .i64 0, .int .i64 0, .int .u8 0, .int .i64 0, .int .i64 0, .int .u8 0, .string ⟨#[]⟩, .string ⟨#[]⟩, .string ⟨#[]⟩] 33 _ (fun w hw => hw.1) Try.underlying33 rfl (by kernel_rfl)) (by assumption) ?_
  try simp only [Act.put, List.setIfInBounds_toArray, List.set_cons_zero, List.set_cons_succ]
  refine wpAnyH_take (i := 2) (oi := { dst := some 13, op := Go.Op.load 33 (Go.Operand.tmp 1), type := 33, pos := "outright.go:28", after := #[], guard := none }) (v := .agg #[.int .u8 0, .int .i64 0, .int .i64 0, .int .i64 0, .int .u8 0, .int .i64 0, .int .i64 0, .int .u8 0, .string ⟨#[]⟩, .string ⟨#[]⟩, .string ⟨#[]⟩]) rfl (by kernel_rfl) (by kernel_rfl) (by kernel_rfl) (fun _ _ _ h => h) (yieldsIf_row (by rfl) 33 (.tmp 1) rfl g1 rfl [.int .u8 0, .int .i64 0, .int .i64 0, .int .i64 0, .int .u8 0, .int .i64 0, .int .i64 0, .int .u8 0, .string ⟨#[]⟩, .string ⟨#[]⟩, .string ⟨#[]⟩] 33 _ (fun w hw => hw.1) Try.underlying33 rfl (by kernel_rfl)) (by assumption) ?_
  try simp only [Act.put, List.setIfInBounds_toArray, List.set_cons_zero, List.set_cons_succ]
  refine wpAnyH_ready (rs := [3]) (by kernel_rfl) (by simp) ?_
  refine AllReadyH.cons (o := { dst := some 14, op := Go.Op.call { callee := Go.Callee.value (Go.Operand.func 12), args := #[Go.Operand.tmp 11, Go.Operand.tmp 12, Go.Operand.tmp 13, Go.Operand.const (Go.Value.int Go.IntKind.u8 0), Go.Operand.const (Go.Value.int Go.IntKind.u8 1), Go.Operand.const (Go.Value.int Go.IntKind.i64 (-1))], argTypes := #[27, 33, 33, 5, 5, 3] }, type := 4, pos := "outright.go:28", after := #[{ on := 0, ground := Go.Ground.data }, { on := 1, ground := Go.Ground.data }, { on := 2, ground := Go.Ground.data }], guard := none }) rfl (fun K hK => ?_) AllReadyH.nil
  go_simp
  refine (I0.out _).mono ?_
  rintro e w1 ⟨rfl, hx⟩
  have HX := Lib.hid (HX.out.trans hx)
  clear hx hHeld
  go_wp2_with fail
  refine hK.out _ _ (aw_keep HS.out HX.out) (fun hHeld => ?_)
  clear hK K
  try simp only [Act.put, List.setIfInBounds_toArray, List.set_cons_zero, List.set_cons_succ]
  refine wpAnyH_take (i := 4) (oi := { dst := some 15, op := Go.Op.move (Go.Operand.tmp 14), type := 4, pos := "outright.go:28", after := #[{ on := 3, ground := Go.Ground.data }, { on := 3, ground := Go.Ground.chain }], guard := none }) (v := ?_) rfl (by kernel_rfl) (by kernel_rfl) (by kernel_rfl) (fun _ _ _ h => h) (Or.inl ⟨by rfl, ?_⟩) (by assumption) ?_
  rotate_left
  · intro w9 hSw
    try dsimp only at hSw
    go_simp
    try with_reducible rfl
  try simp only [Act.put, List.setIfInBounds_toArray, List.set_cons_zero, List.set_cons_succ]
  refine wpAnyH_take (i := 5) (oi := { dst := some 16, op := Go.Op.build 27 #[], type := 27, pos := "outright.go:28", after := #[{ on := 4, ground := Go.Ground.guard }], guard := some (4, true) }) (v := ?_) rfl (by kernel_rfl) (by kernel_rfl) (by kernel_rfl) (fun _ _ _ h => h) (Or.inl ⟨by rfl, ?_⟩) (by assumption) ?_
  rotate_left
  · intro w9 hSw
    try dsimp only at hSw
    go_simp
    try with_reducible rfl
  try simp only [Act.put, List.setIfInBounds_toArray, List.set_cons_zero, List.set_cons_succ]
  refine wpAnyH_take (i := 6) (oi := { dst := some 17, op := Go.Op.load 33 (Go.Operand.tmp 2), type := 33, pos := "outright.go:28", after := #[{ on := 4, ground := Go.Ground.guard }], guard := some (4, true) }) (v := .agg #[.int .u8 2, .int .i64 0, .int .i64 0, .int .i64 0, .int .u8 0, .int .i64 0, .int .i64 0, .int .u8 0, .string ⟨#[]⟩, .string ⟨#[]⟩, .string ⟨#[]⟩]) rfl (by kernel_rfl) (by kernel_rfl) (by kernel_rfl) (fun _ _ _ h => h) (yieldsIf_row (by rfl) 33 (.tmp 2) rfl g2 rfl [.int .u8 2, .int .i64 0, .int .i64 0, .int .i64 0, .int .u8 0, .int .i64 0, .int .i64 0, .int .u8 0, .string ⟨#[]⟩, .string ⟨#[]⟩, .string ⟨#[]⟩] 33 _ (fun w hw => hw.2.1) Try.underlying33 rfl (by kernel_rfl)) (by assumption) ?_
  try simp only [Act.put, List.setIfInBounds_toArray, List.set_cons_zero, List.set_cons_succ]
  refine wpAnyH_take (i := 7) (oi := { dst := some 18, op := Go.Op.load 33 (Go.Operand.tmp 1), type := 33, pos := "outright.go:28", after := #[{ on := 4, ground := Go.Ground.guard }], guard := some (4, true) }) (v := .agg #[.int .u8 0, .int .i64 0, .int .i64 0, .int .i64 0, .int .u8 0, .int .i64 0, .int .i64 0, .int .u8 0, .string ⟨#[]⟩, .string ⟨#[]⟩, .string ⟨#[]⟩]) rfl (by kernel_rfl) (by kernel_rfl) (by kernel_rfl) (fun _ _ _ h => h) (yieldsIf_row (by rfl) 33 (.tmp 1) rfl g1 rfl [.int .u8 0, .int .i64 0, .int .i64 0, .int .i64 0, .int .u8 0, .int .i64 0, .int .i64 0, .int .u8 0, .string ⟨#[]⟩, .string ⟨#[]⟩, .string ⟨#[]⟩] 33 _ (fun w hw => hw.1) Try.underlying33 rfl (by kernel_rfl)) (by assumption) ?_
  try simp only [Act.put, List.setIfInBounds_toArray, List.set_cons_zero, List.set_cons_succ]
  refine wpAnyH_ready (rs := [8]) (by kernel_rfl) (by simp) ?_
  refine AllReadyH.cons (o := { dst := some 19, op := Go.Op.call { callee := Go.Callee.value (Go.Operand.func 12), args := #[Go.Operand.tmp 16, Go.Operand.tmp 17, Go.Operand.tmp 18, Go.Operand.const (Go.Value.int Go.IntKind.u8 1), Go.Operand.const (Go.Value.int Go.IntKind.u8 1), Go.Operand.const (Go.Value.int Go.IntKind.i64 (-1))], argTypes := #[27, 33, 33, 5, 5, 3] }, type := 4, pos := "outright.go:28", after := #[{ on := 5, ground := Go.Ground.data }, { on := 6, ground := Go.Ground.data }, { on := 7, ground := Go.Ground.data }, { on := 4, ground := Go.Ground.chain }, { on := 4, ground := Go.Ground.guard }], guard := some (4, true) }) rfl (fun K hK => ?_) AllReadyH.nil
  go_simp
  refine (I1.out _).mono ?_
  rintro e w2 ⟨rfl, hx⟩
  have HX := Lib.hid (HX.out.trans hx)
  clear hx hHeld
  go_wp2_with fail
  refine hK.out _ _ (aw_keep HS.out HX.out) (fun hHeld => ?_)
  clear hK K
  try simp only [Act.put, List.setIfInBounds_toArray, List.set_cons_zero, List.set_cons_succ]
  refine wpAnyH_take (i := 9) (oi := { dst := some 20, op := Go.Op.pick (Go.Operand.tmp 15) (Go.Operand.tmp 19) (Go.Operand.const (Go.Value.bool false)), type := 4, pos := "outright.go:28", after := #[{ on := 4, ground := Go.Ground.data }, { on := 8, ground := Go.Ground.data }], guard := none }) (v := ?_) rfl (by kernel_rfl) (by kernel_rfl) (by kernel_rfl) (fun _ _ _ h => h) (Or.inl ⟨by rfl, ?_⟩) (by assumption) ?_
  rotate_left
  · intro w9 hSw
    try dsimp only at hSw
    go_simp
    try with_reducible rfl
  try simp only [Act.put, List.setIfInBounds_toArray, List.set_cons_zero, List.set_cons_succ]
  refine wpAnyH_take (i := 10) (oi := { dst := some 21, op := Go.Op.move (Go.Operand.tmp 20), type := 4, pos := "outright.go:28", after := #[{ on := 9, ground := Go.Ground.data }, { on := 8, ground := Go.Ground.chain }], guard := none }) (v := ?_) rfl (by kernel_rfl) (by kernel_rfl) (by kernel_rfl) (fun _ _ _ h => h) (Or.inl ⟨by rfl, ?_⟩) (by assumption) ?_
  rotate_left
  · intro w9 hSw
    try dsimp only at hSw
    go_simp
    try with_reducible rfl
  try simp only [Act.put, List.setIfInBounds_toArray, List.set_cons_zero, List.set_cons_succ]
  refine wpAnyH_take (i := 11) (oi := { dst := some 22, op := Go.Op.load 27 (Go.Operand.tmp 3), type := 27, pos := "outright.go:28", after := #[{ on := 10, ground := Go.Ground.guard }], guard := some (10, true) }) (v := .agg #[.int .u8 1, .int .i64 5, .int .i64 2, .int .i64 1, .int .i64 1]) rfl (by kernel_rfl) (by kernel_rfl) (by kernel_rfl) (fun _ _ _ h => h) (yieldsIf_row (by rfl) 27 (.tmp 3) rfl g3 rfl [.int .u8 1, .int .i64 5, .int .i64 2, .int .i64 1, .int .i64 1] 27 _ (fun w hw => hw.2.2.1) Try.underlying27 rfl (by kernel_rfl)) (by assumption) ?_
  try simp only [Act.put, List.setIfInBounds_toArray, List.set_cons_zero, List.set_cons_succ]
  refine wpAnyH_take (i := 12) (oi := { dst := some 23, op := Go.Op.load 33 (Go.Operand.tmp 2), type := 33, pos := "outright.go:28", after := #[{ on := 10, ground := Go.Ground.guard }], guard := some (10, true) }) (v := .agg #[.int .u8 2, .int .i64 0, .int .i64 0, .int .i64 0, .int .u8 0, .int .i64 0, .int .i64 0, .int .u8 0, .string ⟨#[]⟩, .string ⟨#[]⟩, .string ⟨#[]⟩]) rfl (by kernel_rfl) (by kernel_rfl) (by kernel_rfl) (fun _ _ _ h => h) (yieldsIf_row (by rfl) 33 (.tmp 2) rfl g2 rfl [.int .u8 2, .int .i64 0, .int .i64 0, .int .i64 0, .int .u8 0, .int .i64 0, .int .i64 0, .int .u8 0, .string ⟨#[]⟩, .string ⟨#[]⟩, .string ⟨#[]⟩] 33 _ (fun w hw => hw.2.1) Try.underlying33 rfl (by kernel_rfl)) (by assumption) ?_
  try simp only [Act.put, List.setIfInBounds_toArray, List.set_cons_zero, List.set_cons_succ]
  refine wpAnyH_ready (rs := [13]) (by kernel_rfl) (by simp) ?_
  refine AllReadyH.cons (o := { dst := some 24, op := Go.Op.call { callee := Go.Callee.value (Go.Operand.func 6), args := #[Go.Operand.const (Go.Value.int Go.IntKind.i64 5), Go.Operand.const (Go.Value.int Go.IntKind.i64 2), Go.Operand.const (Go.Value.int Go.IntKind.i64 1)], argTypes := #[3, 3, 3] }, type := 33, pos := "outright.go:28", after := #[{ on := 10, ground := Go.Ground.chain }, { on := 10, ground := Go.Ground.guard }], guard := some (10, true) }) rfl (fun K hK => ?_) AllReadyH.nil
  go_simp
  refine (HGD.out _ _ _ _).mono ?_
  rintro e w3 ⟨rfl, hx⟩
  have HX := Lib.hid (HX.out.trans hx)
  clear hx hHeld
  go_wp2_with fail
  refine hK.out _ _ (aw_keep HS.out HX.out) (fun hHeld => ?_)
  clear hK K
  try simp only [Act.put, List.setIfInBounds_toArray, List.set_cons_zero, List.set_cons_succ]
  refine wpAnyH_ready (rs := [14]) (by kernel_rfl) (by simp) ?_
  refine AllReadyH.cons (o := { dst := some 25, op := Go.Op.call { callee := Go.Callee.value (Go.Operand.func 12), args := #[Go.Operand.tmp 22, Go.Operand.tmp 23, Go.Operand.tmp 24, Go.Operand.const (Go.Value.int Go.IntKind.u8 3), Go.Operand.const (Go.Value.int Go.IntKind.u8 2), Go.Operand.const (Go.Value.int Go.IntKind.i64 1)], argTypes := #[27, 33, 33, 5, 5, 3] }, type := 4, pos := "outright.go:28", after := #[{ on := 11, ground := Go.Ground.data }, { on := 12, ground := Go.Ground.data }, { on := 13, ground := Go.Ground.data }, { on := 13, ground := Go.Ground.chain }, { on := 10, ground := Go.Ground.guard }], guard := some (10, true) }) rfl (fun K hK => ?_) AllReadyH.nil
  go_simp
  refine (I2.out _).mono ?_
  rintro e w4 ⟨rfl, hx⟩
  have HX := Lib.hid (HX.out.trans hx)
  clear hx hHeld
  go_wp2_with fail
  refine hK.out _ _ (aw_keep HS.out HX.out) (fun hHeld => ?_)
  clear hK K
  try simp only [Act.put, List.setIfInBounds_toArray, List.set_cons_zero, List.set_cons_succ]
  refine wpAnyH_take (i := 15) (oi := { dst := some 26, op := Go.Op.pick (Go.Operand.tmp 21) (Go.Operand.tmp 25) (Go.Operand.const (Go.Value.bool false)), type := 4, pos := "outright.go:28", after := #[{ on := 10, ground := Go.Ground.data }, { on := 14, ground := Go.Ground.data }], guard := none }) (v := ?_) rfl (by kernel_rfl) (by kernel_rfl) (by kernel_rfl) (fun _ _ _ h => h) (Or.inl ⟨by rfl, ?_⟩) (by assumption) ?_
  rotate_left
  · intro w9 hSw
    try dsimp only at hSw
    go_simp
    try with_reducible rfl
  try simp only [Act.put, List.setIfInBounds_toArray, List.set_cons_zero, List.set_cons_succ]
  refine wpAnyH_take (i := 16) (oi := { dst := some 27, op := Go.Op.move (Go.Operand.tmp 26), type := 4, pos := "outright.go:28", after := #[{ on := 15, ground := Go.Ground.data }, { on := 14, ground := Go.Ground.chain }], guard := none }) (v := ?_) rfl (by kernel_rfl) (by kernel_rfl) (by kernel_rfl) (fun _ _ _ h => h) (Or.inl ⟨by rfl, ?_⟩) (by assumption) ?_
  rotate_left
  · intro w9 hSw
    try dsimp only at hSw
    go_simp
    try with_reducible rfl
  try simp only [Act.put, List.setIfInBounds_toArray, List.set_cons_zero, List.set_cons_succ]
  refine wpAnyH_take (i := 17) (oi := { dst := some 28, op := Go.Op.load 27 (Go.Operand.tmp 3), type := 27, pos := "outright.go:28", after := #[{ on := 16, ground := Go.Ground.guard }], guard := some (16, true) }) (v := .agg #[.int .u8 1, .int .i64 5, .int .i64 2, .int .i64 1, .int .i64 1]) rfl (by kernel_rfl) (by kernel_rfl) (by kernel_rfl) (fun _ _ _ h => h) (yieldsIf_row (by rfl) 27 (.tmp 3) rfl g3 rfl [.int .u8 1, .int .i64 5, .int .i64 2, .int .i64 1, .int .i64 1] 27 _ (fun w hw => hw.2.2.1) Try.underlying27 rfl (by kernel_rfl)) (by assumption) ?_
  try simp only [Act.put, List.setIfInBounds_toArray, List.set_cons_zero, List.set_cons_succ]
  refine wpAnyH_take (i := 19) (oi := { dst := some 30, op := Go.Op.load 33 (Go.Operand.tmp 2), type := 33, pos := "outright.go:28", after := #[{ on := 16, ground := Go.Ground.guard }], guard := some (16, true) }) (v := .agg #[.int .u8 2, .int .i64 0, .int .i64 0, .int .i64 0, .int .u8 0, .int .i64 0, .int .i64 0, .int .u8 0, .string ⟨#[]⟩, .string ⟨#[]⟩, .string ⟨#[]⟩]) rfl (by kernel_rfl) (by kernel_rfl) (by kernel_rfl) (fun _ _ _ h => h) (yieldsIf_row (by rfl) 33 (.tmp 2) rfl g2 rfl [.int .u8 2, .int .i64 0, .int .i64 0, .int .i64 0, .int .u8 0, .int .i64 0, .int .i64 0, .int .u8 0, .string ⟨#[]⟩, .string ⟨#[]⟩, .string ⟨#[]⟩] 33 _ (fun w hw => hw.2.1) Try.underlying33 rfl (by kernel_rfl)) (by assumption) ?_
  try simp only [Act.put, List.setIfInBounds_toArray, List.set_cons_zero, List.set_cons_succ]
  refine wpAnyH_ready (rs := [18]) (by kernel_rfl) (by simp) ?_
  refine AllReadyH.cons (o := { dst := some 29, op := Go.Op.call { callee := Go.Callee.value (Go.Operand.func 6), args := #[Go.Operand.const (Go.Value.int Go.IntKind.i64 5), Go.Operand.const (Go.Value.int Go.IntKind.i64 1), Go.Operand.const (Go.Value.int Go.IntKind.i64 0)], argTypes := #[3, 3, 3] }, type := 33, pos := "outright.go:28", after := #[{ on := 16, ground := Go.Ground.chain }, { on := 16, ground := Go.Ground.guard }], guard := some (16, true) }) rfl (fun K hK => ?_) AllReadyH.nil
  go_simp
  refine (HGD.out _ _ _ _).mono ?_
  rintro e w5 ⟨rfl, hx⟩
  have HX := Lib.hid (HX.out.trans hx)
  clear hx hHeld
  go_wp2_with fail
  refine hK.out _ _ (aw_keep HS.out HX.out) (fun hHeld => ?_)
  clear hK K
  try simp only [Act.put, List.setIfInBounds_toArray, List.set_cons_zero, List.set_cons_succ]
  refine wpAnyH_ready (rs := [20]) (by kernel_rfl) (by simp) ?_
  refine AllReadyH.cons (o := { dst := some 31, op := Go.Op.call { callee := Go.Callee.value (Go.Operand.func 12), args := #[Go.Operand.tmp 28, Go.Operand.tmp 29, Go.Operand.tmp 30, Go.Operand.const (Go.Value.int Go.IntKind.u8 2), Go.Operand.const (Go.Value.int Go.IntKind.u8 3), Go.Operand.const (Go.Value.int Go.IntKind.i64 (-1))], argTypes := #[27, 33, 33, 5, 5, 3] }, type := 4, pos := "outright.go:28", after := #[{ on := 17, ground := Go.Ground.data }, { on := 18, ground := Go.Ground.data }, { on := 19, ground := Go.Ground.data }, { on := 18, ground := Go.Ground.chain }, { on := 16, ground := Go.Ground.guard }], guard := some (16, true) }) rfl (fun K hK => ?_) AllReadyH.nil
  go_simp
  refine (I3.out _).mono ?_
  rintro e w6 ⟨rfl, hx⟩
  have HX := Lib.hid (HX.out.trans hx)
  clear hx hHeld
  go_wp2_with fail
  refine hK.out _ _ (aw_keep HS.out HX.out) (fun hHeld => ?_)
  clear hK K
  try simp only [Act.put, List.setIfInBounds_toArray, List.set_cons_zero, List.set_cons_succ]
  refine wpAnyH_take (i := 21) (oi := { dst := some 32, op := Go.Op.pick (Go.Operand.tmp 27) (Go.Operand.tmp 31) (Go.Operand.const (Go.Value.bool false)), type := 4, pos := "outright.go:28", after := #[{ on := 16, ground := Go.Ground.data }, { on := 20, ground := Go.Ground.data }], guard := none }) (v := ?_) rfl (by kernel_rfl) (by kernel_rfl) (by kernel_rfl) (fun _ _ _ h => h) (Or.inl ⟨by rfl, ?_⟩) (by assumption) ?_
  rotate_left
  · intro w9 hSw
    try dsimp only at hSw
    go_simp
    try with_reducible rfl
  try simp only [Act.put, List.setIfInBounds_toArray, List.set_cons_zero, List.set_cons_succ]
  refine wpAnyH_take (i := 22) (oi := { dst := some 33, op := Go.Op.move (Go.Operand.tmp 32), type := 4, pos := "outright.go:28", after := #[{ on := 21, ground := Go.Ground.data }, { on := 20, ground := Go.Ground.chain }], guard := none }) (v := ?_) rfl (by kernel_rfl) (by kernel_rfl) (by kernel_rfl) (fun _ _ _ h => h) (Or.inl ⟨by rfl, ?_⟩) (by assumption) ?_
  rotate_left
  · intro w9 hSw
    try dsimp only at hSw
    go_simp
    try with_reducible rfl
  try simp only [Act.put, List.setIfInBounds_toArray, List.set_cons_zero, List.set_cons_succ]
  refine wpAnyH_take (i := 23) (oi := { dst := some 34, op := Go.Op.build 27 #[(0, Go.Operand.const (Go.Value.int Go.IntKind.u8 2))], type := 27, pos := "outright.go:28", after := #[{ on := 22, ground := Go.Ground.guard }], guard := some (22, true) }) (v := ?_) rfl (by kernel_rfl) (by kernel_rfl) (by kernel_rfl) (fun _ _ _ h => h) (Or.inl ⟨by rfl, ?_⟩) (by assumption) ?_
  rotate_left
  · intro w9 hSw
    try dsimp only at hSw
    go_simp
    try with_reducible rfl
  try simp only [Act.put, List.setIfInBounds_toArray, List.set_cons_zero, List.set_cons_succ]
  refine wpAnyH_take (i := 25) (oi := { dst := some 36, op := Go.Op.load 33 (Go.Operand.tmp 2), type := 33, pos := "outright.go:28", after := #[{ on := 22, ground := Go.Ground.guard }], guard := some (22, true) }) (v := .agg #[.int .u8 2, .int .i64 0, .int .i64 0, .int .i64 0, .int .u8 0, .int .i64 0, .int .i64 0, .int .u8 0, .string ⟨#[]⟩, .string ⟨#[]⟩, .string ⟨#[]⟩]) rfl (by kernel_rfl) (by kernel_rfl) (by kernel_rfl) (fun _ _ _ h => h) (yieldsIf_row (by rfl) 33 (.tmp 2) rfl g2 rfl [.int .u8 2, .int .i64 0, .int .i64 0, .int .i64 0, .int .u8 0, .int .i64 0, .int .i64 0, .int .u8 0, .string ⟨#[]⟩, .string ⟨#[]⟩, .string ⟨#[]⟩] 33 _ (fun w hw => hw.2.1) Try.underlying33 rfl (by kernel_rfl)) (by assumption) ?_
  try simp only [Act.put, List.setIfInBounds_toArray, List.set_cons_zero, List.set_cons_succ]
  refine wpAnyH_ready (rs := [24]) (by kernel_rfl) (by simp) ?_
  refine AllReadyH.cons (o := { dst := some 35, op := Go.Op.call { callee := Go.Callee.value (Go.Operand.func 6), args := #[Go.Operand.const (Go.Value.int Go.IntKind.i64 5), Go.Operand.const (Go.Value.int Go.IntKind.i64 2), Go.Operand.const (Go.Value.int Go.IntKind.i64 1)], argTypes := #[3, 3, 3] }, type := 33, pos := "outright.go:28", after := #[{ on := 22, ground := Go.Ground.chain }, { on := 22, ground := Go.Ground.guard }], guard := some (22, true) }) rfl (fun K hK => ?_) AllReadyH.nil
  go_simp
  refine (HGD.out _ _ _ _).mono ?_
  rintro e w7 ⟨rfl, hx⟩
  have HX := Lib.hid (HX.out.trans hx)
  clear hx hHeld
  go_wp2_with fail
  refine hK.out _ _ (aw_keep HS.out HX.out) (fun hHeld => ?_)
  clear hK K
  try simp only [Act.put, List.setIfInBounds_toArray, List.set_cons_zero, List.set_cons_succ]
  refine wpAnyH_ready (rs := [26]) (by kernel_rfl) (by simp) ?_
  refine AllReadyH.cons (o := { dst := some 37, op := Go.Op.call { callee := Go.Callee.value (Go.Operand.func 12), args := #[Go.Operand.tmp 34, Go.Operand.tmp 35, Go.Operand.tmp 36, Go.Operand.const (Go.Value.int Go.IntKind.u8 2), Go.Operand.const (Go.Value.int Go.IntKind.u8 4), Go.Operand.const (Go.Value.int Go.IntKind.i64 (-1))], argTypes := #[27, 33, 33, 5, 5, 3] }, type := 4, pos := "outright.go:28", after := #[{ on := 23, ground := Go.Ground.data }, { on := 24, ground := Go.Ground.data }, { on := 25, ground := Go.Ground.data }, { on := 24, ground := Go.Ground.chain }, { on := 22, ground := Go.Ground.guard }], guard := some (22, true) }) rfl (fun K hK => ?_) AllReadyH.nil
  go_simp
  refine (I4.out _).mono ?_
  rintro e w8 ⟨rfl, hx⟩
  have HX := Lib.hid (HX.out.trans hx)
  clear hx hHeld
  go_wp2_with fail
  refine hK.out _ _ (aw_keep HS.out HX.out) (fun hHeld => ?_)
  clear hK K
  try simp only [Act.put, List.setIfInBounds_toArray, List.set_cons_zero, List.set_cons_succ]
  refine wpAnyH_take (i := 27) (oi := { dst := some 38, op := Go.Op.pick (Go.Operand.tmp 33) (Go.Operand.tmp 37) (Go.Operand.const (Go.Value.bool false)), type := 4, pos := "outright.go:28", after := #[{ on := 22, ground := Go.Ground.data }, { on := 26, ground := Go.Ground.data }], guard := none }) (v := ?_) rfl (by kernel_rfl) (by kernel_rfl) (by kernel_rfl) (fun _ _ _ h => h) (Or.inl ⟨by rfl, ?_⟩) (by assumption) ?_
  rotate_left
  · intro w9 hSw
    try dsimp only at hSw
    go_simp
    try with_reducible rfl
  try simp only [Act.put, List.setIfInBounds_toArray, List.set_cons_zero, List.set_cons_succ]
  refine wpAnyH_take (i := 28) (oi := { dst := some 39, op := Go.Op.move (Go.Operand.tmp 38), type := 4, pos := "outright.go:28", after := #[{ on := 27, ground := Go.Ground.data }, { on := 26, ground := Go.Ground.chain }], guard := none }) (v := ?_) rfl (by kernel_rfl) (by kernel_rfl) (by kernel_rfl) (fun _ _ _ h => h) (Or.inl ⟨by rfl, ?_⟩) (by assumption) ?_
  rotate_left
  · intro w9 hSw
    try dsimp only at hSw
    go_simp
    try with_reducible rfl
  try simp only [Act.put, List.setIfInBounds_toArray, List.set_cons_zero, List.set_cons_succ]
  refine wpAnyH_take (i := 29) (oi := { dst := some 40, op := Go.Op.load 27 (Go.Operand.tmp 4), type := 27, pos := "outright.go:28", after := #[{ on := 28, ground := Go.Ground.guard }], guard := some (28, true) }) (v := .agg #[.int .u8 1, .int .i64 29, .int .i64 2, .int .i64 1, .int .i64 0]) rfl (by kernel_rfl) (by kernel_rfl) (by kernel_rfl) (fun _ _ _ h => h) (yieldsIf_row (by rfl) 27 (.tmp 4) rfl g4 rfl [.int .u8 1, .int .i64 29, .int .i64 2, .int .i64 1, .int .i64 0] 27 _ (fun w hw => hw.2.2.2) Try.underlying27 rfl (by kernel_rfl)) (by assumption) ?_
  try simp only [Act.put, List.setIfInBounds_toArray, List.set_cons_zero, List.set_cons_succ]
  refine wpAnyH_take (i := 30) (oi := { dst := some 41, op := Go.Op.load 33 (Go.Operand.tmp 1), type := 33, pos := "outright.go:28", after := #[{ on := 28, ground := Go.Ground.guard }], guard := some (28, true) }) (v := .agg #[.int .u8 0, .int .i64 0, .int .i64 0, .int .i64 0, .int .u8 0, .int .i64 0, .int .i64 0, .int .u8 0, .string ⟨#[]⟩, .string ⟨#[]⟩, .string ⟨#[]⟩]) rfl (by kernel_rfl) (by kernel_rfl) (by kernel_rfl) (fun _ _ _ h => h) (yieldsIf_row (by rfl) 33 (.tmp 1) rfl g1 rfl [.int .u8 0, .int .i64 0, .int .i64 0, .int .i64 0, .int .u8 0, .int .i64 0, .int .i64 0, .int .u8 0, .string ⟨#[]⟩, .string ⟨#[]⟩, .string ⟨#[]⟩] 33 _ (fun w hw => hw.1) Try.underlying33 rfl (by kernel_rfl)) (by assumption) ?_
  try simp only [Act.put, List.setIfInBounds_toArray, List.set_cons_zero, List.set_cons_succ]
  refine wpAnyH_take (i := 31) (oi := { dst := some 42, op := Go.Op.load 33 (Go.Operand.tmp 1), type := 33, pos := "outright.go:28", after := #[{ on := 28, ground := Go.Ground.guard }], guard := some (28, true) }) (v := .agg #[.int .u8 0, .int .i64 0, .int .i64 0, .int .i64 0, .int .u8 0, .int .i64 0, .int .i64 0, .int .u8 0, .string ⟨#[]⟩, .string ⟨#[]⟩, .string ⟨#[]⟩]) rfl (by kernel_rfl) (by kernel_rfl) (by kernel_rfl) (fun _ _ _ h => h) (yieldsIf_row (by rfl) 33 (.tmp 1) rfl g1 rfl [.int .u8 0, .int .i64 0, .int .i64 0, .int .i64 0, .int .u8 0, .int .i64 0, .int .i64 0, .int .u8 0, .string ⟨#[]⟩, .string ⟨#[]⟩, .string ⟨#[]⟩] 33 _ (fun w hw => hw.1) Try.underlying33 rfl (by kernel_rfl)) (by assumption) ?_
  try simp only [Act.put, List.setIfInBounds_toArray, List.set_cons_zero, List.set_cons_succ]
  refine wpAnyH_ready (rs := [32]) (by kernel_rfl) (by simp) ?_
  refine AllReadyH.cons (o := { dst := some 43, op := Go.Op.call { callee := Go.Callee.value (Go.Operand.func 12), args := #[Go.Operand.tmp 40, Go.Operand.tmp 41, Go.Operand.tmp 42, Go.Operand.const (Go.Value.int Go.IntKind.u8 2), Go.Operand.const (Go.Value.int Go.IntKind.u8 4), Go.Operand.const (Go.Value.int Go.IntKind.i64 (-1))], argTypes := #[27, 33, 33, 5, 5, 3] }, type := 4, pos := "outright.go:28", after := #[{ on := 29, ground := Go.Ground.data }, { on := 30, ground := Go.Ground.data }, { on := 31, ground := Go.Ground.data }, { on := 28, ground := Go.Ground.chain }, { on := 28, ground := Go.Ground.guard }], guard := some (28, true) }) rfl (fun K hK => ?_) AllReadyH.nil
  go_simp
  refine (I5.out _).mono ?_
  rintro e w9 ⟨rfl, hx⟩
  have HX := Lib.hid (HX.out.trans hx)
  clear hx hHeld
  go_wp2_with fail
  refine hK.out _ _ (aw_keep HS.out HX.out) (fun hHeld => ?_)
  clear hK K
  try simp only [Act.put, List.setIfInBounds_toArray, List.set_cons_zero, List.set_cons_succ]
  refine wpAnyH_take (i := 33) (oi := { dst := some 44, op := Go.Op.pick (Go.Operand.tmp 39) (Go.Operand.tmp 43) (Go.Operand.const (Go.Value.bool false)), type := 4, pos := "outright.go:28", after := #[{ on := 28, ground := Go.Ground.data }, { on := 32, ground := Go.Ground.data }], guard := none }) (v := ?_) rfl (by kernel_rfl) (by kernel_rfl) (by kernel_rfl) (fun _ _ _ h => h) (Or.inl ⟨by rfl, ?_⟩) (by assumption) ?_
  rotate_left
  · intro w9 hSw
    try dsimp only at hSw
    go_simp
    try with_reducible rfl
  try simp only [Act.put, List.setIfInBounds_toArray, List.set_cons_zero, List.set_cons_succ]
  refine wpAnyH_take (i := 34) (oi := { dst := some 0, op := Go.Op.assign (Go.Operand.tmp 44), type := 4, pos := "outright.go:28", after := #[{ on := 33, ground := Go.Ground.data }, { on := 32, ground := Go.Ground.chain }, { on := 0, ground := Go.Ground.phase }, { on := 1, ground := Go.Ground.phase }, { on := 2, ground := Go.Ground.phase }, { on := 3, ground := Go.Ground.phase }, { on := 4, ground := Go.Ground.phase }, { on := 5, ground := Go.Ground.phase }, { on := 6, ground := Go.Ground.phase }, { on := 7, ground := Go.Ground.phase }, { on := 8, ground := Go.Ground.phase }, { on := 9, ground := Go.Ground.phase }, { on := 10, ground := Go.Ground.phase }, { on := 11, ground := Go.Ground.phase }, { on := 12, ground := Go.Ground.phase }, { on := 13, ground := Go.Ground.phase }, { on := 14, ground := Go.Ground.phase }, { on := 15, ground := Go.Ground.phase }, { on := 16, ground := Go.Ground.phase }, { on := 17, ground := Go.Ground.phase }, { on := 18, ground := Go.Ground.phase }, { on := 19, ground := Go.Ground.phase }, { on := 20, ground := Go.Ground.phase }, { on := 21, ground := Go.Ground.phase }, { on := 22, ground := Go.Ground.phase }, { on := 23, ground := Go.Ground.phase }, { on := 24, ground := Go.Ground.phase }, { on := 25, ground := Go.Ground.phase }, { on := 26, ground := Go.Ground.phase }, { on := 27, ground := Go.Ground.phase }, { on := 28, ground := Go.Ground.phase }, { on := 29, ground := Go.Ground.phase }, { on := 30, ground := Go.Ground.phase }, { on := 31, ground := Go.Ground.phase }, { on := 32, ground := Go.Ground.phase }, { on := 33, ground := Go.Ground.phase }], guard := none }) (v := ?_) rfl (by kernel_rfl) (by kernel_rfl) (by kernel_rfl) (fun _ _ _ h => h) (Or.inl ⟨by rfl, ?_⟩) (by assumption) ?_
  rotate_left
  · intro w9 hSw
    try dsimp only at hSw
    go_simp
    try with_reducible rfl
  try simp only [Act.put, List.setIfInBounds_toArray, List.set_cons_zero]
  refine wpAnyH_done (by kernel_rfl) ?_ _
  clear hHeld
  go_wp2_with fail
  go_ret
  exact ⟨rfl, HE.out.trans HX.out⟩
end Go.Proofs.Ytejejadbemkifaa
