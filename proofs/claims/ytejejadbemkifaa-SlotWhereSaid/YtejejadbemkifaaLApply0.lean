/-
  What slot's applying stands on; which rule applies, in plain words.
-/
import Derived.Test.YtejejadbemkifaaLCov
import Derived.Test.YtejejadbemkifaaLSetN
import Derived.Deep.DeepCutAuto
import Derived.Laws.EntriesVeiled
import Derived.Deep.MidRow
namespace Go.Proofs.Ytejejadbemkifaa
open Go Go.RowKit

def isB (c : Cop) (i : Int) : Bool := (c.st : Int) == 1 && c.ix == i
theorem isB_iff {c : Cop} {i : Int} : isB c i = true ↔ c.of i := by
  unfold isB Cop.of
  rw [cast_one, Bool.and_eq_true, decide_eq_true_iff, beq_iff_eq]
def isR (p : Rec) (i : Int) : Bool := (p.st : Int) == 1 && p.ix == i
theorem isR_iff {p : Rec} {i : Int} : isR p i = true ↔ p.of i := by
  unfold isR Rec.of
  rw [cast_one, Bool.and_eq_true, decide_eq_true_iff, beq_iff_eq]
def badB (n : Nat) : Bool := (n : Int) != 0 && (n : Int) != 1
theorem badB_iff {n : Nat} (h : n ≤ 2) : badB n = true ↔ n = 2 := by
  unfold badB
  rw [Bool.and_eq_true, bne_iff_ne, bne_iff_ne]
  omega
def hasB (f0 f1 : Cop) : Bool := badB f0.st || badB f1.st
theorem hasB_iff {f0 f1 : Cop} (h0 : f0.st ≤ 2) (h1 : f1.st ≤ 2) : hasB f0 f1 = true ↔ badL f0 f1 := by
  unfold hasB badL
  rw [Bool.or_eq_true, badB_iff h0, badB_iff h1]
/-- May a slot be intact by a frame, by a record of its index? -/
def recentB (p : Rec) (i : Int) (c : Cop) : Bool := isB c i && decide (0 ≤ balI c.bx c.yb p.bx p.yb)
theorem recentB_iff {p : Rec} {i : Int} {c : Cop} : recentB p i c = true ↔ candL p c i := by
  unfold recentB candL
  rw [Bool.and_eq_true, isB_iff, decide_eq_true_iff, balI_ge]
theorem bad_go : Enters Try.prog 20 := enters_of Try.func20 (by kernel_rfl) rfl
theorem index_go : Enters Try.prog 17 := enters_of Try.func17 (by kernel_rfl) rfl
theorem recent_go : Enters Try.prog 22 := enters_of Try.func22 (by kernel_rfl) rfl
theorem none_go : Enters Try.prog 25 := enters_of Try.func25 (by kernel_rfl) rfl
theorem sz_two : (Try.prog.info? 34).map (·.size) = some 22 := by kernel_rfl
theorem size_two : ∃ N, N = 22 ∧ ∀ w, (sizeOf 34).run Try.prog w = .ok N w := ⟨22, rfl, fun w => by
  have h := sz_two
  cases hq : Try.prog.info? 34 with
  | none => simp [hq] at h
  | some i => simp [hq] at h; simp [sizeOf, typeInfo, hq, h]⟩
theorem load_two {w : World} {g N : Nat} {f0 f1 : Cop} (hN : N = 22) (h : Two w g f0 f1) : (loadCellsFrom ⟨g, 0, none⟩ 0 N #[]).run Try.prog w = .ok #[.int .u8 (f0.st : Int), .int .i64 f0.ix, .int .i64 f0.bx, .int .i64 f0.yb, .int .u8 (f0.e.k : Int), .int .i64 f0.e.cl, .int .i64 f0.e.sq, .int .u8 (f0.e.ok : Int), .string f0.e.key, .string f0.e.old, .string f0.e.val, .int .u8 (f1.st : Int), .int .i64 f1.ix, .int .i64 f1.bx, .int .i64 f1.yb, .int .u8 (f1.e.k : Int), .int .i64 f1.e.cl, .int .i64 f1.e.sq, .int .u8 (f1.e.ok : Int), .string f1.e.key, .string f1.e.old, .string f1.e.val] w := by
  subst hN
  exact run_loadCells_list (P := Try.prog) w ⟨g, 0, none⟩ [.int .u8 (f0.st : Int), .int .i64 f0.ix, .int .i64 f0.bx, .int .i64 f0.yb, .int .u8 (f0.e.k : Int), .int .i64 f0.e.cl, .int .i64 f0.e.sq, .int .u8 (f0.e.ok : Int), .string f0.e.key, .string f0.e.old, .string f0.e.val, .int .u8 (f1.st : Int), .int .i64 f1.ix, .int .i64 f1.bx, .int .i64 f1.yb, .int .u8 (f1.e.k : Int), .int .i64 f1.e.cl, .int .i64 f1.e.sq, .int .u8 (f1.e.ok : Int), .string f1.e.key, .string f1.e.old, .string f1.e.val] (fun j v hv => by rw [Addr.add_mid, Nat.zero_add, cell_of_row w g j _ _ _ h, List.getElem?_toArray]; exact hv)
/-- What applying has made when it begins. -/
structure ApS (w W : World) (p : Rec) (f0 f1 : Cop) (i : Int) (g g1 g2 g3 g4 : Nat) : Prop where
  rec_ : RecAt W g p
  two : Two W g1 f0 f1
  ix : W.heap[g2]? = some (.cells #[.int .i64 i] 3 (0, 0))
  rule : W.heap[g3]? = some (.cells #[.nilFunc, .int .i64 0, .int .u8 0, .int .i64 0, .int .u8 0, .int .i64 0, .int .i64 0, .int .u8 0, .int .i64 0, .int .i64 0, .int .u8 0, .string ⟨#[]⟩, .string ⟨#[]⟩, .string ⟨#[]⟩] 50 (0, 0))
  fn : W.heap[g4]? = some (.cells #[.func (.func 17) #[] #[.pointer (some ⟨g2, 0, none⟩)]] 48 (0, 0))
  ext : Ext w W
  ne : g ≠ g3 ∧ g2 ≠ g3 ∧ g4 ≠ g3 ∧ w.heap.size ≤ g3
theorem ApS.make (w : World) (p : Rec) (f0 f1 : Cop) (i : Int) : ApS w (((((w.alloc (.cells #[.int .u8 (p.st : Int), .int .i64 p.ix, .int .i64 p.bx, .int .i64 p.yb, .int .i64 p.wh] 27)).alloc (.cells #[.int .u8 (f0.st : Int), .int .i64 f0.ix, .int .i64 f0.bx, .int .i64 f0.yb, .int .u8 (f0.e.k : Int), .int .i64 f0.e.cl, .int .i64 f0.e.sq, .int .u8 (f0.e.ok : Int), .string f0.e.key, .string f0.e.old, .string f0.e.val, .int .u8 (f1.st : Int), .int .i64 f1.ix, .int .i64 f1.bx, .int .i64 f1.yb, .int .u8 (f1.e.k : Int), .int .i64 f1.e.cl, .int .i64 f1.e.sq, .int .u8 (f1.e.ok : Int), .string f1.e.key, .string f1.e.old, .string f1.e.val] 34)).alloc (.cells #[.int .i64 i] 3)).alloc (.cells #[.nilFunc, .int .i64 0, .int .u8 0, .int .i64 0, .int .u8 0, .int .i64 0, .int .i64 0, .int .u8 0, .int .i64 0, .int .i64 0, .int .u8 0, .string ⟨#[]⟩, .string ⟨#[]⟩, .string ⟨#[]⟩] 50)).alloc (.cells #[.func (.func 17) #[] #[.pointer (some ⟨w.heap.size + 1 + 1, 0, none⟩)]] 48)) p f0 f1 i w.heap.size (w.heap.size + 1) (w.heap.size + 1 + 1) (w.heap.size + 1 + 1 + 1) (w.heap.size + 1 + 1 + 1 + 1) := by
  have row : ∀ (V : World) (cs : Array Value) (t : TypeId) (k : Nat), k = V.heap.size → (V.alloc (.cells cs t)).heap[k]? = some (.cells cs t (0, 0)) := fun V cs t k hk => by subst hk; exact heap_alloc_new V _
  have past : ∀ (V : World) (o ob : Obj) (k : Nat), V.heap[k]? = some ob → (V.alloc o).heap[k]? = some ob := fun V o ob k h => keep_row ((Ext.refl V).alloc o) h
  refine ⟨?_, ?_, ?_, ?_, ?_, ?_, ?_⟩
  · exact past _ _ _ _ (past _ _ _ _ (past _ _ _ _ (past _ _ _ _ (row _ _ _ _ rfl))))
  · exact past _ _ _ _ (past _ _ _ _ (past _ _ _ _ (row _ _ _ _ (by simp))))
  · exact past _ _ _ _ (past _ _ _ _ (row _ _ _ _ (by simp)))
  · exact past _ _ _ _ (row _ _ _ _ (by simp))
  · exact row _ _ _ _ (by simp)
  · exact ((((((Ext.refl w).alloc _).alloc _).alloc _).alloc _).alloc _)
  · omega
theorem ApS.mono {w W W' : World} {p : Rec} {f0 f1 : Cop} {i : Int} {g g1 g2 g3 g4 : Nat} (h : ApS w W p f0 f1 i g g1 g2 g3 g4) (k : Ext W W') : ApS w W' p f0 f1 i g g1 g2 g3 g4 :=
  ⟨h.rec_.ext k, h.two.ext k, keep_row k h.ix, keep_row k h.rule, keep_row k h.fn, h.ext.trans k, h.ne⟩
end Go.Proofs.Ytejejadbemkifaa
