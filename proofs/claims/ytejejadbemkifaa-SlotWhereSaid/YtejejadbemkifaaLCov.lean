/-
  The contracts of slot's named and isCovered.
-/
import Derived.Test.YtejejadbemkifaaLFind
namespace Go.Proofs.Ytejejadbemkifaa
open Go Go.RowKit

/-- A block that holds a record. -/
def RecAt (w : World) (g : Nat) (p : Rec) : Prop := w.heap[g]? = some (.cells #[.int .u8 (p.st : Int), .int .i64 p.ix, .int .i64 p.bx, .int .i64 p.yb, .int .i64 p.wh] 27 (0, 0))
theorem RecAt.ext {w w' : World} {g : Nat} {p : Rec} (h : RecAt w g p) (k : Ext w w') : RecAt w' g p := keep_row k h
theorem RecAt.cells {w : World} {g : Nat} {p : Rec} (h : RecAt w g p) : w.cell? ⟨g, 0, none⟩ = some (.int .u8 (p.st : Int)) ∧ w.cell? ⟨g, 1, none⟩ = some (.int .i64 p.ix) ∧ w.cell? ⟨g, 2, none⟩ = some (.int .i64 p.bx) ∧ w.cell? ⟨g, 3, none⟩ = some (.int .i64 p.yb) ∧ w.cell? ⟨g, 4, none⟩ = some (.int .i64 p.wh) := ⟨cell_of_row w g 0 _ _ _ h, cell_of_row w g 1 _ _ _ h, cell_of_row w g 2 _ _ _ h, cell_of_row w g 3 _ _ _ h, cell_of_row w g 4 _ _ _ h⟩
theorem RecAt.new (w : World) (p : Rec) : RecAt (w.alloc (.cells #[.int .u8 (p.st : Int), .int .i64 p.ix, .int .i64 p.bx, .int .i64 p.yb, .int .i64 p.wh] 27)) w.heap.size p := heap_alloc_new w _
theorem cast_one (n : Nat) : ((n : Int) == 1) = decide (n = 1) := by
  rw [Bool.eq_iff_iff]
  simp
  omega
/-- The frame that a record names. -/
def namedL (p : Rec) : Int := if p.st = 1 then p.wh else -1
theorem named_of (p : Rec) (hw : p.wh = 0 ∨ p.wh = 1) (w : World) : Calls Try.prog 15 #[.agg #[.int .u8 (p.st : Int), .int .i64 p.ix, .int .i64 p.bx, .int .i64 p.yb, .int .i64 p.wh]] w fun e w' => e = .returned (.int .i64 (namedL p)) ∧ Ext w w' := by
  have HE := Lib.hid ((Ext.refl w).alloc (.cells #[.int .u8 (p.st : Int), .int .i64 p.ix, .int .i64 p.bx, .int .i64 p.yb, .int .i64 p.wh] 27))
  have HF := Lib.hid isFrame_of
  have HW := Lib.hid hw
  clear hw
  by_cases h1 : p.st = 1
  · have hb : ((p.st : Int) != 1) = false := by simp [h1]
    rw [show namedL p = p.wh from if_pos h1]
    clear h1
    go_enter Try.func15, Try.ntmps15
    go_wp2_with fail
    refine (HF.out _ HW.out _).mono ?_
    rintro e w1 ⟨rfl, rfl⟩
    go_wp2_with fail
    go_ret
    exact ⟨rfl, HE.out⟩
  · have hb : ((p.st : Int) != 1) = true := by simp; omega
    rw [show namedL p = -1 from if_neg h1]
    clear h1
    go_enter Try.func15, Try.ntmps15
    go_wp2_with fail
    go_ret
    exact ⟨rfl, HE.out⟩
def laterB (c : Cop) (i : Int) : Bool := (c.st : Int) == 1 && decide (i < c.ix)
def covB (p : Rec) (f0 f1 : Cop) (i : Int) : Bool := ((p.st : Int) == 1 && decide (i < p.ix)) || (laterB f0 i || laterB f1 i)
theorem covB_iff {p : Rec} {f0 f1 : Cop} {i : Int} : covB p f0 f1 i = true ↔ beyL p f0 f1 i := by
  unfold covB laterB beyL
  simp only [cast_one, Bool.or_eq_true, Bool.and_eq_true, decide_eq_true_iff]
theorem later_go : Enters Try.prog 30 := enters_of Try.func30 (by kernel_rfl) rfl
set_option maxRecDepth 100000 in
set_option maxHeartbeats 600000 in
theorem isCovered_of (p : Rec) (f0 f1 : Cop) (i : Int) (w : World) : Calls Try.prog 24 #[.agg #[.int .u8 (p.st : Int), .int .i64 p.ix, .int .i64 p.bx, .int .i64 p.yb, .int .i64 p.wh], .agg #[.int .u8 (f0.st : Int), .int .i64 f0.ix, .int .i64 f0.bx, .int .i64 f0.yb, .int .u8 (f0.e.k : Int), .int .i64 f0.e.cl, .int .i64 f0.e.sq, .int .u8 (f0.e.ok : Int), .string f0.e.key, .string f0.e.old, .string f0.e.val, .int .u8 (f1.st : Int), .int .i64 f1.ix, .int .i64 f1.bx, .int .i64 f1.yb, .int .u8 (f1.e.k : Int), .int .i64 f1.e.cl, .int .i64 f1.e.sq, .int .u8 (f1.e.ok : Int), .string f1.e.key, .string f1.e.old, .string f1.e.val], .int .i64 i] w fun e w' => e = .returned (.bool (covB p f0 f1 i)) ∧ Ext w w' := by
  have hmf : ∀ (fn : Fn) (first cap : Array Value) (w : World), (Instr.makeFunc fn first cap).run Try.prog w = .ok (.func fn first cap) w := fun _ _ _ _ => rfl
  have hE := (((Ext.refl w).alloc (.cells #[.int .u8 (p.st : Int), .int .i64 p.ix, .int .i64 p.bx, .int .i64 p.yb, .int .i64 p.wh] 27)).alloc (.cells #[.int .u8 (f0.st : Int), .int .i64 f0.ix, .int .i64 f0.bx, .int .i64 f0.yb, .int .u8 (f0.e.k : Int), .int .i64 f0.e.cl, .int .i64 f0.e.sq, .int .u8 (f0.e.ok : Int), .string f0.e.key, .string f0.e.old, .string f0.e.val, .int .u8 (f1.st : Int), .int .i64 f1.ix, .int .i64 f1.bx, .int .i64 f1.yb, .int .u8 (f1.e.k : Int), .int .i64 f1.e.cl, .int .i64 f1.e.sq, .int .u8 (f1.e.ok : Int), .string f1.e.key, .string f1.e.old, .string f1.e.val] 34)).alloc (.cells #[.int .i64 i] 3)
  have hT := (Two.new (w.alloc (.cells #[.int .u8 (p.st : Int), .int .i64 p.ix, .int .i64 p.bx, .int .i64 p.yb, .int .i64 p.wh] 27)) f0 f1).ext ((Ext.refl _).alloc (.cells #[.int .i64 i] 3))
  have hI : (((w.alloc (.cells #[.int .u8 (p.st : Int), .int .i64 p.ix, .int .i64 p.bx, .int .i64 p.yb, .int .i64 p.wh] 27)).alloc (.cells #[.int .u8 (f0.st : Int), .int .i64 f0.ix, .int .i64 f0.bx, .int .i64 f0.yb, .int .u8 (f0.e.k : Int), .int .i64 f0.e.cl, .int .i64 f0.e.sq, .int .u8 (f0.e.ok : Int), .string f0.e.key, .string f0.e.old, .string f0.e.val, .int .u8 (f1.st : Int), .int .i64 f1.ix, .int .i64 f1.bx, .int .i64 f1.yb, .int .u8 (f1.e.k : Int), .int .i64 f1.e.cl, .int .i64 f1.e.sq, .int .u8 (f1.e.ok : Int), .string f1.e.key, .string f1.e.old, .string f1.e.val] 34)).alloc (.cells #[.int .i64 i] 3)).cell? ⟨w.heap.size + 1 + 1, 0, none⟩ = some (.int .i64 i) := cell_new (by simp) rfl
  rw [World.size_alloc] at hT
  have hA := fun c : Cop => (fun W hx => isLater_of c (w.heap.size + 1 + 1) i W (ext_cell hx hI) : Asks (((w.alloc (.cells #[.int .u8 (p.st : Int), .int .i64 p.ix, .int .i64 p.bx, .int .i64 p.yb, .int .i64 p.wh] 27)).alloc (.cells #[.int .u8 (f0.st : Int), .int .i64 f0.ix, .int .i64 f0.bx, .int .i64 f0.yb, .int .u8 (f0.e.k : Int), .int .i64 f0.e.cl, .int .i64 f0.e.sq, .int .u8 (f0.e.ok : Int), .string f0.e.key, .string f0.e.old, .string f0.e.val, .int .u8 (f1.st : Int), .int .i64 f1.ix, .int .i64 f1.bx, .int .i64 f1.yb, .int .u8 (f1.e.k : Int), .int .i64 f1.e.cl, .int .i64 f1.e.sq, .int .u8 (f1.e.ok : Int), .string f1.e.key, .string f1.e.old, .string f1.e.val] 34)).alloc (.cells #[.int .i64 i] 3)) 30 #[.pointer (some ⟨w.heap.size + 1 + 1, 0, none⟩)] c (laterB c i))
  have HC := Lib.hid (contains_of 30 #[.pointer (some ⟨w.heap.size + 1 + 1, 0, none⟩)] f0 f1 (laterB f0 i) (laterB f1 i) (w.heap.size + 1) 2 _ later_go hT (hA f0) (hA f1))
  have HE := Lib.hid hE
  unfold covB
  generalize (laterB f0 i || laterB f1 i) = r at HC ⊢
  obtain ⟨b, hb⟩ : ∃ b, ((p.st : Int) == 1) = b := ⟨_, rfl⟩
  obtain ⟨d, hd⟩ : ∃ d, decide (i < p.ix) = d := ⟨_, rfl⟩
  rw [hb, hd]
  clear hA hT hI hE
  cases b with
  | true =>
    cases d with
    | true =>
      go_enter Try.func24, Try.ntmps24
      go_wp2_with fail
      go_ret
      exact ⟨rfl, HE.out⟩
    | false =>
      simp only [Bool.and_false, Bool.false_or]
      go_enter Try.func24, Try.ntmps24
      go_wp2_with fail
      refine HC.out.mono ?_
      rintro e w1 ⟨rfl, hx⟩
      have HX := Lib.hid (HE.out.trans hx)
      clear hx
      go_wp2_with fail
      go_ret
      exact ⟨rfl, HX.out⟩
  | false =>
    simp only [Bool.false_and, Bool.false_or]
    go_enter Try.func24, Try.ntmps24
    go_wp2_with fail
    refine HC.out.mono ?_
    rintro e w1 ⟨rfl, hx⟩
    have HX := Lib.hid (HE.out.trans hx)
    clear hx
    go_wp2_with fail
    go_ret
    exact ⟨rfl, HX.out⟩
end Go.Proofs.Ytejejadbemkifaa
