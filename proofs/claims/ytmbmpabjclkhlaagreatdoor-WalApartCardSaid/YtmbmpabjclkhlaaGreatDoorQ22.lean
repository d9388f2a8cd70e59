/-
  The contracts of slices' IndexFunc and ContainsFunc over two copies, of isCovered and named.
-/
import Derived.Test.YtmbmpabjclkhlaaGreatDoorQ00
import Derived.Test.YtmbmpabjclkhlaaGreatDoorQ18
import Derived.Shelf.Abstract
import Derived.Deep.DeepCutAuto
import Derived.Laws.EntriesVeiled
import Derived.Deep.MidRow
namespace Go.Proofs.YtmbmpabjclkhlaaGreatDoor
set_option maxRecDepth 100000
section
open Go Go.RowKit
def TwoL (w : World) (g : Nat) (f0 f1 : CopL) : Prop := w.heap[g]? = some (.cells #[.int .u8 (f0.st : Int), .int .i64 f0.ix, .int .i64 f0.bx, .int .i64 f0.yb, .int .u8 (f0.e.k : Int), .int .i64 f0.e.cl, .int .i64 f0.e.sq, .int .u8 (f0.e.ok : Int), .string f0.e.key, .string f0.e.old, .string f0.e.val, .int .u8 (f1.st : Int), .int .i64 f1.ix, .int .i64 f1.bx, .int .i64 f1.yb, .int .u8 (f1.e.k : Int), .int .i64 f1.e.cl, .int .i64 f1.e.sq, .int .u8 (f1.e.ok : Int), .string f1.e.key, .string f1.e.old, .string f1.e.val] 150 (0, 0))
theorem TwoL.ext {w w' : World} {g : Nat} {f0 f1 : CopL} (h : TwoL w g f0 f1) (k : Ext w w') : TwoL w' g f0 f1 := keep_row k h
theorem TwoL.first {w : World} {g : Nat} {f0 f1 : CopL} (h : TwoL w g f0 f1) : w.cell? ⟨g, 0, none⟩ = some (.int .u8 (f0.st : Int)) ∧ w.cell? ⟨g, 1, none⟩ = some (.int .i64 f0.ix) ∧ w.cell? ⟨g, 2, none⟩ = some (.int .i64 f0.bx) ∧ w.cell? ⟨g, 3, none⟩ = some (.int .i64 f0.yb) ∧ w.cell? ⟨g, 4, none⟩ = some (.int .u8 (f0.e.k : Int)) ∧ w.cell? ⟨g, 5, none⟩ = some (.int .i64 f0.e.cl) ∧ w.cell? ⟨g, 6, none⟩ = some (.int .i64 f0.e.sq) ∧ w.cell? ⟨g, 7, none⟩ = some (.int .u8 (f0.e.ok : Int)) ∧ w.cell? ⟨g, 8, none⟩ = some (.string f0.e.key) ∧ w.cell? ⟨g, 9, none⟩ = some (.string f0.e.old) ∧ w.cell? ⟨g, 10, none⟩ = some (.string f0.e.val) :=
  ⟨cell_of_row w g 0 _ _ _ h, cell_of_row w g 1 _ _ _ h, cell_of_row w g 2 _ _ _ h, cell_of_row w g 3 _ _ _ h, cell_of_row w g 4 _ _ _ h, cell_of_row w g 5 _ _ _ h, cell_of_row w g 6 _ _ _ h, cell_of_row w g 7 _ _ _ h, cell_of_row w g 8 _ _ _ h, cell_of_row w g 9 _ _ _ h, cell_of_row w g 10 _ _ _ h⟩
theorem TwoL.second {w : World} {g : Nat} {f0 f1 : CopL} (h : TwoL w g f0 f1) : w.cell? ⟨g, 11, none⟩ = some (.int .u8 (f1.st : Int)) ∧ w.cell? ⟨g, 12, none⟩ = some (.int .i64 f1.ix) ∧ w.cell? ⟨g, 13, none⟩ = some (.int .i64 f1.bx) ∧ w.cell? ⟨g, 14, none⟩ = some (.int .i64 f1.yb) ∧ w.cell? ⟨g, 15, none⟩ = some (.int .u8 (f1.e.k : Int)) ∧ w.cell? ⟨g, 16, none⟩ = some (.int .i64 f1.e.cl) ∧ w.cell? ⟨g, 17, none⟩ = some (.int .i64 f1.e.sq) ∧ w.cell? ⟨g, 18, none⟩ = some (.int .u8 (f1.e.ok : Int)) ∧ w.cell? ⟨g, 19, none⟩ = some (.string f1.e.key) ∧ w.cell? ⟨g, 20, none⟩ = some (.string f1.e.old) ∧ w.cell? ⟨g, 21, none⟩ = some (.string f1.e.val) :=
  ⟨cell_of_row w g 11 _ _ _ h, cell_of_row w g 12 _ _ _ h, cell_of_row w g 13 _ _ _ h, cell_of_row w g 14 _ _ _ h, cell_of_row w g 15 _ _ _ h, cell_of_row w g 16 _ _ _ h, cell_of_row w g 17 _ _ _ h, cell_of_row w g 18 _ _ _ h, cell_of_row w g 19 _ _ _ h, cell_of_row w g 20 _ _ _ h, cell_of_row w g 21 _ _ _ h⟩
theorem TwoL.new (w : World) (f0 f1 : CopL) : TwoL (w.alloc (.cells #[.int .u8 (f0.st : Int), .int .i64 f0.ix, .int .i64 f0.bx, .int .i64 f0.yb, .int .u8 (f0.e.k : Int), .int .i64 f0.e.cl, .int .i64 f0.e.sq, .int .u8 (f0.e.ok : Int), .string f0.e.key, .string f0.e.old, .string f0.e.val, .int .u8 (f1.st : Int), .int .i64 f1.ix, .int .i64 f1.bx, .int .i64 f1.yb, .int .u8 (f1.e.k : Int), .int .i64 f1.e.cl, .int .i64 f1.e.sq, .int .u8 (f1.e.ok : Int), .string f1.e.key, .string f1.e.old, .string f1.e.val] 150)) w.heap.size f0 f1 := heap_alloc_new w _
def Asks (w : World) (F : Nat) (caps : Array Value) (f : CopL) (b : Bool) : Prop := ∀ W, Ext w W → Calls Tryz.prog F (#[.agg #[.int .u8 (f.st : Int), .int .i64 f.ix, .int .i64 f.bx, .int .i64 f.yb, .int .u8 (f.e.k : Int), .int .i64 f.e.cl, .int .i64 f.e.sq, .int .u8 (f.e.ok : Int), .string f.e.key, .string f.e.old, .string f.e.val]] ++ caps) W fun e W' => e = .returned (.bool b) ∧ Ext W W'
theorem Asks.ext {w w' : World} {F : Nat} {caps : Array Value} {f : CopL} {b : Bool} (h : Asks w F caps f b) (k : Ext w w') : Asks w' F caps f b := fun W hx => h W (k.trans hx)
def firstI (a b : Bool) : Int := if a then 0 else if b then 1 else -1
set_option maxHeartbeats 600000 in
theorem index_of (F : Nat) (caps : Array Value) (f0 f1 : CopL) (b0 b1 : Bool) (g c : Nat) (w : World) (hgo : Enters Tryz.prog F) (hT : TwoL w g f0 f1) (h0 : Asks w F caps f0 b0) (h1 : Asks w F caps f1 b1) :
    Calls Tryz.prog 289 #[.slice (some ⟨g, 0, none⟩) 2 c, .func (.func F) #[] caps] w fun e w' => e = .returned (.int .i64 (firstI b0 b1)) ∧ Ext w w' := by
  have HT := Lib.hid hT
  have H0 := Lib.hid h0
  have H1 := Lib.hid h1
  obtain ⟨i0, i1, i2, i3, i4, i5, i6, i7, i8, i9, i10⟩ := hT.first
  clear hT h0 h1
  unfold Enters at hgo
  cases b0 with
  | true =>
    go_enter Tryz.func289, Tryz.ntmps289
    go_wp2_with fail
    refine wp_loop_rounds 3 ?_
    rw [rounds_succ]
    go_wp2_with fail
    refine (H0.out _ (Ext.refl _)).mono ?_
    rintro e w1 ⟨rfl, hx⟩
    have HX := Lib.hid hx
    clear hx i0 i1 i2 i3 i4 i5 i6 i7 i8 i9 i10
    go_wp2_with fail
    go_ret
    exact ⟨rfl, HX.out⟩
  | false =>
    cases b1 with
    | true =>
      go_enter Tryz.func289, Tryz.ntmps289
      go_wp2_with fail
      refine wp_loop_rounds 3 ?_
      rw [rounds_succ]
      go_wp2_with fail
      refine (H0.out _ (Ext.refl _)).mono ?_
      rintro e w1 ⟨rfl, hx⟩
      have HX := Lib.hid hx
      clear i0 i1 i2 i3 i4 i5 i6 i7 i8 i9 i10
      obtain ⟨j0, j1, j2, j3, j4, j5, j6, j7, j8, j9, j10⟩ := (HT.out.ext hx).second
      clear hx
      go_wp2_with fail
      rw [rounds_succ]
      go_wp2_with fail
      refine (H1.out _ HX.out).mono ?_
      rintro e w2 ⟨rfl, hx⟩
      have HX := Lib.hid (HX.out.trans hx)
      clear hx j0 j1 j2 j3 j4 j5 j6 j7 j8 j9 j10
      go_wp2_with fail
      go_ret
      exact ⟨rfl, HX.out⟩
    | false =>
      go_enter Tryz.func289, Tryz.ntmps289
      go_wp2_with fail
      refine wp_loop_rounds 3 ?_
      rw [rounds_succ]
      go_wp2_with fail
      refine (H0.out _ (Ext.refl _)).mono ?_
      rintro e w1 ⟨rfl, hx⟩
      have HX := Lib.hid hx
      clear i0 i1 i2 i3 i4 i5 i6 i7 i8 i9 i10
      obtain ⟨j0, j1, j2, j3, j4, j5, j6, j7, j8, j9, j10⟩ := (HT.out.ext hx).second
      clear hx
      go_wp2_with fail
      rw [rounds_succ]
      go_wp2_with fail
      refine (H1.out _ HX.out).mono ?_
      rintro e w2 ⟨rfl, hx⟩
      have HX := Lib.hid (HX.out.trans hx)
      clear hx j0 j1 j2 j3 j4 j5 j6 j7 j8 j9 j10
      go_wp2_with fail
      rw [rounds_succ]
      go_wp2_with fail
      go_ret
      exact ⟨rfl, HX.out⟩
theorem contains_of (F : Nat) (caps : Array Value) (f0 f1 : CopL) (b0 b1 : Bool) (g c : Nat) (w : World) (hgo : Enters Tryz.prog F) (hT : TwoL w g f0 f1) (h0 : Asks w F caps f0 b0) (h1 : Asks w F caps f1 b1) :
    Calls Tryz.prog 262 #[.slice (some ⟨g, 0, none⟩) 2 c, .func (.func F) #[] caps] w fun e w' => e = .returned (.bool (b0 || b1)) ∧ Ext w w' := by
  have HI := Lib.hid (index_of F caps f0 f1 b0 b1 g c w hgo hT h0 h1)
  clear hT h0 h1
  have hz : decide (0 ≤ firstI b0 b1) = (b0 || b1) := by cases b0 <;> cases b1 <;> rfl
  generalize firstI b0 b1 = z at HI hz
  generalize (b0 || b1) = r at hz ⊢
  clear hgo
  go_enter Tryz.func262, Tryz.ntmps262
  go_wp2_with fail
  refine HI.out.mono ?_
  rintro e w1 ⟨rfl, hx⟩
  have HX := Lib.hid hx
  clear hx
  go_wp2_with fail
  go_ret
  exact ⟨rfl, HX.out⟩
end
section
open Go Go.RowKit
def RecAt (w : World) (g : Nat) (p : Rec) : Prop := w.heap[g]? = some (.cells #[.int .u8 (p.st : Int), .int .i64 p.ix, .int .i64 p.bx, .int .i64 p.yb, .int .i64 p.wh] 147 (0, 0))
theorem RecAt.ext {w w' : World} {g : Nat} {p : Rec} (h : RecAt w g p) (k : Ext w w') : RecAt w' g p := keep_row k h
theorem RecAt.cells {w : World} {g : Nat} {p : Rec} (h : RecAt w g p) : w.cell? ⟨g, 0, none⟩ = some (.int .u8 (p.st : Int)) ∧ w.cell? ⟨g, 1, none⟩ = some (.int .i64 p.ix) ∧ w.cell? ⟨g, 2, none⟩ = some (.int .i64 p.bx) ∧ w.cell? ⟨g, 3, none⟩ = some (.int .i64 p.yb) ∧ w.cell? ⟨g, 4, none⟩ = some (.int .i64 p.wh) := ⟨cell_of_row w g 0 _ _ _ h, cell_of_row w g 1 _ _ _ h, cell_of_row w g 2 _ _ _ h, cell_of_row w g 3 _ _ _ h, cell_of_row w g 4 _ _ _ h⟩
theorem RecAt.new (w : World) (p : Rec) : RecAt (w.alloc (.cells #[.int .u8 (p.st : Int), .int .i64 p.ix, .int .i64 p.bx, .int .i64 p.yb, .int .i64 p.wh] 147)) w.heap.size p := heap_alloc_new w _
theorem cast_one (n : Nat) : ((n : Int) == 1) = decide (n = 1) := by
  rw [Bool.eq_iff_iff]
  simp
  omega
def namedL (p : Rec) : Int := if p.st = 1 then p.wh else -1
theorem named_of (p : Rec) (hw : p.wh = 0 ∨ p.wh = 1) (w : World) : Calls Tryz.prog 144 #[.agg #[.int .u8 (p.st : Int), .int .i64 p.ix, .int .i64 p.bx, .int .i64 p.yb, .int .i64 p.wh]] w fun e w' => e = .returned (.int .i64 (namedL p)) ∧ Ext w w' := by
  have HE := Lib.hid ((Ext.refl w).alloc (.cells #[.int .u8 (p.st : Int), .int .i64 p.ix, .int .i64 p.bx, .int .i64 p.yb, .int .i64 p.wh] 147))
  have HF := Lib.hid isFrame_of
  have HW := Lib.hid hw
  clear hw
  by_cases h1 : p.st = 1
  · have hb : ((p.st : Int) != 1) = false := by simp [h1]
    rw [show namedL p = p.wh from if_pos h1]
    clear h1
    go_enter Tryz.func144, Tryz.ntmps144
    go_wp2_with fail
    refine (HF.out _ HW.out _).mono ?_
    rintro e w1 ⟨rfl, rfl⟩
    go_wp2_with fail
    go_ret
    exact ⟨rfl, HE.out⟩
  · have hb : ((p.st : Int) != 1) = true := by simp; omega
    rw [show namedL p = -1 from if_neg h1]
    clear h1
    go_enter Tryz.func144, Tryz.ntmps144
    go_wp2_with fail
    go_ret
    exact ⟨rfl, HE.out⟩
def laterB (c : CopL) (i : Int) : Bool := (c.st : Int) == 1 && decide (i < c.ix)
def covB (p : Rec) (f0 f1 : CopL) (i : Int) : Bool := ((p.st : Int) == 1 && decide (i < p.ix)) || (laterB f0 i || laterB f1 i)
theorem covB_iff {p : Rec} {f0 f1 : CopL} {i : Int} : covB p f0 f1 i = true ↔ beyL p f0 f1 i := by
  unfold covB laterB beyL
  simp only [cast_one, Bool.or_eq_true, Bool.and_eq_true, decide_eq_true_iff]
theorem later_go : Enters Tryz.prog 292 := enters_of Tryz.func292 (by kernel_rfl) rfl
set_option maxHeartbeats 600000 in
theorem isCovered_of (p : Rec) (f0 f1 : CopL) (i : Int) (w : World) : Calls Tryz.prog 267 #[.agg #[.int .u8 (p.st : Int), .int .i64 p.ix, .int .i64 p.bx, .int .i64 p.yb, .int .i64 p.wh], .agg #[.int .u8 (f0.st : Int), .int .i64 f0.ix, .int .i64 f0.bx, .int .i64 f0.yb, .int .u8 (f0.e.k : Int), .int .i64 f0.e.cl, .int .i64 f0.e.sq, .int .u8 (f0.e.ok : Int), .string f0.e.key, .string f0.e.old, .string f0.e.val, .int .u8 (f1.st : Int), .int .i64 f1.ix, .int .i64 f1.bx, .int .i64 f1.yb, .int .u8 (f1.e.k : Int), .int .i64 f1.e.cl, .int .i64 f1.e.sq, .int .u8 (f1.e.ok : Int), .string f1.e.key, .string f1.e.old, .string f1.e.val], .int .i64 i] w fun e w' => e = .returned (.bool (covB p f0 f1 i)) ∧ Ext w w' := by
  have hmf : ∀ (fn : Fn) (first cap : Array Value) (w : World), (Instr.makeFunc fn first cap).run Tryz.prog w = .ok (.func fn first cap) w := fun _ _ _ _ => rfl
  have hE := (((Ext.refl w).alloc (.cells #[.int .u8 (p.st : Int), .int .i64 p.ix, .int .i64 p.bx, .int .i64 p.yb, .int .i64 p.wh] 147)).alloc (.cells #[.int .u8 (f0.st : Int), .int .i64 f0.ix, .int .i64 f0.bx, .int .i64 f0.yb, .int .u8 (f0.e.k : Int), .int .i64 f0.e.cl, .int .i64 f0.e.sq, .int .u8 (f0.e.ok : Int), .string f0.e.key, .string f0.e.old, .string f0.e.val, .int .u8 (f1.st : Int), .int .i64 f1.ix, .int .i64 f1.bx, .int .i64 f1.yb, .int .u8 (f1.e.k : Int), .int .i64 f1.e.cl, .int .i64 f1.e.sq, .int .u8 (f1.e.ok : Int), .string f1.e.key, .string f1.e.old, .string f1.e.val] 150)).alloc (.cells #[.int .i64 i] 3)
  have hT := (TwoL.new (w.alloc (.cells #[.int .u8 (p.st : Int), .int .i64 p.ix, .int .i64 p.bx, .int .i64 p.yb, .int .i64 p.wh] 147)) f0 f1).ext ((Ext.refl _).alloc (.cells #[.int .i64 i] 3))
  have hI : (((w.alloc (.cells #[.int .u8 (p.st : Int), .int .i64 p.ix, .int .i64 p.bx, .int .i64 p.yb, .int .i64 p.wh] 147)).alloc (.cells #[.int .u8 (f0.st : Int), .int .i64 f0.ix, .int .i64 f0.bx, .int .i64 f0.yb, .int .u8 (f0.e.k : Int), .int .i64 f0.e.cl, .int .i64 f0.e.sq, .int .u8 (f0.e.ok : Int), .string f0.e.key, .string f0.e.old, .string f0.e.val, .int .u8 (f1.st : Int), .int .i64 f1.ix, .int .i64 f1.bx, .int .i64 f1.yb, .int .u8 (f1.e.k : Int), .int .i64 f1.e.cl, .int .i64 f1.e.sq, .int .u8 (f1.e.ok : Int), .string f1.e.key, .string f1.e.old, .string f1.e.val] 150)).alloc (.cells #[.int .i64 i] 3)).cell? ⟨w.heap.size + 1 + 1, 0, none⟩ = some (.int .i64 i) := cell_new (by simp) rfl
  rw [World.size_alloc] at hT
  have hA := fun c : CopL => (fun W hx => isLater_of c (w.heap.size + 1 + 1) i W (ext_cellL hx hI) : Asks (((w.alloc (.cells #[.int .u8 (p.st : Int), .int .i64 p.ix, .int .i64 p.bx, .int .i64 p.yb, .int .i64 p.wh] 147)).alloc (.cells #[.int .u8 (f0.st : Int), .int .i64 f0.ix, .int .i64 f0.bx, .int .i64 f0.yb, .int .u8 (f0.e.k : Int), .int .i64 f0.e.cl, .int .i64 f0.e.sq, .int .u8 (f0.e.ok : Int), .string f0.e.key, .string f0.e.old, .string f0.e.val, .int .u8 (f1.st : Int), .int .i64 f1.ix, .int .i64 f1.bx, .int .i64 f1.yb, .int .u8 (f1.e.k : Int), .int .i64 f1.e.cl, .int .i64 f1.e.sq, .int .u8 (f1.e.ok : Int), .string f1.e.key, .string f1.e.old, .string f1.e.val] 150)).alloc (.cells #[.int .i64 i] 3)) 292 #[.pointer (some ⟨w.heap.size + 1 + 1, 0, none⟩)] c (laterB c i))
  have HC := Lib.hid (contains_of 292 #[.pointer (some ⟨w.heap.size + 1 + 1, 0, none⟩)] f0 f1 (laterB f0 i) (laterB f1 i) (w.heap.size + 1) 2 _ later_go hT (hA f0) (hA f1))
  have HE := Lib.hid hE
  unfold covB
  generalize (laterB f0 i || laterB f1 i) = r at HC ⊢
  obtain ⟨b, hb⟩ : ∃ b, ((p.st : Int) == 1) = b := ⟨_, rfl⟩
  obtain ⟨d, hd⟩ : ∃ d, decide (i < p.ix) = d := ⟨_, rfl⟩
  rw [hb, hd]
  clear hA hT hI hE
  cases b with
  | true =>
    cases d with
    | true =>
      go_enter Tryz.func267, Tryz.ntmps267
      go_wp2_with fail
      go_ret
      exact ⟨rfl, HE.out⟩
    | false =>
      simp only [Bool.and_false, Bool.false_or]
      go_enter Tryz.func267, Tryz.ntmps267
      go_wp2_with fail
      refine HC.out.mono ?_
      rintro e w1 ⟨rfl, hx⟩
      have HX := Lib.hid (HE.out.trans hx)
      clear hx
      go_wp2_with fail
      go_ret
      exact ⟨rfl, HX.out⟩
  | false =>
    simp only [Bool.false_and, Bool.false_or]
    go_enter Tryz.func267, Tryz.ntmps267
    go_wp2_with fail
    refine HC.out.mono ?_
    rintro e w1 ⟨rfl, hx⟩
    have HX := Lib.hid (HE.out.trans hx)
    clear hx
    go_wp2_with fail
    go_ret
    exact ⟨rfl, HX.out⟩
end
section
open Go Go.RowKit
def isB (c : CopL) (i : Int) : Bool := (c.st : Int) == 1 && c.ix == i
theorem isB_iff {c : CopL} {i : Int} : isB c i = true ↔ c.of i := by
  unfold isB CopL.of
  rw [cast_one, Bool.and_eq_true, decide_eq_true_iff, beq_iff_eq]
def isR (p : Rec) (i : Int) : Bool := (p.st : Int) == 1 && p.ix == i
theorem isR_iff {p : Rec} {i : Int} : isR p i = true ↔ p.of i := by
  unfold isR Rec.of
  rw [cast_one, Bool.and_eq_true, decide_eq_true_iff, beq_iff_eq]
def badB (n : Nat) : Bool := (n : Int) != 0 && (n : Int) != 1
theorem badB_iff {n : Nat} (h : n ≤ 2) : badB n = true ↔ n = 2 := by
  unfold badB
  rw [Bool.and_eq_true, bne_iff_ne, bne_iff_ne]
  omega
def hasB (f0 f1 : CopL) : Bool := badB f0.st || badB f1.st
theorem hasB_iff {f0 f1 : CopL} (h0 : f0.st ≤ 2) (h1 : f1.st ≤ 2) : hasB f0 f1 = true ↔ badL f0 f1 := by
  unfold hasB badL
  rw [Bool.or_eq_true, badB_iff h0, badB_iff h1]
def recentB (p : Rec) (i : Int) (c : CopL) : Bool := isB c i && decide (0 ≤ balI c.bx c.yb p.bx p.yb)
theorem recentB_iff {p : Rec} {i : Int} {c : CopL} : recentB p i c = true ↔ candL p c i := by
  unfold recentB candL
  rw [Bool.and_eq_true, isB_iff, decide_eq_true_iff, balI_ge]
theorem bad_go : Enters Tryz.prog 263 := enters_of Tryz.func263 (by kernel_rfl) rfl
theorem index_go : Enters Tryz.prog 260 := enters_of Tryz.func260 (by kernel_rfl) rfl
theorem recent_go : Enters Tryz.prog 265 := enters_of Tryz.func265 (by kernel_rfl) rfl
theorem none_go : Enters Tryz.prog 268 := enters_of Tryz.func268 (by kernel_rfl) rfl
theorem sz_two : (Tryz.prog.info? 150).map (·.size) = some 22 := by kernel_rfl
theorem size_two : ∃ N, N = 22 ∧ ∀ w, (sizeOf 150).run Tryz.prog w = .ok N w := ⟨22, rfl, fun w => by
  have h := sz_two
  cases hq : Tryz.prog.info? 150 with
  | none => simp [hq] at h
  | some i => simp [hq] at h; simp [sizeOf, typeInfo, hq, h]⟩
theorem load_two {w : World} {g N : Nat} {f0 f1 : CopL} (hN : N = 22) (h : TwoL w g f0 f1) : (loadCellsFrom ⟨g, 0, none⟩ 0 N #[]).run Tryz.prog w = .ok #[.int .u8 (f0.st : Int), .int .i64 f0.ix, .int .i64 f0.bx, .int .i64 f0.yb, .int .u8 (f0.e.k : Int), .int .i64 f0.e.cl, .int .i64 f0.e.sq, .int .u8 (f0.e.ok : Int), .string f0.e.key, .string f0.e.old, .string f0.e.val, .int .u8 (f1.st : Int), .int .i64 f1.ix, .int .i64 f1.bx, .int .i64 f1.yb, .int .u8 (f1.e.k : Int), .int .i64 f1.e.cl, .int .i64 f1.e.sq, .int .u8 (f1.e.ok : Int), .string f1.e.key, .string f1.e.old, .string f1.e.val] w := by
  subst hN
  exact run_loadCells_list (P := Tryz.prog) w ⟨g, 0, none⟩ [.int .u8 (f0.st : Int), .int .i64 f0.ix, .int .i64 f0.bx, .int .i64 f0.yb, .int .u8 (f0.e.k : Int), .int .i64 f0.e.cl, .int .i64 f0.e.sq, .int .u8 (f0.e.ok : Int), .string f0.e.key, .string f0.e.old, .string f0.e.val, .int .u8 (f1.st : Int), .int .i64 f1.ix, .int .i64 f1.bx, .int .i64 f1.yb, .int .u8 (f1.e.k : Int), .int .i64 f1.e.cl, .int .i64 f1.e.sq, .int .u8 (f1.e.ok : Int), .string f1.e.key, .string f1.e.old, .string f1.e.val] (fun j v hv => by rw [Addr.add_mid, Nat.zero_add, cell_of_row w g j _ _ _ h, List.getElem?_toArray]; exact hv)
structure ApS (w W : World) (p : Rec) (f0 f1 : CopL) (i : Int) (g g1 g2 g3 g4 : Nat) : Prop where
  rec_ : RecAt W g p
  two : TwoL W g1 f0 f1
  ix : W.heap[g2]? = some (.cells #[.int .i64 i] 3 (0, 0))
  rule : W.heap[g3]? = some (.cells #[.nilFunc, .int .i64 0, .int .u8 0, .int .i64 0, .int .u8 0, .int .i64 0, .int .i64 0, .int .u8 0, .int .i64 0, .int .i64 0, .int .u8 0, .string ⟨#[]⟩, .string ⟨#[]⟩, .string ⟨#[]⟩] 300 (0, 0))
  fn : W.heap[g4]? = some (.cells #[.func (.func 260) #[] #[.pointer (some ⟨g2, 0, none⟩)]] 298 (0, 0))
  ext : Ext w W
  ne : g ≠ g3 ∧ g2 ≠ g3 ∧ g4 ≠ g3 ∧ w.heap.size ≤ g3
theorem ApS.make (w : World) (p : Rec) (f0 f1 : CopL) (i : Int) : ApS w (((((w.alloc (.cells #[.int .u8 (p.st : Int), .int .i64 p.ix, .int .i64 p.bx, .int .i64 p.yb, .int .i64 p.wh] 147)).alloc (.cells #[.int .u8 (f0.st : Int), .int .i64 f0.ix, .int .i64 f0.bx, .int .i64 f0.yb, .int .u8 (f0.e.k : Int), .int .i64 f0.e.cl, .int .i64 f0.e.sq, .int .u8 (f0.e.ok : Int), .string f0.e.key, .string f0.e.old, .string f0.e.val, .int .u8 (f1.st : Int), .int .i64 f1.ix, .int .i64 f1.bx, .int .i64 f1.yb, .int .u8 (f1.e.k : Int), .int .i64 f1.e.cl, .int .i64 f1.e.sq, .int .u8 (f1.e.ok : Int), .string f1.e.key, .string f1.e.old, .string f1.e.val] 150)).alloc (.cells #[.int .i64 i] 3)).alloc (.cells #[.nilFunc, .int .i64 0, .int .u8 0, .int .i64 0, .int .u8 0, .int .i64 0, .int .i64 0, .int .u8 0, .int .i64 0, .int .i64 0, .int .u8 0, .string ⟨#[]⟩, .string ⟨#[]⟩, .string ⟨#[]⟩] 300)).alloc (.cells #[.func (.func 260) #[] #[.pointer (some ⟨w.heap.size + 1 + 1, 0, none⟩)]] 298)) p f0 f1 i w.heap.size (w.heap.size + 1) (w.heap.size + 1 + 1) (w.heap.size + 1 + 1 + 1) (w.heap.size + 1 + 1 + 1 + 1) := by
  have row : ∀ (V : World) (cs : Array Value) (t : TypeId) (k : Nat), k = V.heap.size → (V.alloc (.cells cs t)).heap[k]? = some (.cells cs t (0, 0)) := fun V cs t k hk => by subst hk; exact heap_alloc_new V _
  have past : ∀ (V : World) (o ob : Obj) (k : Nat), V.heap[k]? = some ob → (V.alloc o).heap[k]? = some ob := fun V o ob k h => keep_row ((Ext.refl V).alloc o) h
  refine ⟨?_, ?_, ?_, ?_, ?_, ?_, ?_⟩
  · exact past _ _ _ _ (past _ _ _ _ (past _ _ _ _ (past _ _ _ _ (row _ _ _ _ rfl))))
  · exact past _ _ _ _ (past _ _ _ _ (past _ _ _ _ (row _ _ _ _ (by simp))))
  · exact past _ _ _ _ (past _ _ _ _ (row _ _ _ _ (by simp)))
  · exact past _ _ _ _ (row _ _ _ _ (by simp))
  · exact row _ _ _ _ (by simp)
  · exact ((((((Ext.refl w).alloc _).alloc _).alloc _).alloc _).alloc _)
  · omega
theorem ApS.mono {w W W' : World} {p : Rec} {f0 f1 : CopL} {i : Int} {g g1 g2 g3 g4 : Nat} (h : ApS w W p f0 f1 i g g1 g2 g3 g4) (k : Ext W W') : ApS w W' p f0 f1 i g g1 g2 g3 g4 :=
  ⟨h.rec_.ext k, h.two.ext k, keep_row k h.ix, keep_row k h.rule, keep_row k h.fn, h.ext.trans k, h.ne⟩
end
section
open Go Go.RowKit
theorem use_keep {W w' : World} {g g2 F : Nat} {caps : Array Value} {fi : Int} {x2 x3 x4 x5 x6 x7 x8 x9 x10 x11 x12 x13 : Value} {f0 f1 : CopL} (h : W.heap[g]? = some (.cells #[.func (.func F) #[] caps, .int .i64 fi, x2, x3, x4, x5, x6, x7, x8, x9, x10, x11, x12, x13] 300 (0, 0))) (hT : TwoL W g2 f0 f1) (k : Ext W w') :
    w'.cell? ⟨g, 0, none⟩ = some (.func (.func F) #[] caps) ∧ w'.cell? ⟨g, 1, none⟩ = some (.int .i64 fi) ∧ w'.cell? ⟨g2, 0, none⟩ = some (.int .u8 (f0.st : Int)) ∧ w'.cell? ⟨g2, 1, none⟩ = some (.int .i64 f0.ix) ∧ w'.cell? ⟨g2, 2, none⟩ = some (.int .i64 f0.bx) ∧ w'.cell? ⟨g2, 3, none⟩ = some (.int .i64 f0.yb) ∧ w'.cell? ⟨g2, 4, none⟩ = some (.int .u8 (f0.e.k : Int)) ∧ w'.cell? ⟨g2, 5, none⟩ = some (.int .i64 f0.e.cl) ∧ w'.cell? ⟨g2, 6, none⟩ = some (.int .i64 f0.e.sq) ∧ w'.cell? ⟨g2, 7, none⟩ = some (.int .u8 (f0.e.ok : Int)) ∧ w'.cell? ⟨g2, 8, none⟩ = some (.string f0.e.key) ∧ w'.cell? ⟨g2, 9, none⟩ = some (.string f0.e.old) ∧ w'.cell? ⟨g2, 10, none⟩ = some (.string f0.e.val) ∧ w'.cell? ⟨g2, 11, none⟩ = some (.int .u8 (f1.st : Int)) ∧ w'.cell? ⟨g2, 12, none⟩ = some (.int .i64 f1.ix) ∧ w'.cell? ⟨g2, 13, none⟩ = some (.int .i64 f1.bx) ∧ w'.cell? ⟨g2, 14, none⟩ = some (.int .i64 f1.yb) ∧ w'.cell? ⟨g2, 15, none⟩ = some (.int .u8 (f1.e.k : Int)) ∧ w'.cell? ⟨g2, 16, none⟩ = some (.int .i64 f1.e.cl) ∧ w'.cell? ⟨g2, 17, none⟩ = some (.int .i64 f1.e.sq) ∧ w'.cell? ⟨g2, 18, none⟩ = some (.int .u8 (f1.e.ok : Int)) ∧ w'.cell? ⟨g2, 19, none⟩ = some (.string f1.e.key) ∧ w'.cell? ⟨g2, 20, none⟩ = some (.string f1.e.old) ∧ w'.cell? ⟨g2, 21, none⟩ = some (.string f1.e.val) :=
  ⟨cell_of_row w' g 0 _ _ _ (keep_row k h), cell_of_row w' g 1 _ _ _ (keep_row k h), cell_of_row w' g2 0 _ _ _ (keep_row k hT), cell_of_row w' g2 1 _ _ _ (keep_row k hT), cell_of_row w' g2 2 _ _ _ (keep_row k hT), cell_of_row w' g2 3 _ _ _ (keep_row k hT), cell_of_row w' g2 4 _ _ _ (keep_row k hT), cell_of_row w' g2 5 _ _ _ (keep_row k hT), cell_of_row w' g2 6 _ _ _ (keep_row k hT), cell_of_row w' g2 7 _ _ _ (keep_row k hT), cell_of_row w' g2 8 _ _ _ (keep_row k hT), cell_of_row w' g2 9 _ _ _ (keep_row k hT), cell_of_row w' g2 10 _ _ _ (keep_row k hT), cell_of_row w' g2 11 _ _ _ (keep_row k hT), cell_of_row w' g2 12 _ _ _ (keep_row k hT), cell_of_row w' g2 13 _ _ _ (keep_row k hT), cell_of_row w' g2 14 _ _ _ (keep_row k hT), cell_of_row w' g2 15 _ _ _ (keep_row k hT), cell_of_row w' g2 16 _ _ _ (keep_row k hT), cell_of_row w' g2 17 _ _ _ (keep_row k hT), cell_of_row w' g2 18 _ _ _ (keep_row k hT), cell_of_row w' g2 19 _ _ _ (keep_row k hT), cell_of_row w' g2 20 _ _ _ (keep_row k hT), cell_of_row w' g2 21 _ _ _ (keep_row k hT)⟩
def useL (fi : Int) (b0 b1 : Bool) (f0 f1 : CopL) : Int := if fi = 1 then pickW (b0 = true) (b1 = true) (¬ gtL f0.bx f0.yb f1.bx f1.yb) else pickW (b0 = true) (b1 = true) (gtL f1.bx f1.yb f0.bx f0.yb)
theorem idx_two (a b : Int) (w : World) : (Instr.index 276 (.agg #[.int .i64 a, .int .i64 b]) (.int .i64 0)).run Tryz.prog w = .ok (.int .i64 a) w ∧ (Instr.index 276 (.agg #[.int .i64 a, .int .i64 b]) (.int .i64 1)).run Tryz.prog w = .ok (.int .i64 b) w := by
  constructor <;> kernel_rfl
end
end Go.Proofs.YtmbmpabjclkhlaaGreatDoor
