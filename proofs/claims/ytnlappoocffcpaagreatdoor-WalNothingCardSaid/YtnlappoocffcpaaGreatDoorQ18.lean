/-
  Puts and faults of the statements on logs that came in, opened. Whatever the program's types are.
-/
import Derived.Test.YtnlappoocffcpaaGreatDoorQ00
import Derived.Test.YtnlappoocffcpaaGreatDoorQ05
import Derived.Test.YtnlappoocffcpaaGreatDoorQ09
import Derived.Test.YtnlappoocffcpaaGreatDoorQ10
import Derived.Test.YtnlappoocffcpaaGreatDoorQ12
import Derived.Test.YtnlappoocffcpaaGreatDoorQ15
import Derived.Test.YtnlappoocffcpaaGreatDoorQ17
import Derived.Deep.DeepCutAuto
import Derived.Deep.RegionHeld3
namespace Go.Proofs.YtnlappoocffcpaaGreatDoor
set_option maxRecDepth 100000
section
open Go Go.RowKit Go.ChangeShapes Go.WideShapes Go.Deep
structure PutA.Wf (a : PutA) : Prop where
  at_ : a.at_ < 256
  x : (Lit.int .i64 a.x).wf = true
  y : (Lit.int .i64 a.y).wf = true
  e : a.e.Wf
def PutA.cells (a : PutA) : List Value := [.int .u8 (a.at_ : Nat), .int .i64 a.x, .int .i64 a.y, .int .u8 (a.e.k : Nat), .int .i64 a.e.cl, .int .i64 a.e.sq, .int .u8 (a.e.ok : Nat), .string a.e.key, .string a.e.old, .string a.e.val]
instance : Inhabited PutA := ⟨{}⟩
structure FltA where
  k : Nat := 0
  s : Nat := 0
  n : Nat := 0
instance : Inhabited FltA := ⟨{}⟩
structure FltA.Wf (a : FltA) : Prop where
  k : a.k < 256
  s : a.s < 65536
  n : a.n < 65536
def FltA.cells (a : FltA) : List Value := [.int .u8 (a.k : Nat), .int .u16 (a.s : Nat), .int .u16 (a.n : Nat)]
theorem bounds_u16 {z : Int} (h : (Lit.int .u16 z).wf = true) : 0 ≤ z ∧ z < 65536 := by
  simp [Lit.wf, IntKind.min, IntKind.max, IntKind.bits, IntKind.signed] at h
  omega
section
variable {H : Type} {enc : TypeId × Value → H} {P : Program} {w : World} {base : Nat} {spare : Nat → Bool} {held : Bool}
structure PutTy (P : Program) (e t8 ti tb te tO ts : TypeId) : Prop where
  fs : ∃ f0 f1 f2 : Field, P.underlying e = some (.struct #[f0, f1, f2]) ∧ (f0.type = t8 ∧ f0.offset = 0) ∧ (f1.type = tb ∧ f1.offset = 1) ∧ (f2.type = te ∧ f2.offset = 3)
  cells : P.cellsOf e = 10
  bal : BalTy P tb ti
  ent : EntTy P te t8 ti tO ts
theorem trod_put {e t8 ti tb te tO ts : TypeId} (T : PutTy P e t8 ti tb te tO ts) {fuel : Nat} {cs : List Value} {x : DataW H × List MemPlace} (h : DataW.trod enc P w base spare held fuel e cs = some x) : ∃ a : PutA, cs = a.cells ∧ a.Wf := by
  obtain ⟨f0, f1, f2, hs, ⟨y0, o0⟩, ⟨y1, o1⟩, y2, o2⟩ := T.fs
  obtain ⟨xs, n, _, _, hcl, hxl, hg⟩ := DataW.trod_struct hs h
  rw [T.cells] at hcl
  match cs, hcl, xs, hxl with
  | [c0, c1, c2, c3, c4, c5, c6, c7, c8, c9], _, [x0, x1, x2], _ =>
    have g0 := hg 0 f0 rfl
    have g1 := hg 1 f1 rfl
    have g2 := hg 2 f2 rfl
    rw [y0, o0, T.ent.op.one.1] at g0
    rw [y1, o1, T.bal.cells] at g1
    rw [y2, o2, T.ent.cells] at g2
    obtain ⟨z, e0, _, w0⟩ := DataW.trod_int T.ent.op.u8 (show DataW.trod enc P w base spare held n t8 [c0] = some x0 from g0)
    obtain ⟨bx, yb, e1, w1, w1'⟩ := trod_bal T.bal (show DataW.trod enc P w base spare held n tb [c1, c2] = some x1 from g1)
    obtain ⟨en, e2, w2⟩ := trod_ent T.ent (show DataW.trod enc P w base spare held n te [c3, c4, c5, c6, c7, c8, c9] = some x2 from g2)
    have hz := bounds_u8 w0
    obtain ⟨at_, rfl⟩ := Int.eq_ofNat_of_zero_le (show 0 ≤ z by omega)
    injection e0 with e0 _
    injection e1 with e1 e1'
    injection e1' with e1' _
    refine ⟨⟨at_, bx, yb, en⟩, ?_, ⟨by dsimp only; omega, w1, w1', w2⟩⟩
    rw [e0, e1, e1', e2]
    rfl
theorem open_put {e t8 ti tb te tO ts : TypeId} (T : PutTy P e t8 ti tb te tO ts) {r : Reach} {b0 : Nat} {v : Value} {d : DataW H} {p : List MemPlace}
    (hv : Value.okWide P w r b0 e v) (h : DataW.Trod enc P w base spare held e v d p) : ∃ a : PutA, v = .agg #[.int .u8 (a.at_ : Nat), .int .i64 a.x, .int .i64 a.y, .int .u8 (a.e.k : Nat), .int .i64 a.e.cl, .int .i64 a.e.sq, .int .u8 (a.e.ok : Nat), .string a.e.key, .string a.e.old, .string a.e.val] ∧ a.Wf := by
  obtain ⟨f0, f1, f2, hs, _⟩ := T.fs
  obtain ⟨cs, rfl, _⟩ := okWide_struct hs hv
  obtain ⟨fuel, hf⟩ := h
  obtain ⟨a, hcs, hw⟩ := trod_put T hf
  refine ⟨a, ?_, hw⟩
  have e : (Value.cells (.agg cs)).toList = cs.toList := rfl
  rw [e] at hcs
  obtain ⟨cs⟩ := cs
  simp at hcs
  rw [hcs]
  rfl
structure FltTy (P : Program) (e t8 t16 : TypeId) : Prop where
  fs : ∃ f0 f1 f2 : Field, P.underlying e = some (.struct #[f0, f1, f2]) ∧ (f0.type = t8 ∧ f0.offset = 0) ∧ (f1.type = t16 ∧ f1.offset = 1) ∧ (f2.type = t16 ∧ f2.offset = 2)
  cells : P.cellsOf e = 3
  u8 : P.underlying t8 = some (.int .u8)
  u16 : P.underlying t16 = some (.int .u16)
  one : P.cellsOf t8 = 1 ∧ P.cellsOf t16 = 1
theorem trod_flt {e t8 t16 : TypeId} (T : FltTy P e t8 t16) {fuel : Nat} {cs : List Value} {x : DataW H × List MemPlace} (h : DataW.trod enc P w base spare held fuel e cs = some x) : ∃ a : FltA, cs = a.cells ∧ a.Wf := by
  obtain ⟨f0, f1, f2, hs, ⟨y0, o0⟩, ⟨y1, o1⟩, y2, o2⟩ := T.fs
  obtain ⟨xs, n, _, _, hcl, hxl, hg⟩ := DataW.trod_struct hs h
  rw [T.cells] at hcl
  match cs, hcl, xs, hxl with
  | [c0, c1, c2], _, [x0, x1, x2], _ =>
    have g0 := hg 0 f0 rfl
    have g1 := hg 1 f1 rfl
    have g2 := hg 2 f2 rfl
    rw [y0, o0, T.one.1] at g0
    rw [y1, o1, T.one.2] at g1
    rw [y2, o2, T.one.2] at g2
    obtain ⟨z0, e0, _, w0⟩ := DataW.trod_int T.u8 (show DataW.trod enc P w base spare held n t8 [c0] = some x0 from g0)
    obtain ⟨z1, e1, _, w1⟩ := DataW.trod_int T.u16 (show DataW.trod enc P w base spare held n t16 [c1] = some x1 from g1)
    obtain ⟨z2, e2, _, w2⟩ := DataW.trod_int T.u16 (show DataW.trod enc P w base spare held n t16 [c2] = some x2 from g2)
    have h0 := bounds_u8 w0
    have h1 := bounds_u16 w1
    have h2 := bounds_u16 w2
    obtain ⟨k, rfl⟩ := Int.eq_ofNat_of_zero_le h0.1
    obtain ⟨s, rfl⟩ := Int.eq_ofNat_of_zero_le h1.1
    obtain ⟨m, rfl⟩ := Int.eq_ofNat_of_zero_le h2.1
    injection e0 with e0 _
    injection e1 with e1 _
    injection e2 with e2 _
    refine ⟨⟨k, s, m⟩, ?_, ⟨by dsimp only; omega, by dsimp only; omega, by dsimp only; omega⟩⟩
    rw [e0, e1, e2]
    rfl
end
end
section
open Go Go.RowKit Go.ChangeShapes Go.WideShapes Go.Deep
theorem put_ty : PutTy Tryz.prog 80 5 3 38 42 40 9 := ⟨⟨_, _, _, Tryz.underlying80, ⟨rfl, rfl⟩, ⟨rfl, rfl⟩, rfl, rfl⟩, by kernel_rfl, balE_ty, ent_ty⟩
theorem flt_ty : FltTy Tryz.prog 143 5 141 := ⟨⟨_, _, _, Tryz.underlying143, ⟨rfl, rfl⟩, ⟨rfl, rfl⟩, rfl, rfl⟩, by kernel_rfl, Tryz.underlying5, Tryz.underlying141, by kernel_rfl, by kernel_rfl⟩
theorem open_t80 {H : Type} {enc : TypeId × Value → H} {w : World} {base : Nat} {sp : Nat → Bool} {held : Bool} {r : Reach} {b0 : Nat} {v : Value} {d : DataW H} {p : List MemPlace}
    (hv : Value.okWide Tryz.prog w r b0 80 v) (h : DataW.Trod enc Tryz.prog w base sp held 80 v d p) :
    ∃ a : PutA, v = .agg #[.int .u8 (a.at_ : Nat), .int .i64 a.x, .int .i64 a.y, .int .u8 (a.e.k : Nat), .int .i64 a.e.cl, .int .i64 a.e.sq, .int .u8 (a.e.ok : Nat), .string a.e.key, .string a.e.old, .string a.e.val] ∧ a.Wf := open_put put_ty hv h
theorem open_t74 {H : Type} {enc : TypeId × Value → H} {w : World} {base : Nat} {held : Bool} {r : Reach} {b0 : Nat} {v : Value} {d : DataW H} {p : List MemPlace}
    (hv : Value.okWide Tryz.prog w r b0 74 v) (h : DataW.Trod enc Tryz.prog w base (fun _ => true) held 74 v d p) : ∃ (A : Option Addr) (n c : Nat) (l : List PutA), v = .slice A n c ∧ Ls PutA.cells 10 w w.heap.size A n c l ∧ ∀ a ∈ l, a.Wf :=
  open_list (cells := PutA.cells) (N := 10) (Ok := fun e => e.Wf) (fun _ => rfl) (by omega) Tryz.underlying74 (by kernel_rfl) (fun h => trod_put put_ty h) hv h
theorem open_t75 {H : Type} {enc : TypeId × Value → H} {w : World} {base : Nat} {held : Bool} {r : Reach} {b0 : Nat} {v : Value} {d : DataW H} {p : List MemPlace}
    (hv : Value.okWide Tryz.prog w r b0 75 v) (h : DataW.Trod enc Tryz.prog w base (fun _ => true) held 75 v d p) : ∃ (A : Option Addr) (n c : Nat) (l : List FltA), v = .slice A n c ∧ Ls FltA.cells 3 w w.heap.size A n c l ∧ ∀ a ∈ l, a.Wf :=
  open_list (cells := FltA.cells) (N := 3) (Ok := fun e => e.Wf) (fun _ => rfl) (by omega) Tryz.underlying75 (by kernel_rfl) (fun h => trod_flt flt_ty h) hv h
end
section
theorem door_there : True := trivial
end
section
open Go Go.RowKit
set_option maxHeartbeats 600000 in
theorem above_of (ax ay bx b2 : Int) (w : World) :
    Calls Tryz.prog 26 #[.agg #[.int .i64 ax, .int .i64 ay], .agg #[.int .i64 bx, .int .i64 b2]] w fun e w' => e = .returned (.bool (decide (gtL ax ay bx b2))) ∧ Ext w w' := by
  have hx : Ext w ((w.alloc (.cells #[.int .i64 ax, .int .i64 ay] 38)).alloc (.cells #[.int .i64 bx, .int .i64 b2] 38)) := ((Ext.refl w).alloc _).alloc _
  have HX := Lib.hid hx
  clear hx
  by_cases h1 : bx < ax
  · have hd : decide (gtL ax ay bx b2) = true := decide_eq_true (by unfold gtL; omega)
    rw [hd]
    clear hd
    go_enter Tryz.func26, Tryz.ntmps26
    go_wp2_with fail
    go_ret
    exact ⟨rfl, HX.out⟩
  · by_cases h2 : ax = bx
    · subst h2
      by_cases h3 : b2 < ay
      · have hd : decide (gtL ax ay ax b2) = true := decide_eq_true (by unfold gtL; omega)
        rw [hd]
        clear hd
        go_enter Tryz.func26, Tryz.ntmps26
        go_wp2_with fail
        go_ret
        exact ⟨rfl, HX.out⟩
      · have hd : decide (gtL ax ay ax b2) = false := decide_eq_false (by unfold gtL; omega)
        rw [hd]
        clear hd
        go_enter Tryz.func26, Tryz.ntmps26
        go_wp2_with fail
        go_ret
        exact ⟨rfl, HX.out⟩
    · have hd : decide (gtL ax ay bx b2) = false := decide_eq_false (by unfold gtL; omega)
      have h3 : (ax == bx) = false := by simpa using h2
      rw [hd]
      clear hd h2
      go_enter Tryz.func26, Tryz.ntmps26
      go_wp2_with fail
      go_ret
      exact ⟨rfl, HX.out⟩
set_option maxHeartbeats 1000000 in
theorem is_yes (ix x y : Int) (k : Nat) (cl sq : Int) (ok : Nat) (key old val : ByteArray) (at_ : Nat) (w : World) :
    Calls Tryz.prog 32 #[.agg #[.int .i64 ix, .int .u8 2, .int .i64 x, .int .i64 y, .int .u8 (k : Int), .int .i64 cl, .int .i64 sq, .int .u8 (ok : Int), .string key, .string old, .string val], .agg #[.int .u8 (at_ : Int), .int .i64 x, .int .i64 y, .int .u8 (k : Int), .int .i64 cl, .int .i64 sq, .int .u8 (ok : Int), .string key, .string old, .string val]] w fun e w' => e = .returned (.bool true) ∧ Ext w w' := by
  have hx : Ext w ((w.alloc (.cells #[.int .i64 ix, .int .u8 2, .int .i64 x, .int .i64 y, .int .u8 (k : Int), .int .i64 cl, .int .i64 sq, .int .u8 (ok : Int), .string key, .string old, .string val] 86)).alloc (.cells #[.int .u8 (at_ : Int), .int .i64 x, .int .i64 y, .int .u8 (k : Int), .int .i64 cl, .int .i64 sq, .int .u8 (ok : Int), .string key, .string old, .string val] 80)) := ((Ext.refl w).alloc _).alloc _
  have HX := Lib.hid hx
  have hb := fun W => bal_eql_self x y W
  have he := fun W => ent_eql_self k cl sq ok key old val W
  clear hx
  go_enter Tryz.func32, Tryz.ntmps32
  go_wp2_with fail
  go_ret
  exact ⟨rfl, HX.out⟩
theorem put_cells {w : World} {g o j n c B : Nat} {A : Option Addr} {l : List PutA} (h : Ls PutA.cells 10 w B A n c l) (hj : j < n) (hA : A = some ⟨g, o, none⟩) : ∃ a : PutA, l[j]? = some a ∧
    w.cell? ⟨g, o + j * 10, none⟩ = some (.int .u8 (a.at_ : Nat)) ∧ w.cell? ⟨g, o + j * 10 + 1, none⟩ = some (.int .i64 a.x) ∧ w.cell? ⟨g, o + j * 10 + 2, none⟩ = some (.int .i64 a.y) ∧
    w.cell? ⟨g, o + j * 10 + 3, none⟩ = some (.int .u8 (a.e.k : Nat)) ∧ w.cell? ⟨g, o + j * 10 + 4, none⟩ = some (.int .i64 a.e.cl) ∧ w.cell? ⟨g, o + j * 10 + 5, none⟩ = some (.int .i64 a.e.sq) ∧ w.cell? ⟨g, o + j * 10 + 6, none⟩ = some (.int .u8 (a.e.ok : Nat)) ∧
    w.cell? ⟨g, o + j * 10 + 7, none⟩ = some (.string a.e.key) ∧ w.cell? ⟨g, o + j * 10 + 8, none⟩ = some (.string a.e.old) ∧ w.cell? ⟨g, o + j * 10 + 9, none⟩ = some (.string a.e.val) := by
  obtain ⟨g', o', a, h1, _, h2, h3⟩ := h.at_ hj
  rw [hA] at h1
  injection h1 with h1
  injection h1 with h1 h4
  subst h1 h4
  exact ⟨a, h2, h3 0 _ rfl, h3 1 _ rfl, h3 2 _ rfl, h3 3 _ rfl, h3 4 _ rfl, h3 5 _ rfl, h3 6 _ rfl, h3 7 _ rfl, h3 8 _ rfl, h3 9 _ rfl⟩
abbrev P9 (w : World) (g q : Nat) (x y : Int) (k : Nat) (cl sq : Int) (ok : Nat) (key old val : ByteArray) : Prop := w.cell? ⟨g, q + 1, none⟩ = some (.int .i64 x) ∧ w.cell? ⟨g, q + 2, none⟩ = some (.int .i64 y) ∧ w.cell? ⟨g, q + 3, none⟩ = some (.int .u8 (k : Int)) ∧ w.cell? ⟨g, q + 4, none⟩ = some (.int .i64 cl) ∧ w.cell? ⟨g, q + 5, none⟩ = some (.int .i64 sq) ∧ w.cell? ⟨g, q + 6, none⟩ = some (.int .u8 (ok : Int)) ∧ w.cell? ⟨g, q + 7, none⟩ = some (.string key) ∧ w.cell? ⟨g, q + 8, none⟩ = some (.string old) ∧ w.cell? ⟨g, q + 9, none⟩ = some (.string val)
theorem P9.ext {w w' : World} {g q : Nat} {x y : Int} {k : Nat} {cl sq : Int} {ok : Nat} {key old val : ByteArray} (hx : Ext w w') (h : P9 w g q x y k cl sq ok key old val) : P9 w' g q x y k cl sq ok key old val := by
  obtain ⟨a1, a2, a3, a4, a5, a6, a7, a8, a9⟩ := h
  exact ⟨ext_of_cell hx a1, ext_of_cell hx a2, ext_of_cell hx a3, ext_of_cell hx a4, ext_of_cell hx a5, ext_of_cell hx a6, ext_of_cell hx a7, ext_of_cell hx a8, ext_of_cell hx a9⟩
def FitsE (n : Nat) (l : List PutA) (w : World) (e : Ending) (w' : World) : Prop := ∃ b : Bool, e = .returned (.bool b) ∧ Ext w w' ∧ (b = true → n ≤ 30 ∧ ∀ a ∈ l, balE a.x a.y = true ∧ enOk a.e = true)
theorem pR_two {x y : Int} {e : Ent} (h : ¬ (balE x y = true ∧ enOk e = true)) : pR x y e = 2 := if_neg h
set_option maxHeartbeats 1600000 in
theorem fits_of {w : World} (A : Option Addr) (n c : Nat) (l : List PutA) (h : Ls PutA.cells 10 w w.heap.size A n c l) (ho : ∀ a ∈ l, a.Wf) (hL : Laid w) :
    Calls Tryz.prog 25 #[.slice A n c] w (FitsE n l w) := by
  have HA := Lib.hid h
  have HO := Lib.hid ho
  have HL := Lib.hid hL
  have hcap := h.cap
  have hmost := h.most
  have hn := Nat.zero_le n
  clear h ho hL
  go_enter Tryz.func25, Tryz.ntmps25
  by_cases hn30 : 30 < n
  · go_wp2_with fail
    go_ret
    exact ⟨false, rfl, Ext.refl _, fun h => by cases h⟩
  go_wp2_with fail
  go_loopw [3] (fun i wr => ∃ k : Nat, k ≤ n ∧ i = .int .i64 k ∧ Hid (Ext w wr) ∧ Hid (∀ a ∈ l.take k, balE a.x a.y = true ∧ enOk a.e = true)) (fun i _ => n - (intOf i).toNat)
  case atStart => exact ⟨0, Nat.zero_le _, rfl, Lib.hid (Ext.refl _), Lib.hid fun a ha => by simp at ha⟩
  case round =>
    obtain ⟨k, hkn, rfl, HX, HT⟩ := hrel
    by_cases hlt : k < n
    · obtain ⟨g, o, a0, rfl, hg, ha0, _⟩ := HA.out.at_ hlt
      obtain ⟨a, ha, c0, c1, c2, c3, c4, c5, c6, c7, c8, c9⟩ := put_cells (HA.out.below (Ext.refl w)) hlt rfl
      have HAL := Lib.hid ha
      have HOK := Lib.hid (HO.out a (List.mem_of_getElem? ha))
      clear ha0 ha
      obtain ⟨at_, x, y, ek, cl, sq, ok, key, old, val⟩ := a
      dsimp only at c0 c1 c2 c3 c4 c5 c6 c7 c8 c9
      have hS : P9 wr.drew g (o + k * 10) x y ek cl sq ok key old val := P9.ext (Below.drew HX.out) ⟨c1, c2, c3, c4, c5, c6, c7, c8, c9⟩
      obtain ⟨d1, d2, d3, d4, d5, d6, d7, d8, d9⟩ := hS
      have hS0 : P9 wr.drew g (o + k * 10) x y ek cl sq ok key old val := ⟨d1, d2, d3, d4, d5, d6, d7, d8, d9⟩
      clear c0 c1 c2 c3 c4 c5 c6 c7 c8 c9
      have HC := Lib.hid (printE_any x y ek cl sq ok key old val wr.drew (HL.out.ext (Below.drew HX.out)) HOK.out.e.ok)
      obtain ⟨E, hE⟩ : ∃ E, pR x y ⟨ek, cl, sq, ok, key, old, val⟩ = E := ⟨_, rfl⟩
      have HE := Lib.hid hE
      rw [hE] at HC
      generalize (pL x y ⟨ek, cl, sq, ok, key, old, val⟩) = PL at HC
      clear hE
      by_cases hb : balE x y = true ∧ enOk ⟨ek, cl, sq, ok, key, old, val⟩ = true
      · have hE0 : E = 0 := HE.out.symm.trans (pR_yes hb.1 hb.2)
        subst hE0
        have HB := Lib.hid hb
        clear hb
        go_wp2_with fail
        go_region_held3 (fun w' => P9 w' g (o + k * 10) x y ek cl sq ok key old val)
          (first | with_reducible exact hS0 | with_reducible exact hS1 | with_reducible assumption)
          (first
            | (go_at_call 43; ((with_reducible refine HC.out.mono ?_); rintro e' w' ⟨A', c', rfl, _, hx⟩; have HX9 := Lib.hid hx; have hS1 := P9.ext hx hS0; clear hx)))
        go_wp2_with fail
        go_roundw
        case rel => exact ⟨k + 1, by omega, by go_num, Lib.hid (HX.out.trans ((Below.drew (Ext.refl wr)).trans HX9.out)), Lib.hid fun b hb' => by
          rw [List.take_add_one, HAL.out] at hb'
          rcases List.mem_append.1 hb' with h | h
          · exact HT.out b h
          · simp only [Option.toList_some, List.mem_singleton] at h
            subst h
            exact HB.out⟩
        case measure => simp [intOf]; omega
      · have hE0 : E = 2 := HE.out.symm.trans (pR_two hb)
        subst hE0
        clear hb
        go_wp2_with fail
        go_region_held3 (fun w' => P9 w' g (o + k * 10) x y ek cl sq ok key old val)
          (first | with_reducible exact hS0 | with_reducible exact hS1 | with_reducible assumption)
          (first
            | (go_at_call 43; ((with_reducible refine HC.out.mono ?_); rintro e' w' ⟨A', c', rfl, _, hx⟩; have HX9 := Lib.hid hx; have hS1 := P9.ext hx hS0; clear hx)))
        go_wp2_with fail
        go_ret
        exact ⟨false, rfl, HX.out.trans ((Below.drew (Ext.refl wr)).trans HX9.out), fun h => by cases h⟩
    · go_wp2_with fail
      go_ret
      refine ⟨true, rfl, HX.out, fun _ => ⟨by omega, fun a ha => HT.out a ?_⟩⟩
      rw [List.take_of_length_le (by have := HA.out.len; omega)]
      exact ha
end
section
open Go Go.RowKit
structure LogAt (w : World) (g d : Nat) (r inc : Int) (s : Nat) : Prop where
  row : w.heap[g]? = some (.cells #[.pointer (some ⟨g, 0, none⟩), .pointer (some ⟨d, 0, none⟩), .int .i64 r, .int .i64 inc, .int .i64 (s : Int)] 109 (0, 0))
theorem LogAt.lt {w : World} {g d s : Nat} {r inc : Int} (h : LogAt w g d r inc s) : g < w.heap.size := (Array.getElem?_eq_some_iff.1 h.row).1
theorem LogAt.cells {w : World} {g d s : Nat} {r inc : Int} (h : LogAt w g d r inc s) : w.cell? ⟨g, 0, none⟩ = some (.pointer (some ⟨g, 0, none⟩)) ∧ w.cell? ⟨g, 1, none⟩ = some (.pointer (some ⟨d, 0, none⟩)) ∧ w.cell? ⟨g, 2, none⟩ = some (.int .i64 r) ∧ w.cell? ⟨g, 3, none⟩ = some (.int .i64 inc) ∧ w.cell? ⟨g, 4, none⟩ = some (.int .i64 (s : Int)) :=
  ⟨cell_of_row w g 0 _ _ _ h.row, cell_of_row w g 1 _ _ _ h.row, cell_of_row w g 2 _ _ _ h.row, cell_of_row w g 3 _ _ _ h.row, cell_of_row w g 4 _ _ _ h.row⟩
theorem LogAt.ext {w w' : World} {g d s : Nat} {r inc : Int} (h : LogAt w g d r inc s) (hx : Ext w w') : LogAt w' g d r inc s := ⟨(hx.block _ h.lt).trans h.row⟩
theorem LogAt.mod {w w' : World} {F : Nat → Prop} {g d s : Nat} {r inc : Int} (h : LogAt w g d r inc s) (hm : Mod F w w') (hF : ¬ F g) : LogAt w' g d r inc s := ⟨(hm.block g h.lt hF).trans h.row⟩
theorem eqlW_self (a : Addr) (w : World) : (binOp .eql 31 (.pointer (some a)) (.pointer (some a))).run Tryz.prog w = .ok (.bool true) w := by
  have hi : (Tryz.prog.info? 109).isSome = true := by kernel_rfl
  obtain ⟨j, hj⟩ := Option.isSome_iff_exists.1 hi
  exact run_eql_ptr_same w a Tryz.underlying31 hj
set_option maxHeartbeats 400000 in
theorem wmade_yes (g : Nat) (w : World) (h : w.cell? ⟨g, 0, none⟩ = some (.pointer (some ⟨g, 0, none⟩))) :
    Calls Tryz.prog 59 #[.pointer (some ⟨g, 0, none⟩)] w fun e w' => e = .returned (.bool true) ∧ w = w' := by
  have he := eqlW_self
  go_enter Tryz.func59, Tryz.ntmps59
  go_wp2
  go_ret
  exact ⟨rfl, rfl⟩
theorem wrap_i64 {x : Int} (h1 : -9223372036854775808 ≤ x) (h2 : x ≤ 9223372036854775807) : IntKind.i64.wrap x = x := IntWalk.i64_in _ (by omega)
def inI (a b c : Int) : Bool := decide (a ≤ b) && decide (b ≤ c)
set_option maxHeartbeats 400000 in
theorem isWithin_of (a b c : Int) (w : World) : Calls Tryz.prog 40 #[.int .i64 a, .int .i64 b, .int .i64 c] w fun e w' => e = .returned (.bool (inI a b c)) ∧ w = w' := by
  by_cases h : a ≤ b
  · have hi : inI a b c = decide (b ≤ c) := by unfold inI; rw [decide_eq_true h, Bool.true_and]
    rw [hi]
    clear hi
    go_enter Tryz.func40, Tryz.ntmps40
    go_wp2_with fail
    go_ret
    exact ⟨rfl, rfl⟩
  · have hi : inI a b c = false := by unfold inI; rw [decide_eq_false h, Bool.false_and]
    rw [hi]
    clear hi
    go_enter Tryz.func40, Tryz.ntmps40
    go_wp2_with fail
    go_ret
    exact ⟨rfl, rfl⟩
def liveE (s : Nat) (i : Int) : Int := if (s : Int) + 1 ≤ i ∧ i ≤ (s : Int) + 24 then 0 else 2
set_option maxHeartbeats 800000 in
theorem wknown_of {w : World} {g d s : Nat} {r inc : Int} (h : LogAt w g d r inc s) (hs : s ≤ 2000000000000) (i : Int) :
    Calls Tryz.prog 45 #[.pointer (some ⟨g, 0, none⟩), .int .i64 i] w fun e w' => e = .returned (.int .i64 (liveE s i)) ∧ Ext w w' := by
  obtain ⟨c0, c1, c2, c3, c4⟩ := h.cells
  have HM := Lib.hid (wmade_yes g w c0)
  clear h c0 c1 c2 c3
  obtain ⟨b, hb⟩ : ∃ b, inI ((s : Int) + 1) i ((s : Int) + 24) = b := ⟨_, rfl⟩
  have HW : Hid (∀ V, Calls Tryz.prog 40 #[.int .i64 (IntKind.i64.wrap ((s : Int) + 1)), .int .i64 i, .int .i64 (IntKind.i64.wrap ((s : Int) + 24))] V fun e w' => e = .returned (.bool b) ∧ V = w') := Lib.hid (fun V => by rw [wrap_i64 (by omega) (by omega), wrap_i64 (by omega) (by omega), ← hb]; exact isWithin_of _ _ _ V)
  have HE : Hid (liveE s i = if b = true then 0 else 2) := Lib.hid (by
    unfold liveE
    rw [← hb]
    unfold inI
    simp)
  clear hb
  cases b with
  | true =>
    rw [HE.out]
    go_enter Tryz.func45, Tryz.ntmps45
    go_wp2_with fail
    refine HM.out.mono ?_
    rintro e w1 ⟨rfl, rfl⟩
    go_wp2_with fail
    go_region_held3 (fun w' => w'.cell? ⟨g, 4, none⟩ = some (.int .i64 (s : Int)))
      (first | with_reducible exact c4 | assumption | go_keep)
      (first | (go_at_call 40; ((with_reducible refine (HW.out _).mono ?_); rintro e w1 ⟨rfl, rfl⟩)))
    go_wp2_with fail
    go_ret
    exact ⟨rfl, Below.drew (Ext.refl w)⟩
  | false =>
    rw [HE.out]
    go_enter Tryz.func45, Tryz.ntmps45
    go_wp2_with fail
    refine HM.out.mono ?_
    rintro e w1 ⟨rfl, rfl⟩
    go_wp2_with fail
    go_region_held3 (fun w' => w'.cell? ⟨g, 4, none⟩ = some (.int .i64 (s : Int)))
      (first | with_reducible exact c4 | assumption | go_keep)
      (first | (go_at_call 40; ((with_reducible refine (HW.out _).mono ?_); rintro e w1 ⟨rfl, rfl⟩)))
    go_wp2_with fail
    go_ret
    exact ⟨rfl, Below.drew (Ext.refl w)⟩
def upE (m : DM) : Int := if m.up = true then 0 else 5
theorem wrunning_of {w : World} {g d s : Nat} {r inc : Int} {F : Nat → Prop} {m : DM} (h : LogAt w g d r inc s) (hd : PDisk w d F m) :
    Calls Tryz.prog 46 #[.pointer (some ⟨g, 0, none⟩)] w fun e w' => e = .returned (.int .i64 (upE m)) ∧ w = w' := by
  obtain ⟨c0, c1, c2, c3, c4⟩ := h.cells
  have HM := Lib.hid (wmade_yes g w c0)
  have hu := up_pd hd
  obtain ⟨b, hb⟩ : ∃ b, m.up = b := ⟨_, rfl⟩
  rw [hb] at hu
  have HU := Lib.hid hu
  have HE : Hid (upE m = if b = true then 0 else 5) := Lib.hid (by unfold upE; rw [hb])
  clear h hd hu c0 c2 c3 c4 hb
  cases b with
  | true =>
    rw [HE.out]
    go_enter Tryz.func46, Tryz.ntmps46
    go_wp2_with fail
    refine HM.out.mono ?_
    rintro e w1 ⟨rfl, rfl⟩
    go_wp2_with fail
    refine HU.out.mono ?_
    rintro e w1 ⟨rfl, rfl⟩
    go_wp2_with fail
    go_ret
    exact ⟨rfl, rfl⟩
  | false =>
    rw [HE.out]
    go_enter Tryz.func46, Tryz.ntmps46
    go_wp2_with fail
    refine HM.out.mono ?_
    rintro e w1 ⟨rfl, rfl⟩
    go_wp2_with fail
    refine HU.out.mono ?_
    rintro e w1 ⟨rfl, rfl⟩
    go_wp2_with fail
    go_ret
    exact ⟨rfl, rfl⟩
def cutB (s : Nat) (n : Int) : Bool := inI s n 1099511627752
set_option maxHeartbeats 800000 in
theorem wcut_of {w : World} {g d s : Nat} {r inc : Int} (h : LogAt w g d r inc s) (n : Int) :
    Calls Tryz.prog 14 #[.pointer (some ⟨g, 0, none⟩), .int .i64 n] w fun e w' => e = .returned (.int .i64 (if cutB s n = true then 0 else 2)) ∧ LogAt w' g d r inc (if cutB s n = true then n.toNat else s) ∧ Mod (fun k => k = g) w w' := by
  obtain ⟨c0, c1, c2, c3, c4⟩ := h.cells
  have hf := frozen_of_row w g 4 _ _ h.row
  have HM := Lib.hid (wmade_yes g w c0)
  have H := Lib.hid h
  have HW := Lib.hid (isWithin_of (s : Int) n 1099511627752 w)
  have HC : Hid (inI (s : Int) n 1099511627752 = cutB s n) := Lib.hid rfl
  rw [HC.out] at HW
  have HN : Hid (cutB s n = true → n = (n.toNat : Int)) := Lib.hid fun hc => by
    unfold cutB inI at hc
    simp at hc
    omega
  clear h c0 c1 c2 c3
  obtain ⟨b, hb⟩ : ∃ b, cutB s n = b := ⟨_, rfl⟩
  rw [hb] at HW HN ⊢
  clear hb HC
  cases b with
  | true =>
    go_enter Tryz.func14, Tryz.ntmps14
    go_wp2_with fail
    refine HM.out.mono ?_
    rintro e w1 ⟨rfl, rfl⟩
    go_wp2_with fail
    refine HW.out.mono ?_
    rintro e w1 ⟨rfl, rfl⟩
    go_wp2_with fail
    go_ret
    refine ⟨rfl, ⟨?_⟩, (Mod.refl (fun k => k = g) w).setCell (p := ⟨g, 4, none⟩) (.inl rfl) _⟩
    have := row_set (cs' := #[.pointer (some ⟨g, 0, none⟩), .pointer (some ⟨d, 0, none⟩), .int .i64 r, .int .i64 inc, .int .i64 n]) 4 H.out.row (.int .i64 n) rfl
    rw [← HN.out trivial]
    exact this
  | false =>
    go_enter Tryz.func14, Tryz.ntmps14
    go_wp2_with fail
    refine HM.out.mono ?_
    rintro e w1 ⟨rfl, rfl⟩
    go_wp2_with fail
    refine HW.out.mono ?_
    rintro e w1 ⟨rfl, rfl⟩
    go_wp2_with fail
    go_ret
    exact ⟨rfl, H.out, Mod.refl _ w⟩
theorem recordPlace_of (i : Nat) (h1 : 1 ≤ i) (h2 : i ≤ 2000000000000) (w : World) : Calls Tryz.prog 52 #[.int .i64 (i : Int)] w fun e w' => e = .returned (.int .i64 (placeW (i : Int))) ∧ w = w' := by
  have h3 : placeW (i : Int) = (((i - 1) % 24 : Nat) : Int) := by unfold placeW; omega
  obtain ⟨k, rfl⟩ : ∃ k, i = k + 1 := ⟨i - 1, by omega⟩
  rw [h3]
  go_enter Tryz.func52, Tryz.ntmps52
  go_wp2_with fail
  go_ret
  refine ⟨?_, rfl⟩
  congr 2
theorem framePlace_of (i : Nat) (k : Int) (hk : k = 0 ∨ k = 1) (h1 : 1 ≤ i) (h2 : i ≤ 2000000000000) (w : World) : Calls Tryz.prog 51 #[.int .i64 (i : Int), .int .i64 k] w fun e w' => e = .returned (.int .i64 (2 * placeW (i : Int) + k)) ∧ w = w' := by
  have HP := Lib.hid (recordPlace_of i h1 h2 w)
  obtain ⟨q, hq, hq24⟩ := placeW_nat (i := (i : Int))
  rw [hq] at HP ⊢
  clear h1 h2 hq
  rcases hk with rfl | rfl
  · go_enter Tryz.func51, Tryz.ntmps51
    go_wp2_with fail
    refine HP.out.mono ?_
    rintro e w1 ⟨rfl, rfl⟩
    go_wp2_with fail
    go_ret
    refine ⟨?_, rfl⟩
    congr 2
  · go_enter Tryz.func51, Tryz.ntmps51
    go_wp2_with fail
    refine HP.out.mono ?_
    rintro e w1 ⟨rfl, rfl⟩
    go_wp2_with fail
    go_ret
    refine ⟨?_, rfl⟩
    congr 2
end
section
def unE (x : Int × DM) (f : DM → Int × DM) : Int × DM := if x.1 = 0 then f x.2 else x
def wrsE (x : Int × DM) (S : Int) (L : List Nat) : Nat → Int × DM
  | 0 => x
  | k + 1 => unE (wrsE x S L k) fun m => m.write (S + (k : Int)) ((L.drop (64 * k)).take 64)
def wrfE (x : Int × DM) (S : Int) (L : List Nat) (W : Nat) : Int × DM := unE (wrsE x S L W) DM.flush
theorem wrs_err {E : Int} {m : DM} (h : E ≠ 0) (S : Int) (L : List Nat) : ∀ W, wrsE (E, m) S L W = (E, m)
  | 0 => rfl
  | k + 1 => by
    show unE (wrsE (E, m) S L k) _ = _
    rw [wrs_err h S L k]
    exact if_neg h
theorem wrf_err {E : Int} {m : DM} (h : E ≠ 0) (S : Int) (L : List Nat) (W : Nat) : wrfE (E, m) S L W = (E, m) := by
  unfold wrfE
  rw [wrs_err h]
  exact if_neg h
theorem wrf_one (m : DM) (S : Int) {L : List Nat} (hL : L.length = 64) : wrfE (0, m) S L 1 = m.putC S L := by
  have h1 : (L.drop (64 * 0)).take 64 = L := by rw [Nat.mul_zero, List.drop_zero, List.take_of_length_le (by omega)]
  have h2 : wrsE (0, m) S L 1 = m.write S L := by
    show unE (0, m) _ = _
    unfold unE
    rw [if_pos rfl]
    simp only
    rw [h1, Int.natCast_zero, Int.add_zero]
  unfold wrfE DM.putC
  rw [h2]
  unfold unE
  by_cases h : (m.write S L).1 = 0
  · rw [if_pos h, if_neg (by simp [h])]
  · rw [if_neg h, if_pos h]
theorem wrf_two (m : DM) (S : Int) {L : List Nat} (hL : L.length = 128) : wrfE (0, m) S L 2 = m.put2C S L := by
  have h0 : (L.drop (64 * 0)).take 64 = L.take 64 := by rw [Nat.mul_zero, List.drop_zero]
  have h1 : (L.drop (64 * 1)).take 64 = L.drop 64 := by rw [List.take_of_length_le (by rw [List.length_drop]; omega)]
  have h2 : wrsE (0, m) S L 1 = m.write S (L.take 64) := by
    show unE (0, m) _ = _
    unfold unE
    rw [if_pos rfl]
    simp only
    rw [h0, Int.natCast_zero, Int.add_zero]
  have h3 : wrsE (0, m) S L 2 = unE (m.write S (L.take 64)) fun m => m.write (S + 1) (L.drop 64) := by
    show unE (wrsE (0, m) S L 1) _ = _
    rw [h2, h1]
    rfl
  unfold wrfE DM.put2C
  rw [h3]
  by_cases h : (m.write S (L.take 64)).1 = 0
  · rw [if_neg (by simp [h])]
    have h4 : unE (m.write S (L.take 64)) (fun m => m.write (S + 1) (L.drop 64)) = (m.write S (L.take 64)).2.write (S + 1) (L.drop 64) := if_pos h
    rw [h4]
    unfold unE
    by_cases h5 : ((m.write S (L.take 64)).2.write (S + 1) (L.drop 64)).1 = 0
    · rw [if_pos h5, if_neg (by simp [h5])]
    · rw [if_neg h5, if_pos h5]
  · rw [if_pos h]
    have h4 : unE (m.write S (L.take 64)) (fun m => m.write (S + 1) (L.drop 64)) = m.write S (L.take 64) := if_neg h
    rw [h4]
    exact if_neg h
def twoE (m : DM) (r inc i q k x y : Int) (e : Ent) : Int × DM := wrfE (wrfE (0, m) (firstS 4 (2 * q + k)) (frmW r inc i (2 * q + k) x y e) 2) (firstS 3 q) (recW r inc i q x y k) 1
theorem two_putK {m : DM} {r inc i q k x y : Int} {e : Ent} (h4 : (frmW r inc i (2 * q + k) x y e).length = 128) (h3 : (recW r inc i q x y k).length = 64) : twoE m r inc i q k x y e = m.putK r inc i q k x y e := by
  unfold twoE DM.putK
  rw [wrf_two m _ h4]
  generalize m.put2C (firstS 4 (2 * q + k)) (frmW r inc i (2 * q + k) x y e) = z
  obtain ⟨E, m'⟩ := z
  by_cases h : E = 0
  · subst h
    rw [wrf_one m' _ h3]
    simp
  · rw [wrf_err h]
    simp [h]
def putE (m : DM) (s : Nat) (i x y : Int) (e : Ent) : Int := if ¬ ((s : Int) + 1 ≤ i ∧ i ≤ (s : Int) + 24) then 2 else if ¬ (balE x y = true ∧ enOk e = true) then 2 else if m.up = false then 5 else 0
def DM.putA (m : DM) (s : Nat) (r inc i x y : Int) (e : Ent) : Int × DM := if putE m s i x y e = 0 then m.putW r inc i x y e else (putE m s i x y e, m)
end
section
open Go Go.RowKit
def Step (d : Nat) (F : Nat → Prop) (w : World) (m' : DM) (w' : World) : Prop := PDisk w' d (grow F w w') m' ∧ Mod F w w'
theorem PDisk.more {w : World} {d : Nat} {F G : Nat → Prop} {m : DM} (h : PDisk w d F m) (hG : ∀ k, F k → G k) (hl : ∀ k, G k → k < w.heap.size) : PDisk w d G m := by
  obtain ⟨g, pv, hp, h2, _⟩ := h
  exact ⟨g, pv, hp, fun k hk => hG k (h2 k hk), hl⟩
theorem Step.of_ext {w w' : World} {d : Nat} {F : Nat → Prop} {m : DM} (h : PDisk w d F m) (hx : Ext w w') : Step d F w m w' :=
  ⟨(h.ext hx).more (fun _ hk => .inl hk) (fun k hk => hk.elim (fun h1 => Nat.lt_of_lt_of_le (h.lt k h1) hx.size) (fun h1 => h1.2)), Mod.of_ext hx⟩
theorem Outc.step {d : Nat} {F : Nat → Prop} {w : World} {E : Int} {m' : DM} {e : Ending} {w' : World} (h : Outc d F w E m' e w') : e = .returned (.int .i64 E) ∧ Step d F w m' w' := ⟨h.1, h.2.1, h.2.2⟩
end
section
open Go Go.RowKit
structure WrS (w0 : World) (d : Nat) (F F' : Nat → Prop) (bf : Nat) (w : World) (x : Int × DM) : Prop where
  disk : PDisk w d F' x.2
  sub : ∀ k, F' k → F k ∨ w0.heap.size ≤ k
  off : ¬ F' bf
  mod : Mod (fun k => F k ∨ k = bf) w0 w
  row : w.heap[bf]? = some (.cells #[.int .i64 x.1] 25 (0, 0))
theorem WrS.start {w : World} {d bf : Nat} {F : Nat → Prop} {m : DM} {E : Int} (h : PDisk w d F m) (ho : ¬ F bf) (hr : w.heap[bf]? = some (.cells #[.int .i64 E] 25 (0, 0))) : WrS w d F F bf w (E, m) :=
  ⟨h, fun _ hk => .inl hk, ho, Mod.refl _ w, hr⟩
section
variable {w0 w w' : World} {d bf : Nat} {F F' : Nat → Prop} {x : Int × DM}
theorem WrS.ext (h : WrS w0 d F F' bf w x) (hx : Ext w w') : WrS w0 d F F' bf w' x :=
  ⟨h.disk.ext hx, h.sub, h.off, h.mod.trans (Mod.of_ext hx) fun _ hi => .inl hi, (hx.block _ (Array.getElem?_eq_some_iff.1 h.row).1).trans h.row⟩
theorem WrS.cell (h : WrS w0 d F F' bf w x) : w.cell? ⟨bf, 0, none⟩ = some (.int .i64 x.1) ∧ w.frozen? ⟨bf, 0, none⟩ = false := ⟨cell_of_row w bf 0 _ _ _ h.row, frozen_of_row w bf 0 _ _ h.row⟩
def WrT (w0 : World) (d : Nat) (F F' : Nat → Prop) (bf : Nat) (w w' : World) (x : Int × DM) : Prop := ∃ F'', WrS w0 d F F'' bf w' x ∧ (∀ k, k < w.heap.size → F'' k → F' k) ∧ Mod (fun k => F' k ∨ k = bf) w w'
theorem WrS.same (h : WrS w0 d F F' bf w x) : WrT w0 d F F' bf w w x := ⟨F', h, fun _ _ hk => hk, Mod.refl _ w⟩
end
theorem WrS.put {w0 w w' : World} {d bf : Nat} {F F' : Nat → Prop} {E0 E : Int} {m m' : DM} {e : Ending} (h : WrS w0 d F F' bf w (E0, m)) (ho : Outc d F' w E m' e w') : WrT w0 d F F' bf w (w'.setCell ⟨bf, 0, none⟩ (.int .i64 E)) (E, m') := by
  have hrow : w'.heap[bf]? = some (.cells #[.int .i64 E0] 25 (0, 0)) := (ho.2.2.block bf (Array.getElem?_eq_some_iff.1 h.row).1 h.off).trans h.row
  have hset : Mod (fun k => k = bf) w' (w'.setCell ⟨bf, 0, none⟩ (.int .i64 E)) := (Mod.refl (fun k => k = bf) w').setCell (p := ⟨bf, 0, none⟩) (.inl rfl) _
  have hs1 := h.mod.size
  have hs2 := ho.2.2.size
  have hlt := (Array.getElem?_eq_some_iff.1 h.row).1
  have hnb : ¬ grow F' w w' bf := fun hk => hk.elim h.off fun h1 => by have := h1.1; omega
  have hm : Mod (fun k => F' k ∨ k = bf) w (w'.setCell ⟨bf, 0, none⟩ (.int .i64 E)) := (ho.2.2.mono fun i hi => .inl hi).trans hset fun i hi => .inl (.inr hi)
  refine ⟨grow F' w w', ⟨ho.2.1.mod hset fun i hi hb => hnb (hb ▸ hi), fun k hk => ?_, hnb, h.mod.trans hm fun i hi => ?_, row_set (cs' := #[.int .i64 E]) 0 hrow (.int .i64 E) rfl⟩, fun k hk hg => ?_, hm⟩
  · rcases hk with hk | hk
    · exact h.sub k hk
    · exact .inr (by omega)
  · rcases hi with hi | hi
    · rcases h.sub i hi with h1 | h1
      · exact .inl (.inl h1)
      · exact .inr h1
    · exact .inl (.inr hi)
  · rcases hg with hg | hg
    · exact hg
    · omega
end
end Go.Proofs.YtnlappoocffcpaaGreatDoor
