/-
  Plain facts on logs for the statements: what is told of an index, of all; puts in a row; puts that end anywhere.
-/
import Derived.Test.YtmbmpabjclkhlaaGreatDoorQ00
import Derived.Test.YtmbmpabjclkhlaaGreatDoorQ05
import Derived.Test.YtmbmpabjclkhlaaGreatDoorQ09
import Derived.Test.YtmbmpabjclkhlaaGreatDoorQ12
import Derived.Test.YtmbmpabjclkhlaaGreatDoorQ14
import Derived.Test.YtmbmpabjclkhlaaGreatDoorQ15
import Derived.Test.YtmbmpabjclkhlaaGreatDoorChecked
import Derived.SizedLaws
import Derived.Deep.Slices
namespace Go.Proofs.YtmbmpabjclkhlaaGreatDoor
set_option maxRecDepth 100000
section
structure Rpt where
  ix : Int := 0
  st : Nat := 0
  x : Int := 0
  y : Int := 0
  e : Ent := {}
def DM.clsW (m : DM) (r i : Int) : Nat := classL (m.recM r (placeW i)) (m.copM r (2 * placeW i)) (m.copM r (2 * placeW i + 1)) i
def stateW (p : Rec) (f0 f1 : CopL) (i : Int) : Nat := if 0 ≤ whereL p f0 f1 i then 2 else if p.of i then 3 else if beyL p f0 f1 i ∨ (p.st = 2 ∧ badL f0 f1) then 4 else 1
def rptOf (p : Rec) (f0 f1 : CopL) (i : Int) : Rpt := ⟨i, stateW p f0 f1 i, repX p f0 f1 i, repY p f0 f1 i, repE p f0 f1 i⟩
def DM.rptW (m : DM) (r i : Int) : Rpt := rptOf (m.recM r (placeW i)) (m.copM r (2 * placeW i)) (m.copM r (2 * placeW i + 1)) i
def DM.inW (m : DM) (r i : Int) : Bool := decide (m.clsW r i = 3 ∨ m.clsW r i = 2)
def DM.allTo (m : DM) (r snap : Int) (n : Nat) : List Rpt := (((List.range n).map fun k => snap + 1 + ((k : Nat) : Int)).filter (m.inW r)).map (m.rptW r)
theorem allTo_succ (m : DM) (r snap : Int) (n : Nat) : m.allTo r snap (n + 1) = if m.inW r (snap + 1 + (n : Int)) = true then m.allTo r snap n ++ [m.rptW r (snap + 1 + (n : Int))] else m.allTo r snap n := by
  unfold DM.allTo
  rw [List.range_succ, List.map_append, List.filter_append, List.map_append]
  split
  · rename_i h; simp [h]
  · rename_i h; simp [h]
theorem allTo_pre (m : DM) (r snap : Int) (n : Nat) : ∀ d : Nat, ∃ t, m.allTo r snap (n + d) = m.allTo r snap n ++ t
  | 0 => ⟨[], by simp⟩
  | d + 1 => by
    obtain ⟨t, ht⟩ := allTo_pre m r snap n d
    rw [← Nat.add_assoc, allTo_succ, ht]
    split
    · exact ⟨t ++ [m.rptW r (snap + 1 + ((n + d : Nat) : Int))], by rw [List.append_assoc]⟩
    · exact ⟨t, rfl⟩
theorem allTo_get {m : DM} {r snap : Int} {n N : Nat} (hn : n < N) (h : m.inW r (snap + 1 + (n : Int)) = true) : (m.allTo r snap N)[(m.allTo r snap n).length]? = some (m.rptW r (snap + 1 + (n : Int))) := by
  obtain ⟨t, ht⟩ := allTo_pre m r snap (n + 1) (N - (n + 1))
  rw [show n + 1 + (N - (n + 1)) = N from by omega, allTo_succ, if_pos h] at ht
  rw [ht, List.append_assoc, List.getElem?_append_right (Nat.le_refl _), Nat.sub_self]
  rfl
theorem allTo_len_le (m : DM) (r snap : Int) (n : Nat) : (m.allTo r snap n).length ≤ n := by
  unfold DM.allTo
  rw [List.length_map]
  refine Nat.le_trans (List.length_filter_le _ _) ?_
  simp
theorem clsW_of {m : DM} {r i : Int} {q : Nat} (hq : placeW i = (q : Int)) : m.clsW r i = classL (m.recM r (q : Int)) (m.copM r ((2 * q : Nat) : Int)) (m.copM r ((2 * q + 1 : Nat) : Int)) i := by
  unfold DM.clsW
  rw [hq, show 2 * (q : Int) = ((2 * q : Nat) : Int) from by omega, show ((2 * q : Nat) : Int) + 1 = ((2 * q + 1 : Nat) : Int) from by omega]
theorem rptW_of {m : DM} {r i : Int} {q : Nat} (hq : placeW i = (q : Int)) : m.rptW r i = rptOf (m.recM r (q : Int)) (m.copM r ((2 * q : Nat) : Int)) (m.copM r ((2 * q + 1 : Nat) : Int)) i := by
  unfold DM.rptW
  rw [hq, show 2 * (q : Int) = ((2 * q : Nat) : Int) from by omega, show ((2 * q : Nat) : Int) + 1 = ((2 * q + 1 : Nat) : Int) from by omega]
theorem rpt_told {p : Rec} {f0 f1 : CopL} {i x y : Int} {e : Ent} (hc : classL p f0 f1 i = 3) (hx : repX p f0 f1 i = x) (hy : repY p f0 f1 i = y) (he : repE p f0 f1 i = e) : rptOf p f0 f1 i = ⟨i, 2, x, y, e⟩ := by
  unfold rptOf stateW
  rw [if_pos (classL_three.1 hc), hx, hy, he]
theorem told_same {m m' : DM} {pw pw' : Int} (h : CD m pw) (h' : CD m' pw') {i : Int} {q : Nat} (hq : placeW i = (q : Int)) (hq24 : q < 24) (r : Int) (ht : ∀ t, slT q t → m'.hold t = m.hold t) : m'.clsW r i = m.clsW r i ∧ m'.rptW r i = m.rptW r i := by
  obtain ⟨a, b, c⟩ := slot_same h h' hq24 r ht
  rw [clsW_of hq, clsW_of hq, rptW_of hq, rptW_of hq, a, b, c]
  exact ⟨rfl, rfl⟩
theorem CD.putW {m : DM} (h : CD m (-1)) {r inc i x y : Int} {e : Ent} {q : Nat} (hq : placeW i = (q : Int)) (hq24 : q < 24) (hr : 0 ≤ r ∧ r ≤ 6) (hi : 0 ≤ i ∧ i ≤ 1099511627776) (hc : 1 ≤ inc ∧ inc ≤ 1099511627776) (hb : balE x y = true) (he : enOk e = true) :
    ∃ m', m.putW r inc i x y e = (0, m') ∧ CD m' (-1) ∧ (NInv m → NInv m') := by
  have hk := nextW_two m r i
  obtain ⟨p, hp, hp48⟩ : ∃ p : Nat, 2 * (q : Int) + m.nextW r i = (p : Int) ∧ p < 48 := ⟨(2 * (q : Int) + m.nextW r i).toNat, by omega, by omega⟩
  have m3 := mayW3 (q := q) hr hi hc hq24
  have m4 := mayW4 (p := p) hr hi hc hp48
  obtain ⟨s1, s2, sp⟩ := frmW_sects (x := x) (y := y) (e := e) m4 hb he
  have s3 := recW_sect (x := x) (y := y) m3 (recB_iff.2 ⟨balE_iff.1 hb, hk⟩)
  obtain ⟨m', e1, c1, n1, _⟩ := h.putK hq24 hp48 (k := m.nextW r i) (x := x) (y := y) (e := e) hp s1 s2 s3
  exact ⟨m', by unfold DM.putW; rw [hq]; exact e1, c1, n1⟩
theorem Tch.putW {m : DM} {pw : Int} (h : CD m pw) {r inc i x y : Int} {e : Ent} {q : Nat} (hq : placeW i = (q : Int)) (hq24 : q < 24) (hr : 0 ≤ r ∧ r ≤ 6) (hi : 0 ≤ i ∧ i ≤ 1099511627776) (hc : 1 ≤ inc ∧ inc ≤ 1099511627776) (hb : balE x y = true) (he : enOk e = true) :
    Tch (m.putW r inc i x y e).2 (slT q) m.hold := by
  have hk := nextW_two m r i
  obtain ⟨p, hp, hp48, hpc⟩ : ∃ p : Nat, 2 * (q : Int) + m.nextW r i = (p : Int) ∧ p < 48 ∧ (p = 2 * q ∨ p = 2 * q + 1) := ⟨(2 * (q : Int) + m.nextW r i).toNat, by omega, by omega, by omega⟩
  have m3 := mayW3 (q := q) hr hi hc hq24
  have m4 := mayW4 (p := p) hr hi hc hp48
  obtain ⟨s1, s2, sp⟩ := frmW_sects (x := x) (y := y) (e := e) m4 hb he
  have s3 := recW_sect (x := x) (y := y) m3 (recB_iff.2 ⟨balE_iff.1 hb, hk⟩)
  have h0 : Tch m (putT q p) m.hold := ⟨h.b.ok, h.b.size, h.b.down, (fun z hz => by rw [h.b.waits] at hz; cases hz), fun _ _ => rfl⟩
  have fb : ∀ z ∈ frmW r inc i (p : Int) x y e, z < 256 := sealL_lt (bodyL_lt he hb)
  have h1 := Tch.putK hq24 hp48 (r := r) (inc := inc) (i := i) (k := m.nextW r i) (x := x) (y := y) (e := e) hp h0 fb s3.2
  have hin : ∀ t, putT q p t → slT q t := fun t ht => by
    unfold putT at ht
    unfold slT
    rcases hpc with rfl | rfl
    · rcases ht with ht | ht | ht
      · exact .inl ht
      · exact .inr (.inl ht)
      · exact .inr (.inr (.inl ht))
    · rcases ht with ht | ht | ht
      · exact .inl ht
      · exact .inr (.inr (.inr (.inl ht)))
      · exact .inr (.inr (.inr (.inr ht)))
  have e1 : m.putW r inc i x y e = m.putK r inc i (q : Int) (m.nextW r i) x y e := by unfold DM.putW; rw [hq]
  rw [e1]
  exact ⟨h1.ok, h1.size, h1.down, fun z hz => hin _ (h1.waits z hz), fun t ht => h1.hold t fun hh => ht (hin t hh)⟩
theorem slT_far {q q' : Nat} (hq : q < 24) (hq' : q' < 24) (hne : q' ≠ q) {t : Nat} (ht : slT q' t) : ¬ slT q t := by
  unfold slT sR sF at *
  omega
theorem CD.power_ {m : DM} (h : CD m (-1)) (n : Nat) : ∃ m', m.setPower (n : Int) = (0, m') ∧ CD m' (n : Int) ∧ ∀ t, m'.hold t = m.hold t := by
  have hok := DM.setPower_ok h.b.ok (n : Int)
  have e : m.setPower (n : Int) = (0, { m with power := (n : Int) }) := by
    unfold DM.setPower
    rw [if_neg (by rw [h.up]; simp), if_neg (by omega)]
  rw [e] at hok
  exact ⟨_, e, ⟨⟨hok, h.b.size, h.b.waits, h.b.down⟩, h.dead, rfl⟩, fun _ => rfl⟩
def noopE : Ent := { k := 1 }
theorem noop_ok : enOk noopE = true := by decide
structure PutA where
  at_ : Nat := 0
  x : Int := 0
  y : Int := 0
  e : Ent := {}
end
section
open Go Go.RowKit Go.ChangeShapes Go.WideShapes Go.Deep
structure Rec.Wf (p : Rec) : Prop where
  st : p.st < 256
  ix : (Lit.int .i64 p.ix).wf = true
  bx : (Lit.int .i64 p.bx).wf = true
  yb : (Lit.int .i64 p.yb).wf = true
  wh : (Lit.int .i64 p.wh).wf = true
structure CopL.Wf (c : CopL) : Prop where
  st : c.st < 256
  ix : (Lit.int .i64 c.ix).wf = true
  bx : (Lit.int .i64 c.bx).wf = true
  yb : (Lit.int .i64 c.yb).wf = true
  e : c.e.Wf
def CopL.cells (c : CopL) : List Value := [.int .u8 (c.st : Nat), .int .i64 c.ix, .int .i64 c.bx, .int .i64 c.yb, .int .u8 (c.e.k : Nat), .int .i64 c.e.cl, .int .i64 c.e.sq, .int .u8 (c.e.ok : Nat), .string c.e.key, .string c.e.old, .string c.e.val]
section
variable {H : Type} {enc : TypeId × Value → H} {P : Program} {w : World} {base : Nat} {spare : Nat → Bool} {held : Bool}
end
end
section
open Go Go.RowKit Go.ChangeShapes Go.WideShapes Go.Deep
structure PutA.Wf (a : PutA) : Prop where
  at_ : a.at_ < 256
  x : (Lit.int .i64 a.x).wf = true
  y : (Lit.int .i64 a.y).wf = true
  e : a.e.Wf
def PutA.cells (a : PutA) : List Value := [.int .u8 (a.at_ : Nat), .int .i64 a.x, .int .i64 a.y, .int .u8 (a.e.k : Nat), .int .i64 a.e.cl, .int .i64 a.e.sq, .int .u8 (a.e.ok : Nat), .string a.e.key, .string a.e.old, .string a.e.val]
instance : Inhabited PutA := ⟨{}⟩
structure FltA where
  k : Nat := 0
  s : Nat := 0
  n : Nat := 0
instance : Inhabited FltA := ⟨{}⟩
structure FltA.Wf (a : FltA) : Prop where
  k : a.k < 256
  s : a.s < 65536
  n : a.n < 65536
def FltA.cells (a : FltA) : List Value := [.int .u8 (a.k : Nat), .int .u16 (a.s : Nat), .int .u16 (a.n : Nat)]
theorem bounds_u16 {z : Int} (h : (Lit.int .u16 z).wf = true) : 0 ≤ z ∧ z < 65536 := by
  simp [Lit.wf, IntKind.min, IntKind.max, IntKind.bits, IntKind.signed] at h
  omega
section
variable {H : Type} {enc : TypeId × Value → H} {P : Program} {w : World} {base : Nat} {spare : Nat → Bool} {held : Bool}
structure PutTy (P : Program) (e t8 ti tb te tO ts : TypeId) : Prop where
  fs : ∃ f0 f1 f2 : Field, P.underlying e = some (.struct #[f0, f1, f2]) ∧ (f0.type = t8 ∧ f0.offset = 0) ∧ (f1.type = tb ∧ f1.offset = 1) ∧ (f2.type = te ∧ f2.offset = 3)
  cells : P.cellsOf e = 10
  bal : BalTy P tb ti
  ent : EntTy P te t8 ti tO ts
theorem trod_put {e t8 ti tb te tO ts : TypeId} (T : PutTy P e t8 ti tb te tO ts) {fuel : Nat} {cs : List Value} {x : DataW H × List MemPlace} (h : DataW.trod enc P w base spare held fuel e cs = some x) : ∃ a : PutA, cs = a.cells ∧ a.Wf := by
  obtain ⟨f0, f1, f2, hs, ⟨y0, o0⟩, ⟨y1, o1⟩, y2, o2⟩ := T.fs
  obtain ⟨xs, n, _, _, hcl, hxl, hg⟩ := DataW.trod_struct hs h
  rw [T.cells] at hcl
  match cs, hcl, xs, hxl with
  | [c0, c1, c2, c3, c4, c5, c6, c7, c8, c9], _, [x0, x1, x2], _ =>
    have g0 := hg 0 f0 rfl
    have g1 := hg 1 f1 rfl
    have g2 := hg 2 f2 rfl
    rw [y0, o0, T.ent.op.one.1] at g0
    rw [y1, o1, T.bal.cells] at g1
    rw [y2, o2, T.ent.cells] at g2
    obtain ⟨z, e0, _, w0⟩ := DataW.trod_int T.ent.op.u8 (show DataW.trod enc P w base spare held n t8 [c0] = some x0 from g0)
    obtain ⟨bx, yb, e1, w1, w1'⟩ := trod_bal T.bal (show DataW.trod enc P w base spare held n tb [c1, c2] = some x1 from g1)
    obtain ⟨en, e2, w2⟩ := trod_ent T.ent (show DataW.trod enc P w base spare held n te [c3, c4, c5, c6, c7, c8, c9] = some x2 from g2)
    have hz := bounds_u8 w0
    obtain ⟨at_, rfl⟩ := Int.eq_ofNat_of_zero_le (show 0 ≤ z by omega)
    injection e0 with e0 _
    injection e1 with e1 e1'
    injection e1' with e1' _
    refine ⟨⟨at_, bx, yb, en⟩, ?_, ⟨by dsimp only; omega, w1, w1', w2⟩⟩
    rw [e0, e1, e1', e2]
    rfl
theorem open_put {e t8 ti tb te tO ts : TypeId} (T : PutTy P e t8 ti tb te tO ts) {r : Reach} {b0 : Nat} {v : Value} {d : DataW H} {p : List MemPlace}
    (hv : Value.okWide P w r b0 e v) (h : DataW.Trod enc P w base spare held e v d p) : ∃ a : PutA, v = .agg #[.int .u8 (a.at_ : Nat), .int .i64 a.x, .int .i64 a.y, .int .u8 (a.e.k : Nat), .int .i64 a.e.cl, .int .i64 a.e.sq, .int .u8 (a.e.ok : Nat), .string a.e.key, .string a.e.old, .string a.e.val] ∧ a.Wf := by
  obtain ⟨f0, f1, f2, hs, _⟩ := T.fs
  obtain ⟨cs, rfl, _⟩ := okWide_struct hs hv
  obtain ⟨fuel, hf⟩ := h
  obtain ⟨a, hcs, hw⟩ := trod_put T hf
  refine ⟨a, ?_, hw⟩
  have e : (Value.cells (.agg cs)).toList = cs.toList := rfl
  rw [e] at hcs
  obtain ⟨cs⟩ := cs
  simp at hcs
  rw [hcs]
  rfl
structure FltTy (P : Program) (e t8 t16 : TypeId) : Prop where
  fs : ∃ f0 f1 f2 : Field, P.underlying e = some (.struct #[f0, f1, f2]) ∧ (f0.type = t8 ∧ f0.offset = 0) ∧ (f1.type = t16 ∧ f1.offset = 1) ∧ (f2.type = t16 ∧ f2.offset = 2)
  cells : P.cellsOf e = 3
  u8 : P.underlying t8 = some (.int .u8)
  u16 : P.underlying t16 = some (.int .u16)
  one : P.cellsOf t8 = 1 ∧ P.cellsOf t16 = 1
theorem trod_flt {e t8 t16 : TypeId} (T : FltTy P e t8 t16) {fuel : Nat} {cs : List Value} {x : DataW H × List MemPlace} (h : DataW.trod enc P w base spare held fuel e cs = some x) : ∃ a : FltA, cs = a.cells ∧ a.Wf := by
  obtain ⟨f0, f1, f2, hs, ⟨y0, o0⟩, ⟨y1, o1⟩, y2, o2⟩ := T.fs
  obtain ⟨xs, n, _, _, hcl, hxl, hg⟩ := DataW.trod_struct hs h
  rw [T.cells] at hcl
  match cs, hcl, xs, hxl with
  | [c0, c1, c2], _, [x0, x1, x2], _ =>
    have g0 := hg 0 f0 rfl
    have g1 := hg 1 f1 rfl
    have g2 := hg 2 f2 rfl
    rw [y0, o0, T.one.1] at g0
    rw [y1, o1, T.one.2] at g1
    rw [y2, o2, T.one.2] at g2
    obtain ⟨z0, e0, _, w0⟩ := DataW.trod_int T.u8 (show DataW.trod enc P w base spare held n t8 [c0] = some x0 from g0)
    obtain ⟨z1, e1, _, w1⟩ := DataW.trod_int T.u16 (show DataW.trod enc P w base spare held n t16 [c1] = some x1 from g1)
    obtain ⟨z2, e2, _, w2⟩ := DataW.trod_int T.u16 (show DataW.trod enc P w base spare held n t16 [c2] = some x2 from g2)
    have h0 := bounds_u8 w0
    have h1 := bounds_u16 w1
    have h2 := bounds_u16 w2
    obtain ⟨k, rfl⟩ := Int.eq_ofNat_of_zero_le h0.1
    obtain ⟨s, rfl⟩ := Int.eq_ofNat_of_zero_le h1.1
    obtain ⟨m, rfl⟩ := Int.eq_ofNat_of_zero_le h2.1
    injection e0 with e0 _
    injection e1 with e1 _
    injection e2 with e2 _
    refine ⟨⟨k, s, m⟩, ?_, ⟨by dsimp only; omega, by dsimp only; omega, by dsimp only; omega⟩⟩
    rw [e0, e1, e2]
    rfl
end
end
section
open Go Go.RowKit Go.ChangeShapes Go.WideShapes Go.Deep
theorem put_ty : PutTy Tryz.prog 76 5 3 38 42 40 9 := ⟨⟨_, _, _, Tryz.underlying76, ⟨rfl, rfl⟩, ⟨rfl, rfl⟩, rfl, rfl⟩, by kernel_rfl, balE_ty, ent_ty⟩
theorem flt_ty : FltTy Tryz.prog 209 5 207 := ⟨⟨_, _, _, Tryz.underlying209, ⟨rfl, rfl⟩, ⟨rfl, rfl⟩, rfl, rfl⟩, by kernel_rfl, Tryz.underlying5, Tryz.underlying207, by kernel_rfl, by kernel_rfl⟩
theorem open_t76 {H : Type} {enc : TypeId × Value → H} {w : World} {base : Nat} {sp : Nat → Bool} {held : Bool} {r : Reach} {b0 : Nat} {v : Value} {d : DataW H} {p : List MemPlace}
    (hv : Value.okWide Tryz.prog w r b0 76 v) (h : DataW.Trod enc Tryz.prog w base sp held 76 v d p) :
    ∃ a : PutA, v = .agg #[.int .u8 (a.at_ : Nat), .int .i64 a.x, .int .i64 a.y, .int .u8 (a.e.k : Nat), .int .i64 a.e.cl, .int .i64 a.e.sq, .int .u8 (a.e.ok : Nat), .string a.e.key, .string a.e.old, .string a.e.val] ∧ a.Wf := open_put put_ty hv h
theorem open_t74 {H : Type} {enc : TypeId × Value → H} {w : World} {base : Nat} {held : Bool} {r : Reach} {b0 : Nat} {v : Value} {d : DataW H} {p : List MemPlace}
    (hv : Value.okWide Tryz.prog w r b0 74 v) (h : DataW.Trod enc Tryz.prog w base (fun _ => true) held 74 v d p) : ∃ (A : Option Addr) (n c : Nat) (l : List PutA), v = .slice A n c ∧ Ls PutA.cells 10 w w.heap.size A n c l ∧ ∀ a ∈ l, a.Wf :=
  open_list (cells := PutA.cells) (N := 10) (Ok := fun e => e.Wf) (fun _ => rfl) (by omega) Tryz.underlying74 (by kernel_rfl) (fun h => trod_put put_ty h) hv h
theorem open_t121 {H : Type} {enc : TypeId × Value → H} {w : World} {base : Nat} {held : Bool} {r : Reach} {b0 : Nat} {v : Value} {d : DataW H} {p : List MemPlace}
    (hv : Value.okWide Tryz.prog w r b0 121 v) (h : DataW.Trod enc Tryz.prog w base (fun _ => true) held 121 v d p) : ∃ (A : Option Addr) (n c : Nat) (l : List FltA), v = .slice A n c ∧ Ls FltA.cells 3 w w.heap.size A n c l ∧ ∀ a ∈ l, a.Wf :=
  open_list (cells := FltA.cells) (N := 3) (Ok := fun e => e.Wf) (fun _ => rfl) (by omega) Tryz.underlying121 (by kernel_rfl) (fun h => trod_flt flt_ty h) hv h
end
section
theorem door_there : True := trivial
end
section
open Go Go.ChangeShapes Go.WideShapes Go.Deep
theorem cap_of_sized {H : Type} {enc : TypeId × Value → H} {P : Program} {W : World} {base : Nat} {held : Bool} {ts : List TypeId} {ds : List (DataW H)} {j : Nat} {t e : TypeId} {d : DataW H} {p : List MemPlace} {A : Option Addr} {n c b : Nat}
    (h : (DataW.weightsEach P ts ds).all (· ≤ reachBytes) = true) (ht : ts[j]? = some t) (hd : ds[j]? = some d) (hu : P.underlying t = some (.slice e)) (hb : P.bytesOf e = b) (k : DataW.Trod enc P W base (fun _ => true) held t (.slice A n c) d p) : c * b ≤ 140737488351232 := by
  have hall : ∀ x ∈ d.weights P t, x ≤ reachBytes := fun x hx => by
    have := List.all_eq_true.1 h x (DataW.weights_mem_each ht hd x hx)
    simpa using this
  obtain ⟨fuel, hf⟩ := k
  rcases open_slice hu hf with ⟨hc, _⟩ | ⟨a, len, cap, m, q, D, Pl, hc, _, hl, _, hm, hx, _⟩
  · simp [Value.cells] at hc
    obtain ⟨_, _, rfl⟩ := hc
    omega
  · simp [Value.cells] at hc
    obtain ⟨_, _, rfl⟩ := hc
    simp only [if_true] at hm
    subst hm
    injection hx with hx _
    subst hx
    have := hall (((List.range len).map D).length * P.bytesOf e + ((List.range (m - len)).map fun j => D (len + j)).length * P.bytesOf e) (by
      unfold DataW.weights
      rw [hu, ← Nat.add_mul]
      exact List.mem_cons_self ..)
    rw [List.length_map, List.length_map, List.length_range, List.length_range, hb, ← Nat.add_mul, show len + (m - len) = m by omega] at this
    exact this
end
section
theorem door_there3 : True := trivial
end
section
open Go Go.RowKit
structure LogAt (w : World) (g d : Nat) (r inc : Int) (s : Nat) : Prop where
  row : w.heap[g]? = some (.cells #[.pointer (some ⟨g, 0, none⟩), .pointer (some ⟨d, 0, none⟩), .int .i64 r, .int .i64 inc, .int .i64 (s : Int)] 142 (0, 0))
theorem LogAt.lt {w : World} {g d s : Nat} {r inc : Int} (h : LogAt w g d r inc s) : g < w.heap.size := (Array.getElem?_eq_some_iff.1 h.row).1
theorem LogAt.cells {w : World} {g d s : Nat} {r inc : Int} (h : LogAt w g d r inc s) : w.cell? ⟨g, 0, none⟩ = some (.pointer (some ⟨g, 0, none⟩)) ∧ w.cell? ⟨g, 1, none⟩ = some (.pointer (some ⟨d, 0, none⟩)) ∧ w.cell? ⟨g, 2, none⟩ = some (.int .i64 r) ∧ w.cell? ⟨g, 3, none⟩ = some (.int .i64 inc) ∧ w.cell? ⟨g, 4, none⟩ = some (.int .i64 (s : Int)) :=
  ⟨cell_of_row w g 0 _ _ _ h.row, cell_of_row w g 1 _ _ _ h.row, cell_of_row w g 2 _ _ _ h.row, cell_of_row w g 3 _ _ _ h.row, cell_of_row w g 4 _ _ _ h.row⟩
theorem LogAt.ext {w w' : World} {g d s : Nat} {r inc : Int} (h : LogAt w g d r inc s) (hx : Ext w w') : LogAt w' g d r inc s := ⟨(hx.block _ h.lt).trans h.row⟩
theorem LogAt.mod {w w' : World} {F : Nat → Prop} {g d s : Nat} {r inc : Int} (h : LogAt w g d r inc s) (hm : Mod F w w') (hF : ¬ F g) : LogAt w' g d r inc s := ⟨(hm.block g h.lt hF).trans h.row⟩
theorem eqlW_self (a : Addr) (w : World) : (binOp .eql 31 (.pointer (some a)) (.pointer (some a))).run Tryz.prog w = .ok (.bool true) w := by
  have hi : (Tryz.prog.info? 142).isSome = true := by kernel_rfl
  obtain ⟨j, hj⟩ := Option.isSome_iff_exists.1 hi
  exact run_eql_ptr_same w a Tryz.underlying31 hj
set_option maxHeartbeats 400000 in
theorem wmade_yes (g : Nat) (w : World) (h : w.cell? ⟨g, 0, none⟩ = some (.pointer (some ⟨g, 0, none⟩))) :
    Calls Tryz.prog 81 #[.pointer (some ⟨g, 0, none⟩)] w fun e w' => e = .returned (.bool true) ∧ w = w' := by
  have he := eqlW_self
  go_enter Tryz.func81, Tryz.ntmps81
  go_wp2
  go_ret
  exact ⟨rfl, rfl⟩
theorem wrap_i64 {x : Int} (h1 : -9223372036854775808 ≤ x) (h2 : x ≤ 9223372036854775807) : IntKind.i64.wrap x = x := IntWalk.i64_in _ (by omega)
def inI (a b c : Int) : Bool := decide (a ≤ b) && decide (b ≤ c)
set_option maxHeartbeats 400000 in
theorem isWithin_of (a b c : Int) (w : World) : Calls Tryz.prog 62 #[.int .i64 a, .int .i64 b, .int .i64 c] w fun e w' => e = .returned (.bool (inI a b c)) ∧ w = w' := by
  by_cases h : a ≤ b
  · have hi : inI a b c = decide (b ≤ c) := by unfold inI; rw [decide_eq_true h, Bool.true_and]
    rw [hi]
    clear hi
    go_enter Tryz.func62, Tryz.ntmps62
    go_wp2_with fail
    go_ret
    exact ⟨rfl, rfl⟩
  · have hi : inI a b c = false := by unfold inI; rw [decide_eq_false h, Bool.false_and]
    rw [hi]
    clear hi
    go_enter Tryz.func62, Tryz.ntmps62
    go_wp2_with fail
    go_ret
    exact ⟨rfl, rfl⟩
def liveE (s : Nat) (i : Int) : Int := if (s : Int) + 1 ≤ i ∧ i ≤ (s : Int) + 24 then 0 else 2
set_option maxHeartbeats 800000 in
theorem wknown_of {w : World} {g d s : Nat} {r inc : Int} (h : LogAt w g d r inc s) (hs : s ≤ 2000000000000) (i : Int) :
    Calls Tryz.prog 67 #[.pointer (some ⟨g, 0, none⟩), .int .i64 i] w fun e w' => e = .returned (.int .i64 (liveE s i)) ∧ Ext w w' := by
  obtain ⟨c0, c1, c2, c3, c4⟩ := h.cells
  have HM := Lib.hid (wmade_yes g w c0)
  clear h c0 c1 c2 c3
  obtain ⟨b, hb⟩ : ∃ b, inI ((s : Int) + 1) i ((s : Int) + 24) = b := ⟨_, rfl⟩
  have HW : Hid (∀ V, Calls Tryz.prog 62 #[.int .i64 (IntKind.i64.wrap ((s : Int) + 1)), .int .i64 i, .int .i64 (IntKind.i64.wrap ((s : Int) + 24))] V fun e w' => e = .returned (.bool b) ∧ V = w') := Lib.hid (fun V => by rw [wrap_i64 (by omega) (by omega), wrap_i64 (by omega) (by omega), ← hb]; exact isWithin_of _ _ _ V)
  have HE : Hid (liveE s i = if b = true then 0 else 2) := Lib.hid (by
    unfold liveE
    rw [← hb]
    unfold inI
    simp)
  clear hb
  cases b with
  | true =>
    rw [HE.out]
    go_enter Tryz.func67, Tryz.ntmps67
    go_wp2_with fail
    refine HM.out.mono ?_
    rintro e w1 ⟨rfl, rfl⟩
    go_wp2_with fail
    go_region_held3 (fun w' => w'.cell? ⟨g, 4, none⟩ = some (.int .i64 (s : Int)))
      (first | with_reducible exact c4 | assumption | go_keep)
      (first | (go_at_call 62; ((with_reducible refine (HW.out _).mono ?_); rintro e w1 ⟨rfl, rfl⟩)))
    go_wp2_with fail
    go_ret
    exact ⟨rfl, Below.drew (Ext.refl w)⟩
  | false =>
    rw [HE.out]
    go_enter Tryz.func67, Tryz.ntmps67
    go_wp2_with fail
    refine HM.out.mono ?_
    rintro e w1 ⟨rfl, rfl⟩
    go_wp2_with fail
    go_region_held3 (fun w' => w'.cell? ⟨g, 4, none⟩ = some (.int .i64 (s : Int)))
      (first | with_reducible exact c4 | assumption | go_keep)
      (first | (go_at_call 62; ((with_reducible refine (HW.out _).mono ?_); rintro e w1 ⟨rfl, rfl⟩)))
    go_wp2_with fail
    go_ret
    exact ⟨rfl, Below.drew (Ext.refl w)⟩
def upE (m : DM) : Int := if m.up = true then 0 else 5
theorem wrunning_of {w : World} {g d s : Nat} {r inc : Int} {F : Nat → Prop} {m : DM} (h : LogAt w g d r inc s) (hd : PDisk w d F m) :
    Calls Tryz.prog 68 #[.pointer (some ⟨g, 0, none⟩)] w fun e w' => e = .returned (.int .i64 (upE m)) ∧ w = w' := by
  obtain ⟨c0, c1, c2, c3, c4⟩ := h.cells
  have HM := Lib.hid (wmade_yes g w c0)
  have hu := up_pd hd
  obtain ⟨b, hb⟩ : ∃ b, m.up = b := ⟨_, rfl⟩
  rw [hb] at hu
  have HU := Lib.hid hu
  have HE : Hid (upE m = if b = true then 0 else 5) := Lib.hid (by unfold upE; rw [hb])
  clear h hd hu c0 c2 c3 c4 hb
  cases b with
  | true =>
    rw [HE.out]
    go_enter Tryz.func68, Tryz.ntmps68
    go_wp2_with fail
    refine HM.out.mono ?_
    rintro e w1 ⟨rfl, rfl⟩
    go_wp2_with fail
    refine HU.out.mono ?_
    rintro e w1 ⟨rfl, rfl⟩
    go_wp2_with fail
    go_ret
    exact ⟨rfl, rfl⟩
  | false =>
    rw [HE.out]
    go_enter Tryz.func68, Tryz.ntmps68
    go_wp2_with fail
    refine HM.out.mono ?_
    rintro e w1 ⟨rfl, rfl⟩
    go_wp2_with fail
    refine HU.out.mono ?_
    rintro e w1 ⟨rfl, rfl⟩
    go_wp2_with fail
    go_ret
    exact ⟨rfl, rfl⟩
def cutB (s : Nat) (n : Int) : Bool := inI s n 1099511627752
set_option maxHeartbeats 800000 in
theorem wcut_of {w : World} {g d s : Nat} {r inc : Int} (h : LogAt w g d r inc s) (n : Int) :
    Calls Tryz.prog 18 #[.pointer (some ⟨g, 0, none⟩), .int .i64 n] w fun e w' => e = .returned (.int .i64 (if cutB s n = true then 0 else 2)) ∧ LogAt w' g d r inc (if cutB s n = true then n.toNat else s) ∧ Mod (fun k => k = g) w w' := by
  obtain ⟨c0, c1, c2, c3, c4⟩ := h.cells
  have hf := frozen_of_row w g 4 _ _ h.row
  have HM := Lib.hid (wmade_yes g w c0)
  have H := Lib.hid h
  have HW := Lib.hid (isWithin_of (s : Int) n 1099511627752 w)
  have HC : Hid (inI (s : Int) n 1099511627752 = cutB s n) := Lib.hid rfl
  rw [HC.out] at HW
  have HN : Hid (cutB s n = true → n = (n.toNat : Int)) := Lib.hid fun hc => by
    unfold cutB inI at hc
    simp at hc
    omega
  clear h c0 c1 c2 c3
  obtain ⟨b, hb⟩ : ∃ b, cutB s n = b := ⟨_, rfl⟩
  rw [hb] at HW HN ⊢
  clear hb HC
  cases b with
  | true =>
    go_enter Tryz.func18, Tryz.ntmps18
    go_wp2_with fail
    refine HM.out.mono ?_
    rintro e w1 ⟨rfl, rfl⟩
    go_wp2_with fail
    refine HW.out.mono ?_
    rintro e w1 ⟨rfl, rfl⟩
    go_wp2_with fail
    go_ret
    refine ⟨rfl, ⟨?_⟩, (Mod.refl (fun k => k = g) w).setCell (p := ⟨g, 4, none⟩) (.inl rfl) _⟩
    have := row_set (cs' := #[.pointer (some ⟨g, 0, none⟩), .pointer (some ⟨d, 0, none⟩), .int .i64 r, .int .i64 inc, .int .i64 n]) 4 H.out.row (.int .i64 n) rfl
    rw [← HN.out trivial]
    exact this
  | false =>
    go_enter Tryz.func18, Tryz.ntmps18
    go_wp2_with fail
    refine HM.out.mono ?_
    rintro e w1 ⟨rfl, rfl⟩
    go_wp2_with fail
    refine HW.out.mono ?_
    rintro e w1 ⟨rfl, rfl⟩
    go_wp2_with fail
    go_ret
    exact ⟨rfl, H.out, Mod.refl _ w⟩
theorem recordPlace_of (i : Nat) (h1 : 1 ≤ i) (h2 : i ≤ 2000000000000) (w : World) : Calls Tryz.prog 74 #[.int .i64 (i : Int)] w fun e w' => e = .returned (.int .i64 (placeW (i : Int))) ∧ w = w' := by
  have h3 : placeW (i : Int) = (((i - 1) % 24 : Nat) : Int) := by unfold placeW; omega
  obtain ⟨k, rfl⟩ : ∃ k, i = k + 1 := ⟨i - 1, by omega⟩
  rw [h3]
  go_enter Tryz.func74, Tryz.ntmps74
  go_wp2_with fail
  go_ret
  refine ⟨?_, rfl⟩
  congr 2
theorem framePlace_of (i : Nat) (k : Int) (hk : k = 0 ∨ k = 1) (h1 : 1 ≤ i) (h2 : i ≤ 2000000000000) (w : World) : Calls Tryz.prog 73 #[.int .i64 (i : Int), .int .i64 k] w fun e w' => e = .returned (.int .i64 (2 * placeW (i : Int) + k)) ∧ w = w' := by
  have HP := Lib.hid (recordPlace_of i h1 h2 w)
  obtain ⟨q, hq, hq24⟩ := placeW_nat (i := (i : Int))
  rw [hq] at HP ⊢
  clear h1 h2 hq
  rcases hk with rfl | rfl
  · go_enter Tryz.func73, Tryz.ntmps73
    go_wp2_with fail
    refine HP.out.mono ?_
    rintro e w1 ⟨rfl, rfl⟩
    go_wp2_with fail
    go_ret
    refine ⟨?_, rfl⟩
    congr 2
  · go_enter Tryz.func73, Tryz.ntmps73
    go_wp2_with fail
    refine HP.out.mono ?_
    rintro e w1 ⟨rfl, rfl⟩
    go_wp2_with fail
    go_ret
    refine ⟨?_, rfl⟩
    congr 2
end
section
def unE (x : Int × DM) (f : DM → Int × DM) : Int × DM := if x.1 = 0 then f x.2 else x
def wrsE (x : Int × DM) (S : Int) (L : List Nat) : Nat → Int × DM
  | 0 => x
  | k + 1 => unE (wrsE x S L k) fun m => m.write (S + (k : Int)) ((L.drop (64 * k)).take 64)
def wrfE (x : Int × DM) (S : Int) (L : List Nat) (W : Nat) : Int × DM := unE (wrsE x S L W) DM.flush
theorem wrs_err {E : Int} {m : DM} (h : E ≠ 0) (S : Int) (L : List Nat) : ∀ W, wrsE (E, m) S L W = (E, m)
  | 0 => rfl
  | k + 1 => by
    show unE (wrsE (E, m) S L k) _ = _
    rw [wrs_err h S L k]
    exact if_neg h
theorem wrf_err {E : Int} {m : DM} (h : E ≠ 0) (S : Int) (L : List Nat) (W : Nat) : wrfE (E, m) S L W = (E, m) := by
  unfold wrfE
  rw [wrs_err h]
  exact if_neg h
theorem wrf_one (m : DM) (S : Int) {L : List Nat} (hL : L.length = 64) : wrfE (0, m) S L 1 = m.putC S L := by
  have h1 : (L.drop (64 * 0)).take 64 = L := by rw [Nat.mul_zero, List.drop_zero, List.take_of_length_le (by omega)]
  have h2 : wrsE (0, m) S L 1 = m.write S L := by
    show unE (0, m) _ = _
    unfold unE
    rw [if_pos rfl]
    simp only
    rw [h1, Int.natCast_zero, Int.add_zero]
  unfold wrfE DM.putC
  rw [h2]
  unfold unE
  by_cases h : (m.write S L).1 = 0
  · rw [if_pos h, if_neg (by simp [h])]
  · rw [if_neg h, if_pos h]
theorem wrf_two (m : DM) (S : Int) {L : List Nat} (hL : L.length = 128) : wrfE (0, m) S L 2 = m.put2C S L := by
  have h0 : (L.drop (64 * 0)).take 64 = L.take 64 := by rw [Nat.mul_zero, List.drop_zero]
  have h1 : (L.drop (64 * 1)).take 64 = L.drop 64 := by rw [List.take_of_length_le (by rw [List.length_drop]; omega)]
  have h2 : wrsE (0, m) S L 1 = m.write S (L.take 64) := by
    show unE (0, m) _ = _
    unfold unE
    rw [if_pos rfl]
    simp only
    rw [h0, Int.natCast_zero, Int.add_zero]
  have h3 : wrsE (0, m) S L 2 = unE (m.write S (L.take 64)) fun m => m.write (S + 1) (L.drop 64) := by
    show unE (wrsE (0, m) S L 1) _ = _
    rw [h2, h1]
    rfl
  unfold wrfE DM.put2C
  rw [h3]
  by_cases h : (m.write S (L.take 64)).1 = 0
  · rw [if_neg (by simp [h])]
    have h4 : unE (m.write S (L.take 64)) (fun m => m.write (S + 1) (L.drop 64)) = (m.write S (L.take 64)).2.write (S + 1) (L.drop 64) := if_pos h
    rw [h4]
    unfold unE
    by_cases h5 : ((m.write S (L.take 64)).2.write (S + 1) (L.drop 64)).1 = 0
    · rw [if_pos h5, if_neg (by simp [h5])]
    · rw [if_neg h5, if_pos h5]
  · rw [if_pos h]
    have h4 : unE (m.write S (L.take 64)) (fun m => m.write (S + 1) (L.drop 64)) = m.write S (L.take 64) := if_neg h
    rw [h4]
    exact if_neg h
def twoE (m : DM) (r inc i q k x y : Int) (e : Ent) : Int × DM := wrfE (wrfE (0, m) (firstS 4 (2 * q + k)) (frmW r inc i (2 * q + k) x y e) 2) (firstS 3 q) (recW r inc i q x y k) 1
theorem two_putK {m : DM} {r inc i q k x y : Int} {e : Ent} (h4 : (frmW r inc i (2 * q + k) x y e).length = 128) (h3 : (recW r inc i q x y k).length = 64) : twoE m r inc i q k x y e = m.putK r inc i q k x y e := by
  unfold twoE DM.putK
  rw [wrf_two m _ h4]
  generalize m.put2C (firstS 4 (2 * q + k)) (frmW r inc i (2 * q + k) x y e) = z
  obtain ⟨E, m'⟩ := z
  by_cases h : E = 0
  · subst h
    rw [wrf_one m' _ h3]
    simp
  · rw [wrf_err h]
    simp [h]
def putE (m : DM) (s : Nat) (i x y : Int) (e : Ent) : Int := if ¬ ((s : Int) + 1 ≤ i ∧ i ≤ (s : Int) + 24) then 2 else if ¬ (balE x y = true ∧ enOk e = true) then 2 else if m.up = false then 5 else 0
def DM.putA (m : DM) (s : Nat) (r inc i x y : Int) (e : Ent) : Int × DM := if putE m s i x y e = 0 then m.putW r inc i x y e else (putE m s i x y e, m)
end
section
open Go Go.RowKit
def Step (d : Nat) (F : Nat → Prop) (w : World) (m' : DM) (w' : World) : Prop := PDisk w' d (grow F w w') m' ∧ Mod F w w'
theorem PDisk.more {w : World} {d : Nat} {F G : Nat → Prop} {m : DM} (h : PDisk w d F m) (hG : ∀ k, F k → G k) (hl : ∀ k, G k → k < w.heap.size) : PDisk w d G m := by
  obtain ⟨g, pv, hp, h2, _⟩ := h
  exact ⟨g, pv, hp, fun k hk => hG k (h2 k hk), hl⟩
theorem Step.of_ext {w w' : World} {d : Nat} {F : Nat → Prop} {m : DM} (h : PDisk w d F m) (hx : Ext w w') : Step d F w m w' :=
  ⟨(h.ext hx).more (fun _ hk => .inl hk) (fun k hk => hk.elim (fun h1 => Nat.lt_of_lt_of_le (h.lt k h1) hx.size) (fun h1 => h1.2)), Mod.of_ext hx⟩
theorem Outc.step {d : Nat} {F : Nat → Prop} {w : World} {E : Int} {m' : DM} {e : Ending} {w' : World} (h : Outc d F w E m' e w') : e = .returned (.int .i64 E) ∧ Step d F w m' w' := ⟨h.1, h.2.1, h.2.2⟩
end
section
open Go Go.RowKit
structure WrS (w0 : World) (d : Nat) (F F' : Nat → Prop) (bf : Nat) (w : World) (x : Int × DM) : Prop where
  disk : PDisk w d F' x.2
  sub : ∀ k, F' k → F k ∨ w0.heap.size ≤ k
  off : ¬ F' bf
  mod : Mod (fun k => F k ∨ k = bf) w0 w
  row : w.heap[bf]? = some (.cells #[.int .i64 x.1] 25 (0, 0))
theorem WrS.start {w : World} {d bf : Nat} {F : Nat → Prop} {m : DM} {E : Int} (h : PDisk w d F m) (ho : ¬ F bf) (hr : w.heap[bf]? = some (.cells #[.int .i64 E] 25 (0, 0))) : WrS w d F F bf w (E, m) :=
  ⟨h, fun _ hk => .inl hk, ho, Mod.refl _ w, hr⟩
section
variable {w0 w w' : World} {d bf : Nat} {F F' : Nat → Prop} {x : Int × DM}
theorem WrS.ext (h : WrS w0 d F F' bf w x) (hx : Ext w w') : WrS w0 d F F' bf w' x :=
  ⟨h.disk.ext hx, h.sub, h.off, h.mod.trans (Mod.of_ext hx) fun _ hi => .inl hi, (hx.block _ (Array.getElem?_eq_some_iff.1 h.row).1).trans h.row⟩
theorem WrS.cell (h : WrS w0 d F F' bf w x) : w.cell? ⟨bf, 0, none⟩ = some (.int .i64 x.1) ∧ w.frozen? ⟨bf, 0, none⟩ = false := ⟨cell_of_row w bf 0 _ _ _ h.row, frozen_of_row w bf 0 _ _ h.row⟩
def WrT (w0 : World) (d : Nat) (F F' : Nat → Prop) (bf : Nat) (w w' : World) (x : Int × DM) : Prop := ∃ F'', WrS w0 d F F'' bf w' x ∧ (∀ k, k < w.heap.size → F'' k → F' k) ∧ Mod (fun k => F' k ∨ k = bf) w w'
theorem WrS.same (h : WrS w0 d F F' bf w x) : WrT w0 d F F' bf w w x := ⟨F', h, fun _ _ hk => hk, Mod.refl _ w⟩
end
theorem WrS.put {w0 w w' : World} {d bf : Nat} {F F' : Nat → Prop} {E0 E : Int} {m m' : DM} {e : Ending} (h : WrS w0 d F F' bf w (E0, m)) (ho : Outc d F' w E m' e w') : WrT w0 d F F' bf w (w'.setCell ⟨bf, 0, none⟩ (.int .i64 E)) (E, m') := by
  have hrow : w'.heap[bf]? = some (.cells #[.int .i64 E0] 25 (0, 0)) := (ho.2.2.block bf (Array.getElem?_eq_some_iff.1 h.row).1 h.off).trans h.row
  have hset : Mod (fun k => k = bf) w' (w'.setCell ⟨bf, 0, none⟩ (.int .i64 E)) := (Mod.refl (fun k => k = bf) w').setCell (p := ⟨bf, 0, none⟩) (.inl rfl) _
  have hs1 := h.mod.size
  have hs2 := ho.2.2.size
  have hlt := (Array.getElem?_eq_some_iff.1 h.row).1
  have hnb : ¬ grow F' w w' bf := fun hk => hk.elim h.off fun h1 => by have := h1.1; omega
  have hm : Mod (fun k => F' k ∨ k = bf) w (w'.setCell ⟨bf, 0, none⟩ (.int .i64 E)) := (ho.2.2.mono fun i hi => .inl hi).trans hset fun i hi => .inl (.inr hi)
  refine ⟨grow F' w w', ⟨ho.2.1.mod hset fun i hi hb => hnb (hb ▸ hi), fun k hk => ?_, hnb, h.mod.trans hm fun i hi => ?_, row_set (cs' := #[.int .i64 E]) 0 hrow (.int .i64 E) rfl⟩, fun k hk hg => ?_, hm⟩
  · rcases hk with hk | hk
    · exact h.sub k hk
    · exact .inr (by omega)
  · rcases hi with hi | hi
    · rcases h.sub i hi with h1 | h1
      · exact .inl (.inl h1)
      · exact .inr h1
    · exact .inl (.inr hi)
  · rcases hg with hg | hg
    · exact hg
    · omega
end
end Go.Proofs.YtmbmpabjclkhlaaGreatDoor
