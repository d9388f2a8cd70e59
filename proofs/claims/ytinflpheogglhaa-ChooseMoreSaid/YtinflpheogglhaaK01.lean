/-
  What it means that a slice of bytes in memory reads as a list of numbers, and how that is carried along; no program.
-/
import Derived.Test.YtinflpheogglhaaK00
import Derived.Below
import Derived.Laws.OwnMore
import Derived.Deep.AppendLies
import Derived.Deep.Draws
import Derived.WalkKit
import Derived.ProofKit
import Derived.OpenShut
import Derived.Deep.Slices
import Derived.Deep.Fields
import Derived.ChangeMaps5
import Derived.Test.YtinflpheogglhaaProg
namespace Go.Proofs.Ytinflpheogglhaa
set_option maxRecDepth 100000
section
open Go Go.RowKit
def Rd (w : World) (B : Nat) (A : Option Addr) (l : List Nat) : Prop :=
  (∀ b ∈ l, b < 256) ∧ (0 < l.length → ∃ g o, A = some ⟨g, o, none⟩ ∧ g < B ∧ ∀ j x, l[j]? = some x → w.cell? ⟨g, o + j, none⟩ = some (.int .u8 ((x : Nat) : Int)))
section
variable {w w' : World} {B B' : Nat} {A : Option Addr} {l : List Nat}
theorem Rd.nil_ : Rd w B A [] := ⟨by simp, fun h => absurd h (by simp)⟩
theorem Rd.keep (h : Rd w B A l) (hk : ∀ p : Addr, p.block < B → w'.cell? p = w.cell? p) : Rd w' B A l :=
  ⟨h.1, fun hn => by
    obtain ⟨g, o, e, hg, hc⟩ := h.2 hn
    exact ⟨g, o, e, hg, fun j x hx => (hk ⟨g, o + j, none⟩ hg).trans (hc j x hx)⟩⟩
end
end
section
open Go Go.RowKit
structure Bs (w : World) (B : Nat) (A : Option Addr) (n c : Nat) (l : List Nat) : Prop where
  len : l.length = n
  cap : n ≤ c
  most : c ≤ 9223372036854775807
  rd : Rd w B A l
  nil_ : A = none → c = 0
def Ext (w w' : World) : Prop := Below w.heap.size w w'
theorem Ext.refl (w : World) : Ext w w := Below.refl _ _
theorem Ext.trans {a b c : World} (h : Ext a b) (k : Ext b c) : Ext a c := Below.trans h (Below.mono k (Below.size h))
theorem Ext.alloc {a b : World} (h : Ext a b) (o : Obj) : Ext a (b.alloc o) := Below.alloc h (Below.size h) o
theorem Ext.drew {a b : World} (h : Ext a b) : Ext a b.drew := Below.drew h
theorem Ext.size {a b : World} (h : Ext a b) : a.heap.size ≤ b.heap.size := Below.size h
def By (w : World) (A : Option Addr) (n c : Nat) (l : List Nat) : Prop := Bs w w.heap.size A n c l
theorem By.nil_ (w : World) : By w none 0 0 [] := ⟨rfl, Nat.le_refl _, by omega, Rd.nil_, fun _ => rfl⟩
end
section
open Go Go.RowKit Go.ChangeShapes Go.WideShapes Go.Deep
structure Vs (w : World) (B : Nat) (A : Option Addr) (n c : Nat) (vs : List Value) : Prop where
  len : vs.length = n
  cap : n ≤ c
  most : c ≤ 9223372036854775807
  rd : 0 < n → ∃ g o, A = some ⟨g, o, none⟩ ∧ g < B ∧ ∀ j v, vs[j]? = some v → w.cell? ⟨g, o + j, none⟩ = some v
  nil_ : A = none → c = 0
structure Act5 where
  kind : Nat := 0
  sec : Int := 0
  num : Int := 0
  bA : Option Addr := none
  bn : Nat := 0
  bc : Nat := 0
  bl : List Nat := []
  kA : Option Addr := none
  kn : Nat := 0
  kc : Nat := 0
  kl : List Bool := []
instance : Inhabited Act5 := ⟨{}⟩
def Act5.cells (a : Act5) : List Value := [.int .u8 (a.kind : Int), .int .i64 a.sec, .int .i64 a.num, .slice a.bA a.bn a.bc, .slice a.kA a.kn a.kc]
structure Act5.Ok (a : Act5) (w : World) (B : Nat) : Prop where
  kind : a.kind < 256
  sec : (Lit.int .i64 a.sec).wf = true
  num : (Lit.int .i64 a.num).wf = true
  bytes : Bs w B a.bA a.bn a.bc a.bl
  keep : Vs w B a.kA a.kn a.kc (a.kl.map .bool)
section
variable {H : Type} {enc : TypeId × Value → H} {P : Program} {w : World} {base : Nat} {spare : Nat → Bool} {held : Bool}
end
end
section
open Go Go.RowKit
structure Ent where
  k : Nat := 0
  cl : Int := 0
  sq : Int := 0
  ok : Nat := 0
  key : ByteArray := ByteArray.empty
  old : ByteArray := ByteArray.empty
  val : ByteArray := ByteArray.empty
instance : Inhabited Ent := ⟨{}⟩
def Ent.cells (e : Ent) : List Value := [.int .u8 (e.k : Nat), .int .i64 e.cl, .int .i64 e.sq, .int .u8 (e.ok : Nat), .string e.key, .string e.old, .string e.val]
structure Ent.Wf (e : Ent) : Prop where
  k : e.k < 256
  ok : e.ok < 256
  cl : (Lit.int .i64 e.cl).wf = true
  sq : (Lit.int .i64 e.sq).wf = true
  key : e.key.size ≤ maxLen
  old : e.old.size ≤ maxLen
  val : e.val.size ≤ maxLen
def noopE : Ent := { k := 1 }
end
section
open Go Go.RowKit Go.ChangeShapes Go.WideShapes Go.Deep
structure Ls {α : Type} (cells : α → List Value) (N : Nat) (w : World) (B : Nat) (A : Option Addr) (n c : Nat) (l : List α) : Prop where
  len : l.length = n
  cap : n ≤ c
  most : c ≤ 9223372036854775807
  rd : 0 < n → ∃ g o, A = some ⟨g, o, none⟩ ∧ g < B ∧ ∀ j a, l[j]? = some a → ∀ k v, (cells a)[k]? = some v → w.cell? ⟨g, o + (j * N + k), none⟩ = some v
  nil_ : A = none → c = 0
theorem Ls.below {α : Type} {cells : α → List Value} {N : Nat} {w w' : World} {B : Nat} {A : Option Addr} {n c : Nat} {l : List α} (h : Ls cells N w B A n c l) (hb : Below B w w') : Ls cells N w' B A n c l :=
  ⟨h.len, h.cap, h.most, fun hn => by
    obtain ⟨g, o, e, hg, hc⟩ := h.rd hn
    exact ⟨g, o, e, hg, fun j a ha k v hv => (hb.cell (p := ⟨g, o + (j * N + k), none⟩) hg).trans (hc j a ha k v hv)⟩, h.nil_⟩
theorem Ls.at_ {α : Type} {cells : α → List Value} {N : Nat} {w : World} {B : Nat} {A : Option Addr} {n c : Nat} {l : List α} (h : Ls cells N w B A n c l) {j : Nat} (hj : j < n) :
    ∃ g o a, A = some ⟨g, o, none⟩ ∧ g < B ∧ l[j]? = some a ∧ ∀ k v, (cells a)[k]? = some v → w.cell? ⟨g, o + (j * N + k), none⟩ = some v := by
  obtain ⟨g, o, e, hg, hc⟩ := h.rd (by omega)
  have hj' : j < l.length := by rw [h.len]; exact hj
  have ha : l[j]? = some l[j] := List.getElem?_eq_getElem hj'
  exact ⟨g, o, l[j], e, hg, ha, fun k v hv => hc j _ ha k v hv⟩
section
variable {H : Type} {enc : TypeId × Value → H} {P : Program} {w : World} {base : Nat} {spare : Nat → Bool} {held : Bool}
theorem trod_list {α : Type} [Inhabited α] {cells : α → List Value} {N : Nat} {Ok : α → Prop} (hN : ∀ a, (cells a).length = N) (h0 : 0 < N) {t e : TypeId} (ht : P.underlying t = some (.slice e)) (hce : P.cellsOf e = N)
    (one : ∀ {fuel : Nat} {cs : List Value} {x : DataW H × List MemPlace}, DataW.trod enc P w base spare held fuel e cs = some x → ∃ a, cs = cells a ∧ Ok a) {fuel : Nat} {cs : List Value} {x : DataW H × List MemPlace} (h : DataW.trod enc P w base spare held fuel t cs = some x) :
    ∃ (A : Option Addr) (n c : Nat) (l : List α), cs = [.slice A n c] ∧ Ls cells N w w.heap.size A n c l ∧ ∀ a ∈ l, Ok a := by
  rcases open_slice ht h with ⟨rfl, _⟩ | ⟨a, len, cap, m, n, D, Pl, rfl, _, hl, hm, hmm, _, hi⟩
  · exact ⟨none, 0, 0, [], rfl, ⟨rfl, Nat.le_refl _, by omega, fun h => absurd h (by omega), fun _ => rfl⟩, fun a ha => (by cases ha)⟩
  · have hle : len ≤ m := by rw [hmm]; split <;> omega
    have each : ∀ i, i < len → ∃ b : α, (∀ k v, (cells b)[k]? = some v → w.cell? ((a.add (i * N)).add k) = some v) ∧ Ok b := fun i hil => by
      obtain ⟨cs', h1, h2⟩ := hi i (by omega)
      rw [hce] at h1
      obtain ⟨_, _, hcell⟩ := World.cells?_some h1
      obtain ⟨b, rfl, hb⟩ := one h2
      refine ⟨b, fun k v hv => ?_, hb⟩
      have hk5 : k < N := by rw [← hN b]; exact (List.getElem?_eq_some_iff.1 hv).1
      rw [hcell k hk5, hv]
    obtain ⟨f, hf⟩ := choose_lt each
    refine ⟨some a, len, cap, (List.range len).map f, rfl, ⟨by simp, hl, by unfold maxLen at hm; exact hm, fun hn => ?_, fun h => by cases h⟩, fun b hb => ?_⟩
    · obtain ⟨g, o, spot⟩ := a
      have hc := (hf 0 hn).1 0 _ (List.getElem?_eq_getElem (by rw [hN]; exact h0))
      have hspot : spot = none := by simpa [Addr.add] using World.cell?_spot hc
      subst hspot
      refine ⟨g, o, rfl, ?_, fun j b hb k v hv => ?_⟩
      · have := World.block_lt_of_cell? w _ hc
        simpa [Addr.add] using this
      · rw [List.getElem?_map] at hb
        obtain ⟨i, hi2, rfl⟩ := Option.map_eq_some_iff.1 hb
        obtain ⟨hjl, hji⟩ := List.getElem?_eq_some_iff.1 hi2
        simp at hjl hji
        subst hji
        have := (hf j hjl).1 k v hv
        rw [Addr.add_lit, Addr.add_lit, Nat.add_assoc] at this
        exact this
    · obtain ⟨i, hil, rfl⟩ := List.mem_map.1 hb
      exact (hf i (List.mem_range.1 hil)).2
theorem open_list {α : Type} [Inhabited α] {cells : α → List Value} {N : Nat} {Ok : α → Prop} (hN : ∀ a, (cells a).length = N) (h0 : 0 < N) {t e : TypeId} (ht : P.underlying t = some (.slice e)) (hce : P.cellsOf e = N)
    (one : ∀ {fuel : Nat} {cs : List Value} {x : DataW H × List MemPlace}, DataW.trod enc P w base spare held fuel e cs = some x → ∃ a, cs = cells a ∧ Ok a) {r : Reach} {b0 : Nat} {v : Value} {d : DataW H} {p : List MemPlace}
    (hv : Value.okWide P w r b0 t v) (h : DataW.Trod enc P w base spare held t v d p) : ∃ (A : Option Addr) (n c : Nat) (l : List α), v = .slice A n c ∧ Ls cells N w w.heap.size A n c l ∧ ∀ a ∈ l, Ok a := by
  obtain ⟨A, n, c, rfl⟩ := okWide_slice ht hv
  obtain ⟨fuel, hf⟩ := h
  obtain ⟨A', n', c', l, hcs, hl⟩ := trod_list hN h0 ht hce one hf
  simp [Value.cells] at hcs
  obtain ⟨rfl, rfl, rfl⟩ := hcs
  exact ⟨_, _, _, l, rfl, hl⟩
structure BalTy (P : Program) (e ti : TypeId) : Prop where
  fs : ∃ f0 f1 : Field, P.underlying e = some (.struct #[f0, f1]) ∧ (f0.type = ti ∧ f0.offset = 0) ∧ (f1.type = ti ∧ f1.offset = 1)
  cells : P.cellsOf e = 2
  one : P.cellsOf ti = 1
  i64 : P.underlying ti = some (.int .i64)
theorem trod_bal {e ti : TypeId} (T : BalTy P e ti) {fuel : Nat} {cs : List Value} {x : DataW H × List MemPlace} (h : DataW.trod enc P w base spare held fuel e cs = some x) : ∃ a b : Int, cs = [.int .i64 a, .int .i64 b] ∧ (Lit.int .i64 a).wf = true ∧ (Lit.int .i64 b).wf = true := by
  obtain ⟨f0, f1, hs, ⟨y0, o0⟩, y1, o1⟩ := T.fs
  obtain ⟨xs, n, _, _, hcl, hxl, hg⟩ := DataW.trod_struct hs h
  rw [T.cells] at hcl
  match cs, hcl, xs, hxl with
  | [c0, c1], _, [x0, x1], _ =>
    have g0 := hg 0 f0 rfl
    have g1 := hg 1 f1 rfl
    rw [y0, o0, T.one] at g0
    rw [y1, o1, T.one] at g1
    obtain ⟨a, e0, _, w0⟩ := DataW.trod_int T.i64 (show DataW.trod enc P w base spare held n ti [c0] = some x0 from g0)
    obtain ⟨b, e1, _, w1⟩ := DataW.trod_int T.i64 (show DataW.trod enc P w base spare held n ti [c1] = some x1 from g1)
    injection e0 with e0 _
    injection e1 with e1 _
    exact ⟨a, b, by rw [e0, e1], w0, w1⟩
structure Bal where
  x : Int := 0
  y : Int := 0
instance : Inhabited Bal := ⟨{}⟩
def Bal.cells (b : Bal) : List Value := [.int .i64 b.x, .int .i64 b.y]
structure StepU where
  p : Bool := false
  x : Int := 0
  y : Int := 0
  w : Int := 0
  kA : Option Addr := none
  kn : Nat := 0
  kc : Nat := 0
  kl : List Bool := []
instance : Inhabited StepU := ⟨{}⟩
def StepU.cells (s : StepU) : List Value := [.bool s.p, .int .i64 s.x, .int .i64 s.y, .int .i8 s.w, .slice s.kA s.kn s.kc]
structure StepU.Ok (s : StepU) (w : World) (B : Nat) : Prop where
  power : (Lit.int .i8 s.w).wf = true
  keep : Vs w B s.kA s.kn s.kc (s.kl.map .bool)
end
end
section
open Go Go.RowKit Go.ChangeShapes Go.WideShapes Go.Deep
section
variable {H : Type} {enc : TypeId × Value → H} {P : Program} {w : World} {base : Nat} {spare : Nat → Bool} {held : Bool}
structure OpTy (P : Program) (e t8 ts : TypeId) : Prop where
  fs : ∃ f0 f1 f2 f3 : Field, P.underlying e = some (.struct #[f0, f1, f2, f3]) ∧ (f0.type = t8 ∧ f0.offset = 0) ∧ (f1.type = ts ∧ f1.offset = 1) ∧ (f2.type = ts ∧ f2.offset = 2) ∧ (f3.type = ts ∧ f3.offset = 3)
  cells : P.cellsOf e = 4
  u8 : P.underlying t8 = some (.int .u8)
  str : P.underlying ts = some .string
  one : P.cellsOf t8 = 1 ∧ P.cellsOf ts = 1
theorem trod_opE {e t8 ts : TypeId} (T : OpTy P e t8 ts) {fuel : Nat} {cs : List Value} {x : DataW H × List MemPlace} (h : DataW.trod enc P w base spare held fuel e cs = some x) :
    ∃ (k : Nat) (a b c : ByteArray), cs = [.int .u8 (k : Nat), .string a, .string b, .string c] ∧ k < 256 ∧ a.size ≤ maxLen ∧ b.size ≤ maxLen ∧ c.size ≤ maxLen := by
  obtain ⟨f0, f1, f2, f3, hs, ⟨y0, o0⟩, ⟨y1, o1⟩, ⟨y2, o2⟩, y3, o3⟩ := T.fs
  obtain ⟨xs, n, _, _, hcl, hxl, hg⟩ := DataW.trod_struct hs h
  rw [T.cells] at hcl
  match cs, hcl, xs, hxl with
  | [c0, c1, c2, c3], _, [x0, x1, x2, x3], _ =>
    have g0 := hg 0 f0 rfl
    have g1 := hg 1 f1 rfl
    have g2 := hg 2 f2 rfl
    have g3 := hg 3 f3 rfl
    rw [y0, o0, T.one.1] at g0
    rw [y1, o1, T.one.2] at g1
    rw [y2, o2, T.one.2] at g2
    rw [y3, o3, T.one.2] at g3
    obtain ⟨z, e0, _, w0⟩ := DataW.trod_int T.u8 (show DataW.trod enc P w base spare held n t8 [c0] = some x0 from g0)
    obtain ⟨a, e1, _, w1⟩ := DataW.trod_string T.str (show DataW.trod enc P w base spare held n ts [c1] = some x1 from g1)
    obtain ⟨b, e2, _, w2⟩ := DataW.trod_string T.str (show DataW.trod enc P w base spare held n ts [c2] = some x2 from g2)
    obtain ⟨c, e3, _, w3⟩ := DataW.trod_string T.str (show DataW.trod enc P w base spare held n ts [c3] = some x3 from g3)
    have hz := bounds_u8 w0
    obtain ⟨k, rfl⟩ := Int.eq_ofNat_of_zero_le (show 0 ≤ z by omega)
    injection e0 with e0 _
    injection e1 with e1 _
    injection e2 with e2 _
    injection e3 with e3 _
    exact ⟨k, a, b, c, by rw [e0, e1, e2, e3], by omega, w1, w2, w3⟩
structure EntTy (P : Program) (e t8 ti tO ts : TypeId) : Prop where
  fs : ∃ f0 f1 f2 f3 : Field, P.underlying e = some (.struct #[f0, f1, f2, f3]) ∧ (f0.type = t8 ∧ f0.offset = 0) ∧ (f1.type = ti ∧ f1.offset = 1) ∧ (f2.type = ti ∧ f2.offset = 2) ∧ (f3.type = tO ∧ f3.offset = 3)
  cells : P.cellsOf e = 7
  op : OpTy P tO t8 ts
  i64 : P.underlying ti = some (.int .i64)
  one : P.cellsOf ti = 1
theorem trod_ent {e t8 ti tO ts : TypeId} (T : EntTy P e t8 ti tO ts) {fuel : Nat} {cs : List Value} {x : DataW H × List MemPlace} (h : DataW.trod enc P w base spare held fuel e cs = some x) :
    ∃ e : Ent, cs = e.cells ∧ e.Wf := by
  obtain ⟨f0, f1, f2, f3, hs, ⟨y0, o0⟩, ⟨y1, o1⟩, ⟨y2, o2⟩, y3, o3⟩ := T.fs
  obtain ⟨xs, n, _, _, hcl, hxl, hg⟩ := DataW.trod_struct hs h
  rw [T.cells] at hcl
  match cs, hcl, xs, hxl with
  | [c0, c1, c2, c3, c4, c5, c6], _, [x0, x1, x2, x3], _ =>
    have g0 := hg 0 f0 rfl
    have g1 := hg 1 f1 rfl
    have g2 := hg 2 f2 rfl
    have g3 := hg 3 f3 rfl
    rw [y0, o0, T.op.one.1] at g0
    rw [y1, o1, T.one] at g1
    rw [y2, o2, T.one] at g2
    rw [y3, o3, T.op.cells] at g3
    obtain ⟨z, e0, _, w0⟩ := DataW.trod_int T.op.u8 (show DataW.trod enc P w base spare held n t8 [c0] = some x0 from g0)
    obtain ⟨cl, e1, _, w1⟩ := DataW.trod_int T.i64 (show DataW.trod enc P w base spare held n ti [c1] = some x1 from g1)
    obtain ⟨sq, e2, _, w2⟩ := DataW.trod_int T.i64 (show DataW.trod enc P w base spare held n ti [c2] = some x2 from g2)
    obtain ⟨ok, a, b, c, e3, k3, ka, kb, kc⟩ := trod_opE T.op (show DataW.trod enc P w base spare held n tO [c3, c4, c5, c6] = some x3 from g3)
    have hz := bounds_u8 w0
    obtain ⟨k, rfl⟩ := Int.eq_ofNat_of_zero_le (show 0 ≤ z by omega)
    injection e0 with e0 _
    injection e1 with e1 _
    injection e2 with e2 _
    refine ⟨⟨k, cl, sq, ok, a, b, c⟩, ?_, ⟨by dsimp only; omega, k3, w1, w2, ka, kb, kc⟩⟩
    rw [e0, e1, e2, e3]
    rfl
end
end
section
open Go Go.RowKit
structure Rpt where
  ix : Int := 0
  st : Nat := 0
  x : Int := 0
  y : Int := 0
  e : Ent := {}
instance : Inhabited Rpt := ⟨{}⟩
def rptC (x : Rpt) : List Value := [.int .i64 x.ix, .int .u8 (x.st : Int), .int .i64 x.x, .int .i64 x.y, .int .u8 (x.e.k : Int), .int .i64 x.e.cl, .int .i64 x.e.sq, .int .u8 (x.e.ok : Int), .string x.e.key, .string x.e.old, .string x.e.val]
abbrev rA (x : Rpt) : Value := .agg #[.int .i64 x.ix, .int .u8 (x.st : Int), .int .i64 x.x, .int .i64 x.y, .int .u8 (x.e.k : Int), .int .i64 x.e.cl, .int .i64 x.e.sq, .int .u8 (x.e.ok : Int), .string x.e.key, .string x.e.old, .string x.e.val]
def RC (w : World) (g a : Nat) (r : Rpt) : Prop := w.cell? ⟨g, a, none⟩ = some (.int .i64 r.ix) ∧ w.cell? ⟨g, a + 1, none⟩ = some (.int .u8 (r.st : Int)) ∧ w.cell? ⟨g, a + 2, none⟩ = some (.int .i64 r.x) ∧ w.cell? ⟨g, a + 3, none⟩ = some (.int .i64 r.y) ∧ w.cell? ⟨g, a + 4, none⟩ = some (.int .u8 (r.e.k : Int)) ∧ w.cell? ⟨g, a + 5, none⟩ = some (.int .i64 r.e.cl) ∧ w.cell? ⟨g, a + 6, none⟩ = some (.int .i64 r.e.sq) ∧ w.cell? ⟨g, a + 7, none⟩ = some (.int .u8 (r.e.ok : Int)) ∧ w.cell? ⟨g, a + 8, none⟩ = some (.string r.e.key) ∧ w.cell? ⟨g, a + 9, none⟩ = some (.string r.e.old) ∧ w.cell? ⟨g, a + 10, none⟩ = some (.string r.e.val)
theorem RC.of {w : World} {g a : Nat} {r : Rpt} (h : ∀ k v, (rptC r)[k]? = some v → w.cell? ⟨g, a + k, none⟩ = some v) : RC w g a r := ⟨h 0 _ rfl, h 1 _ rfl, h 2 _ rfl, h 3 _ rfl, h 4 _ rfl, h 5 _ rfl, h 6 _ rfl, h 7 _ rfl, h 8 _ rfl, h 9 _ rfl, h 10 _ rfl⟩
def RC0 (w : World) (b : Nat) (r : Rpt) : Prop := w.cell? ⟨b, 0, none⟩ = some (.int .i64 r.ix) ∧ w.cell? ⟨b, 1, none⟩ = some (.int .u8 (r.st : Int)) ∧ w.cell? ⟨b, 2, none⟩ = some (.int .i64 r.x) ∧ w.cell? ⟨b, 3, none⟩ = some (.int .i64 r.y) ∧ w.cell? ⟨b, 4, none⟩ = some (.int .u8 (r.e.k : Int)) ∧ w.cell? ⟨b, 5, none⟩ = some (.int .i64 r.e.cl) ∧ w.cell? ⟨b, 6, none⟩ = some (.int .i64 r.e.sq) ∧ w.cell? ⟨b, 7, none⟩ = some (.int .u8 (r.e.ok : Int)) ∧ w.cell? ⟨b, 8, none⟩ = some (.string r.e.key) ∧ w.cell? ⟨b, 9, none⟩ = some (.string r.e.old) ∧ w.cell? ⟨b, 10, none⟩ = some (.string r.e.val)
theorem RC0.of {w : World} {b : Nat} {r : Rpt} {t : TypeId} {fr : Nat × Nat} (h : w.heap[b]? = some (.cells (rptC r).toArray t fr)) : RC0 w b r := ⟨cell_of_row w b 0 _ _ _ h, cell_of_row w b 1 _ _ _ h, cell_of_row w b 2 _ _ _ h, cell_of_row w b 3 _ _ _ h, cell_of_row w b 4 _ _ _ h, cell_of_row w b 5 _ _ _ h, cell_of_row w b 6 _ _ _ h, cell_of_row w b 7 _ _ _ h, cell_of_row w b 8 _ _ _ h, cell_of_row w b 9 _ _ _ h, cell_of_row w b 10 _ _ _ h⟩
theorem rptC_one (r : Rpt) : ∀ u ∈ rptC r, u.oneCell' = true := by
  intro u hu
  simp only [rptC, List.mem_cons, List.not_mem_nil, or_false] at hu
  rcases hu with rfl | rfl | rfl | rfl | rfl | rfl | rfl | rfl | rfl | rfl | rfl <;> rfl
end
section
open Go Go.RowKit Go.ChangeShapes Go.WideShapes Go.Deep
structure Rpt.Wf (r : Rpt) : Prop where
  st : r.st < 256
  e : r.e.Wf
theorem rbal_ty : BalTy Try.prog 40 3 := ⟨⟨_, _, Try.underlying40, ⟨rfl, rfl⟩, rfl, rfl⟩, by kernel_rfl, by kernel_rfl, Try.underlying3⟩
theorem rop_ty : OpTy Try.prog 25 5 9 := ⟨⟨_, _, _, _, Try.underlying25, ⟨rfl, rfl⟩, ⟨rfl, rfl⟩, ⟨rfl, rfl⟩, rfl, rfl⟩, by kernel_rfl, Try.underlying5, Try.underlying9, by kernel_rfl, by kernel_rfl⟩
theorem rent_ty : EntTy Try.prog 27 5 3 25 9 := ⟨⟨_, _, _, _, Try.underlying27, ⟨rfl, rfl⟩, ⟨rfl, rfl⟩, ⟨rfl, rfl⟩, rfl, rfl⟩, by kernel_rfl, rop_ty, Try.underlying3, by kernel_rfl⟩
theorem rrep_fs : ∃ f0 f1 f2 f3 : Field, Try.prog.underlying 54 = some (.struct #[f0, f1, f2, f3]) ∧ (f0.type = 3 ∧ f0.offset = 0) ∧ (f1.type = 5 ∧ f1.offset = 1) ∧ (f2.type = 40 ∧ f2.offset = 2) ∧ (f3.type = 27 ∧ f3.offset = 4) := ⟨_, _, _, _, Try.underlying54, ⟨rfl, rfl⟩, ⟨rfl, rfl⟩, ⟨rfl, rfl⟩, rfl, rfl⟩
theorem rcells_of : Try.prog.cellsOf 54 = 11 ∧ Try.prog.cellsOf 3 = 1 ∧ Try.prog.cellsOf 5 = 1 := ⟨by kernel_rfl, by kernel_rfl, by kernel_rfl⟩
section
variable {H : Type} {enc : TypeId × Value → H} {w : World} {base : Nat} {spare : Nat → Bool} {held : Bool}
theorem trod_rpt {fuel : Nat} {cs : List Value} {x : DataW H × List MemPlace} (h : DataW.trod enc Try.prog w base spare held fuel 54 cs = some x) : ∃ r : Rpt, cs = rptC r ∧ r.Wf := by
  obtain ⟨f0, f1, f2, f3, hs, ⟨y0, o0⟩, ⟨y1, o1⟩, ⟨y2, o2⟩, y3, o3⟩ := rrep_fs
  obtain ⟨xs, n, _, _, hcl, hxl, hg⟩ := DataW.trod_struct hs h
  rw [rcells_of.1] at hcl
  match cs, hcl, xs, hxl with
  | [c0, c1, c2, c3, c4, c5, c6, c7, c8, c9, c10], _, [x0, x1, x2, x3], _ =>
    have g0 := hg 0 f0 rfl
    have g1 := hg 1 f1 rfl
    have g2 := hg 2 f2 rfl
    have g3 := hg 3 f3 rfl
    rw [y0, o0, rcells_of.2.1] at g0
    rw [y1, o1, rcells_of.2.2] at g1
    rw [y2, o2, rbal_ty.cells] at g2
    rw [y3, o3, rent_ty.cells] at g3
    obtain ⟨ix, e0, _⟩ := DataW.trod_int rbal_ty.i64 (show DataW.trod enc Try.prog w base spare held n 3 [c0] = some x0 from g0)
    obtain ⟨z, e1, _, w1⟩ := DataW.trod_int rop_ty.u8 (show DataW.trod enc Try.prog w base spare held n 5 [c1] = some x1 from g1)
    obtain ⟨a, b, e2, _⟩ := trod_bal rbal_ty (show DataW.trod enc Try.prog w base spare held n 40 [c2, c3] = some x2 from g2)
    obtain ⟨e, e3, he⟩ := trod_ent rent_ty (show DataW.trod enc Try.prog w base spare held n 27 [c4, c5, c6, c7, c8, c9, c10] = some x3 from g3)
    have hz := bounds_u8 w1
    obtain ⟨k, rfl⟩ := Int.eq_ofNat_of_zero_le (show 0 ≤ z by omega)
    injection e0 with e0 _
    injection e1 with e1 _
    injection e2 with e2 e2'
    injection e2' with e2' _
    refine ⟨⟨ix, k, a, b, e⟩, ?_, ⟨by dsimp only; omega, he⟩⟩
    rw [e0, e1, e2, e2', e3]
    rfl
end
theorem open_t22 {H : Type} {enc : TypeId × Value → H} {w : World} {base : Nat} {held : Bool} {r : Reach} {b0 : Nat} {v : Value} {d : DataW H} {p : List MemPlace}
    (hv : Value.okWide Try.prog w r b0 22 v) (h : DataW.Trod enc Try.prog w base (fun _ => true) held 22 v d p) : ∃ (A : Option Addr) (n c : Nat) (l : List Rpt), v = .slice A n c ∧ Ls rptC 11 w w.heap.size A n c l ∧ ∀ a ∈ l, a.Wf :=
  open_list (cells := rptC) (N := 11) (Ok := fun r => r.Wf) (fun _ => rfl) (by omega) Try.underlying22 (by kernel_rfl) (fun h => trod_rpt h) hv h
end
section
open Go Go.RowKit
def ltB (a b : Bal) : Bool := decide (a.x < b.x ∨ a.x = b.x ∧ a.y < b.y)
theorem ltB_iff {a b : Bal} : ltB a b = true ↔ a.x < b.x ∨ a.x = b.x ∧ a.y < b.y := decide_eq_true_iff
theorem ltB_not {a b : Bal} : ltB a b = false ↔ ¬ (a.x < b.x ∨ a.x = b.x ∧ a.y < b.y) := decide_eq_false_iff_not
theorem ltB_self (a : Bal) : ltB a a = false := ltB_not.2 (by omega)
theorem ltB_eq {a b : Bal} (h1 : ltB a b = false) (h2 : ltB b a = false) : a = b := by
  rw [ltB_not] at h1 h2
  obtain ⟨x, y⟩ := a
  obtain ⟨x', y'⟩ := b
  dsimp only at h1 h2
  obtain rfl : x = x' := by omega
  obtain rfl : y = y' := by omega
  rfl
theorem ltB_le {a b c : Bal} (h1 : ltB a b = false) (h2 : ltB b c = false) : ltB a c = false := by
  rw [ltB_not] at *
  omega
def upB (g : Bal) (l : List Bal) : Bal := l.foldl (fun g x => if ltB g x then x else g) g
def maxB : List Bal → Bal
  | [] => ⟨0, 0⟩
  | a :: l => upB a l
theorem upB_cons (g a : Bal) (l : List Bal) : upB g (a :: l) = upB (if ltB g a then a else g) l := rfl
theorem upB_skip {g : Bal} : ∀ {l : List Bal} {i : Nat}, (∀ (j : Nat) (b : Bal), j < i → l[j]? = some b → ltB g b = false) → upB g l = upB g (l.drop i)
  | l, 0, _ => by rw [List.drop_zero]
  | [], i + 1, _ => by rw [List.drop_nil]
  | a :: l, i + 1, h => by
    rw [upB_cons, h 0 a (by omega) rfl, if_neg (by decide), List.drop_succ_cons]
    exact upB_skip (l := l) (i := i) fun j b hj hb => h (j + 1) b (by omega) hb
theorem upB_none {g : Bal} {l : List Bal} (h : ∀ (j : Nat) (b : Bal), l[j]? = some b → ltB g b = false) : upB g l = g := by
  rw [upB_skip (l := l) (i := l.length) (fun j b _ hb => h j b hb), List.drop_length]
  rfl
theorem upB_take {g b : Bal} {l : List Bal} {i : Nat} (h : ∀ (j : Nat) (b : Bal), j < i → l[j]? = some b → ltB g b = false) (hb : l[i]? = some b) (hl : ltB g b = true) : upB g l = upB b (l.drop (i + 1)) := by
  rw [upB_skip (l := l) (i := i) h, List.drop_eq_getElem_cons (List.getElem?_eq_some_iff.1 hb).1, (List.getElem?_eq_some_iff.1 hb).2, upB_cons, if_pos hl]
theorem upB_ge : ∀ (l : List Bal) (g : Bal), ltB (upB g l) g = false ∧ ∀ x ∈ l, ltB (upB g l) x = false
  | [], g => ⟨ltB_self g, fun x h => by cases h⟩
  | a :: l, g => by
    obtain ⟨h1, h2⟩ := upB_ge l (if ltB g a then a else g)
    rw [upB_cons]
    cases hl : ltB g a with
    | true =>
      rw [hl, if_pos rfl] at h1 h2
      rw [if_pos rfl]
      have hg : ltB a g = false := by rw [ltB_iff] at hl; rw [ltB_not]; omega
      exact ⟨ltB_le h1 hg, fun x hx => (List.mem_cons.1 hx).elim (fun e => by rw [e]; exact h1) (h2 x)⟩
    | false =>
      rw [hl, if_neg (by decide)] at h1 h2
      rw [if_neg (by decide)]
      exact ⟨h1, fun x hx => (List.mem_cons.1 hx).elim (fun e => by rw [e]; exact ltB_le h1 hl) (h2 x)⟩
theorem upB_mem : ∀ (l : List Bal) (g : Bal), upB g l = g ∨ upB g l ∈ l
  | [], g => .inl rfl
  | a :: l, g => by
    rw [upB_cons]
    cases hl : ltB g a with
    | true =>
      rw [if_pos rfl]
      rcases upB_mem l a with h | h
      · exact .inr (by rw [h]; exact List.mem_cons_self ..)
      · exact .inr (List.mem_cons_of_mem _ h)
    | false =>
      rw [if_neg (by decide)]
      rcases upB_mem l g with h | h
      · exact .inl h
      · exact .inr (List.mem_cons_of_mem _ h)
theorem maxB_ge {l : List Bal} {x : Bal} (h : x ∈ l) : ltB (maxB l) x = false := by
  cases l with
  | nil => cases h
  | cons a l => exact (List.mem_cons.1 h).elim (fun e => by rw [e]; exact (upB_ge l a).1) ((upB_ge l a).2 x)
theorem maxB_mem {l : List Bal} (h : l ≠ []) : maxB l ∈ l := by
  cases l with
  | nil => exact absurd rfl h
  | cons a l =>
    rcases upB_mem l a with h | h
    · show upB a l ∈ _
      rw [h]
      exact List.mem_cons_self ..
    · exact List.mem_cons_of_mem _ h
def crowdB (n : Int) : Bool := decide (n = 3 ∨ n = 5 ∨ n = 7)
theorem crowdB_iff {n : Int} : crowdB n = true ↔ n = 3 ∨ n = 5 ∨ n = 7 := decide_eq_true_iff
end
section
open Go Go.RowKit
def Rpt.b (r : Rpt) : Bal := ⟨r.x, r.y⟩
def eqB (a b : Bal) : Bool := decide (a.x = b.x ∧ a.y = b.y)
theorem eqB_iff {a b : Bal} : eqB a b = true ↔ a = b := by
  unfold eqB
  rw [decide_eq_true_iff]
  obtain ⟨x, y⟩ := a
  obtain ⟨x', y'⟩ := b
  exact ⟨fun ⟨h1, h2⟩ => by dsimp only at h1 h2; rw [h1, h2], fun h => by injection h with h1 h2; exact ⟨h1, h2⟩⟩
def upR (o : Option Rpt) (r : Rpt) : Option Rpt := if r.st = 2 then (match o with | none => some r | some q => if ltB q.b r.b then some r else some q) else o
def bestR (l : List Rpt) : Option Rpt := l.foldl upR none
theorem upR_no (o : Option Rpt) {r : Rpt} (h : r.st ≠ 2) : upR o r = o := if_neg h
theorem upR_none {r : Rpt} (h : r.st = 2) : upR none r = some r := if_pos h
theorem upR_some {q r : Rpt} (h : r.st = 2) : upR (some q) r = if ltB q.b r.b then some r else some q := if_pos h
theorem bestR_snoc (l : List Rpt) (r : Rpt) : bestR (l ++ [r]) = upR (bestR l) r := by unfold bestR; rw [List.foldl_append]; rfl
theorem fold_best : ∀ (l : List Rpt) (o : Option Rpt), match l.foldl upR o with
    | none => o = none ∧ ∀ r ∈ l, r.st ≠ 2
    | some q => (o = some q ∨ (q ∈ l ∧ q.st = 2)) ∧ (∀ r ∈ l, r.st = 2 → ltB q.b r.b = false) ∧ ∀ p, o = some p → ltB q.b p.b = false
  | [], o => by
    cases o with
    | none => exact ⟨rfl, fun r h => by cases h⟩
    | some q =>
      refine ⟨.inl rfl, fun r h => (by cases h), fun p hp => ?_⟩
      injection hp with hp
      rw [hp]
      exact ltB_self _
  | a :: l, o => by
    rw [List.foldl_cons]
    have ih := fold_best l (upR o a)
    generalize hR : l.foldl upR (upR o a) = R at ih
    by_cases ha : a.st = 2
    · cases o with
      | none =>
        rw [upR_none ha] at ih
        cases R with
        | none => cases ih.1
        | some q =>
          obtain ⟨h1, h2, h3⟩ := ih
          refine ⟨.inr ?_, fun r hr h => ?_, fun p hp => by cases hp⟩
          · rcases h1 with h1 | h1
            · injection h1 with h1
              rw [← h1]
              exact ⟨List.mem_cons_self .., ha⟩
            · exact ⟨List.mem_cons_of_mem _ h1.1, h1.2⟩
          · rcases List.mem_cons.1 hr with rfl | hr
            · exact h3 _ rfl
            · exact h2 r hr h
      | some p =>
        rw [upR_some ha] at ih
        cases R with
        | none =>
          cases hl : ltB p.b a.b <;> rw [hl] at ih <;> cases ih.1
        | some q =>
          obtain ⟨h1, h2, h3⟩ := ih
          cases hl : ltB p.b a.b with
          | true =>
            rw [hl, if_pos rfl] at h1 h3
            have h4 := h3 a rfl
            refine ⟨.inr ?_, fun r hr h => ?_, fun p' hp => ?_⟩
            · rcases h1 with h1 | h1
              · injection h1 with h1
                rw [← h1]
                exact ⟨List.mem_cons_self .., ha⟩
              · exact ⟨List.mem_cons_of_mem _ h1.1, h1.2⟩
            · rcases List.mem_cons.1 hr with rfl | hr
              · exact h4
              · exact h2 r hr h
            · injection hp with hp
              rw [← hp]
              refine ltB_le h4 ?_
              rw [ltB_iff] at hl
              rw [ltB_not]
              omega
          | false =>
            rw [hl, if_neg (by decide)] at h1 h3
            have h4 := h3 p rfl
            refine ⟨?_, fun r hr h => ?_, fun p' hp => ?_⟩
            · rcases h1 with h1 | h1
              · exact .inl h1
              · exact .inr ⟨List.mem_cons_of_mem _ h1.1, h1.2⟩
            · rcases List.mem_cons.1 hr with rfl | hr
              · exact ltB_le h4 hl
              · exact h2 r hr h
            · injection hp with hp
              rw [← hp]
              exact h4
    · rw [upR_no o ha] at ih
      cases R with
      | none =>
        refine ⟨ih.1, fun r hr => ?_⟩
        rcases List.mem_cons.1 hr with rfl | hr
        · exact ha
        · exact ih.2 r hr
      | some q =>
        obtain ⟨h1, h2, h3⟩ := ih
        refine ⟨?_, fun r hr h => ?_, h3⟩
        · rcases h1 with h1 | h1
          · exact .inl h1
          · exact .inr ⟨List.mem_cons_of_mem _ h1.1, h1.2⟩
        · rcases List.mem_cons.1 hr with rfl | hr
          · exact absurd h ha
          · exact h2 r hr h
theorem bestR_none {l : List Rpt} (h : bestR l = none) : ∀ r ∈ l, r.st ≠ 2 := by
  have := fold_best l none
  rw [show l.foldl upR none = none from h] at this
  exact this.2
theorem bestR_some {l : List Rpt} {q : Rpt} (h : bestR l = some q) : q ∈ l ∧ q.st = 2 ∧ ∀ r ∈ l, r.st = 2 → ltB q.b r.b = false := by
  have := fold_best l none
  rw [show l.foldl upR none = some q from h] at this
  rcases this.1 with h1 | h1
  · cases h1
  · exact ⟨h1.1, h1.2, this.2.1⟩
theorem bestR_nil {l : List Rpt} (h : ∀ r ∈ l, r.st ≠ 2) : bestR l = none := by
  cases hb : bestR l with
  | none => rfl
  | some q => exact absurd (bestR_some hb).2.1 (h q (bestR_some hb).1)
theorem fold_stay {r : Rpt} : ∀ l : List Rpt, (∀ x ∈ l, x.st = 2 → ltB r.b x.b = false) → l.foldl upR (some r) = some r
  | [], _ => rfl
  | a :: l, h => by
    rw [List.foldl_cons]
    have e : upR (some r) a = some r := by
      by_cases ha : a.st = 2
      · rw [upR_some ha, h a (List.mem_cons_self ..) ha, if_neg (by decide)]
      · exact upR_no _ ha
    rw [e]
    exact fold_stay l fun x hx => h x (List.mem_cons_of_mem _ hx)
theorem bestR_is {l1 l2 : List Rpt} {r : Rpt} (hr : r.st = 2) (h1 : ∀ x ∈ l1, x.st = 2 → ltB x.b r.b = true) (h2 : ∀ x ∈ l2, x.st = 2 → ltB r.b x.b = false) : bestR (l1 ++ r :: l2) = some r := by
  have e : upR (bestR l1) r = some r := by
    cases hb : bestR l1 with
    | none => exact upR_none hr
    | some q =>
      obtain ⟨m, s, _⟩ := bestR_some hb
      rw [upR_some hr, h1 q m s, if_pos rfl]
  show (l1 ++ r :: l2).foldl upR none = _
  rw [List.foldl_append, List.foldl_cons, show l1.foldl upR none = bestR l1 from rfl, e]
  exact fold_stay l2 h2
theorem fold_filter {p : Rpt → Bool} : ∀ (l : List Rpt) (o : Option Rpt), (∀ r ∈ l, r.st = 2 → p r = true) → (l.filter p).foldl upR o = l.foldl upR o
  | [], _, _ => rfl
  | a :: l, o, h => by
    have ih := fun o => fold_filter l o fun r hr => h r (List.mem_cons_of_mem _ hr)
    cases ha : p a with
    | true => rw [List.filter_cons_of_pos ha, List.foldl_cons, List.foldl_cons, ih]
    | false =>
      rw [List.filter_cons_of_neg (by rw [ha]; decide), List.foldl_cons, ih, upR_no o fun e => by rw [h a (List.mem_cons_self ..) e] at ha; cases ha]
theorem bestR_filter {p : Rpt → Bool} {l : List Rpt} (h : ∀ r ∈ l, r.st = 2 → p r = true) : bestR (l.filter p) = bestR l := fold_filter l none h
def lostGe (l : List Rpt) (b : Bal) : Nat := l.countP fun k => decide (k.st = 3) && !ltB k.b b
def openR (o : Option Rpt) (r : Rpt) : Bool := match o with
  | none => true
  | some q => ltB q.b r.b
def undR (lim many : Nat) (l : List Rpt) : Bool := decide (lim ≤ many) || l.any fun r => decide (r.st = 3) && openR (bestR l) r && decide (lim ≤ many + lostGe l r.b)
theorem undR_iff {lim many : Nat} {l : List Rpt} : undR lim many l = true ↔ lim ≤ many ∨ ∃ r ∈ l, r.st = 3 ∧ openR (bestR l) r = true ∧ lim ≤ many + lostGe l r.b := by
  unfold undR
  simp only [Bool.or_eq_true, decide_eq_true_iff, List.any_eq_true, Bool.and_eq_true]
  exact ⟨fun h => h.imp id fun ⟨r, h1, ⟨h2, h3⟩, h4⟩ => ⟨r, h1, h2, h3, h4⟩, fun h => h.imp id fun ⟨r, h1, h2, h3, h4⟩ => ⟨r, h1, ⟨h2, h3⟩, h4⟩⟩
theorem undR_not {lim many : Nat} {l : List Rpt} : undR lim many l = false ↔ many < lim ∧ ∀ r ∈ l, r.st = 3 → openR (bestR l) r = true → many + lostGe l r.b < lim := by
  rw [← Bool.not_eq_true, undR_iff]
  constructor
  · intro h
    refine ⟨by omega, fun r hr h1 h2 => ?_⟩
    rcases Nat.lt_or_ge (many + lostGe l r.b) lim with h3 | h3
    · exact h3
    · exact absurd (.inr ⟨r, hr, h1, h2, h3⟩) h
  · rintro ⟨h1, h2⟩ (h | ⟨r, hr, h3, h4, h5⟩)
    · omega
    · have := h2 r hr h3 h4
      omega
def valR (o : Option Rpt) : Nat × Ent := match o with
  | none => (1, noopE)
  | some q => (2, q.e)
def ansR (lim many : Nat) (l : List Rpt) : Nat × Ent := if undR lim many l then (0, {}) else valR (bestR l)
theorem ansR_many {lim many : Nat} {l : List Rpt} (h : ¬ many < lim) : ansR lim many l = (0, {}) := if_pos (undR_iff.2 (.inl (by omega)))
theorem ansR_nil {lim many : Nat} (h : many < lim) : ansR lim many [] = (1, noopE) := by
  unfold ansR
  rw [if_neg (by rw [Bool.not_eq_true, undR_not]; exact ⟨h, fun r hr => by cases hr⟩)]
  rfl
def hasR (r : Rpt) : Bool := decide (r.st = 2 ∨ r.st = 3)
def unkR (r : Rpt) : Bool := decide (r.st = 0 ∨ r.st = 4)
theorem hasR_iff {r : Rpt} : hasR r = true ↔ r.st = 2 ∨ r.st = 3 := decide_eq_true_iff
theorem unkR_iff {r : Rpt} : unkR r = true ↔ r.st = 0 ∨ r.st = 4 := decide_eq_true_iff
theorem ansR_value {lim many : Nat} {l1 l2 : List Rpt} {r : Rpt} (h : many < lim) (hr : r.st = 2) (hg : ∀ x ∈ l1 ++ r :: l2, ltB r.b x.b = false) (h1 : ∀ x ∈ l1, x.b = r.b → x.st ≠ 2) : ansR lim many (l1 ++ r :: l2) = (2, r.e) := by
  have hb : bestR (l1 ++ r :: l2) = some r := bestR_is hr (fun x hx hs => by
    cases hl : ltB x.b r.b with
    | true => rfl
    | false => exact absurd hs (h1 x hx (ltB_eq hl (hg x (List.mem_append_left _ hx))))) fun x hx _ => hg x (List.mem_append_right _ (List.mem_cons_of_mem _ hx))
  unfold ansR
  rw [if_neg (by
    rw [Bool.not_eq_true, undR_not]
    refine ⟨h, fun x hx _ ho => ?_⟩
    rw [hb] at ho
    have : ltB r.b x.b = true := ho
    rw [hg x hx] at this
    cases this), hb]
  rfl
theorem lostGe_split (l : List Rpt) (g b : Bal) (hb : ltB b g = true) (h2 : ∀ x ∈ l, x.b = g → x.st = 3) : lostGe l b = l.countP (fun r => eqB r.b g) + lostGe (l.filter fun r => !eqB r.b g) b := by
  induction l with
  | nil => rfl
  | cons a l ih =>
    have ih := ih fun x hx => h2 x (List.mem_cons_of_mem _ hx)
    unfold lostGe at ih ⊢
    rw [List.countP_cons, List.countP_cons, ih]
    cases he : eqB a.b g with
    | true =>
      have ea := eqB_iff.1 he
      rw [List.filter_cons_of_neg (by rw [he]; decide), h2 a (List.mem_cons_self ..) ea, ea]
      have hn : ltB g b = false := by rw [ltB_iff] at hb; rw [ltB_not]; omega
      rw [hn]
      simp only [decide_true, Bool.not_false, Bool.and_self, if_true]
      omega
    | false =>
      rw [List.filter_cons_of_pos (by rw [he]; decide), List.countP_cons]
      simp only [Bool.false_eq_true, if_false]
      omega
theorem lostGe_top (l : List Rpt) (g : Bal) (hg : ∀ x ∈ l, ltB g x.b = false) (h2 : ∀ x ∈ l, x.b = g → x.st = 3) : lostGe l g = l.countP (fun r => eqB r.b g) := by
  unfold lostGe
  refine List.countP_congr fun x hx => ?_
  rw [Bool.and_eq_true, decide_eq_true_iff, Bool.not_eq_true', eqB_iff]
  exact ⟨fun h => ltB_eq h.2 (hg x hx), fun h => ⟨h2 x hx h, by rw [h]; exact ltB_self _⟩⟩
theorem ansR_next {lim many : Nat} {l : List Rpt} {g : Bal} (h : many < lim) (hs : ∀ x ∈ l, x.st = 2 ∨ x.st = 3) (hg : ∀ x ∈ l, ltB g x.b = false) (h1 : ∀ x ∈ l, x.b = g → x.st ≠ 2) (hm : ∃ x ∈ l, x.b = g) :
    ansR lim many l = ansR lim (many + l.countP fun r => eqB r.b g) (l.filter fun r => !eqB r.b g) := by
  have h3 : ∀ x ∈ l, x.b = g → x.st = 3 := fun x hx e => (hs x hx).resolve_left (h1 x hx e)
  have hb : bestR (l.filter fun r => !eqB r.b g) = bestR l := bestR_filter fun x hx e => by
    rw [Bool.not_eq_true', ← Bool.not_eq_true, eqB_iff]
    exact fun e' => h1 x hx e' e
  have hu : undR lim many l = undR lim (many + l.countP fun r => eqB r.b g) (l.filter fun r => !eqB r.b g) := by
    rw [Bool.eq_iff_iff, undR_iff, undR_iff, hb]
    constructor
    · rintro (h4 | ⟨r, hr, h4, h5, h6⟩)
      · omega
      · by_cases e : r.b = g
        · rw [e, lostGe_top l g hg h3] at h6
          exact .inl h6
        · have hlt : ltB r.b g = true := by
            cases hl : ltB r.b g with
            | true => rfl
            | false => exact absurd (ltB_eq hl (hg r hr)) e
          refine .inr ⟨r, List.mem_filter.2 ⟨hr, by rw [Bool.not_eq_true', ← Bool.not_eq_true, eqB_iff]; exact e⟩, h4, h5, ?_⟩
          rw [lostGe_split l g r.b hlt h3] at h6
          omega
    · rintro (h4 | ⟨r, hr, h4, h5, h6⟩)
      · obtain ⟨x, hx, e⟩ := hm
        refine .inr ⟨x, hx, h3 x hx e, ?_, by rw [e, lostGe_top l g hg h3]; exact h4⟩
        cases hbb : bestR l with
        | none => rfl
        | some q =>
          obtain ⟨m, s, _⟩ := bestR_some hbb
          show ltB q.b x.b = true
          cases hl : ltB q.b x.b with
          | true => rfl
          | false =>
            rw [e] at hl
            exact absurd s (h1 q m (ltB_eq hl (hg q m)))
      · obtain ⟨hr, he⟩ := List.mem_filter.1 hr
        rw [Bool.not_eq_true', ← Bool.not_eq_true, eqB_iff] at he
        have hlt : ltB r.b g = true := by
          cases hl : ltB r.b g with
          | true => rfl
          | false => exact absurd (ltB_eq hl (hg r hr)) he
        refine .inr ⟨r, hr, h4, h5, ?_⟩
        rw [lostGe_split l g r.b hlt h3]
        omega
  unfold ansR
  rw [hu, hb]
def okR (n : Int) (l : List Rpt) : Bool := crowdB n && decide ((l.length : Int) = n) && l.all fun r => decide (r.st ≤ 4)
def waitR (l : List Rpt) : Bool := undR (l.length / 2 + 1) (l.countP unkR) l && l.any fun r => decide (r.st = 0)
def decE (n : Int) (l : List Rpt) : Int := if okR n l then 0 else 2
def decR (n : Int) (l : List Rpt) : Nat × Ent := if okR n l then (if waitR l then (0, {}) else valR (bestR l)) else (0, {})
theorem okR_iff {n : Int} {l : List Rpt} : okR n l = true ↔ (n = 3 ∨ n = 5 ∨ n = 7) ∧ (l.length : Int) = n ∧ ∀ r ∈ l, r.st ≤ 4 := by
  unfold okR
  simp only [Bool.and_eq_true, crowdB_iff, decide_eq_true_iff, List.all_eq_true, and_assoc]
theorem bestR_has (l : List Rpt) : bestR (l.filter hasR) = bestR l := bestR_filter fun _ _ h => hasR_iff.2 (.inl h)
theorem lostGe_has (l : List Rpt) (b : Bal) : lostGe (l.filter hasR) b = lostGe l b := by
  unfold lostGe
  rw [List.countP_filter]
  refine List.countP_congr fun x _ => ?_
  rw [Bool.and_eq_true, Bool.and_eq_true, decide_eq_true_iff, hasR_iff]
  exact ⟨fun h => h.1, fun h => ⟨h, .inr h.1⟩⟩
theorem undR_has (lim many : Nat) (l : List Rpt) : undR lim many (l.filter hasR) = undR lim many l := by
  rw [Bool.eq_iff_iff, undR_iff, undR_iff, bestR_has]
  simp only [lostGe_has]
  exact ⟨fun h => h.imp id fun ⟨r, h1, h2⟩ => ⟨r, (List.mem_filter.1 h1).1, h2⟩, fun h => h.imp id fun ⟨r, h1, h2⟩ => ⟨r, List.mem_filter.2 ⟨h1, hasR_iff.2 (.inr h2.1)⟩, h2⟩⟩
theorem ansR_has (lim many : Nat) (l : List Rpt) : ansR lim many (l.filter hasR) = if undR lim many l then (0, {}) else valR (bestR l) := by
  unfold ansR
  rw [undR_has, bestR_has]
theorem valR_pos (o : Option Rpt) : (valR o).1 ≠ 0 := by
  cases o with
  | none => exact fun h => by cases h
  | some q => exact fun h => by cases h
theorem lost_unk : ∀ (l : List Rpt) (b : Bal), l.countP unkR + lostGe l b ≤ l.length
  | [], _ => Nat.le_refl _
  | a :: l, b => by
    have ih := lost_unk l b
    unfold lostGe at ih ⊢
    rw [List.countP_cons, List.countP_cons, List.length_cons]
    by_cases h3 : a.st = 3
    · have hu : unkR a = false := by rw [← Bool.not_eq_true, unkR_iff]; omega
      rw [hu, if_neg (fun h : false = true => by cases h)]
      split <;> omega
    · rw [decide_eq_false h3, Bool.false_and]
      simp only [Bool.false_eq_true, if_false]
      split <;> omega
theorem undR_all (l : List Rpt) {lim : Nat} (h : l.length < lim) : undR lim (l.countP unkR) l = false := by
  rw [undR_not]
  have h1 : l.countP unkR ≤ l.length := List.countP_le_length
  exact ⟨by omega, fun r _ _ _ => by have := lost_unk l r.b; omega⟩
end
section
open Go Go.RowKit
structure Mod (F : Nat → Prop) (w w' : World) : Prop where
  os : w'.os = w.os
  tape : w'.tape = w.tape
  output : w'.output = w.output
  size : w.heap.size ≤ w'.heap.size
  block : ∀ k, k < w.heap.size → ¬ F k → w'.heap[k]? = w.heap[k]?
section
variable {F G : Nat → Prop} {a b c w w' : World}
theorem Mod.refl (F : Nat → Prop) (w : World) : Mod F w w := ⟨rfl, rfl, rfl, Nat.le_refl _, fun _ _ _ => rfl⟩
theorem Mod.trans (h : Mod F a b) (k : Mod G b c) (hG : ∀ i, G i → F i ∨ a.heap.size ≤ i) : Mod F a c :=
  ⟨k.os.trans h.os, k.tape.trans h.tape, k.output.trans h.output, Nat.le_trans h.size k.size, fun i hi hf =>
    (k.block i (Nat.lt_of_lt_of_le hi h.size) fun hg => (hG i hg).elim hf fun hl => absurd hi (by omega)).trans (h.block i hi hf)⟩
theorem Mod.of_ext (h : Ext w w') : Mod F w w' := ⟨h.os, h.tape, h.output, h.size, fun k hk _ => h.block k hk⟩
theorem Mod.setCell (h : Mod F a b) {p : Addr} (hp : F p.block ∨ a.heap.size ≤ p.block) (v : Value) : Mod F a (b.setCell p v) :=
  ⟨h.os, h.tape, h.output, Nat.le_trans h.size (by simp [World.setCell]), fun k hk hf => (Below.heap_setCell _ _ _ _ (fun e => by
    subst e
    exact hp.elim hf fun hl => absurd hk (by omega))).trans (h.block k hk hf)⟩
theorem Mod.to_ext (h : Mod F w w') (hF : ∀ i, F i → w.heap.size ≤ i) : Ext w w' := ⟨h.os, h.tape, h.output, h.size, fun k hk => h.block k hk fun hf => absurd (hF k hf) (by omega)⟩
theorem heap_mod {g : Nat} {o : Obj} (h : w.heap[g]? = some o) (k : Mod F w w') (hg : ¬ F g) : w'.heap[g]? = some o := (k.block g (Array.getElem?_eq_some_iff.1 h).1 hg).trans h
theorem own_mod {base e size n : Nat} {v : Value} {xs : List Value} (h : w.ownsRow base e size v n xs) (k : Mod F w w') (hv : ∀ i, v.ownBlock = some i → ¬ F i) : w'.ownsRow base e size v n xs := by
  refine ⟨h.1, ?_⟩
  rcases h.2 with h0 | ⟨g, cap, cur, rfl, hb, hg, h1⟩
  · exact .inl h0
  · exact .inr ⟨g, cap, cur, rfl, hb, heap_mod hg k (hv g rfl), h1⟩
end
end
end Go.Proofs.Ytinflpheogglhaa
