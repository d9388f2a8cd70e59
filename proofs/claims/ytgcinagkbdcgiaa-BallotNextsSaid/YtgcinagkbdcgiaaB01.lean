/-
  What it means that a slice of bytes in memory reads as a list of numbers, and how that is carried along; no program.
-/
import Derived.Test.YtgcinagkbdcgiaaB00
import Derived.Below
import Derived.Laws.OwnMore
import Derived.Deep.AppendLies
import Derived.Deep.Draws
import Derived.WalkKit
import Derived.ProofKit
import Derived.OpenShut
import Derived.Deep.Slices
import Derived.Deep.Fields
import Derived.Test.YtgcinagkbdcgiaaProg
import Derived.WalkSpells
import Derived.BigQuiet
import Derived.OwnWalk
import Derived.Laws.AppendOwnNone
import Derived.Lib.Hide
import Derived.Laws.EntriesVeiled
import Derived.Deep.RegionHeld3
import Derived.Deep.DeepCutAuto
namespace Go.Proofs.Ytgcinagkbdcgiaa
set_option maxRecDepth 100000
section
open Go Go.RowKit
def Rd (w : World) (B : Nat) (A : Option Addr) (l : List Nat) : Prop :=
  (∀ b ∈ l, b < 256) ∧ (0 < l.length → ∃ g o, A = some ⟨g, o, none⟩ ∧ g < B ∧ ∀ j x, l[j]? = some x → w.cell? ⟨g, o + j, none⟩ = some (.int .u8 ((x : Nat) : Int)))
section
variable {w w' : World} {B B' : Nat} {A : Option Addr} {l : List Nat}
theorem Rd.nil_ : Rd w B A [] := ⟨by simp, fun h => absurd h (by simp)⟩
theorem Rd.keep (h : Rd w B A l) (hk : ∀ p : Addr, p.block < B → w'.cell? p = w.cell? p) : Rd w' B A l :=
  ⟨h.1, fun hn => by
    obtain ⟨g, o, e, hg, hc⟩ := h.2 hn
    exact ⟨g, o, e, hg, fun j x hx => (hk ⟨g, o + j, none⟩ hg).trans (hc j x hx)⟩⟩
theorem Rd.more (h : Rd w B A l) (hB : B ≤ B') : Rd w B' A l :=
  ⟨h.1, fun hn => by
    obtain ⟨g, o, e, hg, hc⟩ := h.2 hn
    exact ⟨g, o, e, by omega, hc⟩⟩
theorem Rd.below (h : Rd w B A l) (hb : Below B w w') : Rd w' B A l := h.keep fun _ hp => hb.cell hp
theorem Rd.take (h : Rd w B A l) (k : Nat) : Rd w B A (l.take k) := by
  refine ⟨fun b hb => h.1 b (List.mem_of_mem_take hb), fun hn => ?_⟩
  rw [List.length_take] at hn
  obtain ⟨g, o, e, hg, hc⟩ := h.2 (by omega)
  refine ⟨g, o, e, hg, fun j x hx => hc j x ?_⟩
  rw [List.getElem?_take] at hx
  split at hx
  · exact hx
  · cases hx
end
end
section
open Go Go.RowKit
structure Bs (w : World) (B : Nat) (A : Option Addr) (n c : Nat) (l : List Nat) : Prop where
  len : l.length = n
  cap : n ≤ c
  most : c ≤ 9223372036854775807
  rd : Rd w B A l
  nil_ : A = none → c = 0
theorem Bs.below {w w' : World} {B : Nat} {A : Option Addr} {n c : Nat} {l : List Nat} (h : Bs w B A n c l) (hb : Below B w w') : Bs w' B A n c l := ⟨h.len, h.cap, h.most, h.rd.below hb, h.nil_⟩
theorem Bs.more {w : World} {B B' : Nat} {A : Option Addr} {n c : Nat} {l : List Nat} (h : Bs w B A n c l) (hB : B ≤ B') : Bs w B' A n c l := ⟨h.len, h.cap, h.most, h.rd.more hB, h.nil_⟩
def Ext (w w' : World) : Prop := Below w.heap.size w w'
theorem Ext.refl (w : World) : Ext w w := Below.refl _ _
theorem Ext.trans {a b c : World} (h : Ext a b) (k : Ext b c) : Ext a c := Below.trans h (Below.mono k (Below.size h))
theorem Ext.alloc {a b : World} (h : Ext a b) (o : Obj) : Ext a (b.alloc o) := Below.alloc h (Below.size h) o
theorem Ext.drew {a b : World} (h : Ext a b) : Ext a b.drew := Below.drew h
theorem Ext.size {a b : World} (h : Ext a b) : a.heap.size ≤ b.heap.size := Below.size h
def By (w : World) (A : Option Addr) (n c : Nat) (l : List Nat) : Prop := Bs w w.heap.size A n c l
theorem By.ext {a b : World} {A : Option Addr} {n c : Nat} {l : List Nat} (h : By a A n c l) (k : Ext a b) : By b A n c l := (Bs.below h k).more (Ext.size k)
theorem By.nil_ (w : World) : By w none 0 0 [] := ⟨rfl, Nat.le_refl _, by omega, Rd.nil_, fun _ => rfl⟩
end
section
open Go Go.RowKit Go.ChangeShapes Go.WideShapes
theorem bs_of_row {w : World} {x : Addr} {n c : Nat} {zs : List Int} (hl : n ≤ c) (hm : c ≤ maxLen) (hz : zs.length = c) (hcell : ∀ i, i < zs.length → w.cell? (x.add i) = some (.int .u8 (zs.getD i 0))) (hwz : ∀ z ∈ zs, (Lit.int .u8 z).wf = true) :
    Bs w w.heap.size (some x) n c ((zs.take n).map Int.toNat) := by
  have hb : ∀ z ∈ zs, 0 ≤ z ∧ z < 256 := by
    intro z hzm
    have := bounds_u8 (hwz z hzm)
    omega
  refine ⟨by simp [hz, hl], hl, by unfold maxLen at hm; exact hm, ⟨?_, ?_⟩, fun h => by cases h⟩
  · intro b hbm
    simp only [List.mem_map] at hbm
    obtain ⟨z, hzm, rfl⟩ := hbm
    have := hb z (List.mem_of_mem_take hzm)
    omega
  · intro h0
    have hn : 0 < n := by
      rw [List.length_map, List.length_take] at h0
      omega
    obtain ⟨g, o, spot⟩ := x
    have hc := hcell 0 (by omega)
    have hspot : spot = none := by simpa [Addr.add] using World.cell?_spot hc
    subst hspot
    refine ⟨g, o, rfl, ?_, fun j y hy => ?_⟩
    · have := World.block_lt_of_cell? w _ hc
      simpa [Addr.add] using this
    · rw [List.getElem?_map] at hy
      obtain ⟨z, hzj, rfl⟩ := Option.map_eq_some_iff.1 hy
      have hjn : j < n ∧ zs[j]? = some z := by
        rw [List.getElem?_take] at hzj
        split at hzj
        · exact ⟨by assumption, hzj⟩
        · cases hzj
      have hzb := hb z (List.mem_of_getElem? hjn.2)
      have h2 := hcell j (by omega)
      rw [Addr.add_lit] at h2
      rw [h2, List.getD_eq_getElem?_getD, hjn.2]
      simp only [Option.getD_some]
      rw [Int.toNat_of_nonneg hzb.1]
end
section
open Go Go.RowKit Go.ChangeShapes Go.WideShapes Go.Deep
structure Vs (w : World) (B : Nat) (A : Option Addr) (n c : Nat) (vs : List Value) : Prop where
  len : vs.length = n
  cap : n ≤ c
  most : c ≤ 9223372036854775807
  rd : 0 < n → ∃ g o, A = some ⟨g, o, none⟩ ∧ g < B ∧ ∀ j v, vs[j]? = some v → w.cell? ⟨g, o + j, none⟩ = some v
  nil_ : A = none → c = 0
theorem Vs.below {w w' : World} {B : Nat} {A : Option Addr} {n c : Nat} {vs : List Value} (h : Vs w B A n c vs) (hb : Below B w w') : Vs w' B A n c vs :=
  ⟨h.len, h.cap, h.most, fun hn => by
    obtain ⟨g, o, e, hg, hc⟩ := h.rd hn
    exact ⟨g, o, e, hg, fun j v hv => (hb.cell (p := ⟨g, o + j, none⟩) hg).trans (hc j v hv)⟩, h.nil_⟩
theorem Vs.more {w : World} {B B' : Nat} {A : Option Addr} {n c : Nat} {vs : List Value} (h : Vs w B A n c vs) (hB : B ≤ B') : Vs w B' A n c vs :=
  ⟨h.len, h.cap, h.most, fun hn => by
    obtain ⟨g, o, e, hg, hc⟩ := h.rd hn
    exact ⟨g, o, e, by omega, hc⟩, h.nil_⟩
structure Act5 where
  kind : Nat := 0
  sec : Int := 0
  num : Int := 0
  bA : Option Addr := none
  bn : Nat := 0
  bc : Nat := 0
  bl : List Nat := []
  kA : Option Addr := none
  kn : Nat := 0
  kc : Nat := 0
  kl : List Bool := []
instance : Inhabited Act5 := ⟨{}⟩
def Act5.cells (a : Act5) : List Value := [.int .u8 (a.kind : Int), .int .i64 a.sec, .int .i64 a.num, .slice a.bA a.bn a.bc, .slice a.kA a.kn a.kc]
structure Act5.Ok (a : Act5) (w : World) (B : Nat) : Prop where
  kind : a.kind < 256
  sec : (Lit.int .i64 a.sec).wf = true
  num : (Lit.int .i64 a.num).wf = true
  bytes : Bs w B a.bA a.bn a.bc a.bl
  keep : Vs w B a.kA a.kn a.kc (a.kl.map .bool)
theorem Act5.Ok.below {a : Act5} {w w' : World} {B : Nat} (h : a.Ok w B) (hb : Below B w w') : a.Ok w' B := ⟨h.kind, h.sec, h.num, h.bytes.below hb, h.keep.below hb⟩
theorem Act5.Ok.more {a : Act5} {w : World} {B B' : Nat} (h : a.Ok w B) (hB : B ≤ B') : a.Ok w B' := ⟨h.kind, h.sec, h.num, h.bytes.more hB, h.keep.more hB⟩
structure Acts (w : World) (B : Nat) (A : Option Addr) (n c : Nat) (l : List Act5) : Prop where
  len : l.length = n
  cap : n ≤ c
  most : c ≤ 9223372036854775807
  each : ∀ a ∈ l, a.Ok w B
  rd : 0 < n → ∃ g o, A = some ⟨g, o, none⟩ ∧ g < B ∧ ∀ j a, l[j]? = some a → ∀ k v, a.cells[k]? = some v → w.cell? ⟨g, o + (j * 5 + k), none⟩ = some v
  nil_ : A = none → c = 0
theorem Acts.below {w w' : World} {B : Nat} {A : Option Addr} {n c : Nat} {l : List Act5} (h : Acts w B A n c l) (hb : Below B w w') : Acts w' B A n c l :=
  ⟨h.len, h.cap, h.most, fun a ha => (h.each a ha).below hb, fun hn => by
    obtain ⟨g, o, e, hg, hc⟩ := h.rd hn
    exact ⟨g, o, e, hg, fun j a ha k v hv => (hb.cell (p := ⟨g, o + (j * 5 + k), none⟩) hg).trans (hc j a ha k v hv)⟩, h.nil_⟩
theorem Acts.more {w : World} {B B' : Nat} {A : Option Addr} {n c : Nat} {l : List Act5} (h : Acts w B A n c l) (hB : B ≤ B') : Acts w B' A n c l :=
  ⟨h.len, h.cap, h.most, fun a ha => (h.each a ha).more hB, fun hn => by
    obtain ⟨g, o, e, hg, hc⟩ := h.rd hn
    exact ⟨g, o, e, by omega, hc⟩, h.nil_⟩
section
variable {H : Type} {enc : TypeId × Value → H} {P : Program} {w : World} {base : Nat} {spare : Nat → Bool} {held : Bool}
end
end
section
open Go Go.RowKit Go.ChangeShapes Go.WideShapes Go.Deep
structure Ls {α : Type} (cells : α → List Value) (N : Nat) (w : World) (B : Nat) (A : Option Addr) (n c : Nat) (l : List α) : Prop where
  len : l.length = n
  cap : n ≤ c
  most : c ≤ 9223372036854775807
  rd : 0 < n → ∃ g o, A = some ⟨g, o, none⟩ ∧ g < B ∧ ∀ j a, l[j]? = some a → ∀ k v, (cells a)[k]? = some v → w.cell? ⟨g, o + (j * N + k), none⟩ = some v
  nil_ : A = none → c = 0
theorem Ls.below {α : Type} {cells : α → List Value} {N : Nat} {w w' : World} {B : Nat} {A : Option Addr} {n c : Nat} {l : List α} (h : Ls cells N w B A n c l) (hb : Below B w w') : Ls cells N w' B A n c l :=
  ⟨h.len, h.cap, h.most, fun hn => by
    obtain ⟨g, o, e, hg, hc⟩ := h.rd hn
    exact ⟨g, o, e, hg, fun j a ha k v hv => (hb.cell (p := ⟨g, o + (j * N + k), none⟩) hg).trans (hc j a ha k v hv)⟩, h.nil_⟩
theorem Ls.at_ {α : Type} {cells : α → List Value} {N : Nat} {w : World} {B : Nat} {A : Option Addr} {n c : Nat} {l : List α} (h : Ls cells N w B A n c l) {j : Nat} (hj : j < n) :
    ∃ g o a, A = some ⟨g, o, none⟩ ∧ g < B ∧ l[j]? = some a ∧ ∀ k v, (cells a)[k]? = some v → w.cell? ⟨g, o + (j * N + k), none⟩ = some v := by
  obtain ⟨g, o, e, hg, hc⟩ := h.rd (by omega)
  have hj' : j < l.length := by rw [h.len]; exact hj
  have ha : l[j]? = some l[j] := List.getElem?_eq_getElem hj'
  exact ⟨g, o, l[j], e, hg, ha, fun k v hv => hc j _ ha k v hv⟩
section
variable {H : Type} {enc : TypeId × Value → H} {P : Program} {w : World} {base : Nat} {spare : Nat → Bool} {held : Bool}
theorem trod_list {α : Type} [Inhabited α] {cells : α → List Value} {N : Nat} {Ok : α → Prop} (hN : ∀ a, (cells a).length = N) (h0 : 0 < N) {t e : TypeId} (ht : P.underlying t = some (.slice e)) (hce : P.cellsOf e = N)
    (one : ∀ {fuel : Nat} {cs : List Value} {x : DataW H × List MemPlace}, DataW.trod enc P w base spare held fuel e cs = some x → ∃ a, cs = cells a ∧ Ok a) {fuel : Nat} {cs : List Value} {x : DataW H × List MemPlace} (h : DataW.trod enc P w base spare held fuel t cs = some x) :
    ∃ (A : Option Addr) (n c : Nat) (l : List α), cs = [.slice A n c] ∧ Ls cells N w w.heap.size A n c l ∧ ∀ a ∈ l, Ok a := by
  rcases open_slice ht h with ⟨rfl, _⟩ | ⟨a, len, cap, m, n, D, Pl, rfl, _, hl, hm, hmm, _, hi⟩
  · exact ⟨none, 0, 0, [], rfl, ⟨rfl, Nat.le_refl _, by omega, fun h => absurd h (by omega), fun _ => rfl⟩, fun a ha => (by cases ha)⟩
  · have hle : len ≤ m := by rw [hmm]; split <;> omega
    have each : ∀ i, i < len → ∃ b : α, (∀ k v, (cells b)[k]? = some v → w.cell? ((a.add (i * N)).add k) = some v) ∧ Ok b := fun i hil => by
      obtain ⟨cs', h1, h2⟩ := hi i (by omega)
      rw [hce] at h1
      obtain ⟨_, _, hcell⟩ := World.cells?_some h1
      obtain ⟨b, rfl, hb⟩ := one h2
      refine ⟨b, fun k v hv => ?_, hb⟩
      have hk5 : k < N := by rw [← hN b]; exact (List.getElem?_eq_some_iff.1 hv).1
      rw [hcell k hk5, hv]
    obtain ⟨f, hf⟩ := choose_lt each
    refine ⟨some a, len, cap, (List.range len).map f, rfl, ⟨by simp, hl, by unfold maxLen at hm; exact hm, fun hn => ?_, fun h => by cases h⟩, fun b hb => ?_⟩
    · obtain ⟨g, o, spot⟩ := a
      have hc := (hf 0 hn).1 0 _ (List.getElem?_eq_getElem (by rw [hN]; exact h0))
      have hspot : spot = none := by simpa [Addr.add] using World.cell?_spot hc
      subst hspot
      refine ⟨g, o, rfl, ?_, fun j b hb k v hv => ?_⟩
      · have := World.block_lt_of_cell? w _ hc
        simpa [Addr.add] using this
      · rw [List.getElem?_map] at hb
        obtain ⟨i, hi2, rfl⟩ := Option.map_eq_some_iff.1 hb
        obtain ⟨hjl, hji⟩ := List.getElem?_eq_some_iff.1 hi2
        simp at hjl hji
        subst hji
        have := (hf j hjl).1 k v hv
        rw [Addr.add_lit, Addr.add_lit, Nat.add_assoc] at this
        exact this
    · obtain ⟨i, hil, rfl⟩ := List.mem_map.1 hb
      exact (hf i (List.mem_range.1 hil)).2
theorem open_list {α : Type} [Inhabited α] {cells : α → List Value} {N : Nat} {Ok : α → Prop} (hN : ∀ a, (cells a).length = N) (h0 : 0 < N) {t e : TypeId} (ht : P.underlying t = some (.slice e)) (hce : P.cellsOf e = N)
    (one : ∀ {fuel : Nat} {cs : List Value} {x : DataW H × List MemPlace}, DataW.trod enc P w base spare held fuel e cs = some x → ∃ a, cs = cells a ∧ Ok a) {r : Reach} {b0 : Nat} {v : Value} {d : DataW H} {p : List MemPlace}
    (hv : Value.okWide P w r b0 t v) (h : DataW.Trod enc P w base spare held t v d p) : ∃ (A : Option Addr) (n c : Nat) (l : List α), v = .slice A n c ∧ Ls cells N w w.heap.size A n c l ∧ ∀ a ∈ l, Ok a := by
  obtain ⟨A, n, c, rfl⟩ := okWide_slice ht hv
  obtain ⟨fuel, hf⟩ := h
  obtain ⟨A', n', c', l, hcs, hl⟩ := trod_list hN h0 ht hce one hf
  simp [Value.cells] at hcs
  obtain ⟨rfl, rfl, rfl⟩ := hcs
  exact ⟨_, _, _, l, rfl, hl⟩
structure BalTy (P : Program) (e ti : TypeId) : Prop where
  fs : ∃ f0 f1 : Field, P.underlying e = some (.struct #[f0, f1]) ∧ (f0.type = ti ∧ f0.offset = 0) ∧ (f1.type = ti ∧ f1.offset = 1)
  cells : P.cellsOf e = 2
  one : P.cellsOf ti = 1
  i64 : P.underlying ti = some (.int .i64)
theorem trod_bal {e ti : TypeId} (T : BalTy P e ti) {fuel : Nat} {cs : List Value} {x : DataW H × List MemPlace} (h : DataW.trod enc P w base spare held fuel e cs = some x) : ∃ a b : Int, cs = [.int .i64 a, .int .i64 b] ∧ (Lit.int .i64 a).wf = true ∧ (Lit.int .i64 b).wf = true := by
  obtain ⟨f0, f1, hs, ⟨y0, o0⟩, y1, o1⟩ := T.fs
  obtain ⟨xs, n, _, _, hcl, hxl, hg⟩ := DataW.trod_struct hs h
  rw [T.cells] at hcl
  match cs, hcl, xs, hxl with
  | [c0, c1], _, [x0, x1], _ =>
    have g0 := hg 0 f0 rfl
    have g1 := hg 1 f1 rfl
    rw [y0, o0, T.one] at g0
    rw [y1, o1, T.one] at g1
    obtain ⟨a, e0, _, w0⟩ := DataW.trod_int T.i64 (show DataW.trod enc P w base spare held n ti [c0] = some x0 from g0)
    obtain ⟨b, e1, _, w1⟩ := DataW.trod_int T.i64 (show DataW.trod enc P w base spare held n ti [c1] = some x1 from g1)
    injection e0 with e0 _
    injection e1 with e1 _
    exact ⟨a, b, by rw [e0, e1], w0, w1⟩
structure Bal where
  x : Int := 0
  y : Int := 0
instance : Inhabited Bal := ⟨{}⟩
def Bal.cells (b : Bal) : List Value := [.int .i64 b.x, .int .i64 b.y]
structure StepU where
  p : Bool := false
  x : Int := 0
  y : Int := 0
  w : Int := 0
  kA : Option Addr := none
  kn : Nat := 0
  kc : Nat := 0
  kl : List Bool := []
instance : Inhabited StepU := ⟨{}⟩
def StepU.cells (s : StepU) : List Value := [.bool s.p, .int .i64 s.x, .int .i64 s.y, .int .i8 s.w, .slice s.kA s.kn s.kc]
structure StepU.Ok (s : StepU) (w : World) (B : Nat) : Prop where
  power : (Lit.int .i8 s.w).wf = true
  keep : Vs w B s.kA s.kn s.kc (s.kl.map .bool)
end
end
section
open Go Go.RowKit Go.ChangeShapes Go.WideShapes Go.Deep
theorem bal_tyB : BalTy Try.prog 50 3 := ⟨⟨_, _, Try.underlying50, ⟨rfl, rfl⟩, rfl, rfl⟩, by kernel_rfl, by kernel_rfl, Try.underlying3⟩
theorem open_balB {H : Type} {enc : TypeId × Value → H} {P : Program} {w : World} {base : Nat} {spare : Nat → Bool} {held : Bool} {e ti : TypeId} (T : BalTy P e ti) {r : Reach} {b0 : Nat} {v : Value} {d : DataW H} {p : List MemPlace} (hv : Value.okWide P w r b0 e v) (h : DataW.Trod enc P w base spare held e v d p) : ∃ a b : Int, v = .agg #[.int .i64 a, .int .i64 b] := by
  obtain ⟨f0, f1, hs, _⟩ := T.fs
  obtain ⟨cs, rfl, _⟩ := okWide_struct hs hv
  obtain ⟨fuel, hf⟩ := h
  obtain ⟨a, b, hcs, _⟩ := trod_bal T hf
  refine ⟨a, b, ?_⟩
  have e : (Value.cells (.agg cs)).toList = cs.toList := rfl
  rw [e] at hcs
  obtain ⟨cs⟩ := cs
  simp at hcs
  rw [hcs]
theorem open_t50 {H : Type} {enc : TypeId × Value → H} {w : World} {base : Nat} {sp : Nat → Bool} {held : Bool} {r : Reach} {b0 : Nat} {v : Value} {d : DataW H} {p : List MemPlace}
    (hv : Value.okWide Try.prog w r b0 50 v) (h : DataW.Trod enc Try.prog w base sp held 50 v d p) : ∃ a b : Int, v = .agg #[.int .i64 a, .int .i64 b] := open_balB bal_tyB hv h
theorem open_t51 {H : Type} {enc : TypeId × Value → H} {w : World} {base : Nat} {held : Bool} {r : Reach} {b0 : Nat} {v : Value} {d : DataW H} {p : List MemPlace}
    (hv : Value.okWide Try.prog w r b0 51 v) (h : DataW.Trod enc Try.prog w base (fun _ => true) held 51 v d p) : ∃ (A : Option Addr) (n c : Nat) (l : List Bal), v = .slice A n c ∧ Ls Bal.cells 2 w w.heap.size A n c l ∧ ∀ a ∈ l, True :=
  open_list (cells := Bal.cells) (N := 2) (Ok := fun _ => True) (fun _ => rfl) (by omega) Try.underlying51 (by kernel_rfl) (fun h => by
    obtain ⟨a, b, e, _⟩ := trod_bal bal_tyB h
    exact ⟨⟨a, b⟩, e, trivial⟩) hv h
end
section
open Go Go.RowKit
def ltB (a b : Bal) : Bool := decide (a.x < b.x ∨ a.x = b.x ∧ a.y < b.y)
theorem ltB_iff {a b : Bal} : ltB a b = true ↔ a.x < b.x ∨ a.x = b.x ∧ a.y < b.y := decide_eq_true_iff
theorem ltB_not {a b : Bal} : ltB a b = false ↔ ¬ (a.x < b.x ∨ a.x = b.x ∧ a.y < b.y) := decide_eq_false_iff_not
theorem ltB_self (a : Bal) : ltB a a = false := ltB_not.2 (by omega)
theorem ltB_eq {a b : Bal} (h1 : ltB a b = false) (h2 : ltB b a = false) : a = b := by
  rw [ltB_not] at h1 h2
  obtain ⟨x, y⟩ := a
  obtain ⟨x', y'⟩ := b
  dsimp only at h1 h2
  obtain rfl : x = x' := by omega
  obtain rfl : y = y' := by omega
  rfl
theorem ltB_le {a b c : Bal} (h1 : ltB a b = false) (h2 : ltB b c = false) : ltB a c = false := by
  rw [ltB_not] at *
  omega
def upB (g : Bal) (l : List Bal) : Bal := l.foldl (fun g x => if ltB g x then x else g) g
def maxB : List Bal → Bal
  | [] => ⟨0, 0⟩
  | a :: l => upB a l
theorem upB_cons (g a : Bal) (l : List Bal) : upB g (a :: l) = upB (if ltB g a then a else g) l := rfl
theorem upB_skip {g : Bal} : ∀ {l : List Bal} {i : Nat}, (∀ (j : Nat) (b : Bal), j < i → l[j]? = some b → ltB g b = false) → upB g l = upB g (l.drop i)
  | l, 0, _ => by rw [List.drop_zero]
  | [], i + 1, _ => by rw [List.drop_nil]
  | a :: l, i + 1, h => by
    rw [upB_cons, h 0 a (by omega) rfl, if_neg (by decide), List.drop_succ_cons]
    exact upB_skip (l := l) (i := i) fun j b hj hb => h (j + 1) b (by omega) hb
theorem upB_none {g : Bal} {l : List Bal} (h : ∀ (j : Nat) (b : Bal), l[j]? = some b → ltB g b = false) : upB g l = g := by
  rw [upB_skip (l := l) (i := l.length) (fun j b _ hb => h j b hb), List.drop_length]
  rfl
theorem upB_take {g b : Bal} {l : List Bal} {i : Nat} (h : ∀ (j : Nat) (b : Bal), j < i → l[j]? = some b → ltB g b = false) (hb : l[i]? = some b) (hl : ltB g b = true) : upB g l = upB b (l.drop (i + 1)) := by
  rw [upB_skip (l := l) (i := i) h, List.drop_eq_getElem_cons (List.getElem?_eq_some_iff.1 hb).1, (List.getElem?_eq_some_iff.1 hb).2, upB_cons, if_pos hl]
theorem upB_ge : ∀ (l : List Bal) (g : Bal), ltB (upB g l) g = false ∧ ∀ x ∈ l, ltB (upB g l) x = false
  | [], g => ⟨ltB_self g, fun x h => by cases h⟩
  | a :: l, g => by
    obtain ⟨h1, h2⟩ := upB_ge l (if ltB g a then a else g)
    rw [upB_cons]
    cases hl : ltB g a with
    | true =>
      rw [hl, if_pos rfl] at h1 h2
      rw [if_pos rfl]
      have hg : ltB a g = false := by rw [ltB_iff] at hl; rw [ltB_not]; omega
      exact ⟨ltB_le h1 hg, fun x hx => (List.mem_cons.1 hx).elim (fun e => by rw [e]; exact h1) (h2 x)⟩
    | false =>
      rw [hl, if_neg (by decide)] at h1 h2
      rw [if_neg (by decide)]
      exact ⟨h1, fun x hx => (List.mem_cons.1 hx).elim (fun e => by rw [e]; exact ltB_le h1 hl) (h2 x)⟩
theorem upB_mem : ∀ (l : List Bal) (g : Bal), upB g l = g ∨ upB g l ∈ l
  | [], g => .inl rfl
  | a :: l, g => by
    rw [upB_cons]
    cases hl : ltB g a with
    | true =>
      rw [if_pos rfl]
      rcases upB_mem l a with h | h
      · exact .inr (by rw [h]; exact List.mem_cons_self ..)
      · exact .inr (List.mem_cons_of_mem _ h)
    | false =>
      rw [if_neg (by decide)]
      rcases upB_mem l g with h | h
      · exact .inl h
      · exact .inr (List.mem_cons_of_mem _ h)
theorem maxB_ge {l : List Bal} {x : Bal} (h : x ∈ l) : ltB (maxB l) x = false := by
  cases l with
  | nil => cases h
  | cons a l => exact (List.mem_cons.1 h).elim (fun e => by rw [e]; exact (upB_ge l a).1) ((upB_ge l a).2 x)
theorem maxB_mem {l : List Bal} (h : l ≠ []) : maxB l ∈ l := by
  cases l with
  | nil => exact absurd rfl h
  | cons a l =>
    rcases upB_mem l a with h | h
    · show upB a l ∈ _
      rw [h]
      exact List.mem_cons_self ..
    · exact List.mem_cons_of_mem _ h
theorem maxB_is {l : List Bal} {m : Bal} (h : m ∈ l) (hm : ∀ x ∈ l, ltB m x = false) : maxB l = m :=
  ltB_eq (maxB_ge h) (hm _ (maxB_mem fun e => by rw [e] at h; cases h))
theorem maxB_same {l k : List Bal} (hl : l ≠ []) (h : ∀ x, x ∈ l ↔ x ∈ k) : maxB l = maxB k :=
  (maxB_is ((h _).1 (maxB_mem hl)) fun x hx => maxB_ge ((h x).2 hx)).symm
def crowdB (n : Int) : Bool := decide (n = 3 ∨ n = 5 ∨ n = 7)
theorem crowdB_iff {n : Int} : crowdB n = true ↔ n = 3 ∨ n = 5 ∨ n = 7 := decide_eq_true_iff
def mayB_ (b : Bal) (n : Int) : Bool := crowdB n && (decide (b.x = 0 ∧ b.y = 0) || decide (1 ≤ b.x ∧ b.x ≤ 1099511627776 ∧ 0 ≤ b.y ∧ b.y < n))
theorem mayB_iff {b : Bal} {n : Int} : mayB_ b n = true ↔ (n = 3 ∨ n = 5 ∨ n = 7) ∧ ((b.x = 0 ∧ b.y = 0) ∨ (1 ≤ b.x ∧ b.x ≤ 1099511627776 ∧ 0 ≤ b.y ∧ b.y < n)) := by
  unfold mayB_
  rw [Bool.and_eq_true, Bool.or_eq_true, crowdB_iff, decide_eq_true_iff, decide_eq_true_iff]
def okB (b : Bal) (r n : Int) : Bool := mayB_ b n && decide (0 ≤ r ∧ r < n)
theorem okB_iff {b : Bal} {r n : Int} : okB b r n = true ↔ ((n = 3 ∨ n = 5 ∨ n = 7) ∧ ((b.x = 0 ∧ b.y = 0) ∨ (1 ≤ b.x ∧ b.x ≤ 1099511627776 ∧ 0 ≤ b.y ∧ b.y < n))) ∧ 0 ≤ r ∧ r < n := by
  unfold okB
  rw [Bool.and_eq_true, mayB_iff, decide_eq_true_iff]
def roundB (b : Bal) (r : Int) : Int := if b.x = 0 then 1 else if b.y < r then b.x else b.x + 1
def nextB (b : Bal) (r n : Int) : Bal := if okB b r n then (if roundB b r ≤ 1099511627776 then ⟨roundB b r, r⟩ else ⟨0, 0⟩) else ⟨0, 0⟩
def errB (b : Bal) (r n : Int) : Int := if okB b r n then (if roundB b r ≤ 1099511627776 then 0 else 4) else 2
end
section
open Go Go.RowKit
structure Mod (F : Nat → Prop) (w w' : World) : Prop where
  os : w'.os = w.os
  tape : w'.tape = w.tape
  output : w'.output = w.output
  size : w.heap.size ≤ w'.heap.size
  block : ∀ k, k < w.heap.size → ¬ F k → w'.heap[k]? = w.heap[k]?
section
variable {F G : Nat → Prop} {a b c w w' : World}
theorem Mod.refl (F : Nat → Prop) (w : World) : Mod F w w := ⟨rfl, rfl, rfl, Nat.le_refl _, fun _ _ _ => rfl⟩
theorem Mod.trans (h : Mod F a b) (k : Mod G b c) (hG : ∀ i, G i → F i ∨ a.heap.size ≤ i) : Mod F a c :=
  ⟨k.os.trans h.os, k.tape.trans h.tape, k.output.trans h.output, Nat.le_trans h.size k.size, fun i hi hf =>
    (k.block i (Nat.lt_of_lt_of_le hi h.size) fun hg => (hG i hg).elim hf fun hl => absurd hi (by omega)).trans (h.block i hi hf)⟩
theorem Mod.of_ext (h : Ext w w') : Mod F w w' := ⟨h.os, h.tape, h.output, h.size, fun k hk _ => h.block k hk⟩
theorem Mod.ext (h : Mod F a b) (k : Ext b c) : Mod F a c := h.trans (F := F) (G := F) (Mod.of_ext k) fun _ hi => .inl hi
theorem Mod.setCell (h : Mod F a b) {p : Addr} (hp : F p.block ∨ a.heap.size ≤ p.block) (v : Value) : Mod F a (b.setCell p v) :=
  ⟨h.os, h.tape, h.output, Nat.le_trans h.size (by simp [World.setCell]), fun k hk hf => (Below.heap_setCell _ _ _ _ (fun e => by
    subst e
    exact hp.elim hf fun hl => absurd hk (by omega))).trans (h.block k hk hf)⟩
theorem heap_mod {g : Nat} {o : Obj} (h : w.heap[g]? = some o) (k : Mod F w w') (hg : ¬ F g) : w'.heap[g]? = some o := (k.block g (Array.getElem?_eq_some_iff.1 h).1 hg).trans h
theorem own_mod {base e size n : Nat} {v : Value} {xs : List Value} (h : w.ownsRow base e size v n xs) (k : Mod F w w') (hv : ∀ i, v.ownBlock = some i → ¬ F i) : w'.ownsRow base e size v n xs := by
  refine ⟨h.1, ?_⟩
  rcases h.2 with h0 | ⟨g, cap, cur, rfl, hb, hg, h1⟩
  · exact .inl h0
  · exact .inr ⟨g, cap, cur, rfl, hb, heap_mod hg k (hv g rfl), h1⟩
end
end
section
open Go Go.RowKit
theorem bal_one (w : World) (x y : Int) (t : TypeId) : (w.alloc (.cells #[.int .i64 x, .int .i64 y] t)).cell? ⟨w.heap.size, 0, none⟩ = some (.int .i64 x) ∧ (w.alloc (.cells #[.int .i64 x, .int .i64 y] t)).cell? ⟨w.heap.size, 1, none⟩ = some (.int .i64 y) :=
  ⟨cell_of_row _ w.heap.size 0 _ _ _ (heap_alloc_new w _), cell_of_row _ w.heap.size 1 _ _ _ (heap_alloc_new w _)⟩
set_option maxHeartbeats 600000 in
theorem isless_of (x y x' y' : Int) (w : World) : Calls Try.prog 43 #[.agg #[.int .i64 x, .int .i64 y], .agg #[.int .i64 x', .int .i64 y']] w fun e w' => e = .returned (.bool (ltB ⟨x, y⟩ ⟨x', y'⟩)) ∧ Ext w w' := by
  obtain ⟨r, hr⟩ : ∃ r, ltB ⟨x, y⟩ ⟨x', y'⟩ = r := ⟨_, rfl⟩
  rw [hr]
  have HX := Lib.hid (((Ext.refl w).alloc (.cells #[.int .i64 x, .int .i64 y] 84)).alloc (.cells #[.int .i64 x', .int .i64 y'] 50))
  have fin : ∀ b : Bool, ltB ⟨x, y⟩ ⟨x', y'⟩ = b → Ending.returned (Value.bool b) = .returned (.bool r) := fun b h => by rw [← h, hr]
  have FIN := Lib.hid fin
  clear fin hr
  by_cases h1 : x < x'
  · have HB : Hid (ltB ⟨x, y⟩ ⟨x', y'⟩ = true) := Lib.hid (ltB_iff.2 (.inl h1))
    go_enter Try.func43, Try.ntmps43
    go_wp2
    go_ret
    exact ⟨FIN.out _ HB.out, HX.out⟩
  · by_cases h2 : x = x'
    · by_cases h3 : y < y'
      · have HB : Hid (ltB ⟨x, y⟩ ⟨x', y'⟩ = true) := Lib.hid (ltB_iff.2 (.inr ⟨h2, h3⟩))
        have e2 : (x == x') = true := by simpa using h2
        clear h2
        go_enter Try.func43, Try.ntmps43
        go_wp2
        go_ret
        exact ⟨FIN.out _ HB.out, HX.out⟩
      · have HB : Hid (ltB ⟨x, y⟩ ⟨x', y'⟩ = false) := Lib.hid (ltB_not.2 (by dsimp only; omega))
        have e2 : (x == x') = true := by simpa using h2
        clear h2
        go_enter Try.func43, Try.ntmps43
        go_wp2
        go_ret
        exact ⟨FIN.out _ HB.out, HX.out⟩
    · have HB : Hid (ltB ⟨x, y⟩ ⟨x', y'⟩ = false) := Lib.hid (ltB_not.2 (by dsimp only; omega))
      have e2 : (x == x') = false := by simpa using h2
      clear h2
      go_enter Try.func43, Try.ntmps43
      go_wp2
      go_ret
      exact ⟨FIN.out _ HB.out, HX.out⟩
set_option maxHeartbeats 600000 in
theorem less_of (x y x' y' : Int) (w : World) : Calls Try.prog 25 #[.agg #[.int .i64 x, .int .i64 y], .agg #[.int .i64 x', .int .i64 y']] w fun e w' => e = .returned (.bool (ltB ⟨x, y⟩ ⟨x', y'⟩)) ∧ Ext w w' := by
  have HX := Lib.hid (((Ext.refl w).alloc (.cells #[.int .i64 x, .int .i64 y] 50)).alloc (.cells #[.int .i64 x', .int .i64 y'] 50))
  go_enter Try.func25, Try.ntmps25
  go_wp2_with fail
  refine (isless_of _ _ _ _ _).mono ?_
  rintro e w1 ⟨rfl, hx⟩
  have HX := Lib.hid (HX.out.trans hx)
  clear hx
  go_wp2_with fail
  go_ret
  exact ⟨rfl, HX.out⟩
theorem Ls.bal {w : World} {B n c : Nat} {A : Option Addr} {l : List Bal} (h : Ls Bal.cells 2 w B A n c l) {j : Nat} (hj : j < n) : ∃ g o b, A = some ⟨g, o, none⟩ ∧ l[j]? = some b ∧ w.cell? ⟨g, o + j * 2, none⟩ = some (.int .i64 b.x) ∧ w.cell? ⟨g, o + j * 2 + 1, none⟩ = some (.int .i64 b.y) := by
  obtain ⟨g, o, b, h1, _, h2, h3⟩ := h.at_ hj
  exact ⟨g, o, b, h1, h2, h3 0 _ rfl, h3 1 _ rfl⟩
def FirstB (b : Bal) (l : List Bal) (z : Int) : Prop := (z = -1 ∧ ∀ (j : Nat) (a : Bal), l[j]? = some a → ltB b a = false) ∨ ∃ (i : Nat) (a : Bal), z = (i : Nat) ∧ l[i]? = some a ∧ ltB b a = true ∧ ∀ (j : Nat) (a' : Bal), j < i → l[j]? = some a' → ltB b a' = false
set_option maxHeartbeats 600000 in
theorem indexB_of (x y : Int) (A : Option Addr) (n c : Nat) (l : List Bal) (w : World) (h : Ls Bal.cells 2 w w.heap.size A n c l) :
    Calls Try.prog 42 #[.slice A n c, .func (.func 43) #[.agg #[.int .i64 x, .int .i64 y]] #[]] w fun e w' => ∃ z, e = .returned (.int .i64 z) ∧ FirstB ⟨x, y⟩ l z ∧ Ext w w' := by
  have hcap := h.cap
  have hmost := h.most
  have H := Lib.hid h
  have HLN := Lib.hid h.len
  clear h
  go_enter Try.func42, Try.ntmps42
  go_wp2_with fail
  go_loopw [8] (fun i wr => ∃ j : Nat, j ≤ n ∧ i = .int .i64 (j : Int) ∧ Hid (∀ (k : Nat) (a : Bal), k < j → l[k]? = some a → ltB ⟨x, y⟩ a = false) ∧ Hid (Ext w wr)) (fun i _ => n - (intOf i).toNat)
  case atStart => exact ⟨0, Nat.zero_le _, rfl, Lib.hid (fun k a hk => absurd hk (Nat.not_lt_zero _)), Lib.hid (Ext.refl _)⟩
  case round =>
    obtain ⟨j, hj, rfl, HN, HX⟩ := hrel
    by_cases hlt : j < n
    · obtain ⟨g, o, b, rfl, hb, c0, c1⟩ := Ls.bal (H.out.below HX.out) hlt
      obtain ⟨bx, by_⟩ := b
      dsimp only at c0 c1
      have HB := Lib.hid hb
      have HC := Lib.hid (isless_of x y bx by_ wr)
      obtain ⟨r, hr⟩ : ∃ r, ltB ⟨x, y⟩ ⟨bx, by_⟩ = r := ⟨_, rfl⟩
      rw [hr] at HC
      have HR := Lib.hid hr
      clear hb hr
      cases r with
      | true =>
        go_wp2_with fail
        refine HC.out.mono ?_
        rintro e w1 ⟨rfl, hx⟩
        have HX := Lib.hid (HX.out.trans hx)
        clear hx c0 c1 HC
        go_wp2_with fail
        go_ret
        exact ⟨_, rfl, .inr ⟨j, _, rfl, HB.out, HR.out, HN.out⟩, HX.out⟩
      | false =>
        go_wp2_with fail
        refine HC.out.mono ?_
        rintro e w1 ⟨rfl, hx⟩
        have HX := Lib.hid (HX.out.trans hx)
        clear hx c0 c1 HC
        go_wp2_with fail
        go_roundw
        case rel =>
          refine ⟨j + 1, by omega, by go_num, Lib.hid (fun k a hk ha => ?_), HX⟩
          by_cases hkj : k = j
          · subst hkj
            rw [HB.out] at ha
            injection ha with ha
            rw [← ha]
            exact HR.out
          · exact HN.out k a (by omega) ha
        case measure => simp [intOf]; omega
    · have hjn : j = n := by omega
      subst hjn
      go_wp2_with fail
      go_ret
      exact ⟨_, rfl, .inl ⟨rfl, fun k a ha => HN.out k a (by have := (List.getElem?_eq_some_iff.1 ha).1; rw [HLN.out] at this; exact this) ha⟩, HX.out⟩
end
section
open Go Go.RowKit
theorem bal_eql_zero (x y : Int) (w : World) : (binOp .eql 50 (.agg #[.int .i64 x, .int .i64 y]) (.agg #[.int .i64 0, .int .i64 0])).run Try.prog w = .ok (.bool (decide (x = 0 ∧ y = 0))) w := by
  have hf : Try.prog.stoodInHeld 50 = false := by kernel_rfl
  have hu := Try.underlying50
  rw [run_eql_struct, run_equalIn_agg _ _ _ _ _ (by rw [Program.fieldsOf, hu]) hf, Program.fieldsOf, hu]
  simp [Op.eqFields, go_sem]
  by_cases h1 : x = 0
  · by_cases h2 : y = 0
    · simp [h1, h2]
    · simp [h1, h2]
  · simp [h1]
set_option maxHeartbeats 400000 in
theorem maysize_of (n : Int) (w : World) : Calls Try.prog 45 #[.int .i64 n] w fun e w' => e = .returned (.bool (crowdB n)) ∧ w = w' := by
  by_cases h3 : n = 3
  · subst h3
    go_enter Try.func45, Try.ntmps45
    go_wp2
    go_ret
    exact ⟨rfl, rfl⟩
  by_cases h5 : n = 5
  · subst h5
    go_enter Try.func45, Try.ntmps45
    go_wp2
    go_ret
    exact ⟨rfl, rfl⟩
  by_cases h7 : n = 7
  · subst h7
    go_enter Try.func45, Try.ntmps45
    go_wp2
    go_ret
    exact ⟨rfl, rfl⟩
  have hc : crowdB n = false := decide_eq_false (by omega)
  rw [hc]
  have e3 : (n == 3) = false := by simpa using h3
  have e5 : (n == 5) = false := by simpa using h5
  have e7 : (n == 7) = false := by simpa using h7
  clear h3 h5 h7 hc
  go_enter Try.func45, Try.ntmps45
  go_wp2
  go_ret
  exact ⟨rfl, rfl⟩
def inB (a n b : Int) : Bool := decide (a ≤ n ∧ n ≤ b)
theorem inB_iff {a n b : Int} : inB a n b = true ↔ a ≤ n ∧ n ≤ b := decide_eq_true_iff
set_option maxHeartbeats 400000 in
theorem bwithin_of (a n b : Int) (w : World) : Calls Try.prog 46 #[.int .i64 a, .int .i64 n, .int .i64 b] w fun e w' => e = .returned (.bool (inB a n b)) ∧ w = w' := by
  by_cases h1 : a ≤ n
  · by_cases h2 : n ≤ b
    · have hd : inB a n b = true := inB_iff.2 ⟨h1, h2⟩
      rw [hd]
      clear hd
      go_enter Try.func46, Try.ntmps46
      go_wp2
      go_ret
      exact ⟨rfl, rfl⟩
    · have hd : inB a n b = false := by unfold inB; exact decide_eq_false fun h => h2 h.2
      rw [hd]
      clear hd
      go_enter Try.func46, Try.ntmps46
      go_wp2
      go_ret
      exact ⟨rfl, rfl⟩
  · have hd : inB a n b = false := by unfold inB; exact decide_eq_false fun h => h1 h.1
    rw [hd]
    clear hd
    go_enter Try.func46, Try.ntmps46
    go_wp2
    go_ret
    exact ⟨rfl, rfl⟩
def repB (i n : Int) : Bool := crowdB n && inB 0 i (n - 1)
theorem repB_iff {i n : Int} : repB i n = true ↔ (n = 3 ∨ n = 5 ∨ n = 7) ∧ 0 ≤ i ∧ i < n := by
  unfold repB
  rw [Bool.and_eq_true, crowdB_iff, inB_iff]
  omega
set_option maxHeartbeats 400000 in
theorem isreplica_of (i n : Int) (w : World) : Calls Try.prog 44 #[.int .i64 i, .int .i64 n] w fun e w' => e = .returned (.bool (repB i n)) ∧ w = w' := by
  have HM := Lib.hid (maysize_of n w)
  have HW := Lib.hid (bwithin_of 0 i (n - 1) w)
  unfold repB
  by_cases hc : crowdB n = true
  · have hb := crowdB_iff.1 hc
    have h1 : 1 ≤ n := by omega
    have h2 : n ≤ 7 := by omega
    rw [hc] at HM ⊢
    rw [Bool.true_and]
    generalize inB 0 i (n - 1) = r at HW ⊢
    clear hc hb
    go_enter Try.func44, Try.ntmps44
    go_wp2_with fail
    refine HM.out.mono ?_
    rintro e w1 ⟨rfl, rfl⟩
    go_wp2_with fail
    refine HW.out.mono ?_
    rintro e w1 ⟨rfl, rfl⟩
    go_wp2_with fail
    go_ret
    exact ⟨rfl, rfl⟩
  · have hc : crowdB n = false := by simpa using hc
    rw [hc] at HM ⊢
    rw [Bool.false_and]
    clear hc HW
    go_enter Try.func44, Try.ntmps44
    go_wp2_with fail
    refine HM.out.mono ?_
    rintro e w1 ⟨rfl, rfl⟩
    go_wp2_with fail
    go_ret
    exact ⟨rfl, rfl⟩
theorem may_zero {x y n : Int} (h : x = 0 ∧ y = 0) : mayB_ ⟨x, y⟩ n = crowdB n := by
  unfold mayB_
  rw [decide_eq_true (p := (⟨x, y⟩ : Bal).x = 0 ∧ (⟨x, y⟩ : Bal).y = 0) h, Bool.true_or, Bool.and_true]
theorem may_else {x y n : Int} (h : ¬ (x = 0 ∧ y = 0)) : mayB_ ⟨x, y⟩ n = (repB y n && inB 1 x 1099511627776) := by
  rw [Bool.eq_iff_iff, mayB_iff, Bool.and_eq_true, repB_iff, inB_iff]
  dsimp only
  omega
set_option maxHeartbeats 600000 in
theorem mayB_of (x y n : Int) (w : World) : Calls Try.prog 30 #[.agg #[.int .i64 x, .int .i64 y], .int .i64 n] w fun e w' => e = .returned (.bool (mayB_ ⟨x, y⟩ n)) ∧ Ext w w' := by
  have HX := Lib.hid ((Ext.refl w).alloc (.cells #[.int .i64 x, .int .i64 y] 50))
  have hq := bal_eql_zero x y
  have hg : Try.prog.eqGuardType Try.prog.depth 50 = false := by kernel_rfl
  by_cases h0 : x = 0 ∧ y = 0
  · rw [may_zero h0]
    rw [decide_eq_true h0] at hq
    clear h0
    go_enter Try.func30, Try.ntmps30
    go_wp2_with fail
    refine (maysize_of n _).mono ?_
    rintro e w1 ⟨rfl, rfl⟩
    go_wp2_with fail
    go_ret
    exact ⟨rfl, HX.out⟩
  · rw [may_else h0]
    rw [decide_eq_false h0] at hq
    clear h0
    obtain ⟨r, hr⟩ : ∃ r, repB y n = r := ⟨_, rfl⟩
    have HR := Lib.hid (fun V => isreplica_of y n V)
    rw [hr] at HR ⊢
    clear hr
    cases r with
    | true =>
      rw [Bool.true_and]
      go_enter Try.func30, Try.ntmps30
      go_wp2_with fail
      refine (HR.out _).mono ?_
      rintro e w1 ⟨rfl, rfl⟩
      go_wp2_with fail
      refine (bwithin_of 1 x 1099511627776 _).mono ?_
      rintro e w1 ⟨rfl, rfl⟩
      go_wp2_with fail
      go_ret
      exact ⟨rfl, HX.out⟩
    | false =>
      rw [Bool.false_and]
      go_enter Try.func30, Try.ntmps30
      go_wp2_with fail
      refine (HR.out _).mono ?_
      rintro e w1 ⟨rfl, rfl⟩
      go_wp2_with fail
      go_ret
      exact ⟨rfl, HX.out⟩
theorem okB_rep {x y r n : Int} : okB ⟨x, y⟩ r n = (repB r n && mayB_ ⟨x, y⟩ n) := by
  rw [Bool.eq_iff_iff, Bool.and_eq_true, repB_iff, okB_iff, mayB_iff]
  dsimp only
  omega
end
end Go.Proofs.Ytgcinagkbdcgiaa
