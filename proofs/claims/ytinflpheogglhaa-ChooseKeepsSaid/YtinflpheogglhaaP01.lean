/-
  What it means that a slice of bytes in memory reads as a list of numbers, and how that is carried along; no program.
-/
import Derived.Test.YtinflpheogglhaaP00
import Derived.Below
import Derived.Laws.OwnMore
import Derived.Deep.AppendLies
import Derived.Deep.Draws
import Derived.WalkKit
import Derived.ProofKit
import Derived.OpenShut
import Derived.Deep.Slices
import Derived.Deep.Fields
import Derived.ChangeMaps5
import Derived.Test.YtinflpheogglhaaProg
namespace Go.Proofs.Ytinflpheogglhaa
set_option maxRecDepth 100000
section
open Go Go.RowKit
def Rd (w : World) (B : Nat) (A : Option Addr) (l : List Nat) : Prop :=
  (∀ b ∈ l, b < 256) ∧ (0 < l.length → ∃ g o, A = some ⟨g, o, none⟩ ∧ g < B ∧ ∀ j x, l[j]? = some x → w.cell? ⟨g, o + j, none⟩ = some (.int .u8 ((x : Nat) : Int)))
section
variable {w w' : World} {B B' : Nat} {A : Option Addr} {l : List Nat}
theorem Rd.nil_ : Rd w B A [] := ⟨by simp, fun h => absurd h (by simp)⟩
theorem Rd.keep (h : Rd w B A l) (hk : ∀ p : Addr, p.block < B → w'.cell? p = w.cell? p) : Rd w' B A l :=
  ⟨h.1, fun hn => by
    obtain ⟨g, o, e, hg, hc⟩ := h.2 hn
    exact ⟨g, o, e, hg, fun j x hx => (hk ⟨g, o + j, none⟩ hg).trans (hc j x hx)⟩⟩
end
end
section
open Go Go.RowKit
structure Bs (w : World) (B : Nat) (A : Option Addr) (n c : Nat) (l : List Nat) : Prop where
  len : l.length = n
  cap : n ≤ c
  most : c ≤ 9223372036854775807
  rd : Rd w B A l
  nil_ : A = none → c = 0
def Ext (w w' : World) : Prop := Below w.heap.size w w'
theorem Ext.refl (w : World) : Ext w w := Below.refl _ _
theorem Ext.trans {a b c : World} (h : Ext a b) (k : Ext b c) : Ext a c := Below.trans h (Below.mono k (Below.size h))
theorem Ext.alloc {a b : World} (h : Ext a b) (o : Obj) : Ext a (b.alloc o) := Below.alloc h (Below.size h) o
theorem Ext.drew {a b : World} (h : Ext a b) : Ext a b.drew := Below.drew h
theorem Ext.size {a b : World} (h : Ext a b) : a.heap.size ≤ b.heap.size := Below.size h
def By (w : World) (A : Option Addr) (n c : Nat) (l : List Nat) : Prop := Bs w w.heap.size A n c l
theorem By.nil_ (w : World) : By w none 0 0 [] := ⟨rfl, Nat.le_refl _, by omega, Rd.nil_, fun _ => rfl⟩
end
section
open Go Go.RowKit Go.ChangeShapes Go.WideShapes Go.Deep
structure Vs (w : World) (B : Nat) (A : Option Addr) (n c : Nat) (vs : List Value) : Prop where
  len : vs.length = n
  cap : n ≤ c
  most : c ≤ 9223372036854775807
  rd : 0 < n → ∃ g o, A = some ⟨g, o, none⟩ ∧ g < B ∧ ∀ j v, vs[j]? = some v → w.cell? ⟨g, o + j, none⟩ = some v
  nil_ : A = none → c = 0
structure Act5 where
  kind : Nat := 0
  sec : Int := 0
  num : Int := 0
  bA : Option Addr := none
  bn : Nat := 0
  bc : Nat := 0
  bl : List Nat := []
  kA : Option Addr := none
  kn : Nat := 0
  kc : Nat := 0
  kl : List Bool := []
instance : Inhabited Act5 := ⟨{}⟩
def Act5.cells (a : Act5) : List Value := [.int .u8 (a.kind : Int), .int .i64 a.sec, .int .i64 a.num, .slice a.bA a.bn a.bc, .slice a.kA a.kn a.kc]
structure Act5.Ok (a : Act5) (w : World) (B : Nat) : Prop where
  kind : a.kind < 256
  sec : (Lit.int .i64 a.sec).wf = true
  num : (Lit.int .i64 a.num).wf = true
  bytes : Bs w B a.bA a.bn a.bc a.bl
  keep : Vs w B a.kA a.kn a.kc (a.kl.map .bool)
section
variable {H : Type} {enc : TypeId × Value → H} {P : Program} {w : World} {base : Nat} {spare : Nat → Bool} {held : Bool}
end
end
section
open Go Go.RowKit
structure Ent where
  k : Nat := 0
  cl : Int := 0
  sq : Int := 0
  ok : Nat := 0
  key : ByteArray := ByteArray.empty
  old : ByteArray := ByteArray.empty
  val : ByteArray := ByteArray.empty
instance : Inhabited Ent := ⟨{}⟩
def Ent.cells (e : Ent) : List Value := [.int .u8 (e.k : Nat), .int .i64 e.cl, .int .i64 e.sq, .int .u8 (e.ok : Nat), .string e.key, .string e.old, .string e.val]
structure Ent.Wf (e : Ent) : Prop where
  k : e.k < 256
  ok : e.ok < 256
  cl : (Lit.int .i64 e.cl).wf = true
  sq : (Lit.int .i64 e.sq).wf = true
  key : e.key.size ≤ maxLen
  old : e.old.size ≤ maxLen
  val : e.val.size ≤ maxLen
def noopE : Ent := { k := 1 }
end
section
open Go Go.RowKit Go.ChangeShapes Go.WideShapes Go.Deep
structure Ls {α : Type} (cells : α → List Value) (N : Nat) (w : World) (B : Nat) (A : Option Addr) (n c : Nat) (l : List α) : Prop where
  len : l.length = n
  cap : n ≤ c
  most : c ≤ 9223372036854775807
  rd : 0 < n → ∃ g o, A = some ⟨g, o, none⟩ ∧ g < B ∧ ∀ j a, l[j]? = some a → ∀ k v, (cells a)[k]? = some v → w.cell? ⟨g, o + (j * N + k), none⟩ = some v
  nil_ : A = none → c = 0
theorem Ls.below {α : Type} {cells : α → List Value} {N : Nat} {w w' : World} {B : Nat} {A : Option Addr} {n c : Nat} {l : List α} (h : Ls cells N w B A n c l) (hb : Below B w w') : Ls cells N w' B A n c l :=
  ⟨h.len, h.cap, h.most, fun hn => by
    obtain ⟨g, o, e, hg, hc⟩ := h.rd hn
    exact ⟨g, o, e, hg, fun j a ha k v hv => (hb.cell (p := ⟨g, o + (j * N + k), none⟩) hg).trans (hc j a ha k v hv)⟩, h.nil_⟩
theorem Ls.at_ {α : Type} {cells : α → List Value} {N : Nat} {w : World} {B : Nat} {A : Option Addr} {n c : Nat} {l : List α} (h : Ls cells N w B A n c l) {j : Nat} (hj : j < n) :
    ∃ g o a, A = some ⟨g, o, none⟩ ∧ g < B ∧ l[j]? = some a ∧ ∀ k v, (cells a)[k]? = some v → w.cell? ⟨g, o + (j * N + k), none⟩ = some v := by
  obtain ⟨g, o, e, hg, hc⟩ := h.rd (by omega)
  have hj' : j < l.length := by rw [h.len]; exact hj
  have ha : l[j]? = some l[j] := List.getElem?_eq_getElem hj'
  exact ⟨g, o, l[j], e, hg, ha, fun k v hv => hc j _ ha k v hv⟩
section
variable {H : Type} {enc : TypeId × Value → H} {P : Program} {w : World} {base : Nat} {spare : Nat → Bool} {held : Bool}
theorem trod_list {α : Type} [Inhabited α] {cells : α → List Value} {N : Nat} {Ok : α → Prop} (hN : ∀ a, (cells a).length = N) (h0 : 0 < N) {t e : TypeId} (ht : P.underlying t = some (.slice e)) (hce : P.cellsOf e = N)
    (one : ∀ {fuel : Nat} {cs : List Value} {x : DataW H × List MemPlace}, DataW.trod enc P w base spare held fuel e cs = some x → ∃ a, cs = cells a ∧ Ok a) {fuel : Nat} {cs : List Value} {x : DataW H × List MemPlace} (h : DataW.trod enc P w base spare held fuel t cs = some x) :
    ∃ (A : Option Addr) (n c : Nat) (l : List α), cs = [.slice A n c] ∧ Ls cells N w w.heap.size A n c l ∧ ∀ a ∈ l, Ok a := by
  rcases open_slice ht h with ⟨rfl, _⟩ | ⟨a, len, cap, m, n, D, Pl, rfl, _, hl, hm, hmm, _, hi⟩
  · exact ⟨none, 0, 0, [], rfl, ⟨rfl, Nat.le_refl _, by omega, fun h => absurd h (by omega), fun _ => rfl⟩, fun a ha => (by cases ha)⟩
  · have hle : len ≤ m := by rw [hmm]; split <;> omega
    have each : ∀ i, i < len → ∃ b : α, (∀ k v, (cells b)[k]? = some v → w.cell? ((a.add (i * N)).add k) = some v) ∧ Ok b := fun i hil => by
      obtain ⟨cs', h1, h2⟩ := hi i (by omega)
      rw [hce] at h1
      obtain ⟨_, _, hcell⟩ := World.cells?_some h1
      obtain ⟨b, rfl, hb⟩ := one h2
      refine ⟨b, fun k v hv => ?_, hb⟩
      have hk5 : k < N := by rw [← hN b]; exact (List.getElem?_eq_some_iff.1 hv).1
      rw [hcell k hk5, hv]
    obtain ⟨f, hf⟩ := choose_lt each
    refine ⟨some a, len, cap, (List.range len).map f, rfl, ⟨by simp, hl, by unfold maxLen at hm; exact hm, fun hn => ?_, fun h => by cases h⟩, fun b hb => ?_⟩
    · obtain ⟨g, o, spot⟩ := a
      have hc := (hf 0 hn).1 0 _ (List.getElem?_eq_getElem (by rw [hN]; exact h0))
      have hspot : spot = none := by simpa [Addr.add] using World.cell?_spot hc
      subst hspot
      refine ⟨g, o, rfl, ?_, fun j b hb k v hv => ?_⟩
      · have := World.block_lt_of_cell? w _ hc
        simpa [Addr.add] using this
      · rw [List.getElem?_map] at hb
        obtain ⟨i, hi2, rfl⟩ := Option.map_eq_some_iff.1 hb
        obtain ⟨hjl, hji⟩ := List.getElem?_eq_some_iff.1 hi2
        simp at hjl hji
        subst hji
        have := (hf j hjl).1 k v hv
        rw [Addr.add_lit, Addr.add_lit, Nat.add_assoc] at this
        exact this
    · obtain ⟨i, hil, rfl⟩ := List.mem_map.1 hb
      exact (hf i (List.mem_range.1 hil)).2
theorem open_list {α : Type} [Inhabited α] {cells : α → List Value} {N : Nat} {Ok : α → Prop} (hN : ∀ a, (cells a).length = N) (h0 : 0 < N) {t e : TypeId} (ht : P.underlying t = some (.slice e)) (hce : P.cellsOf e = N)
    (one : ∀ {fuel : Nat} {cs : List Value} {x : DataW H × List MemPlace}, DataW.trod enc P w base spare held fuel e cs = some x → ∃ a, cs = cells a ∧ Ok a) {r : Reach} {b0 : Nat} {v : Value} {d : DataW H} {p : List MemPlace}
    (hv : Value.okWide P w r b0 t v) (h : DataW.Trod enc P w base spare held t v d p) : ∃ (A : Option Addr) (n c : Nat) (l : List α), v = .slice A n c ∧ Ls cells N w w.heap.size A n c l ∧ ∀ a ∈ l, Ok a := by
  obtain ⟨A, n, c, rfl⟩ := okWide_slice ht hv
  obtain ⟨fuel, hf⟩ := h
  obtain ⟨A', n', c', l, hcs, hl⟩ := trod_list hN h0 ht hce one hf
  simp [Value.cells] at hcs
  obtain ⟨rfl, rfl, rfl⟩ := hcs
  exact ⟨_, _, _, l, rfl, hl⟩
structure Bal where
  x : Int := 0
  y : Int := 0
instance : Inhabited Bal := ⟨{}⟩
def Bal.cells (b : Bal) : List Value := [.int .i64 b.x, .int .i64 b.y]
structure StepU where
  p : Bool := false
  x : Int := 0
  y : Int := 0
  w : Int := 0
  kA : Option Addr := none
  kn : Nat := 0
  kc : Nat := 0
  kl : List Bool := []
instance : Inhabited StepU := ⟨{}⟩
def StepU.cells (s : StepU) : List Value := [.bool s.p, .int .i64 s.x, .int .i64 s.y, .int .i8 s.w, .slice s.kA s.kn s.kc]
structure StepU.Ok (s : StepU) (w : World) (B : Nat) : Prop where
  power : (Lit.int .i8 s.w).wf = true
  keep : Vs w B s.kA s.kn s.kc (s.kl.map .bool)
end
end
section
open Go Go.RowKit Go.ChangeShapes Go.WideShapes Go.Deep
section
variable {H : Type} {enc : TypeId × Value → H} {P : Program} {w : World} {base : Nat} {spare : Nat → Bool} {held : Bool}
end
end
section
open Go Go.RowKit Go.ChangeShapes Go.WideShapes Go.Deep
structure ActK where
  k : Nat := 0
  who : Nat := 0
  so : Nat := 0
  ot : Nat := 0
instance : Inhabited ActK := ⟨{}⟩
def ActK.cells (a : ActK) : List Value := [.int .u8 (a.k : Int), .int .u8 (a.who : Int), .int .u8 (a.so : Int), .int .u8 (a.ot : Int)]
structure ActK.Wf (a : ActK) : Prop where
  k : a.k < 256
  who : a.who < 256
  so : a.so < 256
  ot : a.ot < 256
theorem actk_fs : ∃ f0 f1 f2 f3 : Field, Try.prog.underlying 48 = some (.struct #[f0, f1, f2, f3]) ∧ (f0.type = 5 ∧ f0.offset = 0) ∧ (f1.type = 5 ∧ f1.offset = 1) ∧ (f2.type = 5 ∧ f2.offset = 2) ∧ (f3.type = 5 ∧ f3.offset = 3) := ⟨_, _, _, _, Try.underlying48, ⟨rfl, rfl⟩, ⟨rfl, rfl⟩, ⟨rfl, rfl⟩, rfl, rfl⟩
theorem actk_cells : Try.prog.cellsOf 48 = 4 ∧ Try.prog.cellsOf 5 = 1 := ⟨by kernel_rfl, by kernel_rfl⟩
theorem trod_actk {H : Type} {enc : TypeId × Value → H} {w : World} {base : Nat} {spare : Nat → Bool} {held : Bool} {fuel : Nat} {cs : List Value} {x : DataW H × List MemPlace} (h : DataW.trod enc Try.prog w base spare held fuel 48 cs = some x) : ∃ a : ActK, cs = a.cells ∧ a.Wf := by
  obtain ⟨f0, f1, f2, f3, hs, ⟨y0, o0⟩, ⟨y1, o1⟩, ⟨y2, o2⟩, y3, o3⟩ := actk_fs
  obtain ⟨xs, n, _, _, hcl, hxl, hg⟩ := DataW.trod_struct hs h
  rw [actk_cells.1] at hcl
  have hu := Try.underlying5
  match cs, hcl, xs, hxl with
  | [c0, c1, c2, c3], _, [x0, x1, x2, x3], _ =>
    have g0 := hg 0 f0 rfl
    have g1 := hg 1 f1 rfl
    have g2 := hg 2 f2 rfl
    have g3 := hg 3 f3 rfl
    rw [y0, o0, actk_cells.2] at g0
    rw [y1, o1, actk_cells.2] at g1
    rw [y2, o2, actk_cells.2] at g2
    rw [y3, o3, actk_cells.2] at g3
    obtain ⟨z0, e0, _, w0⟩ := DataW.trod_int hu (show DataW.trod enc Try.prog w base spare held n 5 [c0] = some x0 from g0)
    obtain ⟨z1, e1, _, w1⟩ := DataW.trod_int hu (show DataW.trod enc Try.prog w base spare held n 5 [c1] = some x1 from g1)
    obtain ⟨z2, e2, _, w2⟩ := DataW.trod_int hu (show DataW.trod enc Try.prog w base spare held n 5 [c2] = some x2 from g2)
    obtain ⟨z3, e3, _, w3⟩ := DataW.trod_int hu (show DataW.trod enc Try.prog w base spare held n 5 [c3] = some x3 from g3)
    have b0 := bounds_u8 w0
    have b1 := bounds_u8 w1
    have b2 := bounds_u8 w2
    have b3 := bounds_u8 w3
    obtain ⟨k0, rfl⟩ := Int.eq_ofNat_of_zero_le (show 0 ≤ z0 by omega)
    obtain ⟨k1, rfl⟩ := Int.eq_ofNat_of_zero_le (show 0 ≤ z1 by omega)
    obtain ⟨k2, rfl⟩ := Int.eq_ofNat_of_zero_le (show 0 ≤ z2 by omega)
    obtain ⟨k3, rfl⟩ := Int.eq_ofNat_of_zero_le (show 0 ≤ z3 by omega)
    injection e0 with e0 _
    injection e1 with e1 _
    injection e2 with e2 _
    injection e3 with e3 _
    refine ⟨⟨k0, k1, k2, k3⟩, ?_, ⟨by dsimp only; omega, by dsimp only; omega, by dsimp only; omega, by dsimp only; omega⟩⟩
    rw [e0, e1, e2, e3]
    rfl
theorem open_t35 {H : Type} {enc : TypeId × Value → H} {w : World} {base : Nat} {held : Bool} {r : Reach} {b0 : Nat} {v : Value} {d : DataW H} {p : List MemPlace}
    (hv : Value.okWide Try.prog w r b0 35 v) (h : DataW.Trod enc Try.prog w base (fun _ => true) held 35 v d p) : ∃ (A : Option Addr) (n c : Nat) (l : List ActK), v = .slice A n c ∧ Ls ActK.cells 4 w w.heap.size A n c l ∧ ∀ a ∈ l, a.Wf :=
  open_list (cells := ActK.cells) (N := 4) (Ok := fun a => a.Wf) (fun _ => rfl) (by omega) Try.underlying35 (by kernel_rfl) (fun h => trod_actk h) hv h
end
section
def bLt (x y a b : Int) : Prop := x < a ∨ (x = a ∧ y < b)
def bLe (x y a b : Int) : Prop := ¬ bLt a b x y
instance (x y a b : Int) : Decidable (bLt x y a b) := by unfold bLt; exact inferInstance
instance (x y a b : Int) : Decidable (bLe x y a b) := by unfold bLe; exact inferInstance
theorem bLe_refl (x y : Int) : bLe x y x y := by unfold bLe bLt; omega
theorem bLe_trans {x y a b c d : Int} (h : bLe x y a b) (k : bLe a b c d) : bLe x y c d := by unfold bLe bLt at *; omega
theorem bLt_le {x y a b c d : Int} (h : bLt x y a b) (k : bLe a b c d) : bLt x y c d := by unfold bLe bLt at *; omega
theorem bLe_lt {x y a b c d : Int} (h : bLe x y a b) (k : bLt a b c d) : bLt x y c d := by unfold bLe bLt at *; omega
theorem bLt.le {x y a b : Int} (h : bLt x y a b) : bLe x y a b := by unfold bLe bLt at *; omega
theorem bLe_or (x y a b : Int) : bLe x y a b ∨ bLt a b x y := by unfold bLe bLt; omega
def cnt (n : Nat) (p : Nat → Bool) : Nat := ((List.range n).filter p).length
def mostN (n : Nat) : Nat := n / 2 + 1
theorem cnt_succ (n : Nat) (p : Nat → Bool) : cnt (n + 1) p = cnt n p + if p n = true then 1 else 0 := by
  unfold cnt
  rw [List.range_succ, List.filter_append, List.length_append]
  split
  · rename_i h; simp [h]
  · rename_i h; simp [h]
theorem cnt_mono {n : Nat} {p q : Nat → Bool} (h : ∀ i, i < n → p i = true → q i = true) : cnt n p ≤ cnt n q := by
  induction n with
  | zero => exact Nat.le_refl _
  | succ n ih =>
    rw [cnt_succ, cnt_succ]
    have := ih fun i hi => h i (by omega)
    by_cases hp : p n = true
    · rw [if_pos hp, if_pos (h n (by omega) hp)]; omega
    · rw [if_neg hp]; omega
theorem cnt_apart {n : Nat} {p q : Nat → Bool} (h : ∀ i, i < n → p i = true → q i = true → False) : cnt n p + cnt n q ≤ n := by
  induction n with
  | zero => exact Nat.le_refl _
  | succ n ih =>
    rw [cnt_succ, cnt_succ]
    have := ih fun i hi => h i (by omega)
    by_cases hp : p n = true
    · have hq : ¬ q n = true := fun hq => h n (by omega) hp hq
      rw [if_pos hp, if_neg hq]; omega
    · rw [if_neg hp]; split <;> omega
theorem cnt_or {n : Nat} {p q r : Nat → Bool} (h : ∀ i, i < n → r i = true → p i = true ∨ q i = true) : cnt n r ≤ cnt n p + cnt n q := by
  induction n with
  | zero => exact Nat.le_refl _
  | succ n ih =>
    rw [cnt_succ, cnt_succ, cnt_succ]
    have := ih fun i hi => h i (by omega)
    by_cases hr : r n = true
    · rcases h n (by omega) hr with hp | hq
      · rw [if_pos hr, if_pos hp]; omega
      · rw [if_pos hr, if_pos hq]; omega
    · rw [if_neg hr]; omega
structure Plc where
  px : Int := 0
  py : Int := 0
  bx : Int := 0
  yb : Int := 0
  st : Nat := 0
  sq : Int := 0
structure Prp where
  x : Int := 0
  y : Int := 0
  sq : Int := 0
  ac : Nat → Bool := fun _ => false
def openP (n : Nat) (pl : Nat → Plc) (p : Prp) : Prop := mostN n ≤ cnt n fun i => p.ac i || decide (bLe (pl i).px (pl i).py p.x p.y)
structure KInv (n : Nat) (pl : Nat → Plc) (pr : List Prp) (ch cx cy : Int) (ex : Option Nat) : Prop where
  rng : ∀ i, i < n → (pl i).st = 0 ∨ (pl i).st = 2 ∨ (pl i).st = 3 ∨ (pl i).st = 4
  low : ∀ i, i < n → (pl i).st ≠ 0 → bLe (pl i).bx (pl i).yb (pl i).px (pl i).py
  acc : ∀ (k : Nat) p, pr[k]? = some p → ∀ i, i < n → p.ac i = true → (pl i).st ≠ 0 ∧ bLe p.x p.y (pl i).bx (pl i).yb
  val : ∀ i, i < n → (pl i).st = 2 → ∃ (k : Nat) (p : Prp), pr[k]? = some p ∧ p.x = (pl i).bx ∧ p.y = (pl i).yb ∧ p.sq = (pl i).sq
  ord : ∀ (k1 k2 : Nat) p1 p2, pr[k1]? = some p1 → pr[k2]? = some p2 → k1 < k2 → bLt p1.x p1.y p2.x p2.y
  top : ∀ (k : Nat) p, pr[k]? = some p → ∃ i, i < n ∧ bLe p.x p.y (pl i).px (pl i).py
  one : ∀ (k1 k2 : Nat) p1 p2, pr[k1]? = some p1 → pr[k2]? = some p2 → k1 < k2 → openP n pl p1 → p2.sq = p1.sq
  cho : ch ≠ 0 → (∃ i, i < n ∧ (pl i).st = 2 ∧ bLe cx cy (pl i).bx (pl i).yb) ∧ ∃ (k : Nat) (p : Prp), pr[k]? = some p ∧ p.x = cx ∧ p.y = cy ∧ p.sq = ch ∧ mostN n ≤ cnt n p.ac
  all : ∀ (k : Nat) p, pr[k]? = some p → some k ≠ ex → mostN n ≤ cnt n p.ac → ch ≠ 0 ∧ p.sq = ch
  pos : ∀ (k : Nat) p, pr[k]? = some p → 1 ≤ p.sq
theorem openP_of_most {n : Nat} {pl : Nat → Plc} {p : Prp} (h : mostN n ≤ cnt n p.ac) : openP n pl p := Nat.le_trans h (cnt_mono fun _ _ hi => by rw [hi]; rfl)
theorem KInv.new (n : Nat) : KInv n (fun _ => {}) [] 0 0 0 none :=
  ⟨fun _ _ => .inl rfl, fun _ _ h => absurd rfl h, (fun k p h => by simp at h), (fun _ _ h => by cases h), (fun k1 k2 p1 p2 h => by simp at h), (fun k p h => by simp at h), (fun k1 k2 p1 p2 h => by simp at h), fun h => absurd rfl h, (fun k p h => by simp at h), (fun k p h => by simp at h)⟩
def setP (pl : Nat → Plc) (i : Nat) (v : Plc) : Nat → Plc := fun j => if j = i then v else pl j
theorem setP_same (pl : Nat → Plc) (i : Nat) (v : Plc) : setP pl i v i = v := if_pos rfl
theorem setP_other (pl : Nat → Plc) {i j : Nat} (v : Plc) (h : j ≠ i) : setP pl i v j = pl j := if_neg h
theorem KInv.lose {n : Nat} {pl : Nat → Plc} {pr : List Prp} {ch cx cy : Int} {ex : Option Nat} (h : KInv n pl pr ch cx cy ex) {i : Nat} (s : Nat) (hs : s = 3 ∨ s = 4) (hst : (pl i).st = 2 ∨ (pl i).st = 3)
    (ho : ch = 0 ∨ (∃ k, k < n ∧ k ≠ i ∧ (pl k).st = 2 ∧ bLe cx cy (pl k).bx (pl k).yb) ∨ (pl i).st ≠ 2) : KInv n (setP pl i { pl i with st := s }) pr ch cx cy ex := by
  have key : ∀ j, (setP pl i { pl i with st := s } j).px = (pl j).px ∧ (setP pl i { pl i with st := s } j).py = (pl j).py ∧ (setP pl i { pl i with st := s } j).bx = (pl j).bx ∧ (setP pl i { pl i with st := s } j).yb = (pl j).yb ∧ (setP pl i { pl i with st := s } j).sq = (pl j).sq := fun j => by
    by_cases hj : j = i
    · rw [hj, setP_same]; exact ⟨rfl, rfl, rfl, rfl, rfl⟩
    · rw [setP_other _ _ hj]; exact ⟨rfl, rfl, rfl, rfl, rfl⟩
  have hs0 : s ≠ 0 := by clear ho; omega
  have hs2 : s ≠ 2 := by clear ho; omega
  have hp0 : (pl i).st ≠ 0 := by clear ho; omega
  have st0 : ∀ j, (setP pl i { pl i with st := s } j).st ≠ 0 ↔ (pl j).st ≠ 0 := fun j => by
    by_cases hj : j = i
    · rw [hj, setP_same]
      exact ⟨fun _ => hp0, fun _ => hs0⟩
    · rw [setP_other _ _ hj]
  have st2 : ∀ j, (setP pl i { pl i with st := s } j).st = 2 → (pl j).st = 2 ∧ j ≠ i := fun j hj2 => by
    by_cases hj : j = i
    · rw [hj, setP_same] at hj2
      exact absurd hj2 hs2
    · rw [setP_other _ _ hj] at hj2; exact ⟨hj2, hj⟩
  have hop : ∀ p, openP n (setP pl i { pl i with st := s }) p → openP n pl p := fun p hp => by
    unfold openP at hp ⊢
    simp only [(key _).1, (key _).2.1] at hp
    exact hp
  have hrng : ∀ j, j < n → (setP pl i { pl i with st := s } j).st = 0 ∨ (setP pl i { pl i with st := s } j).st = 2 ∨ (setP pl i { pl i with st := s } j).st = 3 ∨ (setP pl i { pl i with st := s } j).st = 4 := fun j hj => by
    by_cases hji : j = i
    · rw [hji, setP_same]
      rcases hs with hs | hs
      · exact .inr (.inr (.inl hs))
      · exact .inr (.inr (.inr hs))
    · rw [setP_other _ _ hji]; exact h.rng j hj
  refine ⟨hrng, fun j hj hst' => ?_, fun k p hk j hj ha => ?_, fun j hj h2 => ?_, h.ord, fun k p hk => ?_, fun k1 k2 p1 p2 h1 h2 hlt hopen => h.one k1 k2 p1 p2 h1 h2 hlt (hop _ hopen), fun hch => ⟨?_, (h.cho hch).2⟩, h.all, h.pos⟩
  · rw [(key j).1, (key j).2.1, (key j).2.2.1, (key j).2.2.2.1]; exact h.low j hj ((st0 j).1 hst')
  · rw [(key j).2.2.1, (key j).2.2.2.1]
    exact ⟨(st0 j).2 (h.acc k p hk j hj ha).1, (h.acc k p hk j hj ha).2⟩
  · rw [(key j).2.2.1, (key j).2.2.2.1, (key j).2.2.2.2]; exact h.val j hj (st2 j h2).1
  · obtain ⟨j, hj, hb⟩ := h.top k p hk
    exact ⟨j, hj, by rw [(key j).1, (key j).2.1]; exact hb⟩
  · rcases ho with ho | ⟨k, hk, hki, h2, hb⟩ | ho
    · exact absurd ho hch
    · exact ⟨k, hk, by rw [setP_other _ _ hki]; exact h2, by rw [setP_other _ _ hki]; exact hb⟩
    · obtain ⟨k, hk, h2, hb⟩ := (h.cho hch).1
      have hki : k ≠ i := fun e => by rw [e] at h2; exact ho h2
      exact ⟨k, hk, by rw [setP_other _ _ hki]; exact h2, by rw [setP_other _ _ hki]; exact hb⟩
end
section
section
variable {n : Nat} {pl : Nat → Plc} {pr : List Prp} {ch cx cy : Int} {ex : Option Nat}
theorem KInv.promise (h : KInv n pl pr ch cx cy ex) {i : Nat} {x y : Int} (hb : bLe (pl i).px (pl i).py x y) : KInv n (setP pl i { pl i with px := x, py := y }) pr ch cx cy ex := by
  have key : ∀ j, (setP pl i { pl i with px := x, py := y } j).st = (pl j).st ∧ (setP pl i { pl i with px := x, py := y } j).bx = (pl j).bx ∧ (setP pl i { pl i with px := x, py := y } j).yb = (pl j).yb ∧ (setP pl i { pl i with px := x, py := y } j).sq = (pl j).sq := fun j => by
    by_cases hj : j = i
    · rw [hj, setP_same]; exact ⟨rfl, rfl, rfl, rfl⟩
    · rw [setP_other _ _ hj]; exact ⟨rfl, rfl, rfl, rfl⟩
  have up : ∀ j, bLe (pl j).px (pl j).py (setP pl i { pl i with px := x, py := y } j).px (setP pl i { pl i with px := x, py := y } j).py := fun j => by
    by_cases hj : j = i
    · rw [hj, setP_same]; exact hb
    · rw [setP_other _ _ hj]; exact bLe_refl _ _
  have hop : ∀ p, openP n (setP pl i { pl i with px := x, py := y }) p → openP n pl p := fun p hp => by
    refine Nat.le_trans hp (cnt_mono fun j _ hj => ?_)
    rw [Bool.or_eq_true, decide_eq_true_iff] at hj ⊢
    rcases hj with hj | hj
    · exact .inl hj
    · exact .inr (bLe_trans (up j) hj)
  refine ⟨fun j hj => by rw [(key j).1]; exact h.rng j hj, fun j hj hst => ?_, fun k p hk j hj ha => ?_, fun j hj h2 => ?_, h.ord, fun k p hk => ?_, fun k1 k2 p1 p2 h1 h2 hlt ho => h.one k1 k2 p1 p2 h1 h2 hlt (hop _ ho), fun hch => ⟨?_, (h.cho hch).2⟩, h.all, h.pos⟩
  · rw [(key j).2.1, (key j).2.2.1]
    rw [(key j).1] at hst
    exact bLe_trans (h.low j hj hst) (up j)
  · rw [(key j).1, (key j).2.1, (key j).2.2.1]; exact h.acc k p hk j hj ha
  · rw [(key j).1] at h2
    rw [(key j).2.1, (key j).2.2.1, (key j).2.2.2]
    exact h.val j hj h2
  · obtain ⟨j, hj, hb⟩ := h.top k p hk
    exact ⟨j, hj, bLe_trans hb (up j)⟩
  · obtain ⟨k, hk, h2, hb⟩ := (h.cho hch).1
    exact ⟨k, hk, by rw [(key k).1]; exact h2, by rw [(key k).2.1, (key k).2.2.1]; exact hb⟩
def addA (p : Prp) (i : Nat) : Prp := { p with ac := fun j => decide (j = i) || p.ac j }
theorem set_cases {k k' : Nat} {p q p' : Prp} (hk : pr[k]? = some p) (h : (pr.set k q)[k']? = some p') : (k' = k ∧ p' = q) ∨ (k' ≠ k ∧ pr[k']? = some p') := by
  have hlt := (List.getElem?_eq_some_iff.1 hk).1
  by_cases hkk : k' = k
  · rw [hkk, List.getElem?_set_self hlt] at h
    exact .inl ⟨hkk, (Option.some.inj h).symm⟩
  · rw [List.getElem?_set_ne (fun e => hkk e.symm)] at h
    exact .inr ⟨hkk, h⟩
theorem KInv.accept (h : KInv n pl pr ch cx cy ex) {k i : Nat} {p : Prp} (hk : pr[k]? = some p) (hex : ex = some k) (hb : bLe (pl i).px (pl i).py p.x p.y) :
    KInv n (setP pl i ⟨p.x, p.y, p.x, p.y, 2, p.sq⟩) (pr.set k (addA p i)) ch cx cy ex := by
  have hlt := (List.getElem?_eq_some_iff.1 hk).1
  have old : ∀ {k' : Nat} {p' : Prp}, (pr.set k (addA p i))[k']? = some p' → ∃ p0, pr[k']? = some p0 ∧ p'.x = p0.x ∧ p'.y = p0.y ∧ p'.sq = p0.sq ∧ (∀ j, p'.ac j = true → p0.ac j = true ∨ (k' = k ∧ j = i)) ∧ (∀ j, p0.ac j = true → p'.ac j = true) := fun {k' p'} h' => by
    rcases set_cases hk h' with ⟨rfl, rfl⟩ | ⟨_, h'⟩
    · refine ⟨p, hk, rfl, rfl, rfl, fun j hj => ?_, fun j hj => ?_⟩
      · unfold addA at hj
        simp only [Bool.or_eq_true, decide_eq_true_iff] at hj
        rcases hj with hj | hj
        · exact .inr ⟨rfl, hj⟩
        · exact .inl hj
      · unfold addA
        simp only [Bool.or_eq_true]
        exact .inr hj
    · exact ⟨p', h', rfl, rfl, rfl, fun j hj => .inl hj, fun j hj => hj⟩
  have new : ∀ {k' : Nat} {p0 : Prp}, pr[k']? = some p0 → ∃ p', (pr.set k (addA p i))[k']? = some p' ∧ p'.x = p0.x ∧ p'.y = p0.y ∧ p'.sq = p0.sq ∧ ∀ j, p0.ac j = true → p'.ac j = true := fun {k' p0} h' => by
    by_cases hkk : k' = k
    · subst hkk
      rw [hk] at h'
      obtain rfl := Option.some.inj h'
      refine ⟨addA p i, List.getElem?_set_self hlt, rfl, rfl, rfl, fun j hj => ?_⟩
      unfold addA
      simp only [Bool.or_eq_true]
      exact .inr hj
    · exact ⟨p0, by rw [List.getElem?_set_ne (fun e => hkk e.symm)]; exact h', rfl, rfl, rfl, fun j hj => hj⟩
  have up : ∀ j, bLe (pl j).px (pl j).py (setP pl i ⟨p.x, p.y, p.x, p.y, 2, p.sq⟩ j).px (setP pl i ⟨p.x, p.y, p.x, p.y, 2, p.sq⟩ j).py := fun j => by
    by_cases hj : j = i
    · rw [hj, setP_same]; exact hb
    · rw [setP_other _ _ hj]; exact bLe_refl _ _
  have hop : ∀ {k' : Nat} {p' p0 : Prp}, (pr.set k (addA p i))[k']? = some p' → pr[k']? = some p0 → openP n (setP pl i ⟨p.x, p.y, p.x, p.y, 2, p.sq⟩) p' → openP n pl p0 := fun {k' p' p0} h' h0 ho => by
    obtain ⟨q, hq, e1, e2, _, e4, _⟩ := old h'
    rw [h0] at hq
    obtain rfl := Option.some.inj hq
    refine Nat.le_trans ho (cnt_mono fun j _ hj => ?_)
    rw [Bool.or_eq_true, decide_eq_true_iff] at hj ⊢
    rcases hj with hj | hj
    · rcases e4 j hj with hj | ⟨rfl, rfl⟩
      · exact .inl hj
      · rw [hk] at h0
        obtain rfl := Option.some.inj h0
        exact .inr hb
    · right
      rw [e1, e2] at hj
      exact bLe_trans (up j) hj
  refine ⟨fun j hj => ?_, fun j hj hst => ?_, fun k' p' hk' j hj ha => ?_, fun j hj h2 => ?_, fun k1 k2 p1 p2 h1 h2 hl => ?_, fun k' p' hk' => ?_, fun k1 k2 p1 p2 h1 h2 hl ho => ?_, fun hch => ⟨?_, ?_⟩, fun k' p' hk' hne hm => ?_, fun k' p' hk' => ?_⟩
  · by_cases hji : j = i
    · rw [hji, setP_same]; exact .inr (.inl rfl)
    · rw [setP_other _ _ hji]; exact h.rng j hj
  · by_cases hji : j = i
    · rw [hji, setP_same]; exact bLe_refl _ _
    · rw [setP_other _ _ hji] at hst ⊢; exact h.low j hj hst
  · obtain ⟨q, hq, e1, e2, _, e4, _⟩ := old hk'
    rw [e1, e2]
    by_cases hji : j = i
    · rw [hji, setP_same]
      refine ⟨by simp, ?_⟩
      rcases e4 j ha with ha | ⟨rfl, _⟩
      · rw [hji] at ha hj
        obtain ⟨a1, a2⟩ := h.acc k' q hq i hj ha
        exact bLe_trans a2 (bLe_trans (h.low i hj a1) hb)
      · rw [hk] at hq
        obtain rfl := Option.some.inj hq
        exact bLe_refl _ _
    · rw [setP_other _ _ hji]
      rcases e4 j ha with ha | ⟨_, ha⟩
      · exact h.acc k' q hq j hj ha
      · exact absurd ha hji
  · by_cases hji : j = i
    · rw [hji, setP_same]
      exact ⟨k, addA p i, List.getElem?_set_self hlt, rfl, rfl, rfl⟩
    · rw [setP_other _ _ hji] at h2 ⊢
      obtain ⟨k', p', a1, a2, a3, a4⟩ := h.val j hj h2
      obtain ⟨q, b1, b2, b3, b4, _⟩ := new a1
      exact ⟨k', q, b1, by rw [b2, a2], by rw [b3, a3], by rw [b4, a4]⟩
  · obtain ⟨q1, a1, a2, a3, _⟩ := old h1
    obtain ⟨q2, b1, b2, b3, _⟩ := old h2
    rw [a2, a3, b2, b3]
    exact h.ord k1 k2 q1 q2 a1 b1 hl
  · obtain ⟨q, a1, a2, a3, _⟩ := old hk'
    obtain ⟨j, hj, hbj⟩ := h.top k' q a1
    exact ⟨j, hj, by rw [a2, a3]; exact bLe_trans hbj (up j)⟩
  · obtain ⟨q1, a1, _, _, a4, _⟩ := old h1
    obtain ⟨q2, b1, _, _, b4, _⟩ := old h2
    rw [a4, b4]
    exact h.one k1 k2 q1 q2 a1 b1 hl (hop h1 a1 ho)
  · obtain ⟨j, hj, h2, hbj⟩ := (h.cho hch).1
    by_cases hji : j = i
    · refine ⟨i, by rw [← hji]; exact hj, by rw [setP_same], ?_⟩
      rw [setP_same]
      rw [hji] at hj h2 hbj
      exact bLe_trans hbj (bLe_trans (h.low i hj (by rw [h2]; decide)) hb)
    · exact ⟨j, hj, by rw [setP_other _ _ hji]; exact h2, by rw [setP_other _ _ hji]; exact hbj⟩
  · obtain ⟨k', p', a1, a2, a3, a4, a5⟩ := (h.cho hch).2
    obtain ⟨q, b1, b2, b3, b4, b5⟩ := new a1
    exact ⟨k', q, b1, by rw [b2, a2], by rw [b3, a3], by rw [b4, a4], Nat.le_trans a5 (cnt_mono fun j _ hj => b5 j hj)⟩
  · rcases set_cases hk hk' with ⟨rfl, _⟩ | ⟨_, hk'⟩
    · exact absurd hex.symm hne
    · exact h.all k' p' hk' hne hm
  · obtain ⟨q, a1, _, _, a4, _⟩ := old hk'
    rw [a4]
    exact h.pos k' q a1
theorem KInv.same (h : KInv n pl pr ch cx cy ex) {k1 k2 : Nat} {p1 p2 : Prp} (h1 : pr[k1]? = some p1) (h2 : pr[k2]? = some p2) (m1 : mostN n ≤ cnt n p1.ac) (m2 : mostN n ≤ cnt n p2.ac) : p1.sq = p2.sq := by
  rcases Nat.lt_trichotomy k1 k2 with hl | hl | hl
  · exact (h.one k1 k2 p1 p2 h1 h2 hl (openP_of_most m1)).symm
  · subst hl; rw [h1] at h2; rw [Option.some.inj h2]
  · exact h.one k2 k1 p2 p1 h2 h1 hl (openP_of_most m2)
theorem KInv.open_ (h : KInv n pl pr ch cx cy none) (ex : Option Nat) : KInv n pl pr ch cx cy ex := ⟨h.rng, h.low, h.acc, h.val, h.ord, h.top, h.one, h.cho, fun k p hk _ hm => h.all k p hk (by simp) hm, h.pos⟩
theorem KInv.few {k : Nat} {p : Prp} (h : KInv n pl pr ch cx cy (some k)) (hk : pr[k]? = some p) (hm : ¬ mostN n ≤ cnt n p.ac) : KInv n pl pr ch cx cy none :=
  ⟨h.rng, h.low, h.acc, h.val, h.ord, h.top, h.one, h.cho, fun k' p' hk' _ hm' => by
    by_cases hkk : k' = k
    · subst hkk; rw [hk] at hk'; rw [Option.some.inj hk'] at hm; exact absurd hm' hm
    · exact h.all k' p' hk' (fun e => hkk (Option.some.inj e)) hm', h.pos⟩
theorem KInv.again {k : Nat} {p : Prp} (h : KInv n pl pr ch cx cy (some k)) (hk : pr[k]? = some p) (hm : mostN n ≤ cnt n p.ac) (hc : ch ≠ 0) : ch = p.sq ∧ KInv n pl pr ch cx cy none := by
  obtain ⟨kc, pc, c1, _, _, c4, c5⟩ := (h.cho hc).2
  have e : p.sq = ch := by rw [← c4]; exact h.same hk c1 hm c5
  refine ⟨e.symm, h.rng, h.low, h.acc, h.val, h.ord, h.top, h.one, h.cho, fun k' p' hk' _ hm' => ?_, h.pos⟩
  by_cases hkk : k' = k
  · subst hkk; rw [hk] at hk'; rw [← Option.some.inj hk']; exact ⟨hc, e⟩
  · exact h.all k' p' hk' (fun e => hkk (Option.some.inj e)) hm'
theorem KInv.chosen {k : Nat} {p : Prp} (h : KInv n pl pr ch cx cy (some k)) (hk : pr[k]? = some p) (hm : mostN n ≤ cnt n p.ac) (hc : ch = 0) (hi : ∃ i, i < n ∧ (pl i).st = 2 ∧ bLe p.x p.y (pl i).bx (pl i).yb) : KInv n pl pr p.sq p.x p.y none := by
  refine ⟨h.rng, h.low, h.acc, h.val, h.ord, h.top, h.one, fun _ => ⟨hi, k, p, hk, rfl, rfl, rfl, hm⟩, fun k' p' hk' _ hm' => ?_, h.pos⟩
  have hp := h.pos k p hk
  by_cases hkk : k' = k
  · subst hkk; rw [hk] at hk'; rw [← Option.some.inj hk']; exact ⟨by omega, rfl⟩
  · exact absurd hc (h.all k' p' hk' (fun e => hkk (Option.some.inj e)) hm').1
theorem least {n : Nat} {q : Nat → Prop} {bx yb : Nat → Int} [DecidablePred q] (h : ∃ i, i < n ∧ q i) : ∃ l, l < n ∧ q l ∧ ∀ i, i < n → q i → bLe (bx l) (yb l) (bx i) (yb i) := by
  induction n with
  | zero => obtain ⟨i, hi, _⟩ := h; omega
  | succ n ih =>
    by_cases hn : ∃ i, i < n ∧ q i
    · obtain ⟨l, hl, hq, hm⟩ := ih hn
      by_cases hqn : q n
      · rcases bLe_or (bx l) (yb l) (bx n) (yb n) with hle | hgt
        · refine ⟨l, by omega, hq, fun i hi hqi => ?_⟩
          by_cases hin : i = n
          · rw [hin]; exact hle
          · exact hm i (by omega) hqi
        · refine ⟨n, by omega, hqn, fun i hi hqi => ?_⟩
          by_cases hin : i = n
          · rw [hin]; exact bLe_refl _ _
          · exact bLe_trans hgt.le (hm i (by omega) hqi)
      · refine ⟨l, by omega, hq, fun i hi hqi => ?_⟩
        by_cases hin : i = n
        · rw [hin] at hqi; exact absurd hqi hqn
        · exact hm i (by omega) hqi
    · obtain ⟨i, hi, hqi⟩ := h
      have hin : i = n := by
        by_cases hin : i = n
        · exact hin
        · exact absurd ⟨i, by omega, hqi⟩ hn
      subst hin
      refine ⟨i, by omega, hqi, fun j hj hqj => ?_⟩
      by_cases hji : j = i
      · rw [hji]; exact bLe_refl _ _
      · exact absurd ⟨j, by omega, hqj⟩ hn
def mayC (n : Nat) (pl : Nat → Plc) (Q : Nat → Bool) (x y : Int) : Nat := cnt n fun k => !Q k || decide ((pl k).st = 4) || (decide ((pl k).st = 3) && decide (bLe x y (pl k).bx (pl k).yb))
def sureC (n : Nat) (pl : Nat → Plc) (Q : Nat → Bool) : Prop :=
  mostN n ≤ cnt n (fun k => Q k && decide ((pl k).st ≠ 4)) ∧ ∀ i, i < n → Q i = true → (pl i).st = 3 → (∀ g, g < n → Q g = true → (pl g).st = 2 → bLt (pl g).bx (pl g).yb (pl i).bx (pl i).yb) → mayC n pl Q (pl i).bx (pl i).yb < mostN n
theorem KInv.propose (h : KInv n pl pr ch cx cy none) {Q : Nat → Bool} {x y v : Int} (hQ : ∀ i, i < n → Q i = true → (pl i).px = x ∧ (pl i).py = y) (hw : ∃ i, i < n ∧ Q i = true) (hb : ∀ (k : Nat) p, pr[k]? = some p → bLt p.x p.y x y)
    (hsure : sureC n pl Q ∨ ∀ i, i < n → Q i = true)
    (hv : (∃ g, g < n ∧ Q g = true ∧ (pl g).st = 2 ∧ (∀ i, i < n → Q i = true → (pl i).st = 2 → bLe (pl i).bx (pl i).yb (pl g).bx (pl g).yb) ∧ v = (pl g).sq) ∨ ((∀ i, i < n → Q i = true → (pl i).st ≠ 2) ∧ 1 ≤ v)) :
    KInv n pl (pr ++ [{ x := x, y := y, sq := v }]) ch cx cy none := by
  have apps : ∀ {k : Nat} {p : Prp}, (pr ++ [({ x := x, y := y, sq := v } : Prp)])[k]? = some p → (pr[k]? = some p) ∨ (k = pr.length ∧ p = { x := x, y := y, sq := v }) := fun {k p} hk => by
    rcases Nat.lt_trichotomy k pr.length with hl | hl | hl
    · rw [List.getElem?_append_left hl] at hk; exact .inl hk
    · rw [hl, List.getElem?_append_right (Nat.le_refl _), Nat.sub_self] at hk
      exact .inr ⟨hl, (Option.some.inj hk).symm⟩
    · rw [List.getElem?_eq_none (by rw [List.length_append, List.length_singleton]; omega)] at hk; cases hk
  have left : ∀ {k : Nat} {p : Prp}, pr[k]? = some p → (pr ++ [({ x := x, y := y, sq := v } : Prp)])[k]? = some p := fun {k p} hk => by
    rw [List.getElem?_append_left (List.getElem?_eq_some_iff.1 hk).1]; exact hk
  have lt : ∀ {k : Nat} {p : Prp}, pr[k]? = some p → k < pr.length := fun hk => (List.getElem?_eq_some_iff.1 hk).1
  -- who is intact by a ballot that isn't below that of a proposal that may be chosen has its value
  have good : ∀ {k1 : Nat} {p1 : Prp} {g : Nat}, pr[k1]? = some p1 → openP n pl p1 → g < n → (pl g).st = 2 → bLe p1.x p1.y (pl g).bx (pl g).yb → (pl g).sq = p1.sq := fun {k1 p1 g} h1 ho hg h2 hle => by
    obtain ⟨kg, pg, g1, g2, g3, g4⟩ := h.val g hg h2
    rw [← g4]
    rcases Nat.lt_trichotomy k1 kg with hl | hl | hl
    · exact h.one k1 kg p1 pg h1 g1 hl ho
    · subst hl; rw [h1] at g1; rw [Option.some.inj g1]
    · have := h.ord kg k1 pg p1 g1 h1 hl
      rw [← g2, ← g3] at hle
      exact absurd this hle
  have main : ∀ {k1 : Nat} {p1 : Prp}, pr[k1]? = some p1 → openP n pl p1 → v = p1.sq := fun {k1 p1} h1 ho => by
    by_cases hc : ∃ i, i < n ∧ Q i = true ∧ (pl i).st = 2 ∧ bLe p1.x p1.y (pl i).bx (pl i).yb
    · obtain ⟨i, hi, hqi, h2, hle⟩ := hc
      rcases hv with ⟨g, hg, hqg, hg2, hmax, rfl⟩ | ⟨hno, _⟩
      · exact good h1 ho hg hg2 (bLe_trans hle (hmax i hi hqi h2))
      · exact absurd h2 (hno i hi hqi)
    · -- whoever accepted it, and promised, has lost it
      have lost : ∀ i, i < n → (p1.ac i || decide (bLe (pl i).px (pl i).py p1.x p1.y)) = true → Q i = true → ((pl i).st = 3 ∨ (pl i).st = 4) ∧ bLe p1.x p1.y (pl i).bx (pl i).yb := fun i hi hm hqi => by
        rw [Bool.or_eq_true, decide_eq_true_iff] at hm
        rcases hm with hm | hm
        · obtain ⟨a1, a2⟩ := h.acc k1 p1 h1 i hi hm
          have hr := h.rng i hi
          refine ⟨?_, a2⟩
          rcases hr with hr | hr | hr | hr
          · exact absurd hr a1
          · exact absurd ⟨i, hi, hqi, hr, a2⟩ hc
          · exact .inl hr
          · exact .inr hr
        · obtain ⟨q1, q2⟩ := hQ i hi hqi
          rw [q1, q2] at hm
          exact absurd (hb k1 p1 h1) hm
      have notsure : ¬ sureC n pl Q := fun hs => by
        by_cases hl : ∃ i, i < n ∧ (Q i = true ∧ (pl i).st = 3 ∧ bLe p1.x p1.y (pl i).bx (pl i).yb)
        · obtain ⟨l, hln, ⟨hql, hl3, hlle⟩, hmin⟩ := least (bx := fun i => (pl i).bx) (yb := fun i => (pl i).yb) hl
          have h1' := hs.2 l hln hql hl3 fun g hg hqg hg2 => by
            rcases bLe_or p1.x p1.y (pl g).bx (pl g).yb with hh | hh
            · exact absurd ⟨g, hg, hqg, hg2, hh⟩ hc
            · exact bLt_le hh hlle
          have h2' : mostN n ≤ mayC n pl Q (pl l).bx (pl l).yb := Nat.le_trans ho (cnt_mono fun i hi hm => by
            rw [Bool.or_eq_true, Bool.or_eq_true, Bool.and_eq_true, decide_eq_true_iff, decide_eq_true_iff, decide_eq_true_iff]
            cases hq : Q i with
            | false => exact .inl (.inl rfl)
            | true =>
              obtain ⟨hst, hle⟩ := lost i hi hm hq
              rcases hst with hst | hst
              · exact .inr ⟨hst, hmin i hi ⟨hq, hst, hle⟩⟩
              · exact .inl (.inr hst))
          omega
        · have h2' : mostN n ≤ cnt n fun k => !(Q k && decide ((pl k).st ≠ 4)) := Nat.le_trans ho (cnt_mono fun i hi hm => by
            cases hq : Q i with
            | false => rfl
            | true =>
              obtain ⟨hst, hle⟩ := lost i hi hm hq
              rcases hst with hst | hst
              · exact absurd ⟨i, hi, hq, hst, hle⟩ hl
              · simp [hst])
          have h3' := hs.1
          have h4' := cnt_apart (n := n) (p := fun k => !(Q k && decide ((pl k).st ≠ 4))) (q := fun k => Q k && decide ((pl k).st ≠ 4)) fun i _ a b => by
            rw [b] at a
            cases a
          unfold mostN at h2' h3'
          omega
      have hall := hsure.resolve_left notsure
      have hmaj : mostN n ≤ cnt n p1.ac := Nat.le_trans ho (cnt_mono fun i hi hm => by
        rw [Bool.or_eq_true, decide_eq_true_iff] at hm
        rcases hm with hm | hm
        · exact hm
        · obtain ⟨q1, q2⟩ := hQ i hi (hall i hi)
          rw [q1, q2] at hm
          exact absurd (hb k1 p1 h1) hm)
      obtain ⟨hch, hs1⟩ := h.all k1 p1 h1 (by simp) hmaj
      obtain ⟨⟨i, hi, hi2, hile⟩, kc, pc, c1, c2, c3, c4, c5⟩ := h.cho hch
      rw [hs1]
      rcases hv with ⟨g, hg, hqg, hg2, hmax, rfl⟩ | ⟨hno, _⟩
      · rw [← c4]
        refine good c1 (openP_of_most c5) hg hg2 ?_
        rw [c2, c3]
        exact bLe_trans hile (hmax i hi (hall i hi) hi2)
      · exact absurd hi2 (hno i hi (hall i hi))
  refine ⟨h.rng, h.low, fun k p hk i hi ha => ?_, fun i hi h2 => ?_, fun k1 k2 p1 p2 h1 h2 hl => ?_, fun k p hk => ?_, fun k1 k2 p1 p2 h1 h2 hl ho => ?_, fun hch => ⟨(h.cho hch).1, ?_⟩, fun k p hk hne hm => ?_, fun k p hk => ?_⟩
  · rcases apps hk with hk | ⟨_, rfl⟩
    · exact h.acc k p hk i hi ha
    · cases ha
  · obtain ⟨k, p, a1, a2⟩ := h.val i hi h2
    exact ⟨k, p, left a1, a2⟩
  · rcases apps h1 with h1 | ⟨e1, rfl⟩
    · rcases apps h2 with h2 | ⟨_, rfl⟩
      · exact h.ord k1 k2 p1 p2 h1 h2 hl
      · exact hb k1 p1 h1
    · rcases apps h2 with h2 | ⟨e2, _⟩
      · have := lt h2; omega
      · omega
  · rcases apps hk with hk | ⟨_, rfl⟩
    · exact h.top k p hk
    · obtain ⟨i, hi, hqi⟩ := hw
      obtain ⟨q1, q2⟩ := hQ i hi hqi
      exact ⟨i, hi, by rw [q1, q2]; exact bLe_refl _ _⟩
  · rcases apps h1 with h1 | ⟨e1, rfl⟩
    · rcases apps h2 with h2 | ⟨_, rfl⟩
      · exact h.one k1 k2 p1 p2 h1 h2 hl ho
      · exact main h1 ho
    · rcases apps h2 with h2 | ⟨e2, _⟩
      · have := lt h2; omega
      · omega
  · obtain ⟨k, p, a1, a2⟩ := (h.cho hch).2
    exact ⟨k, p, left a1, a2⟩
  · rcases apps hk with hk | ⟨_, rfl⟩
    · exact h.all k p hk hne hm
    · have : cnt n (fun _ => false) = 0 := by
        unfold cnt
        rw [List.filter_eq_nil_iff.2 (fun a _ => by simp)]
        rfl
      unfold mostN at hm
      have hm' : n / 2 + 1 ≤ cnt n (fun _ => false) := hm
      omega
  · rcases apps hk with hk | ⟨_, rfl⟩
    · exact h.pos k p hk
    · rcases hv with ⟨g, hg, _, hg2, _, rfl⟩ | ⟨_, hv⟩
      · obtain ⟨k', p', a1, _, _, a4⟩ := h.val g hg hg2
        show 1 ≤ (pl g).sq
        rw [← a4]
        exact h.pos k' p' a1
      · exact hv
end
end
end Go.Proofs.Ytinflpheogglhaa
