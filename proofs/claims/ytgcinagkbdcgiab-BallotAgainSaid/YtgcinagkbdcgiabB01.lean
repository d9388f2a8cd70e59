/-
  What it means that a slice of bytes in memory reads as a list of numbers, and how that is carried along; no program.
-/
import Derived.Test.YtgcinagkbdcgiabB00
import Derived.Below
import Derived.Laws.OwnMore
import Derived.Deep.AppendLies
import Derived.Deep.Draws
import Derived.WalkKit
import Derived.ProofKit
import Derived.OpenShut
import Derived.Deep.Slices
import Derived.Deep.Fields
import Derived.Test.YtgcinagkbdcgiabProg
import Derived.WalkSpells
import Derived.BigQuiet
import Derived.OwnWalk
import Derived.Laws.AppendOwnNone
import Derived.Lib.Hide
import Derived.Laws.EntriesVeiled
import Derived.Deep.RegionHeld3
import Derived.Deep.DeepCutAuto
namespace Go.Proofs.Ytgcinagkbdcgiab
set_option maxRecDepth 100000
section
open Go Go.RowKit
def Rd (w : World) (B : Nat) (A : Option Addr) (l : List Nat) : Prop :=
  (∀ b ∈ l, b < 256) ∧ (0 < l.length → ∃ g o, A = some ⟨g, o, none⟩ ∧ g < B ∧ ∀ j x, l[j]? = some x → w.cell? ⟨g, o + j, none⟩ = some (.int .u8 ((x : Nat) : Int)))
section
variable {w w' : World} {B B' : Nat} {A : Option Addr} {l : List Nat}
theorem Rd.nil_ : Rd w B A [] := ⟨by simp, fun h => absurd h (by simp)⟩
theorem Rd.at_ {k : Nat} (h : Rd w B A l) (hk : k < l.length) : ∃ g o x, A = some ⟨g, o, none⟩ ∧ g < B ∧ l[k]? = some x ∧ x < 256 ∧ w.cell? ⟨g, o + k, none⟩ = some (.int .u8 ((x : Nat) : Int)) := by
  obtain ⟨g, o, e, hg, hc⟩ := h.2 (by omega)
  exact ⟨g, o, l[k], e, hg, List.getElem?_eq_getElem hk, h.1 _ (List.getElem_mem hk), hc k _ (List.getElem?_eq_getElem hk)⟩
theorem Rd.keep (h : Rd w B A l) (hk : ∀ p : Addr, p.block < B → w'.cell? p = w.cell? p) : Rd w' B A l :=
  ⟨h.1, fun hn => by
    obtain ⟨g, o, e, hg, hc⟩ := h.2 hn
    exact ⟨g, o, e, hg, fun j x hx => (hk ⟨g, o + j, none⟩ hg).trans (hc j x hx)⟩⟩
end
end
section
open Go Go.RowKit
structure Bs (w : World) (B : Nat) (A : Option Addr) (n c : Nat) (l : List Nat) : Prop where
  len : l.length = n
  cap : n ≤ c
  most : c ≤ 9223372036854775807
  rd : Rd w B A l
  nil_ : A = none → c = 0
def Ext (w w' : World) : Prop := Below w.heap.size w w'
theorem Ext.refl (w : World) : Ext w w := Below.refl _ _
theorem Ext.trans {a b c : World} (h : Ext a b) (k : Ext b c) : Ext a c := Below.trans h (Below.mono k (Below.size h))
theorem Ext.alloc {a b : World} (h : Ext a b) (o : Obj) : Ext a (b.alloc o) := Below.alloc h (Below.size h) o
theorem Ext.drew {a b : World} (h : Ext a b) : Ext a b.drew := Below.drew h
theorem Ext.size {a b : World} (h : Ext a b) : a.heap.size ≤ b.heap.size := Below.size h
def By (w : World) (A : Option Addr) (n c : Nat) (l : List Nat) : Prop := Bs w w.heap.size A n c l
theorem By.nil_ (w : World) : By w none 0 0 [] := ⟨rfl, Nat.le_refl _, by omega, Rd.nil_, fun _ => rfl⟩
end
section
open Go Go.RowKit Go.ChangeShapes Go.WideShapes
theorem bs_of_row {w : World} {x : Addr} {n c : Nat} {zs : List Int} (hl : n ≤ c) (hm : c ≤ maxLen) (hz : zs.length = c) (hcell : ∀ i, i < zs.length → w.cell? (x.add i) = some (.int .u8 (zs.getD i 0))) (hwz : ∀ z ∈ zs, (Lit.int .u8 z).wf = true) :
    Bs w w.heap.size (some x) n c ((zs.take n).map Int.toNat) := by
  have hb : ∀ z ∈ zs, 0 ≤ z ∧ z < 256 := by
    intro z hzm
    have := bounds_u8 (hwz z hzm)
    omega
  refine ⟨by simp [hz, hl], hl, by unfold maxLen at hm; exact hm, ⟨?_, ?_⟩, fun h => by cases h⟩
  · intro b hbm
    simp only [List.mem_map] at hbm
    obtain ⟨z, hzm, rfl⟩ := hbm
    have := hb z (List.mem_of_mem_take hzm)
    omega
  · intro h0
    have hn : 0 < n := by
      rw [List.length_map, List.length_take] at h0
      omega
    obtain ⟨g, o, spot⟩ := x
    have hc := hcell 0 (by omega)
    have hspot : spot = none := by simpa [Addr.add] using World.cell?_spot hc
    subst hspot
    refine ⟨g, o, rfl, ?_, fun j y hy => ?_⟩
    · have := World.block_lt_of_cell? w _ hc
      simpa [Addr.add] using this
    · rw [List.getElem?_map] at hy
      obtain ⟨z, hzj, rfl⟩ := Option.map_eq_some_iff.1 hy
      have hjn : j < n ∧ zs[j]? = some z := by
        rw [List.getElem?_take] at hzj
        split at hzj
        · exact ⟨by assumption, hzj⟩
        · cases hzj
      have hzb := hb z (List.mem_of_getElem? hjn.2)
      have h2 := hcell j (by omega)
      rw [Addr.add_lit] at h2
      rw [h2, List.getD_eq_getElem?_getD, hjn.2]
      simp only [Option.getD_some]
      rw [Int.toNat_of_nonneg hzb.1]
end
section
open Go Go.RowKit Go.ChangeShapes Go.WideShapes Go.Deep
structure Vs (w : World) (B : Nat) (A : Option Addr) (n c : Nat) (vs : List Value) : Prop where
  len : vs.length = n
  cap : n ≤ c
  most : c ≤ 9223372036854775807
  rd : 0 < n → ∃ g o, A = some ⟨g, o, none⟩ ∧ g < B ∧ ∀ j v, vs[j]? = some v → w.cell? ⟨g, o + j, none⟩ = some v
  nil_ : A = none → c = 0
structure Act5 where
  kind : Nat := 0
  sec : Int := 0
  num : Int := 0
  bA : Option Addr := none
  bn : Nat := 0
  bc : Nat := 0
  bl : List Nat := []
  kA : Option Addr := none
  kn : Nat := 0
  kc : Nat := 0
  kl : List Bool := []
instance : Inhabited Act5 := ⟨{}⟩
def Act5.cells (a : Act5) : List Value := [.int .u8 (a.kind : Int), .int .i64 a.sec, .int .i64 a.num, .slice a.bA a.bn a.bc, .slice a.kA a.kn a.kc]
structure Act5.Ok (a : Act5) (w : World) (B : Nat) : Prop where
  kind : a.kind < 256
  sec : (Lit.int .i64 a.sec).wf = true
  num : (Lit.int .i64 a.num).wf = true
  bytes : Bs w B a.bA a.bn a.bc a.bl
  keep : Vs w B a.kA a.kn a.kc (a.kl.map .bool)
section
variable {H : Type} {enc : TypeId × Value → H} {P : Program} {w : World} {base : Nat} {spare : Nat → Bool} {held : Bool}
end
end
section
open Go Go.RowKit Go.ChangeShapes Go.WideShapes Go.Deep
structure Ls {α : Type} (cells : α → List Value) (N : Nat) (w : World) (B : Nat) (A : Option Addr) (n c : Nat) (l : List α) : Prop where
  len : l.length = n
  cap : n ≤ c
  most : c ≤ 9223372036854775807
  rd : 0 < n → ∃ g o, A = some ⟨g, o, none⟩ ∧ g < B ∧ ∀ j a, l[j]? = some a → ∀ k v, (cells a)[k]? = some v → w.cell? ⟨g, o + (j * N + k), none⟩ = some v
  nil_ : A = none → c = 0
theorem Ls.below {α : Type} {cells : α → List Value} {N : Nat} {w w' : World} {B : Nat} {A : Option Addr} {n c : Nat} {l : List α} (h : Ls cells N w B A n c l) (hb : Below B w w') : Ls cells N w' B A n c l :=
  ⟨h.len, h.cap, h.most, fun hn => by
    obtain ⟨g, o, e, hg, hc⟩ := h.rd hn
    exact ⟨g, o, e, hg, fun j a ha k v hv => (hb.cell (p := ⟨g, o + (j * N + k), none⟩) hg).trans (hc j a ha k v hv)⟩, h.nil_⟩
theorem Ls.at_ {α : Type} {cells : α → List Value} {N : Nat} {w : World} {B : Nat} {A : Option Addr} {n c : Nat} {l : List α} (h : Ls cells N w B A n c l) {j : Nat} (hj : j < n) :
    ∃ g o a, A = some ⟨g, o, none⟩ ∧ g < B ∧ l[j]? = some a ∧ ∀ k v, (cells a)[k]? = some v → w.cell? ⟨g, o + (j * N + k), none⟩ = some v := by
  obtain ⟨g, o, e, hg, hc⟩ := h.rd (by omega)
  have hj' : j < l.length := by rw [h.len]; exact hj
  have ha : l[j]? = some l[j] := List.getElem?_eq_getElem hj'
  exact ⟨g, o, l[j], e, hg, ha, fun k v hv => hc j _ ha k v hv⟩
section
variable {H : Type} {enc : TypeId × Value → H} {P : Program} {w : World} {base : Nat} {spare : Nat → Bool} {held : Bool}
theorem trod_list {α : Type} [Inhabited α] {cells : α → List Value} {N : Nat} {Ok : α → Prop} (hN : ∀ a, (cells a).length = N) (h0 : 0 < N) {t e : TypeId} (ht : P.underlying t = some (.slice e)) (hce : P.cellsOf e = N)
    (one : ∀ {fuel : Nat} {cs : List Value} {x : DataW H × List MemPlace}, DataW.trod enc P w base spare held fuel e cs = some x → ∃ a, cs = cells a ∧ Ok a) {fuel : Nat} {cs : List Value} {x : DataW H × List MemPlace} (h : DataW.trod enc P w base spare held fuel t cs = some x) :
    ∃ (A : Option Addr) (n c : Nat) (l : List α), cs = [.slice A n c] ∧ Ls cells N w w.heap.size A n c l ∧ ∀ a ∈ l, Ok a := by
  rcases open_slice ht h with ⟨rfl, _⟩ | ⟨a, len, cap, m, n, D, Pl, rfl, _, hl, hm, hmm, _, hi⟩
  · exact ⟨none, 0, 0, [], rfl, ⟨rfl, Nat.le_refl _, by omega, fun h => absurd h (by omega), fun _ => rfl⟩, fun a ha => (by cases ha)⟩
  · have hle : len ≤ m := by rw [hmm]; split <;> omega
    have each : ∀ i, i < len → ∃ b : α, (∀ k v, (cells b)[k]? = some v → w.cell? ((a.add (i * N)).add k) = some v) ∧ Ok b := fun i hil => by
      obtain ⟨cs', h1, h2⟩ := hi i (by omega)
      rw [hce] at h1
      obtain ⟨_, _, hcell⟩ := World.cells?_some h1
      obtain ⟨b, rfl, hb⟩ := one h2
      refine ⟨b, fun k v hv => ?_, hb⟩
      have hk5 : k < N := by rw [← hN b]; exact (List.getElem?_eq_some_iff.1 hv).1
      rw [hcell k hk5, hv]
    obtain ⟨f, hf⟩ := choose_lt each
    refine ⟨some a, len, cap, (List.range len).map f, rfl, ⟨by simp, hl, by unfold maxLen at hm; exact hm, fun hn => ?_, fun h => by cases h⟩, fun b hb => ?_⟩
    · obtain ⟨g, o, spot⟩ := a
      have hc := (hf 0 hn).1 0 _ (List.getElem?_eq_getElem (by rw [hN]; exact h0))
      have hspot : spot = none := by simpa [Addr.add] using World.cell?_spot hc
      subst hspot
      refine ⟨g, o, rfl, ?_, fun j b hb k v hv => ?_⟩
      · have := World.block_lt_of_cell? w _ hc
        simpa [Addr.add] using this
      · rw [List.getElem?_map] at hb
        obtain ⟨i, hi2, rfl⟩ := Option.map_eq_some_iff.1 hb
        obtain ⟨hjl, hji⟩ := List.getElem?_eq_some_iff.1 hi2
        simp at hjl hji
        subst hji
        have := (hf j hjl).1 k v hv
        rw [Addr.add_lit, Addr.add_lit, Nat.add_assoc] at this
        exact this
    · obtain ⟨i, hil, rfl⟩ := List.mem_map.1 hb
      exact (hf i (List.mem_range.1 hil)).2
theorem open_list {α : Type} [Inhabited α] {cells : α → List Value} {N : Nat} {Ok : α → Prop} (hN : ∀ a, (cells a).length = N) (h0 : 0 < N) {t e : TypeId} (ht : P.underlying t = some (.slice e)) (hce : P.cellsOf e = N)
    (one : ∀ {fuel : Nat} {cs : List Value} {x : DataW H × List MemPlace}, DataW.trod enc P w base spare held fuel e cs = some x → ∃ a, cs = cells a ∧ Ok a) {r : Reach} {b0 : Nat} {v : Value} {d : DataW H} {p : List MemPlace}
    (hv : Value.okWide P w r b0 t v) (h : DataW.Trod enc P w base spare held t v d p) : ∃ (A : Option Addr) (n c : Nat) (l : List α), v = .slice A n c ∧ Ls cells N w w.heap.size A n c l ∧ ∀ a ∈ l, Ok a := by
  obtain ⟨A, n, c, rfl⟩ := okWide_slice ht hv
  obtain ⟨fuel, hf⟩ := h
  obtain ⟨A', n', c', l, hcs, hl⟩ := trod_list hN h0 ht hce one hf
  simp [Value.cells] at hcs
  obtain ⟨rfl, rfl, rfl⟩ := hcs
  exact ⟨_, _, _, l, rfl, hl⟩
structure BalTy (P : Program) (e ti : TypeId) : Prop where
  fs : ∃ f0 f1 : Field, P.underlying e = some (.struct #[f0, f1]) ∧ (f0.type = ti ∧ f0.offset = 0) ∧ (f1.type = ti ∧ f1.offset = 1)
  cells : P.cellsOf e = 2
  one : P.cellsOf ti = 1
  i64 : P.underlying ti = some (.int .i64)
theorem trod_bal {e ti : TypeId} (T : BalTy P e ti) {fuel : Nat} {cs : List Value} {x : DataW H × List MemPlace} (h : DataW.trod enc P w base spare held fuel e cs = some x) : ∃ a b : Int, cs = [.int .i64 a, .int .i64 b] ∧ (Lit.int .i64 a).wf = true ∧ (Lit.int .i64 b).wf = true := by
  obtain ⟨f0, f1, hs, ⟨y0, o0⟩, y1, o1⟩ := T.fs
  obtain ⟨xs, n, _, _, hcl, hxl, hg⟩ := DataW.trod_struct hs h
  rw [T.cells] at hcl
  match cs, hcl, xs, hxl with
  | [c0, c1], _, [x0, x1], _ =>
    have g0 := hg 0 f0 rfl
    have g1 := hg 1 f1 rfl
    rw [y0, o0, T.one] at g0
    rw [y1, o1, T.one] at g1
    obtain ⟨a, e0, _, w0⟩ := DataW.trod_int T.i64 (show DataW.trod enc P w base spare held n ti [c0] = some x0 from g0)
    obtain ⟨b, e1, _, w1⟩ := DataW.trod_int T.i64 (show DataW.trod enc P w base spare held n ti [c1] = some x1 from g1)
    injection e0 with e0 _
    injection e1 with e1 _
    exact ⟨a, b, by rw [e0, e1], w0, w1⟩
structure Bal where
  x : Int := 0
  y : Int := 0
instance : Inhabited Bal := ⟨{}⟩
def Bal.cells (b : Bal) : List Value := [.int .i64 b.x, .int .i64 b.y]
structure StepU where
  p : Bool := false
  x : Int := 0
  y : Int := 0
  w : Int := 0
  kA : Option Addr := none
  kn : Nat := 0
  kc : Nat := 0
  kl : List Bool := []
instance : Inhabited StepU := ⟨{}⟩
def StepU.cells (s : StepU) : List Value := [.bool s.p, .int .i64 s.x, .int .i64 s.y, .int .i8 s.w, .slice s.kA s.kn s.kc]
structure StepU.Ok (s : StepU) (w : World) (B : Nat) : Prop where
  power : (Lit.int .i8 s.w).wf = true
  keep : Vs w B s.kA s.kn s.kc (s.kl.map .bool)
end
end
section
open Go Go.RowKit Go.ChangeShapes Go.WideShapes Go.Deep
theorem bal_tyB : BalTy Try.prog 26 3 := ⟨⟨_, _, Try.underlying26, ⟨rfl, rfl⟩, rfl, rfl⟩, by kernel_rfl, by kernel_rfl, Try.underlying3⟩
theorem open_balB {H : Type} {enc : TypeId × Value → H} {P : Program} {w : World} {base : Nat} {spare : Nat → Bool} {held : Bool} {e ti : TypeId} (T : BalTy P e ti) {r : Reach} {b0 : Nat} {v : Value} {d : DataW H} {p : List MemPlace} (hv : Value.okWide P w r b0 e v) (h : DataW.Trod enc P w base spare held e v d p) : ∃ a b : Int, v = .agg #[.int .i64 a, .int .i64 b] := by
  obtain ⟨f0, f1, hs, _⟩ := T.fs
  obtain ⟨cs, rfl, _⟩ := okWide_struct hs hv
  obtain ⟨fuel, hf⟩ := h
  obtain ⟨a, b, hcs, _⟩ := trod_bal T hf
  refine ⟨a, b, ?_⟩
  have e : (Value.cells (.agg cs)).toList = cs.toList := rfl
  rw [e] at hcs
  obtain ⟨cs⟩ := cs
  simp at hcs
  rw [hcs]
theorem open_t26 {H : Type} {enc : TypeId × Value → H} {w : World} {base : Nat} {sp : Nat → Bool} {held : Bool} {r : Reach} {b0 : Nat} {v : Value} {d : DataW H} {p : List MemPlace}
    (hv : Value.okWide Try.prog w r b0 26 v) (h : DataW.Trod enc Try.prog w base sp held 26 v d p) : ∃ a b : Int, v = .agg #[.int .i64 a, .int .i64 b] := open_balB bal_tyB hv h
theorem open_t39 {H : Type} {enc : TypeId × Value → H} {w : World} {base : Nat} {held : Bool} {r : Reach} {b0 : Nat} {v : Value} {d : DataW H} {p : List MemPlace}
    (hv : Value.okWide Try.prog w r b0 39 v) (h : DataW.Trod enc Try.prog w base (fun _ => true) held 39 v d p) : ∃ (A : Option Addr) (n c : Nat) (l : List Bal), v = .slice A n c ∧ Ls Bal.cells 2 w w.heap.size A n c l ∧ ∀ a ∈ l, True :=
  open_list (cells := Bal.cells) (N := 2) (Ok := fun _ => True) (fun _ => rfl) (by omega) Try.underlying39 (by kernel_rfl) (fun h => by
    obtain ⟨a, b, e, _⟩ := trod_bal bal_tyB h
    exact ⟨⟨a, b⟩, e, trivial⟩) hv h
end
section
open Go Go.RowKit
def ltB (a b : Bal) : Bool := decide (a.x < b.x ∨ a.x = b.x ∧ a.y < b.y)
theorem ltB_iff {a b : Bal} : ltB a b = true ↔ a.x < b.x ∨ a.x = b.x ∧ a.y < b.y := decide_eq_true_iff
theorem ltB_not {a b : Bal} : ltB a b = false ↔ ¬ (a.x < b.x ∨ a.x = b.x ∧ a.y < b.y) := decide_eq_false_iff_not
def upB (g : Bal) (l : List Bal) : Bal := l.foldl (fun g x => if ltB g x then x else g) g
def maxB : List Bal → Bal
  | [] => ⟨0, 0⟩
  | a :: l => upB a l
theorem upB_cons (g a : Bal) (l : List Bal) : upB g (a :: l) = upB (if ltB g a then a else g) l := rfl
theorem upB_skip {g : Bal} : ∀ {l : List Bal} {i : Nat}, (∀ (j : Nat) (b : Bal), j < i → l[j]? = some b → ltB g b = false) → upB g l = upB g (l.drop i)
  | l, 0, _ => by rw [List.drop_zero]
  | [], i + 1, _ => by rw [List.drop_nil]
  | a :: l, i + 1, h => by
    rw [upB_cons, h 0 a (by omega) rfl, if_neg (by decide), List.drop_succ_cons]
    exact upB_skip (l := l) (i := i) fun j b hj hb => h (j + 1) b (by omega) hb
theorem upB_none {g : Bal} {l : List Bal} (h : ∀ (j : Nat) (b : Bal), l[j]? = some b → ltB g b = false) : upB g l = g := by
  rw [upB_skip (l := l) (i := l.length) (fun j b _ hb => h j b hb), List.drop_length]
  rfl
theorem upB_take {g b : Bal} {l : List Bal} {i : Nat} (h : ∀ (j : Nat) (b : Bal), j < i → l[j]? = some b → ltB g b = false) (hb : l[i]? = some b) (hl : ltB g b = true) : upB g l = upB b (l.drop (i + 1)) := by
  rw [upB_skip (l := l) (i := i) h, List.drop_eq_getElem_cons (List.getElem?_eq_some_iff.1 hb).1, (List.getElem?_eq_some_iff.1 hb).2, upB_cons, if_pos hl]
def crowdB (n : Int) : Bool := decide (n = 3 ∨ n = 5 ∨ n = 7)
theorem crowdB_iff {n : Int} : crowdB n = true ↔ n = 3 ∨ n = 5 ∨ n = 7 := decide_eq_true_iff
def mayB_ (b : Bal) (n : Int) : Bool := crowdB n && (decide (b.x = 0 ∧ b.y = 0) || decide (1 ≤ b.x ∧ b.x ≤ 1099511627776 ∧ 0 ≤ b.y ∧ b.y < n))
theorem mayB_iff {b : Bal} {n : Int} : mayB_ b n = true ↔ (n = 3 ∨ n = 5 ∨ n = 7) ∧ ((b.x = 0 ∧ b.y = 0) ∨ (1 ≤ b.x ∧ b.x ≤ 1099511627776 ∧ 0 ≤ b.y ∧ b.y < n)) := by
  unfold mayB_
  rw [Bool.and_eq_true, Bool.or_eq_true, crowdB_iff, decide_eq_true_iff, decide_eq_true_iff]
def okB (b : Bal) (r n : Int) : Bool := mayB_ b n && decide (0 ≤ r ∧ r < n)
theorem okB_iff {b : Bal} {r n : Int} : okB b r n = true ↔ ((n = 3 ∨ n = 5 ∨ n = 7) ∧ ((b.x = 0 ∧ b.y = 0) ∨ (1 ≤ b.x ∧ b.x ≤ 1099511627776 ∧ 0 ≤ b.y ∧ b.y < n))) ∧ 0 ≤ r ∧ r < n := by
  unfold okB
  rw [Bool.and_eq_true, mayB_iff, decide_eq_true_iff]
def roundB (b : Bal) (r : Int) : Int := if b.x = 0 then 1 else if b.y < r then b.x else b.x + 1
def nextB (b : Bal) (r n : Int) : Bal := if okB b r n then (if roundB b r ≤ 1099511627776 then ⟨roundB b r, r⟩ else ⟨0, 0⟩) else ⟨0, 0⟩
def errB (b : Bal) (r n : Int) : Int := if okB b r n then (if roundB b r ≤ 1099511627776 then 0 else 4) else 2
end
section
open Go Go.RowKit
structure Mod (F : Nat → Prop) (w w' : World) : Prop where
  os : w'.os = w.os
  tape : w'.tape = w.tape
  output : w'.output = w.output
  size : w.heap.size ≤ w'.heap.size
  block : ∀ k, k < w.heap.size → ¬ F k → w'.heap[k]? = w.heap[k]?
section
variable {F G : Nat → Prop} {a b c w w' : World}
theorem Mod.refl (F : Nat → Prop) (w : World) : Mod F w w := ⟨rfl, rfl, rfl, Nat.le_refl _, fun _ _ _ => rfl⟩
theorem Mod.trans (h : Mod F a b) (k : Mod G b c) (hG : ∀ i, G i → F i ∨ a.heap.size ≤ i) : Mod F a c :=
  ⟨k.os.trans h.os, k.tape.trans h.tape, k.output.trans h.output, Nat.le_trans h.size k.size, fun i hi hf =>
    (k.block i (Nat.lt_of_lt_of_le hi h.size) fun hg => (hG i hg).elim hf fun hl => absurd hi (by omega)).trans (h.block i hi hf)⟩
theorem Mod.setCell (h : Mod F a b) {p : Addr} (hp : F p.block ∨ a.heap.size ≤ p.block) (v : Value) : Mod F a (b.setCell p v) :=
  ⟨h.os, h.tape, h.output, Nat.le_trans h.size (by simp [World.setCell]), fun k hk hf => (Below.heap_setCell _ _ _ _ (fun e => by
    subst e
    exact hp.elim hf fun hl => absurd hk (by omega))).trans (h.block k hk hf)⟩
theorem heap_mod {g : Nat} {o : Obj} (h : w.heap[g]? = some o) (k : Mod F w w') (hg : ¬ F g) : w'.heap[g]? = some o := (k.block g (Array.getElem?_eq_some_iff.1 h).1 hg).trans h
end
end
section
open Go Go.RowKit
theorem bal_one (w : World) (x y : Int) (t : TypeId) : (w.alloc (.cells #[.int .i64 x, .int .i64 y] t)).cell? ⟨w.heap.size, 0, none⟩ = some (.int .i64 x) ∧ (w.alloc (.cells #[.int .i64 x, .int .i64 y] t)).cell? ⟨w.heap.size, 1, none⟩ = some (.int .i64 y) :=
  ⟨cell_of_row _ w.heap.size 0 _ _ _ (heap_alloc_new w _), cell_of_row _ w.heap.size 1 _ _ _ (heap_alloc_new w _)⟩
set_option maxHeartbeats 600000 in
theorem isless_of (x y x' y' : Int) (w : World) : Calls Try.prog 12 #[.agg #[.int .i64 x, .int .i64 y], .agg #[.int .i64 x', .int .i64 y']] w fun e w' => e = .returned (.bool (ltB ⟨x, y⟩ ⟨x', y'⟩)) ∧ Ext w w' := by
  obtain ⟨r, hr⟩ : ∃ r, ltB ⟨x, y⟩ ⟨x', y'⟩ = r := ⟨_, rfl⟩
  rw [hr]
  have HX := Lib.hid (((Ext.refl w).alloc (.cells #[.int .i64 x, .int .i64 y] 37)).alloc (.cells #[.int .i64 x', .int .i64 y'] 26))
  have fin : ∀ b : Bool, ltB ⟨x, y⟩ ⟨x', y'⟩ = b → Ending.returned (Value.bool b) = .returned (.bool r) := fun b h => by rw [← h, hr]
  have FIN := Lib.hid fin
  clear fin hr
  by_cases h1 : x < x'
  · have HB : Hid (ltB ⟨x, y⟩ ⟨x', y'⟩ = true) := Lib.hid (ltB_iff.2 (.inl h1))
    go_enter Try.func12, Try.ntmps12
    go_wp2
    go_ret
    exact ⟨FIN.out _ HB.out, HX.out⟩
  · by_cases h2 : x = x'
    · by_cases h3 : y < y'
      · have HB : Hid (ltB ⟨x, y⟩ ⟨x', y'⟩ = true) := Lib.hid (ltB_iff.2 (.inr ⟨h2, h3⟩))
        have e2 : (x == x') = true := by simpa using h2
        clear h2
        go_enter Try.func12, Try.ntmps12
        go_wp2
        go_ret
        exact ⟨FIN.out _ HB.out, HX.out⟩
      · have HB : Hid (ltB ⟨x, y⟩ ⟨x', y'⟩ = false) := Lib.hid (ltB_not.2 (by dsimp only; omega))
        have e2 : (x == x') = true := by simpa using h2
        clear h2
        go_enter Try.func12, Try.ntmps12
        go_wp2
        go_ret
        exact ⟨FIN.out _ HB.out, HX.out⟩
    · have HB : Hid (ltB ⟨x, y⟩ ⟨x', y'⟩ = false) := Lib.hid (ltB_not.2 (by dsimp only; omega))
      have e2 : (x == x') = false := by simpa using h2
      clear h2
      go_enter Try.func12, Try.ntmps12
      go_wp2
      go_ret
      exact ⟨FIN.out _ HB.out, HX.out⟩
set_option maxHeartbeats 600000 in
theorem less_of (x y x' y' : Int) (w : World) : Calls Try.prog 6 #[.agg #[.int .i64 x, .int .i64 y], .agg #[.int .i64 x', .int .i64 y']] w fun e w' => e = .returned (.bool (ltB ⟨x, y⟩ ⟨x', y'⟩)) ∧ Ext w w' := by
  have HX := Lib.hid (((Ext.refl w).alloc (.cells #[.int .i64 x, .int .i64 y] 26)).alloc (.cells #[.int .i64 x', .int .i64 y'] 26))
  go_enter Try.func6, Try.ntmps6
  go_wp2_with fail
  refine (isless_of _ _ _ _ _).mono ?_
  rintro e w1 ⟨rfl, hx⟩
  have HX := Lib.hid (HX.out.trans hx)
  clear hx
  go_wp2_with fail
  go_ret
  exact ⟨rfl, HX.out⟩
theorem Ls.bal {w : World} {B n c : Nat} {A : Option Addr} {l : List Bal} (h : Ls Bal.cells 2 w B A n c l) {j : Nat} (hj : j < n) : ∃ g o b, A = some ⟨g, o, none⟩ ∧ l[j]? = some b ∧ w.cell? ⟨g, o + j * 2, none⟩ = some (.int .i64 b.x) ∧ w.cell? ⟨g, o + j * 2 + 1, none⟩ = some (.int .i64 b.y) := by
  obtain ⟨g, o, b, h1, _, h2, h3⟩ := h.at_ hj
  exact ⟨g, o, b, h1, h2, h3 0 _ rfl, h3 1 _ rfl⟩
def FirstB (b : Bal) (l : List Bal) (z : Int) : Prop := (z = -1 ∧ ∀ (j : Nat) (a : Bal), l[j]? = some a → ltB b a = false) ∨ ∃ (i : Nat) (a : Bal), z = (i : Nat) ∧ l[i]? = some a ∧ ltB b a = true ∧ ∀ (j : Nat) (a' : Bal), j < i → l[j]? = some a' → ltB b a' = false
set_option maxHeartbeats 600000 in
theorem indexB_of (x y : Int) (A : Option Addr) (n c : Nat) (l : List Bal) (w : World) (h : Ls Bal.cells 2 w w.heap.size A n c l) :
    Calls Try.prog 13 #[.slice A n c, .func (.func 12) #[.agg #[.int .i64 x, .int .i64 y]] #[]] w fun e w' => ∃ z, e = .returned (.int .i64 z) ∧ FirstB ⟨x, y⟩ l z ∧ Ext w w' := by
  have hcap := h.cap
  have hmost := h.most
  have H := Lib.hid h
  have HLN := Lib.hid h.len
  clear h
  go_enter Try.func13, Try.ntmps13
  go_wp2_with fail
  go_loopw [8] (fun i wr => ∃ j : Nat, j ≤ n ∧ i = .int .i64 (j : Int) ∧ Hid (∀ (k : Nat) (a : Bal), k < j → l[k]? = some a → ltB ⟨x, y⟩ a = false) ∧ Hid (Ext w wr)) (fun i _ => n - (intOf i).toNat)
  case atStart => exact ⟨0, Nat.zero_le _, rfl, Lib.hid (fun k a hk => absurd hk (Nat.not_lt_zero _)), Lib.hid (Ext.refl _)⟩
  case round =>
    obtain ⟨j, hj, rfl, HN, HX⟩ := hrel
    by_cases hlt : j < n
    · obtain ⟨g, o, b, rfl, hb, c0, c1⟩ := Ls.bal (H.out.below HX.out) hlt
      obtain ⟨bx, by_⟩ := b
      dsimp only at c0 c1
      have HB := Lib.hid hb
      have HC := Lib.hid (isless_of x y bx by_ wr)
      obtain ⟨r, hr⟩ : ∃ r, ltB ⟨x, y⟩ ⟨bx, by_⟩ = r := ⟨_, rfl⟩
      rw [hr] at HC
      have HR := Lib.hid hr
      clear hb hr
      cases r with
      | true =>
        go_wp2_with fail
        refine HC.out.mono ?_
        rintro e w1 ⟨rfl, hx⟩
        have HX := Lib.hid (HX.out.trans hx)
        clear hx c0 c1 HC
        go_wp2_with fail
        go_ret
        exact ⟨_, rfl, .inr ⟨j, _, rfl, HB.out, HR.out, HN.out⟩, HX.out⟩
      | false =>
        go_wp2_with fail
        refine HC.out.mono ?_
        rintro e w1 ⟨rfl, hx⟩
        have HX := Lib.hid (HX.out.trans hx)
        clear hx c0 c1 HC
        go_wp2_with fail
        go_roundw
        case rel =>
          refine ⟨j + 1, by omega, by go_num, Lib.hid (fun k a hk ha => ?_), HX⟩
          by_cases hkj : k = j
          · subst hkj
            rw [HB.out] at ha
            injection ha with ha
            rw [← ha]
            exact HR.out
          · exact HN.out k a (by omega) ha
        case measure => simp [intOf]; omega
    · have hjn : j = n := by omega
      subst hjn
      go_wp2_with fail
      go_ret
      exact ⟨_, rfl, .inl ⟨rfl, fun k a ha => HN.out k a (by have := (List.getElem?_eq_some_iff.1 ha).1; rw [HLN.out] at this; exact this) ha⟩, HX.out⟩
end
section
open Go Go.RowKit
theorem bal_eql_zero (x y : Int) (w : World) : (binOp .eql 26 (.agg #[.int .i64 x, .int .i64 y]) (.agg #[.int .i64 0, .int .i64 0])).run Try.prog w = .ok (.bool (decide (x = 0 ∧ y = 0))) w := by
  have hf : Try.prog.stoodInHeld 26 = false := by kernel_rfl
  have hu := Try.underlying26
  rw [run_eql_struct, run_equalIn_agg _ _ _ _ _ (by rw [Program.fieldsOf, hu]) hf, Program.fieldsOf, hu]
  simp [Op.eqFields, go_sem]
  by_cases h1 : x = 0
  · by_cases h2 : y = 0
    · simp [h1, h2]
    · simp [h1, h2]
  · simp [h1]
set_option maxHeartbeats 400000 in
theorem maysize_of (n : Int) (w : World) : Calls Try.prog 14 #[.int .i64 n] w fun e w' => e = .returned (.bool (crowdB n)) ∧ w = w' := by
  by_cases h3 : n = 3
  · subst h3
    go_enter Try.func14, Try.ntmps14
    go_wp2
    go_ret
    exact ⟨rfl, rfl⟩
  by_cases h5 : n = 5
  · subst h5
    go_enter Try.func14, Try.ntmps14
    go_wp2
    go_ret
    exact ⟨rfl, rfl⟩
  by_cases h7 : n = 7
  · subst h7
    go_enter Try.func14, Try.ntmps14
    go_wp2
    go_ret
    exact ⟨rfl, rfl⟩
  have hc : crowdB n = false := decide_eq_false (by omega)
  rw [hc]
  have e3 : (n == 3) = false := by simpa using h3
  have e5 : (n == 5) = false := by simpa using h5
  have e7 : (n == 7) = false := by simpa using h7
  clear h3 h5 h7 hc
  go_enter Try.func14, Try.ntmps14
  go_wp2
  go_ret
  exact ⟨rfl, rfl⟩
def inB (a n b : Int) : Bool := decide (a ≤ n ∧ n ≤ b)
theorem inB_iff {a n b : Int} : inB a n b = true ↔ a ≤ n ∧ n ≤ b := decide_eq_true_iff
set_option maxHeartbeats 400000 in
theorem bwithin_of (a n b : Int) (w : World) : Calls Try.prog 15 #[.int .i64 a, .int .i64 n, .int .i64 b] w fun e w' => e = .returned (.bool (inB a n b)) ∧ w = w' := by
  by_cases h1 : a ≤ n
  · by_cases h2 : n ≤ b
    · have hd : inB a n b = true := inB_iff.2 ⟨h1, h2⟩
      rw [hd]
      clear hd
      go_enter Try.func15, Try.ntmps15
      go_wp2
      go_ret
      exact ⟨rfl, rfl⟩
    · have hd : inB a n b = false := by unfold inB; exact decide_eq_false fun h => h2 h.2
      rw [hd]
      clear hd
      go_enter Try.func15, Try.ntmps15
      go_wp2
      go_ret
      exact ⟨rfl, rfl⟩
  · have hd : inB a n b = false := by unfold inB; exact decide_eq_false fun h => h1 h.1
    rw [hd]
    clear hd
    go_enter Try.func15, Try.ntmps15
    go_wp2
    go_ret
    exact ⟨rfl, rfl⟩
def repB (i n : Int) : Bool := crowdB n && inB 0 i (n - 1)
theorem repB_iff {i n : Int} : repB i n = true ↔ (n = 3 ∨ n = 5 ∨ n = 7) ∧ 0 ≤ i ∧ i < n := by
  unfold repB
  rw [Bool.and_eq_true, crowdB_iff, inB_iff]
  omega
set_option maxHeartbeats 400000 in
theorem isreplica_of (i n : Int) (w : World) : Calls Try.prog 10 #[.int .i64 i, .int .i64 n] w fun e w' => e = .returned (.bool (repB i n)) ∧ w = w' := by
  have HM := Lib.hid (maysize_of n w)
  have HW := Lib.hid (bwithin_of 0 i (n - 1) w)
  unfold repB
  by_cases hc : crowdB n = true
  · have hb := crowdB_iff.1 hc
    have h1 : 1 ≤ n := by omega
    have h2 : n ≤ 7 := by omega
    rw [hc] at HM ⊢
    rw [Bool.true_and]
    generalize inB 0 i (n - 1) = r at HW ⊢
    clear hc hb
    go_enter Try.func10, Try.ntmps10
    go_wp2_with fail
    refine HM.out.mono ?_
    rintro e w1 ⟨rfl, rfl⟩
    go_wp2_with fail
    refine HW.out.mono ?_
    rintro e w1 ⟨rfl, rfl⟩
    go_wp2_with fail
    go_ret
    exact ⟨rfl, rfl⟩
  · have hc : crowdB n = false := by simpa using hc
    rw [hc] at HM ⊢
    rw [Bool.false_and]
    clear hc HW
    go_enter Try.func10, Try.ntmps10
    go_wp2_with fail
    refine HM.out.mono ?_
    rintro e w1 ⟨rfl, rfl⟩
    go_wp2_with fail
    go_ret
    exact ⟨rfl, rfl⟩
theorem may_zero {x y n : Int} (h : x = 0 ∧ y = 0) : mayB_ ⟨x, y⟩ n = crowdB n := by
  unfold mayB_
  rw [decide_eq_true (p := (⟨x, y⟩ : Bal).x = 0 ∧ (⟨x, y⟩ : Bal).y = 0) h, Bool.true_or, Bool.and_true]
theorem may_else {x y n : Int} (h : ¬ (x = 0 ∧ y = 0)) : mayB_ ⟨x, y⟩ n = (repB y n && inB 1 x 1099511627776) := by
  rw [Bool.eq_iff_iff, mayB_iff, Bool.and_eq_true, repB_iff, inB_iff]
  dsimp only
  omega
set_option maxHeartbeats 600000 in
theorem mayB_of (x y n : Int) (w : World) : Calls Try.prog 11 #[.agg #[.int .i64 x, .int .i64 y], .int .i64 n] w fun e w' => e = .returned (.bool (mayB_ ⟨x, y⟩ n)) ∧ Ext w w' := by
  have HX := Lib.hid ((Ext.refl w).alloc (.cells #[.int .i64 x, .int .i64 y] 26))
  have hq := bal_eql_zero x y
  have hg : Try.prog.eqGuardType Try.prog.depth 26 = false := by kernel_rfl
  by_cases h0 : x = 0 ∧ y = 0
  · rw [may_zero h0]
    rw [decide_eq_true h0] at hq
    clear h0
    go_enter Try.func11, Try.ntmps11
    go_wp2_with fail
    refine (maysize_of n _).mono ?_
    rintro e w1 ⟨rfl, rfl⟩
    go_wp2_with fail
    go_ret
    exact ⟨rfl, HX.out⟩
  · rw [may_else h0]
    rw [decide_eq_false h0] at hq
    clear h0
    obtain ⟨r, hr⟩ : ∃ r, repB y n = r := ⟨_, rfl⟩
    have HR := Lib.hid (fun V => isreplica_of y n V)
    rw [hr] at HR ⊢
    clear hr
    cases r with
    | true =>
      rw [Bool.true_and]
      go_enter Try.func11, Try.ntmps11
      go_wp2_with fail
      refine (HR.out _).mono ?_
      rintro e w1 ⟨rfl, rfl⟩
      go_wp2_with fail
      refine (bwithin_of 1 x 1099511627776 _).mono ?_
      rintro e w1 ⟨rfl, rfl⟩
      go_wp2_with fail
      go_ret
      exact ⟨rfl, HX.out⟩
    | false =>
      rw [Bool.false_and]
      go_enter Try.func11, Try.ntmps11
      go_wp2_with fail
      refine (HR.out _).mono ?_
      rintro e w1 ⟨rfl, rfl⟩
      go_wp2_with fail
      go_ret
      exact ⟨rfl, HX.out⟩
theorem okB_rep {x y r n : Int} : okB ⟨x, y⟩ r n = (repB r n && mayB_ ⟨x, y⟩ n) := by
  rw [Bool.eq_iff_iff, Bool.and_eq_true, repB_iff, okB_iff, mayB_iff]
  dsimp only
  omega
end
section
open Go Go.RowKit
theorem ext_of_cellB {w w' : World} {g i : Nat} {v : Value} (h : Ext w w') (hc : w.cell? ⟨g, i, none⟩ = some v) : w'.cell? ⟨g, i, none⟩ = some v := (Below.cell h (p := ⟨g, i, none⟩) (World.block_lt_of_cell? w _ hc)).trans hc
theorem ballot_info : (Try.prog.info? 26).map (fun i => (i.zero, i.size, i.bytes)) = some (some (.agg #[.int .i64 0, .int .i64 0]), 2, 16) := by kernel_rfl
theorem ballot_size (w : World) : (sizeOf (Try.prog.elem 39)).run Try.prog w = .ok 2 w := by
  have ht : Try.prog.elem 39 = 26 := by kernel_rfl
  obtain ⟨i0, hi, _, hz1, _⟩ := info_parts ballot_info
  rw [ht]
  simp [Go.sizeOf, typeInfo, hi, hz1]
theorem cutB (g o n cp : Nat) (l : Int) (q : Nat) (hq : l = (q : Int)) (hl : q ≤ n) (hc : n ≤ cp) : ∃ o', (0 < n - q → o' = o + q * 2) ∧ ∀ w, (Instr.slice 39 (.slice (some ⟨g, o, none⟩) n cp) (some (.int .i64 l)) none none).run Try.prog w = .ok (.slice (some ⟨g, o', none⟩) (n - q) (cp - q)) w := by
  subst hq
  refine ⟨if cp = q then o else o + q * 2, fun h => by rw [if_neg (by omega)], fun w => ?_⟩
  have ht : Try.prog.elem 39 = 26 := by kernel_rfl
  rw [run_slice_l w 39 (some ⟨g, o, none⟩) n cp (by rw [ht]; exact Try.underlying39) .i64 (q : Int) (by omega) (by omega), ballot_size]
  simp only [Result.andThen, sliced, Int.toNat_natCast]
  split <;> simp [Addr.add]
theorem Ls.dropB {w : World} {B g o o' n c q : Nat} {l : List Bal} (h : Ls Bal.cells 2 w B (some ⟨g, o, none⟩) n c l) (hq : q ≤ n) (ho : 0 < n - q → o' = o + q * 2) : Ls Bal.cells 2 w B (some ⟨g, o', none⟩) (n - q) (c - q) (l.drop q) := by
  have hc := h.cap
  have hm := h.most
  refine ⟨by rw [List.length_drop, h.len], by omega, by omega, fun hn => ?_, fun e => by cases e⟩
  obtain ⟨g', o1, e, hg, hcell⟩ := h.rd (by omega)
  injection e with e
  injection e with e1 e2
  subst e1 e2
  refine ⟨g, o', rfl, hg, fun j a ha k v hv => ?_⟩
  rw [List.getElem?_drop] at ha
  rw [ho hn, show o + q * 2 + (j * 2 + k) = o + ((q + j) * 2 + k) by omega]
  exact hcell _ a ha k v hv
theorem Ls.moreB {α : Type} {cells : α → List Value} {N : Nat} {w : World} {B B' : Nat} {A : Option Addr} {n c : Nat} {l : List α} (h : Ls cells N w B A n c l) (hB : B ≤ B') : Ls cells N w B' A n c l :=
  ⟨h.len, h.cap, h.most, fun hn => by
    obtain ⟨g, o, e, hg, hc⟩ := h.rd hn
    exact ⟨g, o, e, by omega, hc⟩, h.nil_⟩
theorem keep_rowB {w w' : World} {b : Nat} {o : Obj} (k : Ext w w') (h : w.heap[b]? = some o) : w'.heap[b]? = some o := (k.block b (Array.getElem?_eq_some_iff.1 h).1).trans h
theorem row_setB {w : World} {g t : Nat} {fr : Nat × Nat} {cs cs' : Array Value} (i : Nat) (h : w.heap[g]? = some (.cells cs t fr)) (x : Value) (e : cs.setIfInBounds i x = cs') : (w.setCell ⟨g, i, none⟩ x).heap[g]? = some (.cells cs' t fr) := by
  subst e
  rw [setCell_eq_setRow w g i cs t fr x h]
  exact setRow_heap w g _ _ _ _ h
theorem bal_store {w : World} {b : Nat} {x y : Int} {t : TypeId} (x' y' : Int) (h : w.heap[b]? = some (.cells #[.int .i64 x, .int .i64 y] t (0, 0))) : ((w.setCell ⟨b, 0, none⟩ (.int .i64 x')).setCell ⟨b, 1, none⟩ (.int .i64 y')).heap[b]? = some (.cells #[.int .i64 x', .int .i64 y'] t (0, 0)) := row_setB 1 (row_setB 0 h (.int .i64 x') rfl) (.int .i64 y') rfl
theorem bal_stored {w : World} {b : Nat} (x' y' : Int) {b' : Nat} {o : Obj} (hb : b' ≠ b) (h' : w.heap[b']? = some o) : ((w.setCell ⟨b, 0, none⟩ (.int .i64 x')).setCell ⟨b, 1, none⟩ (.int .i64 y')).heap[b']? = some o := by
  have m1 : Mod (fun k => k = b) w (w.setCell ⟨b, 0, none⟩ (.int .i64 x')) := Mod.setCell (F := fun k => k = b) (Mod.refl (fun k => k = b) w) (p := ⟨b, 0, none⟩) (.inl rfl) _
  have m2 : Mod (fun k => k = b) (w.setCell ⟨b, 0, none⟩ (.int .i64 x')) ((w.setCell ⟨b, 0, none⟩ (.int .i64 x')).setCell ⟨b, 1, none⟩ (.int .i64 y')) := Mod.setCell (F := fun k => k = b) (Mod.refl (fun k => k = b) _) (p := ⟨b, 1, none⟩) (.inl rfl) _
  exact heap_mod (heap_mod h' m1 hb) m2 hb
def lenOf : Value → Nat
  | .slice _ n _ => n
  | _ => 0
theorem bal_row {w : World} {b : Nat} {x y : Int} {t : TypeId} (h : w.heap[b]? = some (.cells #[.int .i64 x, .int .i64 y] t (0, 0))) : w.cell? ⟨b, 0, none⟩ = some (.int .i64 x) ∧ w.cell? ⟨b, 1, none⟩ = some (.int .i64 y) ∧ w.frozen? ⟨b, 0, none⟩ = false ∧ w.frozen? ⟨b, 1, none⟩ = false :=
  ⟨cell_of_row w b 0 _ _ _ h, cell_of_row w b 1 _ _ _ h, frozen_of_row w b 0 _ _ h, frozen_of_row w b 1 _ _ h⟩
set_option maxHeartbeats 600000 in
theorem maxB_of (A : Option Addr) (n c : Nat) (l : List Bal) (w : World) (h : Ls Bal.cells 2 w w.heap.size A n c l) :
    Calls Try.prog 8 #[.slice A n c] w fun e w' => e = .returned (.agg #[.int .i64 (maxB l).x, .int .i64 (maxB l).y]) ∧ Ext w w' := by
  have hcap := h.cap
  have hmost := h.most
  have H := Lib.hid h
  have HLN := Lib.hid h.len
  clear h
  by_cases hn : n = 0
  · subst hn
    have hl : l = [] := List.length_eq_zero_iff.1 HLN.out
    subst hl
    go_enter Try.func8, Try.ntmps8
    go_wp2_with fail
    refine bodyPost_ret (v := .agg #[.int .i64 0, .int .i64 0]) (by simp [results, Try.results8, go_sem, (bal_one w 0 0 26).1, (bal_one w 0 0 26).2]) rfl ?_
    exact ⟨rfl, (Ext.refl w).alloc _⟩
  · obtain ⟨g, o, b, rfl, hb, c0, c1⟩ := Ls.bal H.out (show 0 < n by omega)
    obtain ⟨bx, by_⟩ := b
    dsimp only at c0 c1
    have hn1 : 0 < n := by omega
    have hn0 : ((n : Int) == 0) = false := by simpa using hn
    have HC := Lib.hid (And.intro c0 c1)
    obtain ⟨o1, ho1, hcut⟩ := cutB g o n c 1 1 rfl hn1 hcap
    have HO1 := Lib.hid ho1
    clear hn ho1
    go_enter Try.func8, Try.ntmps8
    go_wp2_with fail
    go_region_held3 (fun w' => w'.cell? ⟨g, o, none⟩ = some (.int .i64 bx) ∧ w'.cell? ⟨g, o + 1, none⟩ = some (.int .i64 by_))
      (exact ⟨ext_of_cellB (by repeat (first | exact Ext.refl _ | refine Ext.drew ?_ | refine Ext.alloc ?_ _ | refine Ext.setCell ?_ (by simp) _)) HC.out.1, ext_of_cellB (by repeat (first | exact Ext.refl _ | refine Ext.drew ?_ | refine Ext.alloc ?_ _ | refine Ext.setCell ?_ (by simp) _)) HC.out.2⟩)
      (fail)
    have hr3 : (((w.alloc (Obj.cells #[Value.int .i64 0, Value.int .i64 0] 26)).alloc (Obj.cells #[Value.int .i64 bx, Value.int .i64 by_] 26)).drew).heap[w.heap.size + 1]? = some (.cells #[.int .i64 bx, .int .i64 by_] 26 (0, 0)) := by
      have := heap_alloc_new (w.alloc (Obj.cells #[Value.int .i64 0, Value.int .i64 0] 26)) (Obj.cells #[Value.int .i64 bx, Value.int .i64 by_] 26)
      have e : (w.alloc (Obj.cells #[Value.int .i64 0, Value.int .i64 0] 26)).heap.size = w.heap.size + 1 := by simp
      rw [e] at this
      exact (((Ext.refl ((w.alloc (Obj.cells #[Value.int .i64 0, Value.int .i64 0] 26)).alloc (Obj.cells #[Value.int .i64 bx, Value.int .i64 by_] 26))).drew).block _ (by simp)).trans this
    have hr2 : (((w.alloc (Obj.cells #[Value.int .i64 0, Value.int .i64 0] 26)).alloc (Obj.cells #[Value.int .i64 bx, Value.int .i64 by_] 26)).drew).heap[w.heap.size]? = some (.cells #[.int .i64 0, .int .i64 0] 26 (0, 0)) := by
      have h1 := heap_alloc_new w (Obj.cells #[Value.int .i64 0, Value.int .i64 0] 26)
      have h2 := ((Ext.refl (w.alloc (Obj.cells #[Value.int .i64 0, Value.int .i64 0] 26))).alloc (Obj.cells #[Value.int .i64 bx, Value.int .i64 by_] 26)).drew
      exact (h2.block _ (by simp)).trans h1
    have hx0 : Ext w (((w.alloc (Obj.cells #[Value.int .i64 0, Value.int .i64 0] 26)).alloc (Obj.cells #[Value.int .i64 bx, Value.int .i64 by_] 26)).drew) := (((Ext.refl w).alloc _).alloc _).drew
    generalize (((w.alloc (Obj.cells #[Value.int .i64 0, Value.int .i64 0] 26)).alloc (Obj.cells #[Value.int .i64 bx, Value.int .i64 by_] 26)).drew) = W0 at *
    obtain ⟨b2, hb2⟩ : ∃ b2, w.heap.size = b2 := ⟨_, rfl⟩
    rw [hb2] at hr2 hr3 ⊢
    have HR3 := Lib.hid hr3
    have HR2 := Lib.hid hr2
    have HX0 := Lib.hid hx0
    have HB2 := Lib.hid hb2
    have HMX : Hid (maxB l = upB ⟨bx, by_⟩ (l.drop 1)) := Lib.hid (by
      cases l with
      | nil => cases hb
      | cons a t =>
        injection hb with hb
        subst hb
        rfl)
    clear hr3 hr2 hx0 hb2 hb c0 c1 hcut HC
    go_wp2_with fail
    go_loopw [4] (fun v wr => ∃ (k o' : Nat) (x y : Int), 1 ≤ k ∧ k ≤ n ∧ v = .slice (some ⟨g, o', none⟩) (n - k) (c - k) ∧ Hid (0 < n - k → o' = o + k * 2) ∧ Hid (maxB l = upB ⟨x, y⟩ (l.drop k)) ∧ Hid (wr.heap[b2 + 1]? = some (.cells #[.int .i64 x, .int .i64 y] 26 (0, 0))) ∧ Hid (wr.heap[b2]? = some (.cells #[.int .i64 0, .int .i64 0] 26 (0, 0))) ∧ Hid (Ext w wr)) (fun v _ => lenOf v)
    case atStart => exact ⟨1, o1, bx, by_, Nat.le_refl _, hn1, rfl, by simpa using HO1, HMX, HR3, HR2, HX0⟩
    case round =>
      obtain ⟨k, o', x, y, hk1, hkn, rfl, HO, HM, HR3, HR2, HX⟩ := hrel
      obtain ⟨e0, e1, e2, e3⟩ := bal_row HR3.out
      have hsz := HX.out.size
      have HLS : Hid (Ls Bal.cells 2 wr wr.heap.size (some ⟨g, o', none⟩) (n - k) (c - k) (l.drop k)) := Lib.hid (((H.out.dropB hkn HO.out).below HX.out).moreB hsz)
      go_wp2_with fail
      refine (indexB_of x y _ _ _ _ _ HLS.out).mono ?_
      rintro e w1 ⟨z, rfl, hz, hx⟩
      have HR3 := Lib.hid (keep_rowB hx HR3.out)
      have HR2 := Lib.hid (keep_rowB hx HR2.out)
      have HX := Lib.hid (HX.out.trans hx)
      clear e0 e1 e2 e3
      obtain ⟨e0, e1, e2, e3⟩ := bal_row HR3.out
      obtain ⟨d0, d1, d2, d3⟩ := bal_row HR2.out
      rcases hz with ⟨rfl, hz⟩ | ⟨i, a, rfl, ha, hl, hz⟩
      · have HE : Hid (maxB l = ⟨x, y⟩) := Lib.hid (HM.out.trans (upB_none hz))
        clear hz hx
        go_wp2_with fail
        obtain ⟨f0, f1, _, _⟩ := bal_row (bal_store x y HR2.out)
        refine bodyPost_ret (v := .agg #[.int .i64 x, .int .i64 y]) (by simp [results, Try.results8, go_sem, f0, f1]) rfl ?_
        have hb := HB2.out
        exact ⟨by rw [HE.out], (HX.out.setCell (p := ⟨b2, 0, none⟩) (by rw [hb]; exact Nat.le_refl _) _).setCell (p := ⟨b2, 1, none⟩) (by rw [hb]; exact Nat.le_refl _) _⟩
      · have HE : Hid (maxB l = upB a (l.drop (k + i + 1))) := Lib.hid (by rw [HM.out, upB_take hz ha hl, List.drop_drop, Nat.add_assoc])
        have hkl : k + i < n := by
          have := (List.getElem?_eq_some_iff.1 ha).1
          rw [List.length_drop, HLN.out] at this
          omega
        have ho' : o' = o + k * 2 := HO.out (by omega)
        have ha' : l[k + i]? = some a := by rw [List.getElem?_drop] at ha; exact ha
        obtain ⟨g', o2, a', eA, ha2, c0, c1⟩ := Ls.bal (H.out.below HX.out) hkl
        injection eA with eA
        injection eA with eA1 eA2
        subst eA1 eA2
        rw [ha'] at ha2
        injection ha2 with ha2
        subst ha2
        obtain ⟨ax, ay⟩ := a
        dsimp only at c0 c1
        obtain ⟨q, hq⟩ : ∃ q, o + (k + i) * 2 = q := ⟨_, rfl⟩
        have hqi : o' + i * 2 = q := by omega
        rw [hq] at c0 c1
        have d0' : w1.cell? ⟨g, o' + i * 2, none⟩ = some (.int .i64 ax) := by rw [hqi]; exact c0
        have d1' : w1.cell? ⟨g, o' + i * 2 + 1, none⟩ = some (.int .i64 ay) := by rw [hqi]; exact c1
        obtain ⟨o3, ho3, hcut⟩ := cutB g o' (n - k) (c - k) ((i : Int) + 1) (i + 1) (by omega) (by omega) (by omega)
        have HO3 : Hid (0 < n - (k + i + 1) → o3 = o + (k + i + 1) * 2) := Lib.hid (fun h => by rw [ho3 (by omega)]; omega)
        have hin : i < n - k := by omega
        have hqq := hq
        clear hz hx ha hl ha' hq hqi c0 c1 ho' ho3 hqq d0 d1 d2 d3
        go_wp2_with fail
        go_region
        have hb := HB2.out
        have HR3n := Lib.hid (keep_rowB ((Ext.refl _).drew) (bal_store ax ay HR3.out))
        have HR2n := Lib.hid (keep_rowB ((Ext.refl _).drew) (bal_stored ax ay (show b2 ≠ b2 + 1 by omega) HR2.out))
        have HXn := Lib.hid ((HX.out.setCell (p := ⟨b2 + 1, 0, none⟩) (by show w.heap.size ≤ b2 + 1; omega) (.int .i64 ax)).setCell (p := ⟨b2 + 1, 1, none⟩) (by show w.heap.size ≤ b2 + 1; omega) (.int .i64 ay)).drew
        generalize ((w1.setCell ⟨b2 + 1, 0, none⟩ (Value.int .i64 ax)).setCell ⟨b2 + 1, 1, none⟩ (Value.int .i64 ay)).drew = W2 at *
        clear d0' d1' e0 e1 e2 e3 hb
        go_wp2_with fail
        go_roundw
        case rel => exact ⟨k + i + 1, o3, ax, ay, by omega, by omega, by rw [show n - k - (i + 1) = n - (k + i + 1) by omega, show c - k - (i + 1) = c - (k + i + 1) by omega], HO3, HE, HR3n, HR2n, HXn⟩
        case measure => simp [lenOf]; omega
end
end Go.Proofs.Ytgcinagkbdcgiab
