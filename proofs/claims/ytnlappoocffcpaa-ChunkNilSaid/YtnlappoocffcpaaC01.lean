/-
  What it means that a slice of bytes in memory reads as a list of numbers, and how that is carried along; no program.
-/
import Derived.Test.YtnlappoocffcpaaC00
import Derived.Below
import Derived.Laws.OwnMore
import Derived.Deep.AppendLies
import Derived.Deep.Draws
import Derived.WalkKit
import Derived.Test.YtnlappoocffcpaaProg
import Derived.WalkSpells
import Derived.OwnWalk
import Derived.Laws.AppendOwnNone
import Derived.Lib.Hide
import Derived.BigQuiet
import Derived.Deep.QuietTactic
import Derived.Outline
import Derived.Tactics
import Derived.WalkLawsBesides
import Derived.Lib.SliceRun
import Derived.Shelf.Bytes.SlCountOne
import Derived.Shelf.Bytes.SlSmallAll
import Derived.Deep.RegionHeld3
import Derived.Laws.Tables
import Derived.Laws.CopyOwn
import Derived.IntWalk
import Derived.Lib.AppendZeros
import Derived.Laws.Bits64
import Derived.Deep.DeepFit
import Derived.Laws.BitsAllLaws
import Derived.Lib.SmallJoins
import Derived.Deep.MidRow
import Derived.LaidEqlPtr
import Derived.Deep.WholeRow
import Derived.StillTailTactics
import Derived.ProofKit
import Derived.OpenShut
import Derived.Deep.Slices
import Derived.Deep.Fields
import Derived.RangeFuncNested
import Derived.RangeFuncBound
import Derived.RangeFuncCalls
import Derived.RangeFuncLeaves
import Derived.Shelf.Abstract
import Derived.Shelf.RegionOpen
import Derived.OwnWalkIn
import Derived.TacticsInMore
import Derived.LoopNIn
import Derived.LoopIn
import Derived.Deep.DeepCutAuto
import Derived.OrdersIn
import Derived.TacticsIn
import Derived.Laws.IdiomArrays
import Derived.Maps.AppendAt
import Derived.Maps.OwnSet
import Derived.Maps.Keyed
namespace Go.Proofs.Ytnlappoocffcpaa
set_option maxRecDepth 100000
section
open Go Go.RowKit
def vb (l : List Nat) : List Value := l.map fun (b : Nat) => Value.int .u8 (b : Int)
theorem vb_get (l : List Nat) (i : Nat) : (vb l)[i]? = (l[i]?).map fun (b : Nat) => Value.int .u8 (b : Int) := by simp [vb]
def Rd (w : World) (B : Nat) (A : Option Addr) (l : List Nat) : Prop :=
  (∀ b ∈ l, b < 256) ∧ (0 < l.length → ∃ g o, A = some ⟨g, o, none⟩ ∧ g < B ∧ ∀ j x, l[j]? = some x → w.cell? ⟨g, o + j, none⟩ = some (.int .u8 ((x : Nat) : Int)))
section
variable {w w' : World} {B B' : Nat} {A : Option Addr} {l : List Nat}
theorem Rd.nil_ : Rd w B A [] := ⟨by simp, fun h => absurd h (by simp)⟩
theorem Rd.lt (h : Rd w B A l) : ∀ b ∈ l, b < 256 := h.1
theorem Rd.at_ {k : Nat} (h : Rd w B A l) (hk : k < l.length) : ∃ g o x, A = some ⟨g, o, none⟩ ∧ g < B ∧ l[k]? = some x ∧ x < 256 ∧ w.cell? ⟨g, o + k, none⟩ = some (.int .u8 ((x : Nat) : Int)) := by
  obtain ⟨g, o, e, hg, hc⟩ := h.2 (by omega)
  exact ⟨g, o, l[k], e, hg, List.getElem?_eq_getElem hk, h.1 _ (List.getElem_mem hk), hc k _ (List.getElem?_eq_getElem hk)⟩
theorem Rd.keep (h : Rd w B A l) (hk : ∀ p : Addr, p.block < B → w'.cell? p = w.cell? p) : Rd w' B A l :=
  ⟨h.1, fun hn => by
    obtain ⟨g, o, e, hg, hc⟩ := h.2 hn
    exact ⟨g, o, e, hg, fun j x hx => (hk ⟨g, o + j, none⟩ hg).trans (hc j x hx)⟩⟩
theorem Rd.take (h : Rd w B A l) (k : Nat) : Rd w B A (l.take k) := by
  refine ⟨fun b hb => h.1 b (List.mem_of_mem_take hb), fun hn => ?_⟩
  rw [List.length_take] at hn
  obtain ⟨g, o, e, hg, hc⟩ := h.2 (by omega)
  refine ⟨g, o, e, hg, fun j x hx => hc j x ?_⟩
  rw [List.getElem?_take] at hx
  split at hx
  · exact hx
  · cases hx
end
end
section
open Go Go.RowKit
structure Bs (w : World) (B : Nat) (A : Option Addr) (n c : Nat) (l : List Nat) : Prop where
  len : l.length = n
  cap : n ≤ c
  most : c ≤ 9223372036854775807
  rd : Rd w B A l
  nil_ : A = none → c = 0
def Ext (w w' : World) : Prop := Below w.heap.size w w'
theorem Ext.refl (w : World) : Ext w w := Below.refl _ _
theorem Ext.trans {a b c : World} (h : Ext a b) (k : Ext b c) : Ext a c := Below.trans h (Below.mono k (Below.size h))
theorem Ext.alloc {a b : World} (h : Ext a b) (o : Obj) : Ext a (b.alloc o) := Below.alloc h (Below.size h) o
theorem Ext.size {a b : World} (h : Ext a b) : a.heap.size ≤ b.heap.size := Below.size h
def By (w : World) (A : Option Addr) (n c : Nat) (l : List Nat) : Prop := Bs w w.heap.size A n c l
theorem By.nil_ (w : World) : By w none 0 0 [] := ⟨rfl, Nat.le_refl _, by omega, Rd.nil_, fun _ => rfl⟩
theorem By.of_row {w : World} {g n c : Nat} {l : List Nat} {cs : Array Value} {t : TypeId} {fr : Nat × Nat} (hh : w.heap[g]? = some (.cells cs t fr)) (hl : ∀ (j x : Nat), l[j]? = some x → cs[j]? = some (Value.int .u8 ((x : Nat) : Int))) (hb : ∀ b ∈ l, b < 256)
    (hn : l.length = n) (hc : n ≤ c) (hm : c ≤ 9223372036854775807) : By w (some ⟨g, 0, none⟩) n c l := by
  refine ⟨hn, hc, hm, ⟨hb, fun _ => ⟨g, 0, rfl, (Array.getElem?_eq_some_iff.1 hh).1, fun j x hx => ?_⟩⟩, fun h => by cases h⟩
  rw [Nat.zero_add, cell_of_row w g j cs t fr hh]
  exact hl j x hx
theorem vb_at {l : List Nat} {j x : Nat} (h : l[j]? = some x) : (vb l).toArray[j]? = some (Value.int .u8 ((x : Nat) : Int)) := by
  rw [List.getElem?_toArray, vb_get, h]
  rfl
end
section
set_option maxRecDepth 100000
end
section
structure DM where
  rest : List (List Nat)
  meant : List (List Nat)
  lost : List Bool
  waits : List (Nat × List Nat) := []
  down : Bool := false
  dead : Bool := false
  power : Int := -1
def DM.size (m : DM) : Nat := m.rest.length
def DM.has (m : DM) (s : Int) : Bool := decide (0 ≤ s) && decide (s < m.size)
def DM.at_ (m : DM) (s : Int) : List Nat × Bool × Int := if m.has s = false then ([], false, 2) else if m.lost.getD s.toNat false = true then ([], true, 0) else (m.rest.getD s.toNat [], false, 0)
def DM.means (m : DM) (s : Int) : List Nat × Int := if m.has s = false then ([], 2) else (m.meant.getD s.toNat [], 0)
def Sect (b : List Nat) : Prop := b.length = 64 ∧ ∀ x ∈ b, x < 256
structure DM.Ok (m : DM) : Prop where
  meant : m.meant.length = m.size
  lost : m.lost.length = m.size
  rests : ∀ b ∈ m.rest, Sect b
  means : ∀ b ∈ m.meant, Sect b
  waits : ∀ x ∈ m.waits, x.1 < m.size ∧ Sect x.2
  power : -1 ≤ m.power
end
section
set_option maxRecDepth 100000
end
section
open Go
def num : List Nat → Nat
  | [] => 0
  | b :: r => b + 256 * num r
end
section
set_option maxRecDepth 100000
end
section
open Go Go.RowKit Go.Lib
theorem By.cells {w : World} {A : Option Addr} {n c : Nat} {l : List Nat} (h : By w A n c l) {ad : Addr} (hA : A = some ad) : ∀ i, i < n → w.cell? (ad.add i) = some (.int .u8 ((l.map fun (b : Nat) => (b : Int)).getD i 0)) := by
  intro i hi
  obtain ⟨g, o, x, hA2, _, hx, _, hc⟩ := h.rd.at_ (k := i) (by rw [h.len]; exact hi)
  rw [hA] at hA2
  injection hA2 with hA2
  subst hA2
  rw [Addr.add_lit, hc]
  have e : (l.map fun (b : Nat) => (b : Int)).getD i 0 = (x : Int) := by
    rw [List.getD_eq_getElem?_getD, List.getElem?_map, hx]
    rfl
  rw [e]
end
section
open Go Go.RowKit
theorem Ext.cell {a b : World} {p : Addr} {v : Value} (k : Ext a b) (h : a.cell? p = some v) : b.cell? p = some v := (Below.cell k (World.block_lt_of_cell? a _ h)).trans h
end
section
open Go Go.RowKit
structure Mod (F : Nat → Prop) (w w' : World) : Prop where
  os : w'.os = w.os
  tape : w'.tape = w.tape
  output : w'.output = w.output
  size : w.heap.size ≤ w'.heap.size
  block : ∀ k, k < w.heap.size → ¬ F k → w'.heap[k]? = w.heap[k]?
section
variable {F G : Nat → Prop} {a b c w w' : World}
theorem Mod.trans (h : Mod F a b) (k : Mod G b c) (hG : ∀ i, G i → F i ∨ a.heap.size ≤ i) : Mod F a c :=
  ⟨k.os.trans h.os, k.tape.trans h.tape, k.output.trans h.output, Nat.le_trans h.size k.size, fun i hi hf =>
    (k.block i (Nat.lt_of_lt_of_le hi h.size) fun hg => (hG i hg).elim hf fun hl => absurd hi (by omega)).trans (h.block i hi hf)⟩
theorem Mod.mono (h : Mod F w w') (hG : ∀ i, F i → G i) : Mod G w w' := ⟨h.os, h.tape, h.output, h.size, fun k hk hg => h.block k hk fun hf => hg (hG k hf)⟩
end
end
section
open Go Go.RowKit
def secC (r m : List Nat) (l : Bool) : List Value := vb r ++ (vb m ++ [.bool l])
def DM.sec (m : DM) (s : Nat) : List Value := secC (m.rest.getD s []) (m.meant.getD s []) (m.lost.getD s false)
end
section
open Go Go.RowKit
def ZsAt (w : World) (A : Option Addr) (k : Nat) (zs : List Int) : Prop := zs.length = k ∧ k ≤ 1000 ∧ (0 < k → ∃ b, A = some ⟨b, 0, none⟩ ∧ ∀ (j : Nat) (z : Int), zs[j]? = some z → w.cell? ⟨b, j, none⟩ = some (.int .i64 z))
theorem ZsAt.nil_ (w : World) : ZsAt w none 0 [] := ⟨rfl, by omega, fun h => absurd h (by omega)⟩
end
section
open Go Go.RowKit
structure New (B : Nat) (w : World) (A : Option Addr) (n : Nat) (l : List Nat) : Prop where
  len : l.length = n
  lt : ∀ b ∈ l, b < 256
  at_ : (n = 0 ∧ A = none) ∨ ∃ g t, A = some ⟨g, 0, none⟩ ∧ B ≤ g ∧ w.heap[g]? = some (.cells (vb l).toArray t (0, 0))
  le : n ≤ 64
theorem New.by {B : Nat} {w : World} {A : Option Addr} {n : Nat} {l : List Nat} (h : New B w A n l) : By w A n n l := by
  have hn : n ≤ 9223372036854775807 := by have := h.le; omega
  rcases h.at_ with ⟨rfl, rfl⟩ | ⟨g, t, rfl, _, hg⟩
  · rw [List.eq_nil_of_length_eq_zero h.len]
    exact By.nil_ w
  · exact By.of_row hg (fun j x hx => vb_at hx) h.lt h.len (Nat.le_refl _) hn
end
section
open Go Go.RowKit Go.ChangeShapes Go.WideShapes
theorem bs_of_row {w : World} {x : Addr} {n c : Nat} {zs : List Int} (hl : n ≤ c) (hm : c ≤ maxLen) (hz : zs.length = c) (hcell : ∀ i, i < zs.length → w.cell? (x.add i) = some (.int .u8 (zs.getD i 0))) (hwz : ∀ z ∈ zs, (Lit.int .u8 z).wf = true) :
    Bs w w.heap.size (some x) n c ((zs.take n).map Int.toNat) := by
  have hb : ∀ z ∈ zs, 0 ≤ z ∧ z < 256 := by
    intro z hzm
    have := bounds_u8 (hwz z hzm)
    omega
  refine ⟨by simp [hz, hl], hl, by unfold maxLen at hm; exact hm, ⟨?_, ?_⟩, fun h => by cases h⟩
  · intro b hbm
    simp only [List.mem_map] at hbm
    obtain ⟨z, hzm, rfl⟩ := hbm
    have := hb z (List.mem_of_mem_take hzm)
    omega
  · intro h0
    have hn : 0 < n := by
      rw [List.length_map, List.length_take] at h0
      omega
    obtain ⟨g, o, spot⟩ := x
    have hc := hcell 0 (by omega)
    have hspot : spot = none := by simpa [Addr.add] using World.cell?_spot hc
    subst hspot
    refine ⟨g, o, rfl, ?_, fun j y hy => ?_⟩
    · have := World.block_lt_of_cell? w _ hc
      simpa [Addr.add] using this
    · rw [List.getElem?_map] at hy
      obtain ⟨z, hzj, rfl⟩ := Option.map_eq_some_iff.1 hy
      have hjn : j < n ∧ zs[j]? = some z := by
        rw [List.getElem?_take] at hzj
        split at hzj
        · exact ⟨by assumption, hzj⟩
        · cases hzj
      have hzb := hb z (List.mem_of_getElem? hjn.2)
      have h2 := hcell j (by omega)
      rw [Addr.add_lit] at h2
      rw [h2, List.getD_eq_getElem?_getD, hjn.2]
      simp only [Option.getD_some]
      rw [Int.toNat_of_nonneg hzb.1]
end
section
open Go Go.RowKit Go.ChangeShapes Go.WideShapes Go.Deep
structure Vs (w : World) (B : Nat) (A : Option Addr) (n c : Nat) (vs : List Value) : Prop where
  len : vs.length = n
  cap : n ≤ c
  most : c ≤ 9223372036854775807
  rd : 0 < n → ∃ g o, A = some ⟨g, o, none⟩ ∧ g < B ∧ ∀ j v, vs[j]? = some v → w.cell? ⟨g, o + j, none⟩ = some v
  nil_ : A = none → c = 0
structure Act5 where
  kind : Nat := 0
  sec : Int := 0
  num : Int := 0
  bA : Option Addr := none
  bn : Nat := 0
  bc : Nat := 0
  bl : List Nat := []
  kA : Option Addr := none
  kn : Nat := 0
  kc : Nat := 0
  kl : List Bool := []
instance : Inhabited Act5 := ⟨{}⟩
def Act5.cells (a : Act5) : List Value := [.int .u8 (a.kind : Int), .int .i64 a.sec, .int .i64 a.num, .slice a.bA a.bn a.bc, .slice a.kA a.kn a.kc]
structure Act5.Ok (a : Act5) (w : World) (B : Nat) : Prop where
  kind : a.kind < 256
  sec : (Lit.int .i64 a.sec).wf = true
  num : (Lit.int .i64 a.num).wf = true
  bytes : Bs w B a.bA a.bn a.bc a.bl
  keep : Vs w B a.kA a.kn a.kc (a.kl.map .bool)
structure Acts (w : World) (B : Nat) (A : Option Addr) (n c : Nat) (l : List Act5) : Prop where
  len : l.length = n
  cap : n ≤ c
  most : c ≤ 9223372036854775807
  each : ∀ a ∈ l, a.Ok w B
  rd : 0 < n → ∃ g o, A = some ⟨g, o, none⟩ ∧ g < B ∧ ∀ j a, l[j]? = some a → ∀ k v, a.cells[k]? = some v → w.cell? ⟨g, o + (j * 5 + k), none⟩ = some v
  nil_ : A = none → c = 0
theorem Acts.at_ {w : World} {B : Nat} {A : Option Addr} {n c : Nat} {l : List Act5} (h : Acts w B A n c l) {j : Nat} (hj : j < n) : ∃ g o a, A = some ⟨g, o, none⟩ ∧ g < B ∧ l[j]? = some a ∧ a.Ok w B ∧
    w.cell? ⟨g, o + j * 5, none⟩ = some (.int .u8 (a.kind : Int)) ∧ w.cell? ⟨g, o + j * 5 + 1, none⟩ = some (.int .i64 a.sec) ∧ w.cell? ⟨g, o + j * 5 + 2, none⟩ = some (.int .i64 a.num) ∧
    w.cell? ⟨g, o + j * 5 + 3, none⟩ = some (.slice a.bA a.bn a.bc) ∧ w.cell? ⟨g, o + j * 5 + 4, none⟩ = some (.slice a.kA a.kn a.kc) := by
  obtain ⟨g, o, e, hg, hc⟩ := h.rd (by omega)
  have hj' : j < l.length := by rw [h.len]; exact hj
  have ha : l[j]? = some l[j] := List.getElem?_eq_getElem hj'
  have cell := fun (k : Nat) (v : Value) (hv : (l[j]).cells[k]? = some v) => hc j _ ha k v hv
  exact ⟨g, o, l[j], e, hg, ha, h.each _ (List.getElem_mem hj'), cell 0 _ rfl, cell 1 _ rfl, cell 2 _ rfl, cell 3 _ rfl, cell 4 _ rfl⟩
section
variable {H : Type} {enc : TypeId × Value → H} {P : Program} {w : World} {base : Nat} {spare : Nat → Bool} {held : Bool}
end
end
section
open Go Go.RowKit
theorem Mod.then {F : Nat → Prop} {a b c : World} (h : Mod F a b) (k : Mod F b c) : Mod F a c := h.trans k fun _ hi => .inl hi
end
section
open Go Go.RowKit Go.Shelf
attribute [local go_sem] Oper.semAt_some
end
section
open Go Go.RowKit Go.Shelf
attribute [local go_sem] Oper.semAt_some
end
section
open Go Go.RowKit
section
variable {w : World} {d : Nat} {F : Nat → Prop} {m : DM}
end
end
section
open Go Go.RowKit Go.Shelf
attribute [local go_sem] Oper.semAt_some
end
section
open Go Go.RowKit Go.Shelf
attribute [local go_sem] Oper.semAt_some
end
section
open Go Go.RowKit Go.ChangeShapes Go.WideShapes Go.Deep
structure Lst where
  A : Option Addr := none
  n : Nat := 0
  c : Nat := 0
  l : List Nat := []
instance : Inhabited Lst := ⟨{}⟩
def Lst.Ok (a : Lst) (w : World) (B : Nat) : Prop := Bs w B a.A a.n a.c a.l
structure Lsts (w : World) (B : Nat) (A : Option Addr) (n c : Nat) (l : List Lst) : Prop where
  len : l.length = n
  cap : n ≤ c
  most : c ≤ 9223372036854775807
  each : ∀ a ∈ l, a.Ok w B
  rd : 0 < n → ∃ g o, A = some ⟨g, o, none⟩ ∧ g < B ∧ ∀ j a, l[j]? = some a → w.cell? ⟨g, o + j, none⟩ = some (.slice a.A a.n a.c)
  nil_ : A = none → c = 0
theorem Lsts.at_ {w : World} {B : Nat} {A : Option Addr} {n c : Nat} {l : List Lst} (h : Lsts w B A n c l) {j : Nat} (hj : j < n) : ∃ g o a, A = some ⟨g, o, none⟩ ∧ g < B ∧ l[j]? = some a ∧ Bs w B a.A a.n a.c a.l ∧
    w.cell? ⟨g, o + j, none⟩ = some (.slice a.A a.n a.c) := by
  obtain ⟨g, o, e, hg, hc⟩ := h.rd (by omega)
  have hj' : j < l.length := by rw [h.len]; exact hj
  have ha : l[j]? = some l[j] := List.getElem?_eq_getElem hj'
  exact ⟨g, o, l[j], e, hg, ha, h.each _ (List.getElem_mem hj'), hc j _ ha⟩
section
variable {H : Type} {enc : TypeId × Value → H} {P : Program} {w : World} {base : Nat} {spare : Nat → Bool} {held : Bool}
end
end
section
open Go Go.RowKit Go.Shelf
attribute [local go_sem] Oper.semAt_some
def Lst.val (a : Lst) : Value := .slice a.A a.n a.c
end
section
open Go Go.RowKit Go.Maps
def RV : Value → Option (DataW Value × List MemPlace) := fun v => some (.held v, [])
structure MapZ (w : World) (bm nb : Nat) (f : Int → Option Lst) : Prop where
  own : ∃ D : DataW Value, w.ownsMap Try.prog 3 RV bm nb D ∧ ∀ k : Int, (Lit.int .i64 k).wf = true → Maps.has D (.int .i64 k) = (f k).isSome ∧ ∀ a, f k = some a → ∀ z, D.atKey (.int .i64 k) z = .held a.val
theorem MapZ.lt {w : World} {bm nb : Nat} {f : Int → Option Lst} (h : MapZ w bm nb f) : bm < w.heap.size := by
  obtain ⟨D, ho, _⟩ := h.own
  exact ho.lt
end
section
open Go Go.RowKit Go.Maps
structure ZH (w : World) (h count bm nb : Nat) (f : Int → Option Lst) : Prop where
  row : w.heap[h]? = some (.cells #[.pointer (some ⟨h, 0, none⟩), .int .i64 (count : Int), .map (some bm)] 61 (0, 0))
  map : MapZ w bm nb f
  rng : ∀ k, (f k).isSome = true → 0 ≤ k ∧ k < (count : Int)
  each : ∀ k a, f k = some a → By w a.A a.n a.c a.l ∧ a.n ≤ 80 ∧ ∀ p, a.A = some p → p.block ≠ bm
  cnt : 1 ≤ count ∧ count ≤ 8
section
variable {w w' : World} {h count bm nb : Nat} {f : Int → Option Lst}
theorem ZH.lt (z : ZH w h count bm nb f) : h < w.heap.size := (Array.getElem?_eq_some_iff.1 z.row).1
theorem ZH.cells (z : ZH w h count bm nb f) : w.cell? ⟨h, 0, none⟩ = some (.pointer (some ⟨h, 0, none⟩)) ∧ w.cell? ⟨h, 1, none⟩ = some (.int .i64 (count : Int)) ∧ w.cell? ⟨h, 2, none⟩ = some (.map (some bm)) :=
  ⟨cell_of_row w h 0 _ _ _ z.row, cell_of_row w h 1 _ _ _ z.row, cell_of_row w h 2 _ _ _ z.row⟩
end
theorem eqlH_nil_some (a : Addr) (w : World) : (binOp .eql 39 (.pointer none) (.pointer (some a))).run Try.prog w = .ok (.bool false) w := by
  have h : ∀ d : Nat, (Op.equalIn (d + 1) 39 (.pointer none) (.pointer (some a))).run Try.prog w = .ok false w := fun d => by
    simp [Op.equalIn, run_underlying Try.underlying39]
  simp only [binOp]
  simp [Op.equal, Op.maxDepth, h 9999]
def UnmadeZ (w : World) (p : Option Addr) : Prop := p = none ∨ ∃ d, p = some ⟨d, 0, none⟩ ∧ w.cell? ⟨d, 0, none⟩ = some (.pointer none)
set_option maxHeartbeats 400000 in
theorem zmade_no (p : Option Addr) (w : World) (h : UnmadeZ w p) :
    Calls Try.prog 36 #[.pointer p] w fun e w' => e = .returned (.bool false) ∧ w = w' := by
  rcases h with rfl | ⟨d, rfl, h⟩
  · go_enter Try.func36, Try.ntmps36
    go_wp2
    go_ret
    exact ⟨rfl, rfl⟩
  · have he := eqlH_nil_some
    go_enter Try.func36, Try.ntmps36
    go_wp2
    go_ret
    exact ⟨rfl, rfl⟩
end
section
open Go Go.RowKit Go.Shelf
attribute [local go_sem] Oper.semAt_some
end
section
open Go Go.RowKit Go.Shelf
attribute [local go_sem] Oper.semAt_some
set_option maxHeartbeats 800000 in
theorem zmissing_no {w : World} {p : Option Addr} (hp : UnmadeZ w p) :
    Calls Try.prog 27 #[.pointer p] w fun e w' => e = .returned (.slice none 0 0) ∧ w = w' := by
  have HM := Lib.hid (zmade_no p w hp)
  clear hp
  go_enter Try.func27, Try.ntmps27
  go_wp2_with fail
  refine HM.out.mono ?_
  rintro e w1 ⟨rfl, rfl⟩
  go_wp2_with fail
  go_ret
  exact ⟨rfl, rfl⟩
end
section
open Go Go.RowKit Go.Maps
section
variable {w w' : World} {h count bm nb : Nat} {f : Int → Option Lst}
end
end
section
open Go Go.RowKit Go.Maps
section
variable {w : World} {p : Option Addr}
set_option maxHeartbeats 400000 in
theorem zput_nil (hp : UnmadeZ w p) (k : Int) (A : Option Addr) (n c : Nat) : Calls Try.prog 20 #[.pointer p, .int .i64 k, .slice A n c] w fun e w' => e = .returned (.int .i64 1) ∧ w = w' := by
  have HM := Lib.hid (zmade_no p w hp)
  clear hp
  go_enter Try.func20, Try.ntmps20
  go_wp2_with fail
  refine HM.out.mono ?_
  rintro e w1 ⟨rfl, rfl⟩
  go_wp2_with fail
  go_ret
  exact ⟨rfl, rfl⟩
set_option maxHeartbeats 400000 in
theorem zlose_nil (hp : UnmadeZ w p) (k : Int) : Calls Try.prog 18 #[.pointer p, .int .i64 k] w fun e w' => e = .returned (.int .i64 1) ∧ w = w' := by
  have HM := Lib.hid (zmade_no p w hp)
  clear hp
  go_enter Try.func18, Try.ntmps18
  go_wp2_with fail
  refine HM.out.mono ?_
  rintro e w1 ⟨rfl, rfl⟩
  go_wp2_with fail
  go_ret
  exact ⟨rfl, rfl⟩
set_option maxHeartbeats 400000 in
theorem zget_nil (hp : UnmadeZ w p) (k : Int) : Calls Try.prog 22 #[.pointer p, .int .i64 k] w fun e w' => e = .returned (.tuple #[.slice none 0 0, .bool false]) ∧ w = w' := by
  have HM := Lib.hid (zmade_no p w hp)
  clear hp
  go_enter Try.func22, Try.ntmps22
  go_wp2_with fail
  refine HM.out.mono ?_
  rintro e w1 ⟨rfl, rfl⟩
  go_wp2_with fail
  refine bodyPost_ret (v := .tuple #[.slice none 0 0, .bool false]) (by simp [results, Try.results22, go_sem]) rfl ⟨rfl, rfl⟩
set_option maxHeartbeats 400000 in
theorem zwhole_nil (hp : UnmadeZ w p) : Calls Try.prog 24 #[.pointer p] w fun e w' => e = .returned (.tuple #[.slice none 0 0, .int .i64 1]) ∧ w = w' := by
  have HM := Lib.hid (zmade_no p w hp)
  clear hp
  go_enter Try.func24, Try.ntmps24
  go_wp2_with fail
  refine HM.out.mono ?_
  rintro e w1 ⟨rfl, rfl⟩
  go_wp2_with fail
  refine bodyPost_ret (v := .tuple #[.slice none 0 0, .int .i64 1]) (by simp [results, Try.results24, go_sem]) rfl ⟨rfl, rfl⟩
end
end
end Go.Proofs.Ytnlappoocffcpaa
