/-
  What it means that a slice of bytes in memory reads as a list of numbers, and how that is carried along; no program.
-/
import Derived.Test.YtnlappoocffcpaaX00
import Derived.Below
import Derived.Laws.OwnMore
import Derived.Deep.AppendLies
import Derived.Deep.Draws
import Derived.WalkKit
import Derived.ProofKit
import Derived.OpenShut
import Derived.Deep.Slices
import Derived.Deep.Fields
import Derived.Laws.IdiomArrays
import Derived.Test.YtnlappoocffcpaaProg
import Derived.WalkSpells
import Derived.OwnWalk
import Derived.Laws.AppendOwnNone
import Derived.Lib.Hide
import Derived.BigQuiet
import Derived.Deep.QuietTactic
import Derived.Outline
import Derived.Tactics
import Derived.WalkLawsBesides
import Derived.Lib.SliceRun
import Derived.Shelf.Bytes.SlCountOne
import Derived.Shelf.Bytes.SlSmallAll
import Derived.Deep.RegionHeld3
import Derived.Laws.Tables
import Derived.Laws.CopyOwn
import Derived.IntWalk
namespace Go.Proofs.Ytnlappoocffcpaa
set_option maxRecDepth 100000
section
open Go Go.RowKit
def vb (l : List Nat) : List Value := l.map fun (b : Nat) => Value.int .u8 (b : Int)
theorem vb_length (l : List Nat) : (vb l).length = l.length := by simp [vb]
theorem vb_get (l : List Nat) (i : Nat) : (vb l)[i]? = (l[i]?).map fun (b : Nat) => Value.int .u8 (b : Int) := by simp [vb]
theorem vb_append (a b : List Nat) : vb (a ++ b) = vb a ++ vb b := by simp [vb]
theorem vb_one (l : List Nat) : ∀ u ∈ vb l, u.oneCell' = true := by
  intro u hu
  simp only [vb, List.mem_map] at hu
  obtain ⟨b, _, rfl⟩ := hu
  rfl
def Rd (w : World) (B : Nat) (A : Option Addr) (l : List Nat) : Prop :=
  (∀ b ∈ l, b < 256) ∧ (0 < l.length → ∃ g o, A = some ⟨g, o, none⟩ ∧ g < B ∧ ∀ j x, l[j]? = some x → w.cell? ⟨g, o + j, none⟩ = some (.int .u8 ((x : Nat) : Int)))
section
variable {w w' : World} {B B' : Nat} {A : Option Addr} {l : List Nat}
theorem Rd.nil_ : Rd w B A [] := ⟨by simp, fun h => absurd h (by simp)⟩
theorem Rd.lt (h : Rd w B A l) : ∀ b ∈ l, b < 256 := h.1
theorem Rd.at_ {k : Nat} (h : Rd w B A l) (hk : k < l.length) : ∃ g o x, A = some ⟨g, o, none⟩ ∧ g < B ∧ l[k]? = some x ∧ x < 256 ∧ w.cell? ⟨g, o + k, none⟩ = some (.int .u8 ((x : Nat) : Int)) := by
  obtain ⟨g, o, e, hg, hc⟩ := h.2 (by omega)
  exact ⟨g, o, l[k], e, hg, List.getElem?_eq_getElem hk, h.1 _ (List.getElem_mem hk), hc k _ (List.getElem?_eq_getElem hk)⟩
theorem Rd.keep (h : Rd w B A l) (hk : ∀ p : Addr, p.block < B → w'.cell? p = w.cell? p) : Rd w' B A l :=
  ⟨h.1, fun hn => by
    obtain ⟨g, o, e, hg, hc⟩ := h.2 hn
    exact ⟨g, o, e, hg, fun j x hx => (hk ⟨g, o + j, none⟩ hg).trans (hc j x hx)⟩⟩
theorem Rd.more (h : Rd w B A l) (hB : B ≤ B') : Rd w B' A l :=
  ⟨h.1, fun hn => by
    obtain ⟨g, o, e, hg, hc⟩ := h.2 hn
    exact ⟨g, o, e, by omega, hc⟩⟩
theorem Rd.below (h : Rd w B A l) (hb : Below B w w') : Rd w' B A l := h.keep fun _ hp => hb.cell hp
theorem Rd.drop (h : Rd w B A l) {g o : Nat} (hA : A = some ⟨g, o, none⟩) (k : Nat) : Rd w B (some ⟨g, o + k, none⟩) (l.drop k) := by
  refine ⟨fun b hb => h.1 b (List.mem_of_mem_drop hb), fun hn => ?_⟩
  rw [List.length_drop] at hn
  obtain ⟨g', o', e, hg, hc⟩ := h.2 (by omega)
  rw [hA] at e
  injection e with e
  injection e with e1 e2
  subst e1; subst e2
  refine ⟨g, o + k, rfl, hg, fun j x hx => ?_⟩
  rw [Nat.add_assoc]
  exact hc _ x (by rw [← hx, List.getElem?_drop])
theorem Rd.take (h : Rd w B A l) (k : Nat) : Rd w B A (l.take k) := by
  refine ⟨fun b hb => h.1 b (List.mem_of_mem_take hb), fun hn => ?_⟩
  rw [List.length_take] at hn
  obtain ⟨g, o, e, hg, hc⟩ := h.2 (by omega)
  refine ⟨g, o, e, hg, fun j x hx => hc j x ?_⟩
  rw [List.getElem?_take] at hx
  split at hx
  · exact hx
  · cases hx
theorem Rd.of_own {base t : Nat} {n c : Nat} (h : w.ownsRow base t 1 (.slice A n c) n (vb l)) (hl : ∀ b ∈ l, b < 256) : Rd w w.heap.size A l := by
  refine ⟨hl, fun hn => ?_⟩
  have hlen := h.1
  rw [vb_length] at hlen
  rcases h.2 with ⟨he, h0⟩ | ⟨g, cap, cur, hv, _, hg, _⟩
  · subst h0; omega
  · injection hv with hA _ _
    subst hA
    refine ⟨g, 0, rfl, (Array.getElem?_eq_some_iff.1 hg).1, fun j x hx => ?_⟩
    have hj : j < l.length := (List.getElem?_eq_some_iff.1 hx).1
    rw [Nat.zero_add, h.cellAt j (by omega), vb_get, hx]
    rfl
end
theorem own_form {w : World} {base t n : Nat} {v : Value} {xs : List Value} (h : w.ownsRow base t 1 v n xs) : ∃ A c, v = .slice A n c ∧ n ≤ c ∧ c ≤ 9223372036854775807 := by
  rcases h.2 with ⟨rfl, rfl⟩ | ⟨g, cap, cur, rfl, _, _, h1, h2, _⟩
  · exact ⟨none, 0, rfl, Nat.le_refl _, by omega⟩
  · unfold maxLen at h2
    exact ⟨_, cap, rfl, h1, h2⟩
theorem take_step {l l' : List Nat} {k x : Nat} (h : l.take k = l'.take k) (hx : l[k]? = some x) (hy : l'[k]? = some x) : l.take (k + 1) = l'.take (k + 1) := by
  rw [List.take_add_one, List.take_add_one, h, hx, hy]
theorem ne_of_get {l l' : List Nat} {k x y : Nat} (hx : l[k]? = some x) (hy : l'[k]? = some y) (h : x ≠ y) : decide (l = l') = false := by
  simp only [decide_eq_false_iff_not]
  rintro rfl
  rw [hx] at hy
  injection hy with hy
  exact h hy
theorem drewN_add (w : World) (a b : Nat) : (w.drewN a).drewN b = w.drewN (a + b) := by
  unfold World.drewN
  simp [Nat.add_assoc]
end
section
open Go Go.RowKit
theorem below_drewN {B : Nat} {a w : World} (h : Below B a w) (k : Nat) : Below B a (w.drewN k) := ⟨h.os, h.tape, h.output, h.size, h.block⟩
structure Bs (w : World) (B : Nat) (A : Option Addr) (n c : Nat) (l : List Nat) : Prop where
  len : l.length = n
  cap : n ≤ c
  most : c ≤ 9223372036854775807
  rd : Rd w B A l
  nil_ : A = none → c = 0
theorem Bs.below {w w' : World} {B : Nat} {A : Option Addr} {n c : Nat} {l : List Nat} (h : Bs w B A n c l) (hb : Below B w w') : Bs w' B A n c l := ⟨h.len, h.cap, h.most, h.rd.below hb, h.nil_⟩
theorem Bs.more {w : World} {B B' : Nat} {A : Option Addr} {n c : Nat} {l : List Nat} (h : Bs w B A n c l) (hB : B ≤ B') : Bs w B' A n c l := ⟨h.len, h.cap, h.most, h.rd.more hB, h.nil_⟩
theorem Bs.of_own {w : World} {A : Option Addr} {base t n c : Nat} {l : List Nat} (h : w.ownsRow base t 1 (.slice A n c) n (vb l)) (hl : ∀ b ∈ l, b < 256) : Bs w w.heap.size A n c l := by
  have hlen := h.1
  rw [vb_length] at hlen
  refine ⟨by omega, ?_, ?_, Rd.of_own h hl, ?_⟩
  · obtain ⟨A', c', e, h1, _⟩ := own_form h
    injection e with _ _ e3
    omega
  · obtain ⟨A', c', e, _, h2⟩ := own_form h
    injection e with _ _ e3
    omega
  · intro hA
    subst hA
    rcases h.2 with ⟨e, _⟩ | ⟨g, cap, cur, e, _⟩
    · injection e
    · injection e with e1
      cases e1
def Ext (w w' : World) : Prop := Below w.heap.size w w'
theorem Ext.refl (w : World) : Ext w w := Below.refl _ _
theorem Ext.trans {a b c : World} (h : Ext a b) (k : Ext b c) : Ext a c := Below.trans h (Below.mono k (Below.size h))
theorem Ext.alloc {a b : World} (h : Ext a b) (o : Obj) : Ext a (b.alloc o) := Below.alloc h (Below.size h) o
theorem Ext.drew {a b : World} (h : Ext a b) : Ext a b.drew := Below.drew h
theorem Ext.drewN {a b : World} (h : Ext a b) (k : Nat) : Ext a (b.drewN k) := below_drewN h k
theorem Ext.size {a b : World} (h : Ext a b) : a.heap.size ≤ b.heap.size := Below.size h
def By (w : World) (A : Option Addr) (n c : Nat) (l : List Nat) : Prop := Bs w w.heap.size A n c l
theorem By.ext {a b : World} {A : Option Addr} {n c : Nat} {l : List Nat} (h : By a A n c l) (k : Ext a b) : By b A n c l := (Bs.below h k).more (Ext.size k)
theorem By.nil_ (w : World) : By w none 0 0 [] := ⟨rfl, Nat.le_refl _, by omega, Rd.nil_, fun _ => rfl⟩
end
section
open Go Go.RowKit Go.ChangeShapes Go.WideShapes
theorem bs_of_row {w : World} {x : Addr} {n c : Nat} {zs : List Int} (hl : n ≤ c) (hm : c ≤ maxLen) (hz : zs.length = c) (hcell : ∀ i, i < zs.length → w.cell? (x.add i) = some (.int .u8 (zs.getD i 0))) (hwz : ∀ z ∈ zs, (Lit.int .u8 z).wf = true) :
    Bs w w.heap.size (some x) n c ((zs.take n).map Int.toNat) := by
  have hb : ∀ z ∈ zs, 0 ≤ z ∧ z < 256 := by
    intro z hzm
    have := bounds_u8 (hwz z hzm)
    omega
  refine ⟨by simp [hz, hl], hl, by unfold maxLen at hm; exact hm, ⟨?_, ?_⟩, fun h => by cases h⟩
  · intro b hbm
    simp only [List.mem_map] at hbm
    obtain ⟨z, hzm, rfl⟩ := hbm
    have := hb z (List.mem_of_mem_take hzm)
    omega
  · intro h0
    have hn : 0 < n := by
      rw [List.length_map, List.length_take] at h0
      omega
    obtain ⟨g, o, spot⟩ := x
    have hc := hcell 0 (by omega)
    have hspot : spot = none := by simpa [Addr.add] using World.cell?_spot hc
    subst hspot
    refine ⟨g, o, rfl, ?_, fun j y hy => ?_⟩
    · have := World.block_lt_of_cell? w _ hc
      simpa [Addr.add] using this
    · rw [List.getElem?_map] at hy
      obtain ⟨z, hzj, rfl⟩ := Option.map_eq_some_iff.1 hy
      have hjn : j < n ∧ zs[j]? = some z := by
        rw [List.getElem?_take] at hzj
        split at hzj
        · exact ⟨by assumption, hzj⟩
        · cases hzj
      have hzb := hb z (List.mem_of_getElem? hjn.2)
      have h2 := hcell j (by omega)
      rw [Addr.add_lit] at h2
      rw [h2, List.getD_eq_getElem?_getD, hjn.2]
      simp only [Option.getD_some]
      rw [Int.toNat_of_nonneg hzb.1]
end
section
open Go Go.RowKit Go.ChangeShapes Go.WideShapes Go.Deep
structure Act5 where
  kind : Nat := 0
  sec : Int := 0
  num : Int := 0
  bA : Option Addr := none
  bn : Nat := 0
  bc : Nat := 0
  bl : List Nat := []
  kA : Option Addr := none
  kn : Nat := 0
  kc : Nat := 0
  kl : List Bool := []
instance : Inhabited Act5 := ⟨{}⟩
section
variable {H : Type} {enc : TypeId × Value → H} {P : Program} {w : World} {base : Nat} {spare : Nat → Bool} {held : Bool}
theorem trod_bytes {t e : TypeId} {fuel : Nat} {cs : List Value} {x : DataW H × List MemPlace} (ht : P.underlying t = some (.slice e)) (he : P.underlying e = some (.int .u8)) (hce : P.cellsOf e = 1)
    (hsp : ∀ g, spare g = true) (h : DataW.trod enc P w base spare held fuel t cs = some x) : ∃ (A : Option Addr) (n c : Nat) (l : List Nat), cs = [.slice A n c] ∧ Bs w w.heap.size A n c l := by
  rcases open_ints ht he hce h with ⟨rfl, _⟩ | ⟨a, l, c, zs, rfl, _, hl, hm, hz, _, hcell, hwz⟩
  · exact ⟨none, 0, 0, [], rfl, rfl, Nat.le_refl _, by omega, Rd.nil_, fun _ => rfl⟩
  · rw [hsp, if_pos rfl] at hz
    exact ⟨_, _, _, _, rfl, bs_of_row hl hm hz hcell hwz⟩
end
end
section
open Go Go.RowKit Go.ChangeShapes Go.WideShapes Go.Deep
structure Lst where
  A : Option Addr := none
  n : Nat := 0
  c : Nat := 0
  l : List Nat := []
instance : Inhabited Lst := ⟨{}⟩
def Lst.Ok (a : Lst) (w : World) (B : Nat) : Prop := Bs w B a.A a.n a.c a.l
structure Lsts (w : World) (B : Nat) (A : Option Addr) (n c : Nat) (l : List Lst) : Prop where
  len : l.length = n
  cap : n ≤ c
  most : c ≤ 9223372036854775807
  each : ∀ a ∈ l, a.Ok w B
  rd : 0 < n → ∃ g o, A = some ⟨g, o, none⟩ ∧ g < B ∧ ∀ j a, l[j]? = some a → w.cell? ⟨g, o + j, none⟩ = some (.slice a.A a.n a.c)
  nil_ : A = none → c = 0
theorem Lsts.below {w w' : World} {B : Nat} {A : Option Addr} {n c : Nat} {l : List Lst} (h : Lsts w B A n c l) (hb : Below B w w') : Lsts w' B A n c l :=
  ⟨h.len, h.cap, h.most, fun a ha => (h.each a ha).below hb, fun hn => by
    obtain ⟨g, o, e, hg, hc⟩ := h.rd hn
    exact ⟨g, o, e, hg, fun j a ha => (hb.cell (p := ⟨g, o + j, none⟩) hg).trans (hc j a ha)⟩, h.nil_⟩
theorem Lsts.more {w : World} {B B' : Nat} {A : Option Addr} {n c : Nat} {l : List Lst} (h : Lsts w B A n c l) (hB : B ≤ B') : Lsts w B' A n c l :=
  ⟨h.len, h.cap, h.most, fun a ha => (h.each a ha).more hB, fun hn => by
    obtain ⟨g, o, e, hg, hc⟩ := h.rd hn
    exact ⟨g, o, e, by omega, hc⟩, h.nil_⟩
theorem Lsts.at_ {w : World} {B : Nat} {A : Option Addr} {n c : Nat} {l : List Lst} (h : Lsts w B A n c l) {j : Nat} (hj : j < n) : ∃ g o a, A = some ⟨g, o, none⟩ ∧ g < B ∧ l[j]? = some a ∧ Bs w B a.A a.n a.c a.l ∧
    w.cell? ⟨g, o + j, none⟩ = some (.slice a.A a.n a.c) := by
  obtain ⟨g, o, e, hg, hc⟩ := h.rd (by omega)
  have hj' : j < l.length := by rw [h.len]; exact hj
  have ha : l[j]? = some l[j] := List.getElem?_eq_getElem hj'
  exact ⟨g, o, l[j], e, hg, ha, h.each _ (List.getElem_mem hj'), hc j _ ha⟩
section
variable {H : Type} {enc : TypeId × Value → H} {P : Program} {w : World} {base : Nat} {spare : Nat → Bool} {held : Bool}
theorem trod_lists {t e b : TypeId} {fuel : Nat} {cs : List Value} {x : DataW H × List MemPlace} (ht : P.underlying t = some (.slice e)) (he : P.underlying e = some (.slice b)) (hb : P.underlying b = some (.int .u8)) (hce : P.cellsOf e = 1) (hcb : P.cellsOf b = 1)
    (hsp : ∀ g, spare g = true) (h : DataW.trod enc P w base spare held fuel t cs = some x) : ∃ (A : Option Addr) (n c : Nat) (l : List Lst), cs = [.slice A n c] ∧ Lsts w w.heap.size A n c l := by
  rcases open_slice1 ht hce h with ⟨rfl, _⟩ | ⟨a, len, cap, m, n, V, D, Pl, rfl, _, hl, hm, hmm, _, hi⟩
  · exact ⟨none, 0, 0, [], rfl, rfl, Nat.le_refl _, by omega, fun a ha => (by cases ha), fun h => absurd h (by omega), fun _ => rfl⟩
  · have hle : len ≤ m := by rw [hmm]; split <;> omega
    have each : ∀ i, i < len → ∃ q : Lst, w.cell? (a.add i) = some (.slice q.A q.n q.c) ∧ q.Ok w w.heap.size := fun i hil => by
      obtain ⟨h1, h2⟩ := hi i (by omega)
      obtain ⟨A, k, c, l, hcs, hok⟩ := trod_bytes he hb hcb hsp h2
      injection hcs with hcs
      rw [hcs] at h1
      exact ⟨⟨A, k, c, l⟩, h1, hok⟩
    obtain ⟨f, hf⟩ := choose_lt each
    refine ⟨some a, len, cap, (List.range len).map f, rfl, by simp, hl, by unfold maxLen at hm; exact hm, fun b hb => ?_, fun hn => ?_, fun h => by cases h⟩
    · obtain ⟨i, hil, rfl⟩ := List.mem_map.1 hb
      exact (hf i (List.mem_range.1 hil)).2
    · obtain ⟨g, o, spot⟩ := a
      have hc := (hf 0 hn).1
      have hspot : spot = none := by simpa [Addr.add] using World.cell?_spot hc
      subst hspot
      refine ⟨g, o, rfl, ?_, fun j b hb => ?_⟩
      · have := World.block_lt_of_cell? w _ hc
        simpa [Addr.add] using this
      · rw [List.getElem?_map] at hb
        obtain ⟨i, hi2, rfl⟩ := Option.map_eq_some_iff.1 hb
        obtain ⟨hjl, hji⟩ := List.getElem?_eq_some_iff.1 hi2
        simp at hjl hji
        subst hji
        have := (hf j hjl).1
        rwa [Addr.add_lit] at this
theorem open_lists {t e b : TypeId} (ht : P.underlying t = some (.slice e)) (he : P.underlying e = some (.slice b)) (hb : P.underlying b = some (.int .u8)) (hce : P.cellsOf e = 1) (hcb : P.cellsOf b = 1) {r : Reach} {b0 : Nat} {v : Value} {d : DataW H} {p : List MemPlace}
    (hv : Value.okWide P w r b0 t v) (h : DataW.Trod enc P w base (fun _ => true) held t v d p) : ∃ (A : Option Addr) (n c : Nat) (l : List Lst), v = .slice A n c ∧ Lsts w w.heap.size A n c l := by
  obtain ⟨A, n, c, rfl⟩ := okWide_slice ht hv
  obtain ⟨fuel, hf⟩ := h
  obtain ⟨A', n', c', l, hcs, hl⟩ := trod_lists ht he hb hce hcb (fun _ => rfl) hf
  simp [Value.cells] at hcs
  obtain ⟨rfl, rfl, rfl⟩ := hcs
  exact ⟨_, _, _, l, rfl, hl⟩
end
end
section
open Go Go.RowKit Go.ChangeShapes Go.WideShapes
theorem open_t23 {H : Type} {enc : TypeId × Value → H} {w : World} {base : Nat} {held : Bool} {r : Reach} {b0 : Nat} {v : Value} {d : DataW H} {p : List MemPlace}
    (hv : Value.okWide Try.prog w r b0 23 v) (h : DataW.Trod enc Try.prog w base (fun _ => true) held 23 v d p) : ∃ (A : Option Addr) (n c : Nat) (l : List Lst), v = .slice A n c ∧ Lsts w w.heap.size A n c l :=
  open_lists Try.underlying23 Try.underlying22 Try.underlying5 (by kernel_rfl) (by kernel_rfl) hv h
end
section
def fitsC (k count n : Nat) : Bool := decide (1 ≤ count ∧ count ≤ 8 ∧ k < count ∧ n ≤ 80 ∧ (k + 1 < count → n = 80) ∧ (1 ≤ n ∨ count = 1))
theorem fitsC_iff {k count n : Nat} : fitsC k count n = true ↔ 1 ≤ count ∧ count ≤ 8 ∧ k < count ∧ n ≤ 80 ∧ (k + 1 < count → n = 80) ∧ (1 ≤ n ∨ count = 1) := decide_eq_true_iff
def chunkN (n : Nat) : Nat := if n ≤ 80 then 1 else (n + 79) / 80
def chunkL (b : List Nat) (k : Nat) : List Nat := (b.drop (80 * k)).take 80
def splitL (b : List Nat) : List (List Nat) := (List.range (chunkN b.length)).map (chunkL b)
theorem chunkN_in {n : Nat} (h : n ≤ 640) : 1 ≤ chunkN n ∧ chunkN n ≤ 8 ∧ n ≤ 80 * chunkN n ∧ (2 ≤ chunkN n → 80 * (chunkN n - 1) < n) := by unfold chunkN; split <;> omega
def joinB (l : List (List Nat)) : Bool := decide (1 ≤ l.length) && (List.range l.length).all fun k => fitsC k l.length (l.getD k []).length
theorem joinB_iff {l : List (List Nat)} : joinB l = true ↔ 1 ≤ l.length ∧ ∀ k, k < l.length → fitsC k l.length (l.getD k []).length = true := by
  unfold joinB
  rw [Bool.and_eq_true, decide_eq_true_iff, List.all_eq_true]
  constructor
  · rintro ⟨a, b⟩; exact ⟨a, fun k hk => b k (List.mem_range.2 hk)⟩
  · rintro ⟨a, b⟩; exact ⟨a, fun k hk => b k (List.mem_range.1 hk)⟩
theorem flat_full : ∀ (l : List (List Nat)) (k : Nat), k ≤ l.length → (∀ j, j < k → (l.getD j []).length = 80) → (l.take k).flatten.length = 80 * k
  | _, 0, _, _ => by simp
  | [], k + 1, h, _ => by simp at h
  | x :: l, k + 1, h, hf => by
    have h0 := hf 0 (by omega)
    simp only [List.getD_cons_zero] at h0
    have ih := flat_full l k (by simpa using h) fun j hj => by
      have := hf (j + 1) (by omega)
      simpa using this
    rw [List.take_succ_cons, List.flatten_cons, List.length_append, h0, ih]
    omega
theorem flat_at (l : List (List Nat)) {k : Nat} (hk : k < l.length) (hf : ∀ j, j < k → (l.getD j []).length = 80) : l.flatten.drop (80 * k) = l.getD k [] ++ (l.drop (k + 1)).flatten := by
  have h1 := flat_full l k (by omega) hf
  have h2 : l = l.take k ++ (l.getD k [] :: l.drop (k + 1)) := by
    rw [List.getD_eq_getElem?_getD, List.getElem?_eq_getElem hk, Option.getD_some, List.getElem_cons_drop, List.take_append_drop]
  conv => lhs; rw [h2]
  rw [List.flatten_append, List.drop_append_of_le_length (by omega), List.drop_of_length_le (by omega), List.nil_append, List.flatten_cons]
theorem join_len {l : List (List Nat)} (h : joinB l = true) : l.length ≤ 8 ∧ chunkN l.flatten.length = l.length ∧ l.flatten.length ≤ 640 := by
  obtain ⟨h1, hf⟩ := joinB_iff.1 h
  have hlast := fitsC_iff.1 (hf (l.length - 1) (by omega))
  have hfull : ∀ j, j < l.length - 1 → (l.getD j []).length = 80 := fun j hj => (fitsC_iff.1 (hf j (by omega))).2.2.2.2.1 (by omega)
  have hn := flat_at l (k := l.length - 1) (by omega) hfull
  rw [List.drop_of_length_le (show l.length ≤ l.length - 1 + 1 by omega)] at hn
  have hl := congrArg List.length hn
  rw [List.length_drop, List.length_append, List.flatten_nil, List.length_nil] at hl
  have h8 := hlast.2.1
  have hge : 80 * (l.length - 1) ≤ l.flatten.length := by
    have := flat_full l (l.length - 1) (by omega) hfull
    have h3 : (l.take (l.length - 1)).flatten.length ≤ l.flatten.length := by
      conv => rhs; rw [← List.take_append_drop (l.length - 1) l]
      rw [List.flatten_append, List.length_append]
      omega
    omega
  refine ⟨h8, ?_, by omega⟩
  unfold chunkN
  have := hlast.2.2.2.1
  rcases hlast.2.2.2.2.2 with hp | hp
  · split <;> omega
  · rw [if_pos (by omega), hp]
end
section
open Go Go.RowKit
theorem byte_info : (Try.prog.info? 5).map (fun i => (i.zero, i.size, i.bytes)) = some (some (.int .u8 0), 1, 1) := by kernel_rfl
set_option maxHeartbeats 400000 in
theorem copy_any (A : Option Addr) (l : List Nat) (n c B : Nat) (w : World) (hl : l.length = n) (hr : Rd w B A l) (hnil : A = none → c = 0) (hm : n ≤ 140737488355328) :
    Calls Try.prog 9 #[.slice A n c] w fun e w' => ∃ A' c', e = .returned (.slice A' n c') ∧ n ≤ c' ∧ c' ≤ 9223372036854775807 ∧ w'.ownsRow w.heap.size 5 1 (.slice A' n c') n (vb l) ∧ Below w.heap.size w w' := by
  obtain ⟨i0, hi, hz0, hz1, hz2⟩ := info_parts byte_info
  have HL := Lib.hid hl
  clear hl
  have fin : ∀ (v' : Value) (w1 : World), w1.ownsRow w.heap.size 5 1 v' n (vb l) → w.grownBy w1 none → ∃ A' c', Ending.returned v' = .returned (.slice A' n c') ∧ n ≤ c' ∧ c' ≤ 9223372036854775807 ∧ w1.ownsRow w.heap.size 5 1 (.slice A' n c') n (vb l) ∧ Below w.heap.size w w1 := by
    intro v' w1 hown hg
    obtain ⟨A', c', rfl, h1, h2⟩ := own_form hown
    exact ⟨A', c', rfl, h1, h2, hown, (Below.refl _ _).grown hg (Nat.le_refl _) (by simp)⟩
  have HFIN := Lib.hid fin
  clear fin
  rcases A with _ | ad
  · have hn0 : n = 0 := by
      rcases Nat.eq_zero_or_pos n with h | h
      · exact h
      · obtain ⟨g, o, hA, _⟩ := hr.2 (by rw [HL.out]; exact h)
        cases hA
    subst hn0
    obtain rfl := hnil rfl
    clear hnil
    have hl0 : l = [] := List.eq_nil_of_length_eq_zero HL.out
    subst hl0
    go_enter Try.func9, Try.ntmps9
    go_wp2_with (at_builtin; refine wpList_append_own_none rfl _ _ 22 rfl w.heap.size 5 i0 1 Try.underlying22 hi _ 0 [] rfl (World.ownsRow_nil _ _ _ _) rfl ?_)
    go_ret
    exact HFIN.out _ _ (World.ownsRow_nil _ _ _ _) (World.grownBy.refl _ _)
  · clear hnil
    go_enter Try.func9, Try.ntmps9
    go_wp2_with (at_builtin; refine wpList_append_own _ rfl _ _ 22 rfl w.heap.size 5 i0 (.int .u8 0) 1 1 Try.underlying22 hi hz0 hz1 hz2 rfl (by decide) _ 0 [] rfl (World.ownsRow_nil _ _ _ _) ad n c (vb l) rfl ?c1 ?c2 ?c3 ?c4 ?c5 ?c6 ?_)
    case c1 => rw [vb_length, HL.out]; omega
    case c2 =>
      intro j u hj
      rw [vb_get] at hj
      obtain ⟨x, hx, rfl⟩ := Option.map_eq_some_iff.1 hj
      have hjl : j < l.length := (List.getElem?_eq_some_iff.1 hx).1
      obtain ⟨g, o, y, hA, _, hy, _, hc⟩ := hr.at_ hjl
      injection hA with hA
      subst hA
      rw [hx] at hy
      injection hy with hy
      subst hy
      rw [Addr.add_lit, hc]
    case c3 => exact vb_one l
    case c4 => unfold maxLen; omega
    case c5 => omega
    case c6 => exact Nat.le_refl _
    intro v' w1 hown hg _
    have HO := Lib.hid hown
    have HG := Lib.hid hg
    clear hown hg
    go_wp2_with fail
    go_ret
    exact HFIN.out _ _ HO.out HG.out
end
section
open Go Go.RowKit
set_option maxHeartbeats 400000 in
theorem same_any (A A' : Option Addr) (l l' : List Nat) (n n' c c' B : Nat) (w : World) (hl : l.length = n) (hl' : l'.length = n') (hr : Rd w B A l) (hr' : Rd w B A' l') (hm : n ≤ maxLen) :
    Calls Try.prog 15 #[.slice A n c, .slice A' n' c'] w fun e w' => e = .returned (.bool (decide (l = l'))) ∧ ∃ k, w' = w.drewN k := by
  unfold maxLen at hm
  by_cases hne : n = n'
  · subst hne
    have HL := Lib.hid hl
    have HL' := Lib.hid hl'
    clear hl hl'
    go_enter Try.func15, Try.ntmps15
    go_wp2_with fail
    go_loopw [5] (fun i wr => ∃ k : Nat, k ≤ n ∧ i = .int .i64 k ∧ (∃ j, wr = w.drewN j) ∧ l.take k = l'.take k) (fun i _ => n - (intOf i).toNat)
    case atStart => exact ⟨0, Nat.zero_le _, rfl, ⟨0, rfl⟩, rfl⟩
    case round =>
      obtain ⟨k, hk, rfl, ⟨j, rfl⟩, htk⟩ := hrel
      have HT := Lib.hid htk
      clear htk
      by_cases hlt : k < n
      · obtain ⟨g, o, x, hA, _, hx, hx2, hcx⟩ := hr.at_ (k := k) (by rw [HL.out]; exact hlt)
        obtain ⟨g', o', y, hA', _, hy, hy2, hcy⟩ := hr'.at_ (k := k) (by rw [HL'.out]; exact hlt)
        subst hA; subst hA'
        have HX := Lib.hid hx
        have HY := Lib.hid hy
        clear hx hy
        by_cases hxy : x = y
        · subst hxy
          have hb : (((x : Nat) : Int) != ((x : Nat) : Int)) = false := by simp
          go_wp2_with fail
          go_quiet (fail)
          go_wp2_with fail
          go_roundw
          case rel => exact ⟨k + 1, by omega, by go_num, ⟨_, rfl⟩, take_step HT.out HX.out HY.out⟩
          case measure => simp [intOf]; omega
        · have hb : (((x : Nat) : Int) != ((y : Nat) : Int)) = true := by rw [bne_iff_ne]; omega
          have HF := Lib.hid (ne_of_get HX.out HY.out hxy)
          clear hxy
          go_wp2_with fail
          go_quiet (fail)
          go_wp2_with fail
          go_ret
          exact ⟨by rw [HF.out]; rfl, _, drewN_add _ _ _⟩
      · have HF : Hid (decide (l = l') = true) := by
          apply Lib.hid
          have := HT.out
          rw [List.take_of_length_le (by have := HL.out; omega), List.take_of_length_le (by have := HL'.out; omega)] at this
          simpa using this
        go_wp2_with fail
        go_ret
        exact ⟨by rw [HF.out]; rfl, _, rfl⟩
  · have HF := Lib.hid (show decide (l = l') = false by
      simp only [decide_eq_false_iff_not]
      rintro rfl
      exact hne (hl.symm.trans hl'))
    have hb : (((n : Nat) : Int) != ((n' : Nat) : Int)) = true := by rw [bne_iff_ne]; omega
    clear hne hl hl'
    go_enter Try.func15, Try.ntmps15
    go_wp2_with fail
    go_ret
    exact ⟨by rw [HF.out]; rfl, 0, rfl⟩
end
section
open Go Go.RowKit
theorem same_by (A A' : Option Addr) (l l' : List Nat) (n n' c c' : Nat) (w : World) (hb : By w A n c l) (hb' : By w A' n' c' l') :
    Calls Try.prog 15 #[.slice A n c, .slice A' n' c'] w fun e w' => e = .returned (.bool (decide (l = l'))) ∧ Ext w w' :=
  (same_any A A' l l' n n' c c' _ w hb.len hb'.len hb.rd hb'.rd (by have := hb.cap; have := hb.most; unfold maxLen; omega)).mono fun _ _ ⟨h, k, hk⟩ => ⟨h, by subst hk; exact (Ext.refl _).drewN k⟩
theorem copy_by (A : Option Addr) (l : List Nat) (n c : Nat) (w : World) (hb : By w A n c l) (hm : n ≤ 140737488355328) :
    Calls Try.prog 9 #[.slice A n c] w fun e w' => ∃ A' c', e = .returned (.slice A' n c') ∧ By w' A' n c' l ∧ Ext w w' ∧ w'.ownsRow w.heap.size 5 1 (.slice A' n c') n (vb l) :=
  (copy_any A l n c _ w hb.len hb.rd (Bs.nil_ hb) hm).mono fun _ _ ⟨A', c', h1, _, _, h4, h5⟩ => ⟨A', c', h1, Bs.of_own h4 hb.rd.lt, h5, h4⟩
end
section
open Go Go.RowKit
theorem u8_sizeZ (w : World) : (sizeOf (Try.prog.elem 22)).run Try.prog w = .ok 1 w := by
  have ht : Try.prog.elem 22 = 5 := by kernel_rfl
  obtain ⟨i0, hi, _, hz1, _⟩ := info_parts byte_info
  rw [ht]
  simp [Go.sizeOf, typeInfo, hi, hz1]
def inZ (a n b : Int) : Bool := decide (a ≤ n ∧ n ≤ b)
theorem inZ_iff {a n b : Int} : inZ a n b = true ↔ a ≤ n ∧ n ≤ b := decide_eq_true_iff
set_option maxHeartbeats 400000 in
theorem zwithin_of (a n b : Int) (w : World) : Calls Try.prog 37 #[.int .i64 a, .int .i64 n, .int .i64 b] w fun e w' => e = .returned (.bool (inZ a n b)) ∧ w = w' := by
  by_cases h1 : a ≤ n
  · by_cases h2 : n ≤ b
    · have hd : inZ a n b = true := inZ_iff.2 ⟨h1, h2⟩
      rw [hd]
      clear hd
      go_enter Try.func37, Try.ntmps37
      go_wp2
      go_ret
      exact ⟨rfl, rfl⟩
    · have hd : inZ a n b = false := by unfold inZ; exact decide_eq_false fun h => h2 h.2
      rw [hd]
      clear hd
      go_enter Try.func37, Try.ntmps37
      go_wp2
      go_ret
      exact ⟨rfl, rfl⟩
  · have hd : inZ a n b = false := by unfold inZ; exact decide_eq_false fun h => h1 h.1
    rw [hd]
    clear hd
    go_enter Try.func37, Try.ntmps37
    go_wp2
    go_ret
    exact ⟨rfl, rfl⟩
set_option maxHeartbeats 400000 in
theorem zcount_of (n : Int) (w : World) : Calls Try.prog 32 #[.int .i64 n] w fun e w' => e = .returned (.bool (inZ 1 n 8)) ∧ w = w' := by
  go_enter Try.func32, Try.ntmps32
  go_wp2_with fail
  refine (zwithin_of 1 n 8 _).mono ?_
  rintro e w1 ⟨rfl, rfl⟩
  go_wp2_with fail
  go_ret
  exact ⟨rfl, rfl⟩
def fitsZ (k : Int) (count n : Nat) : Bool := decide (0 ≤ k) && fitsC k.toNat count n
theorem fitsZ_nat {k count n : Nat} : fitsZ (k : Int) count n = fitsC k count n := by unfold fitsZ; simp
theorem fitsZ_eq {k : Int} {count n : Nat} (hc : 1 ≤ count ∧ count ≤ 8) : fitsZ k count n = (inZ 0 k ((count : Int) - 1) && inZ (if count = 1 then 0 else if k < (count : Int) - 1 then 80 else 1) (n : Int) 80) := by
  unfold fitsZ inZ
  rw [Bool.eq_iff_iff, Bool.and_eq_true, Bool.and_eq_true, decide_eq_true_iff, decide_eq_true_iff, decide_eq_true_iff, fitsC_iff]
  by_cases h1 : count = 1
  · rw [if_pos h1]; omega
  · rw [if_neg h1]
    by_cases h2 : k < (count : Int) - 1
    · rw [if_pos h2]; omega
    · rw [if_neg h2]; omega
set_option maxHeartbeats 800000 in
theorem zmay_of (count : Nat) (hc : 1 ≤ count ∧ count ≤ 8) (k : Int) (A : Option Addr) (n c : Nat) (w : World) :
    Calls Try.prog 33 #[.int .i64 (count : Int), .int .i64 k, .slice A n c] w fun e w' => e = .returned (.bool (fitsZ k count n)) ∧ w = w' := by
  rw [fitsZ_eq hc]
  have fin : ∀ L : Int, (if count = 1 then (0 : Int) else if k < (count : Int) - 1 then 80 else 1) = L → Hid (Calls Try.prog 37 #[.int .i64 L, .int .i64 (n : Int), .int .i64 80] w fun e w' => e = .returned (.bool (inZ L n 80)) ∧ w = w') := fun L _ => Lib.hid (zwithin_of L n 80 w)
  have HI := Lib.hid (zwithin_of 0 k ((count : Int) - 1) w)
  obtain ⟨b0, hb0⟩ : ∃ b0, inZ 0 k ((count : Int) - 1) = b0 := ⟨_, rfl⟩
  rw [hb0] at HI ⊢
  clear hb0
  by_cases h1 : count = 1
  · subst h1
    have H2 := fin 0 rfl
    rw [if_pos rfl]
    clear fin
    cases b0 with
    | false =>
      go_enter Try.func33, Try.ntmps33
      go_wp2_with fail
      refine HI.out.mono ?_
      rintro e w1 ⟨rfl, rfl⟩
      go_wp2_with fail
      go_ret
      exact ⟨rfl, rfl⟩
    | true =>
      go_enter Try.func33, Try.ntmps33
      go_wp2_with fail
      refine HI.out.mono ?_
      rintro e w1 ⟨rfl, rfl⟩
      go_wp2_with fail
      refine H2.out.mono ?_
      rintro e w1 ⟨rfl, rfl⟩
      go_wp2_with fail
      go_ret
      exact ⟨rfl, rfl⟩
  · have h1i : ¬ (count : Int) = 1 := by omega
    by_cases h2 : k < (count : Int) - 1
    · have H2 := fin 80 (by rw [if_neg h1, if_pos h2])
      rw [if_neg h1, if_pos h2]
      clear fin
      cases b0 with
      | false =>
        go_enter Try.func33, Try.ntmps33
        go_wp2_with fail
        refine HI.out.mono ?_
        rintro e w1 ⟨rfl, rfl⟩
        go_wp2_with fail
        go_ret
        exact ⟨rfl, rfl⟩
      | true =>
        go_enter Try.func33, Try.ntmps33
        go_wp2_with fail
        refine HI.out.mono ?_
        rintro e w1 ⟨rfl, rfl⟩
        go_wp2_with fail
        refine H2.out.mono ?_
        rintro e w1 ⟨rfl, rfl⟩
        go_wp2_with fail
        go_ret
        exact ⟨rfl, rfl⟩
    · have H2 := fin 1 (by rw [if_neg h1, if_neg h2])
      rw [if_neg h1, if_neg h2]
      clear fin
      cases b0 with
      | false =>
        go_enter Try.func33, Try.ntmps33
        go_wp2_with fail
        refine HI.out.mono ?_
        rintro e w1 ⟨rfl, rfl⟩
        go_wp2_with fail
        go_ret
        exact ⟨rfl, rfl⟩
      | true =>
        go_enter Try.func33, Try.ntmps33
        go_wp2_with fail
        refine HI.out.mono ?_
        rintro e w1 ⟨rfl, rfl⟩
        go_wp2_with fail
        refine H2.out.mono ?_
        rintro e w1 ⟨rfl, rfl⟩
        go_wp2_with fail
        go_ret
        exact ⟨rfl, rfl⟩
end
section
structure DM where
  rest : List (List Nat)
  meant : List (List Nat)
  lost : List Bool
  waits : List (Nat × List Nat) := []
  down : Bool := false
  dead : Bool := false
  power : Int := -1
def kept : List (Nat × List Nat) → List Bool → List (Nat × List Nat)
  | x :: l, true :: k => x :: kept l k
  | _ :: l, false :: k => kept l k
  | _, _ => []
end
section
set_option maxRecDepth 100000
end
section
open Go
def digs : Nat → Nat → List Nat
  | 0, _ => []
  | k + 1, n => n % 256 :: digs k (n / 256)
def num : List Nat → Nat
  | [] => 0
  | b :: r => b + 256 * num r
end
section
open Go
def wth : Nat → Nat
  | 0 => 1
  | 1 => 1
  | 2 => 1
  | _ => 6
def pre (f : Nat → Nat) : Nat → List Nat
  | 0 => []
  | k + 1 => pre f k ++ digs (wth k) (f k)
def pos : Nat → Nat
  | 0 => 0
  | 1 => 1
  | 2 => 2
  | 3 => 3
  | 4 => 9
  | _ => 15
end
section
set_option maxRecDepth 100000
end
section
open Go Go.RowKit
theorem wpList_append_by {P : Program} {w : World} {ops : Array Oper} {rest : List Oper} {o : Oper} {a : Act} {Q : Exit → Act → World → Prop} (hgd : o.guard = none) (s x : Operand) (t : TypeId)
    (ho : o.op = .call { callee := .builtin .append, args := #[s, x], argTypes := #[t, t] })
    (base : Nat) (e : TypeId) (i : TypeInfo) (ht : P.underlying t = some (.slice e)) (hi : P.info? e = some i) (hz : i.zero = some (.int .u8 0))
    (hsize : i.size = 1) (hby : i.bytes = 1)
    (v : Value) (n : Nat) (xs : List Value) (hs : a.eval s = v) (hown : w.ownsRow base e 1 v n xs)
    (A : Option Addr) (m c : Nat) (l : List Nat) (hx : a.eval x = .slice A m c) (hb : By w A m c l)
    (hbytes : n + m ≤ 140737488355328) (hbase : base ≤ w.heap.size)
    (h : ∀ v' w', w'.ownsRow base e 1 v' (n + m) (xs ++ vb l) → w.grownBy w' v.ownBlock → wpList P ops Q rest (a.put o.dst v') w') : wpList P ops Q (o :: rest) a w := by
  cases A with
  | none =>
    obtain rfl := Bs.nil_ hb rfl
    have hm : m = 0 := by have := hb.cap; omega
    subst hm
    have hl : l = [] := List.eq_nil_of_length_eq_zero hb.len
    subst hl
    refine wpList_append_own_none hgd s x t ho base e i 1 ht hi v n xs hs hown hx ?_
    exact h v w (by simpa [vb] using hown) (World.grownBy.refl _ _)
  | some ad =>
    refine wpList_append_own w hgd s x t ho base e i (.int .u8 0) 1 1 ht hi hz hsize hby rfl (by decide) v n xs hs hown ad m c (vb l) hx (by rw [vb_length, hb.len]; omega) ?_ (vb_one l) (by unfold maxLen; omega) (by omega) hbase fun v' w' h1 h2 _ => h v' w' h1 h2
    intro j u hj
    rw [vb_get] at hj
    obtain ⟨y, hy, rfl⟩ := Option.map_eq_some_iff.1 hj
    have hjl : j < l.length := (List.getElem?_eq_some_iff.1 hy).1
    obtain ⟨g, o', z, hA, _, hz', _, hc⟩ := hb.rd.at_ hjl
    injection hA with hA
    subst hA
    rw [hy] at hz'
    injection hz' with hz'
    subst hz'
    rw [Addr.add_lit, hc]
theorem app_step {w0 w1 w2 : World} {v v2 : Value} {e n m : Nat} {xs : List Value} {l1 l2 : List Nat} (hx : Ext w0 w1) (hown : w1.ownsRow w0.heap.size e 1 v n xs) (hg : w1.grownBy w2 v.ownBlock)
    (h2 : w2.ownsRow w0.heap.size e 1 v2 m (vb l1 ++ vb l2)) (hb1 : ∀ b ∈ l1, b < 256) (hb2 : ∀ b ∈ l2, b < 256) :
    Ext w0 w2 ∧ ∃ A c, v2 = .slice A m c ∧ By w2 A m c (l1 ++ l2) ∧ w2.ownsRow w0.heap.size e 1 (.slice A m c) m (vb (l1 ++ l2)) := by
  refine ⟨Below.grown hx hg (Ext.size hx) (fun g hg' => (hown.lt g hg').1), ?_⟩
  obtain ⟨A, c, rfl, _, _⟩ := own_form h2
  rw [← vb_append] at h2
  exact ⟨A, c, rfl, Bs.of_own h2 (by intro b hb; rcases List.mem_append.1 hb with h | h; exact hb1 b h; exact hb2 b h), h2⟩
end
end Go.Proofs.Ytnlappoocffcpaa
