/-
  How what is known of slices of bytes is carried over calls that write nothing that was there.
-/
import Derived.Test.YtmohjofjfekjfaaBytes
namespace Go.Proofs.Ytmohjofjfekjfaa
set_option maxRecDepth 100000
open Go Go.RowKit

theorem below_drewN {B : Nat} {a w : World} (h : Below B a w) (k : Nat) : Below B a (w.drewN k) := ⟨h.os, h.tape, h.output, h.size, h.block⟩

/-- A slice value that reads as the bytes l, whatever its capacity. -/
structure Bs (w : World) (B : Nat) (A : Option Addr) (n c : Nat) (l : List Nat) : Prop where
  len : l.length = n
  cap : n ≤ c
  most : c ≤ 9223372036854775807
  rd : Rd w B A l
  nil_ : A = none → c = 0
theorem Bs.below {w w' : World} {B : Nat} {A : Option Addr} {n c : Nat} {l : List Nat} (h : Bs w B A n c l) (hb : Below B w w') : Bs w' B A n c l := ⟨h.len, h.cap, h.most, h.rd.below hb, h.nil_⟩
theorem Bs.more {w : World} {B B' : Nat} {A : Option Addr} {n c : Nat} {l : List Nat} (h : Bs w B A n c l) (hB : B ≤ B') : Bs w B' A n c l := ⟨h.len, h.cap, h.most, h.rd.more hB, h.nil_⟩
theorem Bs.drewN {w : World} {B : Nat} {A : Option Addr} {n c : Nat} {l : List Nat} (h : Bs w B A n c l) (k : Nat) : Bs (w.drewN k) B A n c l := ⟨h.len, h.cap, h.most, h.rd.drewN k, h.nil_⟩
theorem Bs.of_own {w : World} {A : Option Addr} {base t n c : Nat} {l : List Nat} (h : w.ownsRow base t 1 (.slice A n c) n (vb l)) (hl : ∀ b ∈ l, b < 256) : Bs w w.heap.size A n c l := by
  have hlen := h.1
  rw [vb_length] at hlen
  refine ⟨by omega, ?_, ?_, Rd.of_own h hl, ?_⟩
  · obtain ⟨A', c', e, h1, _⟩ := own_form h
    injection e with _ _ e3
    omega
  · obtain ⟨A', c', e, _, h2⟩ := own_form h
    injection e with _ _ e3
    omega
  · intro hA
    subst hA
    rcases h.2 with ⟨e, _⟩ | ⟨g, cap, cur, e, _⟩
    · injection e
    · injection e with e1
      cases e1

/-- Nothing that was there has been written. -/
def Ext (w w' : World) : Prop := Below w.heap.size w w'
theorem Ext.refl (w : World) : Ext w w := Below.refl _ _
theorem Ext.trans {a b c : World} (h : Ext a b) (k : Ext b c) : Ext a c := Below.trans h (Below.mono k (Below.size h))
theorem Ext.alloc {a b : World} (h : Ext a b) (o : Obj) : Ext a (b.alloc o) := Below.alloc h (Below.size h) o
theorem Ext.drew {a b : World} (h : Ext a b) : Ext a b.drew := Below.drew h
theorem Ext.drewN {a b : World} (h : Ext a b) (k : Nat) : Ext a (b.drewN k) := below_drewN h k
theorem Ext.grown {a b c : World} (h : Ext a b) (hg : b.grownBy c none) : Ext a c := Below.grown h hg (Below.size h) (by simp)
theorem Ext.size {a b : World} (h : Ext a b) : a.heap.size ≤ b.heap.size := Below.size h
/-- A slice of bytes, wherever it lies. -/
def By (w : World) (A : Option Addr) (n c : Nat) (l : List Nat) : Prop := Bs w w.heap.size A n c l
theorem By.ext {a b : World} {A : Option Addr} {n c : Nat} {l : List Nat} (h : By a A n c l) (k : Ext a b) : By b A n c l := (Bs.below h k).more (Ext.size k)
theorem By.nil_ (w : World) : By w none 0 0 [] := ⟨rfl, Nat.le_refl _, by omega, Rd.nil_, fun _ => rfl⟩
theorem By.drop_last {w : World} {A : Option Addr} {n c : Nat} {l : List Nat} (h : By w A n c l) (k : Nat) (hk : k ≤ n) : By w A k c (l.take k) :=
  ⟨by rw [List.length_take, h.len]; omega, Nat.le_trans hk h.cap, h.most, h.rd.take k, Bs.nil_ h⟩
theorem By.of_row {w : World} {g n c : Nat} {l : List Nat} {cs : Array Value} {t : TypeId} {fr : Nat × Nat} (hh : w.heap[g]? = some (.cells cs t fr)) (hl : ∀ (j x : Nat), l[j]? = some x → cs[j]? = some (Value.int .u8 ((x : Nat) : Int))) (hb : ∀ b ∈ l, b < 256)
    (hn : l.length = n) (hc : n ≤ c) (hm : c ≤ 9223372036854775807) : By w (some ⟨g, 0, none⟩) n c l := by
  refine ⟨hn, hc, hm, ⟨hb, fun _ => ⟨g, 0, rfl, (Array.getElem?_eq_some_iff.1 hh).1, fun j x hx => ?_⟩⟩, fun h => by cases h⟩
  rw [Nat.zero_add, cell_of_row w g j cs t fr hh]
  exact hl j x hx
theorem vb_at {l : List Nat} {j x : Nat} (h : l[j]? = some x) : (vb l).toArray[j]? = some (Value.int .u8 ((x : Nat) : Int)) := by
  rw [List.getElem?_toArray, vb_get, h]
  rfl
/-- A literal of bytes that the call has just made. -/
theorem By.lit (w : World) (l : List Nat) (t : TypeId) (hb : ∀ b ∈ l, b < 256) (hm : l.length ≤ 9223372036854775807) (cs : Array Value) (hcs : cs = (vb l).toArray) : By (w.alloc (.cells cs t)) (some ⟨w.heap.size, 0, none⟩) l.length l.length l := by
  subst hcs
  exact By.of_row (heap_alloc_new w _) (fun j x hx => vb_at hx) hb rfl (Nat.le_refl _) hm
end Go.Proofs.Ytmohjofjfekjfaa
