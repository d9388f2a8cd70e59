/-
  How what is known of the table of bounds, and of bytes, is carried over calls that write nothing that was there.
-/
import Derived.Test.YtcnjhblboedbpaaDoorNum
import Derived.Test.YtcnjhblboedbpaaDoorBytes
namespace Go.Proofs.YtcnjhblboedbpaaDoor
open Go Go.RowKit

theorem Laid.keep {w w' : World} (h : Laid w) (hk : ∀ p : Addr, p.block < w.heap.size → w'.cell? p = w.cell? p) : Laid w' := by
  have hlt : 0 < w.heap.size := World.block_lt_of_cell? w _ h.1
  unfold Laid at h ⊢
  obtain ⟨h0, h1, h2, h3, h4, h5, h6⟩ := h
  exact ⟨(hk _ hlt).trans h0, (hk _ hlt).trans h1, (hk _ hlt).trans h2, (hk _ hlt).trans h3, (hk _ hlt).trans h4, (hk _ hlt).trans h5, (hk _ hlt).trans h6⟩
theorem Laid.below {w w' : World} (h : Laid w) (hb : Below w.heap.size w w') : Laid w' := h.keep fun _ hp => hb.cell hp
theorem Laid.drewN {w : World} (h : Laid w) (k : Nat) : Laid (w.drewN k) := h
theorem below_drewN {B : Nat} {a w : World} (h : Below B a w) (k : Nat) : Below B a (w.drewN k) := ⟨h.os, h.tape, h.output, h.size, h.block⟩

/-- A slice value that reads as the bytes l, whatever its capacity. -/
structure Bs (w : World) (B : Nat) (A : Option Addr) (n c : Nat) (l : List Nat) : Prop where
  len : l.length = n
  cap : n ≤ c
  most : c ≤ 9223372036854775807
  rd : Rd w B A l
  nil_ : A = none → c = 0
theorem Bs.below {w w' : World} {B : Nat} {A : Option Addr} {n c : Nat} {l : List Nat} (h : Bs w B A n c l) (hb : Below B w w') : Bs w' B A n c l := ⟨h.len, h.cap, h.most, h.rd.below hb, h.nil_⟩
theorem Bs.more {w : World} {B B' : Nat} {A : Option Addr} {n c : Nat} {l : List Nat} (h : Bs w B A n c l) (hB : B ≤ B') : Bs w B' A n c l := ⟨h.len, h.cap, h.most, h.rd.more hB, h.nil_⟩
theorem Bs.drewN {w : World} {B : Nat} {A : Option Addr} {n c : Nat} {l : List Nat} (h : Bs w B A n c l) (k : Nat) : Bs (w.drewN k) B A n c l := ⟨h.len, h.cap, h.most, h.rd.drewN k, h.nil_⟩
theorem Bs.of_own {w : World} {A : Option Addr} {base t n c : Nat} {l : List Nat} (h : w.ownsRow base t 1 (.slice A n c) n (vb l)) (hl : ∀ b ∈ l, b < 256) : Bs w w.heap.size A n c l := by
  have hlen := h.1
  rw [vb_length] at hlen
  refine ⟨by omega, ?_, ?_, Rd.of_own h hl, ?_⟩
  · obtain ⟨A', c', e, h1, _⟩ := own_form h
    injection e with _ _ e3
    omega
  · obtain ⟨A', c', e, _, h2⟩ := own_form h
    injection e with _ _ e3
    omega
  · intro hA
    subst hA
    rcases h.2 with ⟨e, _⟩ | ⟨g, cap, cur, e, _⟩
    · injection e
    · injection e with e1
      cases e1
end Go.Proofs.YtcnjhblboedbpaaDoor
