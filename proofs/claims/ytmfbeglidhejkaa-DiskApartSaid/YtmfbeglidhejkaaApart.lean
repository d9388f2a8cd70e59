/-
  What DiskApart keeps: a disk, an act, two rows of four slices, and what they told.
-/
import Derived.Test.YtmfbeglidhejkaaKReads
import Derived.Test.YtmfbeglidhejkaaRow4s
import Derived.Test.YtmfbeglidhejkaaDTorn
namespace Go.Proofs.Ytmfbeglidhejkaa
open Go Go.RowKit

/-- The blocks that a told row must not lie in: the disk's, and the three variables'. -/
def Gv (F : Nat → Prop) (B k : Nat) : Prop := F k ∨ k = B ∨ k = B + 1 ∨ k = B + 1 + 1
/-- While the rows are laid: so many reads, so many that are meant. -/
structure Apt (w0 w : World) (d : Nat) (F : Nat → Prop) (m : DM) (B : Nat) (o : Obj) (f g : Nat → Option Addr × Nat) (j1 j2 : Nat) : Prop where
  dk : DK w0 w d F m
  low : ∀ i, F i → i < B
  base : w0.heap.size ≤ B
  act : w.heap[B]? = some o
  row1 : Row4s w (B + 1) f
  row2 : Row4s w (B + 1 + 1) g
  told1 : ∀ i : Nat, i < j1 → Tol (Gv F B) w (f i).1 (f i).2 (m.read (i : Int)).1
  told2 : ∀ i : Nat, i < j2 → Tol (Gv F B) w (g i).1 (g i).2 (m.means (i : Int)).1
section
variable {w0 w w' : World} {d : Nat} {F : Nat → Prop} {m : DM} {B : Nat} {o : Obj} {f g : Nat → Option Addr × Nat} {j1 j2 : Nat}
theorem heap_ext {k : Nat} {o : Obj} (h : w.heap[k]? = some o) (x : Ext w w') : w'.heap[k]? = some o := heap_mod (F := fun _ => False) h (Mod.of_ext x) fun h => h
theorem Apt.ext (h : Apt w0 w d F m B o f g j1 j2) (k : Ext w w') : Apt w0 w' d F m B o f g j1 j2 :=
  ⟨h.dk.ext k, h.low, h.base, heap_ext h.act k, h.row1.ext k, h.row2.ext k, fun i hi => (h.told1 i hi).ext k, fun i hi => (h.told2 i hi).ext k⟩
theorem Apt.gv (h : Apt w0 w d F m B o f g j1 j2) : ∀ i, Gv F B i → i < w.heap.size := fun i hi => by
  have := h.row2.lt
  rcases hi with hi | rfl | rfl | rfl
  · have := h.low i hi; omega
  · omega
  · omega
  · omega
theorem Apt.put1 (h : Apt w0 w d F m B o f g j1 j2) (hj : j1 < 4) {A : Option Addr} {n : Nat} (ht : Tol (Gv F B) w A n (m.read (j1 : Int)).1) : Apt w0 (w.setCell ⟨B + 1, j1, none⟩ (.slice A n n)) d F m B o (fun s => if s = j1 then (A, n) else f s) g (j1 + 1) j2 := by
  have hm : Mod (fun i => i = B + 1) w (w.setCell ⟨B + 1, j1, none⟩ (.slice A n n)) := Mod.setCell (F := fun i => i = B + 1) (Mod.refl _ _) (.inl rfl) _
  refine ⟨h.dk.mod hm (fun i hi e => by have := h.low i hi; omega) (fun i e => by have := h.base; omega), h.low, h.base, heap_mod h.act hm (by omega), h.row1.set hj A n, h.row2.mod hm (by omega), fun i hi => ?_, fun i hi => (h.told2 i hi).keep hm fun i e => .inr (.inr (.inl e))⟩
  by_cases e : i = j1
  · subst e
    simp only [if_pos]
    exact ht.keep hm fun i e => .inr (.inr (.inl e))
  · simp only [if_neg e]
    exact (h.told1 i (by omega)).keep hm fun i e => .inr (.inr (.inl e))
theorem Apt.put2 (h : Apt w0 w d F m B o f g j1 j2) (hj : j2 < 4) {A : Option Addr} {n : Nat} (ht : Tol (Gv F B) w A n (m.means (j2 : Int)).1) : Apt w0 (w.setCell ⟨B + 1 + 1, j2, none⟩ (.slice A n n)) d F m B o f (fun s => if s = j2 then (A, n) else g s) j1 (j2 + 1) := by
  have hm : Mod (fun i => i = B + 1 + 1) w (w.setCell ⟨B + 1 + 1, j2, none⟩ (.slice A n n)) := Mod.setCell (F := fun i => i = B + 1 + 1) (Mod.refl _ _) (.inl rfl) _
  refine ⟨h.dk.mod hm (fun i hi e => by have := h.low i hi; omega) (fun i e => by have := h.base; omega), h.low, h.base, heap_mod h.act hm (by omega), h.row1.mod hm (by omega), h.row2.set hj A n, fun i hi => (h.told1 i hi).keep hm fun i e => .inr (.inr (.inr e)), fun i hi => ?_⟩
  by_cases e : i = j2
  · subst e
    simp only [if_pos]
    exact ht.keep hm fun i e => .inr (.inr (.inr e))
  · simp only [if_neg e]
    exact (h.told2 i (by omega)).keep hm fun i e => .inr (.inr (.inr e))
/-- The three variables, new. -/
theorem apt_start (h : DK w0 w d F m) (O : Obj) : Apt w0 (((w.alloc O).alloc (.cells #[.slice none 0 0, .slice none 0 0, .slice none 0 0, .slice none 0 0] 65)).alloc (.cells #[.slice none 0 0, .slice none 0 0, .slice none 0 0, .slice none 0 0] 65)) d F m w.heap.size O (fun _ => (none, 0)) (fun _ => (none, 0)) 0 0 := by
  have e1 := (Ext.refl w).alloc O
  have e2 := (Ext.refl (w.alloc O)).alloc (.cells #[.slice none 0 0, .slice none 0 0, .slice none 0 0, .slice none 0 0] 65)
  have e3 := (Ext.refl ((w.alloc O).alloc (.cells #[.slice none 0 0, .slice none 0 0, .slice none 0 0, .slice none 0 0] 65))).alloc (.cells #[.slice none 0 0, .slice none 0 0, .slice none 0 0, .slice none 0 0] 65)
  have s1 : (w.alloc O).heap.size = w.heap.size + 1 := by simp
  have s2 : ((w.alloc O).alloc (.cells #[.slice none 0 0, .slice none 0 0, .slice none 0 0, .slice none 0 0] 65)).heap.size = w.heap.size + 1 + 1 := by simp
  refine ⟨((h.ext e1).ext e2).ext e3, h.disk.lt, h.bel.size, heap_ext (heap_ext (heap_alloc_new w O) e2) e3, ?_, ?_, fun i hi => absurd hi (Nat.not_lt_zero _), fun i hi => absurd hi (Nat.not_lt_zero _)⟩
  · rw [← s1]
    exact Row4s.ext (heap_alloc_new (w.alloc O) _) e3
  · rw [← s2]
    exact heap_alloc_new ((w.alloc O).alloc _) _
/-- Behind the fault. -/
structure Apd (w0 w : World) (d : Nat) (F : Nat → Prop) (m m9 : DM) (B : Nat) (o : Obj) (f g : Nat → Option Addr × Nat) : Prop where
  dk : DK w0 w d F m9
  act : w.heap[B]? = some o
  row1 : Row4s w (B + 1) f
  row2 : Row4s w (B + 1 + 1) g
  told1 : ∀ i : Nat, i < 4 → New 0 w (f i).1 (f i).2 (m.read (i : Int)).1
  told2 : ∀ i : Nat, i < 4 → New 0 w (g i).1 (g i).2 (m.means (i : Int)).1
theorem Apd.ext {m9 : DM} (h : Apd w0 w d F m m9 B o f g) (k : Ext w w') : Apd w0 w' d F m m9 B o f g :=
  ⟨h.dk.ext k, heap_ext h.act k, h.row1.ext k, h.row2.ext k, fun i hi => (h.told1 i hi).ext k, fun i hi => (h.told2 i hi).ext k⟩
theorem Apt.fault {m9 : DM} (h : Apt w0 w d F m B o f g 4 4) (hp : PDisk w' d (grow F w w') m9) (hm : Mod F w w') : Apd w0 w' d (grow F w w') m m9 B o f g :=
  ⟨h.dk.step hp hm, heap_mod h.act hm (fun e => by have := h.low _ e; omega), h.row1.mod hm (fun e => by have := h.low _ e; omega), h.row2.mod hm (fun e => by have := h.low _ e; omega), fun i hi => ((h.told1 i hi).keep hm fun i e => .inl e).new, fun i hi => ((h.told2 i hi).keep hm fun i e => .inl e).new⟩
end
theorem means_of {m m9 : DM} (h1 : m9.size = m.size) (h2 : m9.meant = m.meant) (s : Int) : m9.means s = m.means s := by
  unfold DM.means DM.has
  rw [h1, h2]
theorem means_zero {m : DM} (h : m.size = 4) {s : Nat} (hs : s < 4) : (m.means (s : Int)).2 = 0 := by
  have hh : m.has (s : Int) = true := DM.has_iff.2 ⟨by omega, by rw [h]; omega⟩
  unfold DM.means
  rw [if_neg (by rw [hh]; simp)]
/-- An act of three numbers below 256. -/
theorem Act5.nums (kd p q : Nat) (w : World) (B : Nat) (hk : kd < 256) (hp : p < 256) (hq : q < 256) : ({ kind := kd, sec := (p : Int), num := (q : Int) } : Act5).Ok w B :=
  ⟨hk, nat_wf p hp, nat_wf q hq, ⟨rfl, Nat.le_refl _, by show (0 : Nat) ≤ 9223372036854775807; omega, Rd.nil_, fun _ => rfl⟩, ⟨rfl, Nat.le_refl _, by show (0 : Nat) ≤ 9223372036854775807; omega, fun h => absurd h (by show ¬ (0 < 0); omega), fun _ => rfl⟩⟩
/-- The fault's call. -/
theorem fault_do {w : World} {d : Nat} {F : Nat → Prop} {m : DM} (h : PDisk w d F m) (kd p q : Nat) (hk : kd < 256) (hp : p < 256) (hq : q < 256) (hfew : m.waits.length ≤ 1000) :
    Calls Try.prog 14 #[.pointer (some ⟨d, 0, none⟩), .agg #[.int .u8 (kd : Int), .int .i64 (p : Int), .int .i64 (q : Int), .slice none 0 0, .slice none 0 0]] w
      (Outc d F w (m.act kd (p : Int) (q : Int) [] []).1 (m.act kd (p : Int) (q : Int) [] []).2) := by
  have hd := do_of h { kind := kd, sec := (p : Int), num := (q : Int) } (Act5.nums kd p q w _ hk hp hq) (fun hn => absurd hn (by show ¬ (0 < 0); omega)) (show (0 : Nat) ≤ 140737488355328 by omega) (by omega)
  unfold actV at hd
  exact hd
end Go.Proofs.Ytmfbeglidhejkaa
