/-
  What it means that a slice of bytes in memory reads as a list of numbers, and how that is carried along; no program.
  How what is known of slices of bytes is carried over calls that write nothing that was there.
  What a call leaves alone that writes in blocks of its own: all that was there but the blocks of F; no program.
  Plain facts on registers of 32 bits as polynomials over bits, without any program: shifting is linear and undone by nothing but itself, products, parity.
  Plain facts on rows of bytes of which some bits are turned about, without any program.
-/
import Derived.Below
import Derived.Laws.OwnMore
import Derived.Deep.AppendLies
import Derived.Deep.Draws
import Derived.WalkKit
import Derived.Tactics
namespace Go.Proofs.YtlikhmhomkiadaaGreatDoor
set_option maxRecDepth 100000
open Go Go.RowKit

/-- The cells of bytes. -/
def vb (l : List Nat) : List Value := l.map fun (b : Nat) => Value.int .u8 (b : Int)
theorem vb_length (l : List Nat) : (vb l).length = l.length := by simp [vb]
theorem vb_get (l : List Nat) (i : Nat) : (vb l)[i]? = (l[i]?).map fun (b : Nat) => Value.int .u8 (b : Int) := by simp [vb]
theorem vb_append (a b : List Nat) : vb (a ++ b) = vb a ++ vb b := by simp [vb]
theorem vb_one (l : List Nat) : ∀ u ∈ vb l, u.oneCell' = true := by
  intro u hu
  simp only [vb, List.mem_map] at hu
  obtain ⟨b, _, rfl⟩ := hu
  rfl

/-- The bytes l lie at the address A, below block number B. -/
def Rd (w : World) (B : Nat) (A : Option Addr) (l : List Nat) : Prop :=
  (∀ b ∈ l, b < 256) ∧ (0 < l.length → ∃ g o, A = some ⟨g, o, none⟩ ∧ g < B ∧ ∀ j x, l[j]? = some x → w.cell? ⟨g, o + j, none⟩ = some (.int .u8 ((x : Nat) : Int)))

section
variable {w w' : World} {B B' : Nat} {A : Option Addr} {l : List Nat}
theorem Rd.nil_ : Rd w B A [] := ⟨by simp, fun h => absurd h (by simp)⟩
theorem Rd.lt (h : Rd w B A l) : ∀ b ∈ l, b < 256 := h.1
theorem Rd.at_ {k : Nat} (h : Rd w B A l) (hk : k < l.length) : ∃ g o x, A = some ⟨g, o, none⟩ ∧ g < B ∧ l[k]? = some x ∧ x < 256 ∧ w.cell? ⟨g, o + k, none⟩ = some (.int .u8 ((x : Nat) : Int)) := by
  obtain ⟨g, o, e, hg, hc⟩ := h.2 (by omega)
  exact ⟨g, o, l[k], e, hg, List.getElem?_eq_getElem hk, h.1 _ (List.getElem_mem hk), hc k _ (List.getElem?_eq_getElem hk)⟩
theorem Rd.keep (h : Rd w B A l) (hk : ∀ p : Addr, p.block < B → w'.cell? p = w.cell? p) : Rd w' B A l :=
  ⟨h.1, fun hn => by
    obtain ⟨g, o, e, hg, hc⟩ := h.2 hn
    exact ⟨g, o, e, hg, fun j x hx => (hk ⟨g, o + j, none⟩ hg).trans (hc j x hx)⟩⟩
theorem Rd.more (h : Rd w B A l) (hB : B ≤ B') : Rd w B' A l :=
  ⟨h.1, fun hn => by
    obtain ⟨g, o, e, hg, hc⟩ := h.2 hn
    exact ⟨g, o, e, by omega, hc⟩⟩
theorem Rd.below (h : Rd w B A l) (hb : Below B w w') : Rd w' B A l := h.keep fun _ hp => hb.cell hp
theorem Rd.drewN (h : Rd w B A l) (k : Nat) : Rd (w.drewN k) B A l := h.keep fun _ _ => rfl
theorem Rd.drop (h : Rd w B A l) {g o : Nat} (hA : A = some ⟨g, o, none⟩) (k : Nat) : Rd w B (some ⟨g, o + k, none⟩) (l.drop k) := by
  refine ⟨fun b hb => h.1 b (List.mem_of_mem_drop hb), fun hn => ?_⟩
  rw [List.length_drop] at hn
  obtain ⟨g', o', e, hg, hc⟩ := h.2 (by omega)
  rw [hA] at e
  injection e with e
  injection e with e1 e2
  subst e1; subst e2
  refine ⟨g, o + k, rfl, hg, fun j x hx => ?_⟩
  rw [Nat.add_assoc]
  exact hc _ x (by rw [← hx, List.getElem?_drop])
theorem Rd.take (h : Rd w B A l) (k : Nat) : Rd w B A (l.take k) := by
  refine ⟨fun b hb => h.1 b (List.mem_of_mem_take hb), fun hn => ?_⟩
  rw [List.length_take] at hn
  obtain ⟨g, o, e, hg, hc⟩ := h.2 (by omega)
  refine ⟨g, o, e, hg, fun j x hx => hc j x ?_⟩
  rw [List.getElem?_take] at hx
  split at hx
  · exact hx
  · cases hx
theorem Rd.of_own {base t : Nat} {n c : Nat} (h : w.ownsRow base t 1 (.slice A n c) n (vb l)) (hl : ∀ b ∈ l, b < 256) : Rd w w.heap.size A l := by
  refine ⟨hl, fun hn => ?_⟩
  have hlen := h.1
  rw [vb_length] at hlen
  rcases h.2 with ⟨he, h0⟩ | ⟨g, cap, cur, hv, _, hg, _⟩
  · subst h0; omega
  · injection hv with hA _ _
    subst hA
    refine ⟨g, 0, rfl, (Array.getElem?_eq_some_iff.1 hg).1, fun j x hx => ?_⟩
    have hj : j < l.length := (List.getElem?_eq_some_iff.1 hx).1
    rw [Nat.zero_add, h.cellAt j (by omega), vb_get, hx]
    rfl
end

theorem own_form {w : World} {base t n : Nat} {v : Value} {xs : List Value} (h : w.ownsRow base t 1 v n xs) : ∃ A c, v = .slice A n c ∧ n ≤ c ∧ c ≤ 9223372036854775807 := by
  rcases h.2 with ⟨rfl, rfl⟩ | ⟨g, cap, cur, rfl, _, _, h1, h2, _⟩
  · exact ⟨none, 0, rfl, Nat.le_refl _, by omega⟩
  · unfold maxLen at h2
    exact ⟨_, cap, rfl, h1, h2⟩

theorem take_step {l l' : List Nat} {k x : Nat} (h : l.take k = l'.take k) (hx : l[k]? = some x) (hy : l'[k]? = some x) : l.take (k + 1) = l'.take (k + 1) := by
  rw [List.take_add_one, List.take_add_one, h, hx, hy]
theorem ne_of_get {l l' : List Nat} {k x y : Nat} (hx : l[k]? = some x) (hy : l'[k]? = some y) (h : x ≠ y) : decide (l = l') = false := by
  simp only [decide_eq_false_iff_not]
  rintro rfl
  rw [hx] at hy
  injection hy with hy
  exact h hy
theorem drewN_add (w : World) (a b : Nat) : (w.drewN a).drewN b = w.drewN (a + b) := by
  unfold World.drewN
  simp [Nat.add_assoc]
end Go.Proofs.YtlikhmhomkiadaaGreatDoor

namespace Go.Proofs.YtlikhmhomkiadaaGreatDoor
set_option maxRecDepth 100000
open Go Go.RowKit

theorem below_drewN {B : Nat} {a w : World} (h : Below B a w) (k : Nat) : Below B a (w.drewN k) := ⟨h.os, h.tape, h.output, h.size, h.block⟩

/-- A slice value that reads as the bytes l, whatever its capacity. -/
structure Bs (w : World) (B : Nat) (A : Option Addr) (n c : Nat) (l : List Nat) : Prop where
  len : l.length = n
  cap : n ≤ c
  most : c ≤ 9223372036854775807
  rd : Rd w B A l
  nil_ : A = none → c = 0
theorem Bs.below {w w' : World} {B : Nat} {A : Option Addr} {n c : Nat} {l : List Nat} (h : Bs w B A n c l) (hb : Below B w w') : Bs w' B A n c l := ⟨h.len, h.cap, h.most, h.rd.below hb, h.nil_⟩
theorem Bs.more {w : World} {B B' : Nat} {A : Option Addr} {n c : Nat} {l : List Nat} (h : Bs w B A n c l) (hB : B ≤ B') : Bs w B' A n c l := ⟨h.len, h.cap, h.most, h.rd.more hB, h.nil_⟩
theorem Bs.drewN {w : World} {B : Nat} {A : Option Addr} {n c : Nat} {l : List Nat} (h : Bs w B A n c l) (k : Nat) : Bs (w.drewN k) B A n c l := ⟨h.len, h.cap, h.most, h.rd.drewN k, h.nil_⟩
theorem Bs.of_own {w : World} {A : Option Addr} {base t n c : Nat} {l : List Nat} (h : w.ownsRow base t 1 (.slice A n c) n (vb l)) (hl : ∀ b ∈ l, b < 256) : Bs w w.heap.size A n c l := by
  have hlen := h.1
  rw [vb_length] at hlen
  refine ⟨by omega, ?_, ?_, Rd.of_own h hl, ?_⟩
  · obtain ⟨A', c', e, h1, _⟩ := own_form h
    injection e with _ _ e3
    omega
  · obtain ⟨A', c', e, _, h2⟩ := own_form h
    injection e with _ _ e3
    omega
  · intro hA
    subst hA
    rcases h.2 with ⟨e, _⟩ | ⟨g, cap, cur, e, _⟩
    · injection e
    · injection e with e1
      cases e1

/-- Nothing that was there has been written. -/
def Ext (w w' : World) : Prop := Below w.heap.size w w'
theorem Ext.refl (w : World) : Ext w w := Below.refl _ _
theorem Ext.trans {a b c : World} (h : Ext a b) (k : Ext b c) : Ext a c := Below.trans h (Below.mono k (Below.size h))
theorem Ext.alloc {a b : World} (h : Ext a b) (o : Obj) : Ext a (b.alloc o) := Below.alloc h (Below.size h) o
theorem Ext.drew {a b : World} (h : Ext a b) : Ext a b.drew := Below.drew h
theorem Ext.drewN {a b : World} (h : Ext a b) (k : Nat) : Ext a (b.drewN k) := below_drewN h k
theorem Ext.grown {a b c : World} (h : Ext a b) (hg : b.grownBy c none) : Ext a c := Below.grown h hg (Below.size h) (by simp)
theorem Ext.size {a b : World} (h : Ext a b) : a.heap.size ≤ b.heap.size := Below.size h
/-- A slice of bytes, wherever it lies. -/
def By (w : World) (A : Option Addr) (n c : Nat) (l : List Nat) : Prop := Bs w w.heap.size A n c l
theorem By.ext {a b : World} {A : Option Addr} {n c : Nat} {l : List Nat} (h : By a A n c l) (k : Ext a b) : By b A n c l := (Bs.below h k).more (Ext.size k)
theorem By.nil_ (w : World) : By w none 0 0 [] := ⟨rfl, Nat.le_refl _, by omega, Rd.nil_, fun _ => rfl⟩
theorem By.drop_last {w : World} {A : Option Addr} {n c : Nat} {l : List Nat} (h : By w A n c l) (k : Nat) (hk : k ≤ n) : By w A k c (l.take k) :=
  ⟨by rw [List.length_take, h.len]; omega, Nat.le_trans hk h.cap, h.most, h.rd.take k, Bs.nil_ h⟩
theorem By.of_row {w : World} {g n c : Nat} {l : List Nat} {cs : Array Value} {t : TypeId} {fr : Nat × Nat} (hh : w.heap[g]? = some (.cells cs t fr)) (hl : ∀ (j x : Nat), l[j]? = some x → cs[j]? = some (Value.int .u8 ((x : Nat) : Int))) (hb : ∀ b ∈ l, b < 256)
    (hn : l.length = n) (hc : n ≤ c) (hm : c ≤ 9223372036854775807) : By w (some ⟨g, 0, none⟩) n c l := by
  refine ⟨hn, hc, hm, ⟨hb, fun _ => ⟨g, 0, rfl, (Array.getElem?_eq_some_iff.1 hh).1, fun j x hx => ?_⟩⟩, fun h => by cases h⟩
  rw [Nat.zero_add, cell_of_row w g j cs t fr hh]
  exact hl j x hx
theorem vb_at {l : List Nat} {j x : Nat} (h : l[j]? = some x) : (vb l).toArray[j]? = some (Value.int .u8 ((x : Nat) : Int)) := by
  rw [List.getElem?_toArray, vb_get, h]
  rfl
/-- A literal of bytes that the call has just made. -/
theorem By.lit (w : World) (l : List Nat) (t : TypeId) (hb : ∀ b ∈ l, b < 256) (hm : l.length ≤ 9223372036854775807) (cs : Array Value) (hcs : cs = (vb l).toArray) : By (w.alloc (.cells cs t)) (some ⟨w.heap.size, 0, none⟩) l.length l.length l := by
  subst hcs
  exact By.of_row (heap_alloc_new w _) (fun j x hx => vb_at hx) hb rfl (Nat.le_refl _) hm
end Go.Proofs.YtlikhmhomkiadaaGreatDoor

namespace Go.Proofs.YtlikhmhomkiadaaGreatDoor
set_option maxRecDepth 100000
open Go Go.RowKit

/-- All blocks that were there, but those of F, are as they were. -/
structure Mod (F : Nat → Prop) (w w' : World) : Prop where
  os : w'.os = w.os
  tape : w'.tape = w.tape
  output : w'.output = w.output
  size : w.heap.size ≤ w'.heap.size
  block : ∀ k, k < w.heap.size → ¬ F k → w'.heap[k]? = w.heap[k]?
section
variable {F G : Nat → Prop} {a b c w w' : World}
theorem Mod.refl (F : Nat → Prop) (w : World) : Mod F w w := ⟨rfl, rfl, rfl, Nat.le_refl _, fun _ _ _ => rfl⟩
theorem Mod.trans (h : Mod F a b) (k : Mod G b c) (hG : ∀ i, G i → F i ∨ a.heap.size ≤ i) : Mod F a c :=
  ⟨k.os.trans h.os, k.tape.trans h.tape, k.output.trans h.output, Nat.le_trans h.size k.size, fun i hi hf =>
    (k.block i (Nat.lt_of_lt_of_le hi h.size) fun hg => (hG i hg).elim hf fun hl => absurd hi (by omega)).trans (h.block i hi hf)⟩
theorem Mod.of_ext (h : Ext w w') : Mod F w w' := ⟨h.os, h.tape, h.output, h.size, fun k hk _ => h.block k hk⟩
theorem Mod.ext (h : Mod F a b) (k : Ext b c) : Mod F a c := h.trans (F := F) (G := F) (Mod.of_ext k) fun _ hi => .inl hi
theorem Mod.mono (h : Mod F w w') (hG : ∀ i, F i → G i) : Mod G w w' := ⟨h.os, h.tape, h.output, h.size, fun k hk hg => h.block k hk fun hf => hg (hG k hf)⟩
theorem Mod.alloc (h : Mod F a b) (o : Obj) : Mod F a (b.alloc o) := h.ext ((Ext.refl b).alloc o)
theorem Mod.drew (h : Mod F a b) : Mod F a b.drew := h.ext (Ext.refl b).drew
theorem Mod.drewN (h : Mod F a b) (n : Nat) : Mod F a (b.drewN n) := h.ext ((Ext.refl b).drewN n)
theorem Mod.setCell (h : Mod F a b) {p : Addr} (hp : F p.block ∨ a.heap.size ≤ p.block) (v : Value) : Mod F a (b.setCell p v) :=
  ⟨h.os, h.tape, h.output, Nat.le_trans h.size (by simp [World.setCell]), fun k hk hf => (Below.heap_setCell _ _ _ _ (fun e => by
    subst e
    exact hp.elim hf fun hl => absurd hk (by omega))).trans (h.block k hk hf)⟩
theorem Mod.setCells (h : Mod F a b) (g o : Nat) (vs : List Value) (hp : F g ∨ a.heap.size ≤ g) : Mod F a (b.setCells g o vs) := by
  induction vs generalizing b o with
  | nil => exact h
  | cons v r ih => exact ih (h.setCell (p := ⟨g, o, none⟩) hp v) (o + 1)
theorem Mod.grown {row : Option Nat} (h : Mod F a b) (hg : b.grownBy c row) (hr : ∀ k, row = some k → F k ∨ a.heap.size ≤ k) : Mod F a c :=
  ⟨hg.os.trans h.os, hg.tape.trans h.tape, hg.output.trans h.output, Nat.le_trans h.size hg.size, fun k hk hf =>
    (hg.block k (Nat.lt_of_lt_of_le hk h.size) (fun e => (hr k e.symm).elim hf fun hl => absurd hk (by omega))).trans (h.block k hk hf)⟩
/-- A call's own blocks alone were written: nothing that was there. -/
theorem Mod.to_ext (h : Mod F w w') (hF : ∀ i, F i → w.heap.size ≤ i) : Ext w w' := ⟨h.os, h.tape, h.output, h.size, fun k hk => h.block k hk fun hf => absurd (hF k hf) (by omega)⟩
/-- Since an earlier world: the blocks of F were made since. -/
theorem Below.mod {B : Nat} (h : Below B a b) (k : Mod F b c) (hB : B ≤ b.heap.size) (hF : ∀ i, F i → B ≤ i) : Below B a c :=
  h.trans ⟨k.os, k.tape, k.output, k.size, fun i hi => k.block i (by omega) fun hf => absurd (hF i hf) (by omega)⟩
/-- A slice that lies in none of the blocks of F. -/
def Off (F : Nat → Prop) (A : Option Addr) : Prop := ∀ p, A = some p → ¬ F p.block
theorem Bs.mod {B : Nat} {A : Option Addr} {n cp : Nat} {l : List Nat} (h : Bs w B A n cp l) (k : Mod F w w') (hB : B ≤ w.heap.size) (ho : Off F A) : Bs w' B A n cp l :=
  ⟨h.len, h.cap, h.most, ⟨h.rd.1, fun hn => by
    obtain ⟨g, o, e, hg, hc⟩ := h.rd.2 hn
    refine ⟨g, o, e, hg, fun j x hx => ?_⟩
    rw [← hc j x hx]
    exact World.cell?_of_block (a := ⟨g, o + j, none⟩) (k.block g (by omega) (ho _ e))⟩, h.nil_⟩
theorem By.mod {A : Option Addr} {n cp : Nat} {l : List Nat} (h : By w A n cp l) (k : Mod F w w') (ho : Off F A) : By w' A n cp l := (Bs.mod h k (Nat.le_refl _) ho).more k.size
theorem heap_mod {g : Nat} {o : Obj} (h : w.heap[g]? = some o) (k : Mod F w w') (hg : ¬ F g) : w'.heap[g]? = some o := (k.block g (Array.getElem?_eq_some_iff.1 h).1 hg).trans h
theorem own_mod {base e size n : Nat} {v : Value} {xs : List Value} (h : w.ownsRow base e size v n xs) (k : Mod F w w') (hv : ∀ i, v.ownBlock = some i → ¬ F i) : w'.ownsRow base e size v n xs := by
  refine ⟨h.1, ?_⟩
  rcases h.2 with h0 | ⟨g, cap, cur, rfl, hb, hg, h1⟩
  · exact .inl h0
  · exact .inr ⟨g, cap, cur, rfl, hb, heap_mod hg k (hv g rfl), h1⟩
end
end Go.Proofs.YtlikhmhomkiadaaGreatDoor

namespace Go.Proofs.YtlikhmhomkiadaaGreatDoor
set_option maxRecDepth 100000
open Go

/-- A bit 0 is shifted in. -/
def stp (r : Nat) : Nat := (r / 2) ^^^ (r % 2 * 2197175160)
theorem stp_even (q : Nat) : stp (2 * q) = q := by
  unfold stp
  rw [show 2 * q / 2 = q by omega, show 2 * q % 2 = 0 by omega]
  simp
theorem xor_div2 (a b : Nat) : (a ^^^ b) / 2 = (a / 2) ^^^ (b / 2) := by
  have := Nat.shiftRight_xor_distrib (a := a) (b := b) (i := 1)
  simpa [Nat.shiftRight_eq_div_pow] using this
theorem xor_mod2 (a b : Nat) : (a ^^^ b) % 2 = (a % 2 + b % 2) % 2 := by
  have h := Nat.xor_mod_two_pow (a := a) (b := b) (n := 1)
  rw [show 2 ^ 1 = 2 from rfl] at h
  rw [h]
  rcases Nat.mod_two_eq_zero_or_one a with h | h <;> rcases Nat.mod_two_eq_zero_or_one b with h' | h' <;> rw [h, h'] <;> decide
theorem stp_xor (a b : Nat) : stp (a ^^^ b) = stp a ^^^ stp b := by
  unfold stp
  rw [xor_div2, xor_mod2]
  have e : ((a % 2 + b % 2) % 2) * 2197175160 = (a % 2 * 2197175160) ^^^ (b % 2 * 2197175160) := by
    rcases Nat.mod_two_eq_zero_or_one a with h | h <;> rcases Nat.mod_two_eq_zero_or_one b with h' | h' <;> rw [h, h'] <;> decide
  rw [e]
  ac_rfl
theorem stp_zero : stp 0 = 0 := by
  have := stp_even 0
  rw [Nat.mul_zero] at this
  exact this
theorem stp_lt {a : Nat} (h : a < 4294967296) : stp a < 4294967296 := by
  unfold stp
  apply Nat.xor_lt_two_pow (n := 32) (by omega)
  have := Nat.mod_lt a (show 2 > 0 by omega)
  rcases Nat.mod_two_eq_zero_or_one a with h | h <;> rw [h] <;> decide
theorem stp_nz {a : Nat} (h : a < 4294967296) (h0 : stp a = 0) : a = 0 := by
  unfold stp at h0
  have h1 : a / 2 = a % 2 * 2197175160 := by
    have h2 : (a / 2 ^^^ a % 2 * 2197175160) ^^^ (a % 2 * 2197175160) = 0 ^^^ (a % 2 * 2197175160) := by rw [h0]
    rw [Nat.xor_assoc, Nat.xor_self, Nat.xor_zero, Nat.zero_xor] at h2
    exact h2
  rcases Nat.mod_two_eq_zero_or_one a with h | h <;> rw [h] at h1 <;> omega

def stps : Nat → Nat → Nat
  | 0, r => r
  | k + 1, r => stps k (stp r)
theorem stps_add (a b r : Nat) : stps (a + b) r = stps b (stps a r) := by
  induction a generalizing r with
  | zero => simp [stps]
  | succ a ih => rw [show a + 1 + b = (a + b) + 1 by omega, stps, ih, stps]
theorem stps_succ (a r : Nat) : stps (a + 1) r = stp (stps a r) := by rw [stps_add]; rfl
theorem stps_comm (a b r : Nat) : stps a (stps b r) = stps b (stps a r) := by rw [← stps_add, ← stps_add, Nat.add_comm]
theorem stps_xor (k a b : Nat) : stps k (a ^^^ b) = stps k a ^^^ stps k b := by
  induction k generalizing a b with
  | zero => rfl
  | succ k ih => rw [stps, stp_xor, ih]; rfl
theorem stps_zero (k : Nat) : stps k 0 = 0 := by
  induction k with
  | zero => rfl
  | succ k ih => rw [stps, stp_zero, ih]
theorem stps_lt {k a : Nat} (h : a < 4294967296) : stps k a < 4294967296 := by
  induction k generalizing a with
  | zero => exact h
  | succ k ih => exact ih (stp_lt h)
theorem stps_nz {k a : Nat} (h : a < 4294967296) (h0 : stps k a = 0) : a = 0 := by
  induction k generalizing a with
  | zero => exact h0
  | succ k ih => exact stp_nz h (ih (stp_lt h) h0)
theorem xor_eq_zero' {a b : Nat} (h : a ^^^ b = 0) : a = b := by
  have h2 : (a ^^^ b) ^^^ b = 0 ^^^ b := by rw [h]
  rw [Nat.xor_assoc, Nat.xor_self, Nat.xor_zero, Nat.zero_xor] at h2
  exact h2
theorem xor_lt32 {a b : Nat} (ha : a < 4294967296) (hb : b < 4294967296) : a ^^^ b < 4294967296 := Nat.xor_lt_two_pow (n := 32) ha hb
theorem stps_inj {k a b : Nat} (ha : a < 4294967296) (hb : b < 4294967296) (h : stps k a = stps k b) : a = b := by
  apply xor_eq_zero'
  apply stps_nz (k := k) (xor_lt32 ha hb)
  rw [stps_xor, h, Nat.xor_self]
theorem stps_pow (k q : Nat) : stps k (2 ^ k * q) = q := by
  induction k generalizing q with
  | zero => simp [stps]
  | succ k ih => rw [stps, Nat.pow_succ, show 2 ^ k * 2 * q = 2 * (2 ^ k * q) by rw [Nat.mul_comm (2 ^ k) 2, Nat.mul_assoc], stp_even, ih]
/-- A number, split where its lower bits end. -/
theorem split_xor (k r : Nat) : r = 2 ^ k * (r / 2 ^ k) ^^^ r % 2 ^ k := by
  apply Nat.eq_of_testBit_eq
  intro i
  rw [Nat.testBit_xor, Nat.testBit_mod_two_pow, Nat.testBit_two_pow_mul]
  by_cases h : i < k
  · have h2 : ¬ k ≤ i := by omega
    simp [h, h2]
  · have h2 : k ≤ i := by omega
    simp only [h, decide_false, Bool.false_and, Bool.xor_false, h2, decide_true, Bool.true_and]
    rw [Nat.testBit_div_two_pow, Nat.sub_add_cancel h2]
theorem stps_split (k r : Nat) : stps k r = (r / 2 ^ k) ^^^ stps k (r % 2 ^ k) := by
  conv => lhs; rw [split_xor k r, stps_xor, stps_pow]

/-- A byte is shifted in. -/
def inb (r x : Nat) : Nat := stps 8 (r ^^^ x)
def feed : Nat → List Nat → Nat
  | r, [] => r
  | r, x :: l => feed (inb r x) l
theorem feed_append (r : Nat) (l m : List Nat) : feed r (l ++ m) = feed (feed r l) m := by
  induction l generalizing r with
  | nil => rfl
  | cons x l ih => exact ih _
theorem feed_snoc (r : Nat) (l : List Nat) (x : Nat) : feed r (l ++ [x]) = inb (feed r l) x := by rw [feed_append]; rfl
theorem inb_lt {r x : Nat} (h : r < 4294967296) (hx : x < 256) : inb r x < 4294967296 := stps_lt (xor_lt32 h (by omega))
theorem feed_lt {r : Nat} {l : List Nat} (h : r < 4294967296) (hl : ∀ b ∈ l, b < 256) : feed r l < 4294967296 := by
  induction l generalizing r with
  | nil => exact h
  | cons x l ih => exact ih (inb_lt h (hl x (by simp))) fun b hb => hl b (by simp [hb])
theorem inb_xor (r s x y : Nat) : inb (r ^^^ s) (x ^^^ y) = inb r x ^^^ inb s y := by
  unfold inb
  rw [← stps_xor]
  congr 1
  ac_rfl
theorem feed_shift (r s : Nat) (l : List Nat) : feed (r ^^^ s) l = feed r l ^^^ stps (8 * l.length) s := by
  induction l generalizing r s with
  | nil => rfl
  | cons x l ih =>
    have e : inb (r ^^^ s) x = inb r x ^^^ stps 8 s := by
      unfold inb
      rw [← stps_xor]
      congr 1
      ac_rfl
    rw [feed, e, ih, feed, List.length_cons, show 8 * (l.length + 1) = 8 + 8 * l.length by omega, stps_add]
def xorL : List Nat → List Nat → List Nat := List.zipWith (· ^^^ ·)
theorem feed_xor (r s : Nat) (l m : List Nat) (h : l.length = m.length) : feed (r ^^^ s) (xorL l m) = feed r l ^^^ feed s m := by
  induction l generalizing r s m with
  | nil =>
    cases m with
    | nil => rfl
    | cons y m => simp at h
  | cons x l ih =>
    cases m with
    | nil => simp at h
    | cons y m =>
      simp only [xorL, List.zipWith_cons_cons, feed, inb_xor]
      exact ih _ _ _ (by simpa using h)

/-- Each bit of a register turned about. -/
def inv (s : Nat) : Nat := 4294967295 - s
theorem inv_lt (s : Nat) : inv s < 4294967296 := by unfold inv; omega
theorem inv_inv {s : Nat} (h : s < 4294967296) : inv (inv s) = s := by unfold inv; omega
theorem inv_xor {s : Nat} (h : s < 4294967296) : inv s = s ^^^ 4294967295 := by
  unfold inv
  have e : 4294967295 = 2 ^ 32 - 1 := by decide
  apply Nat.eq_of_testBit_eq
  intro i
  rw [Nat.testBit_xor, show 4294967295 - s = 2 ^ 32 - (s + 1) by omega, Nat.testBit_two_pow_sub_succ (by simpa using h), e, Nat.testBit_two_pow_sub_one]
  by_cases hi : i < 32
  · simp [hi]
  · simp [hi]
    exact Nat.testBit_lt_two_pow (Nat.lt_of_lt_of_le (by simpa using h) (Nat.pow_le_pow_right (show 2 > 0 by omega) (show 32 ≤ i by omega)))
theorem inv_inj {s t : Nat} (hs : s < 4294967296) (ht : t < 4294967296) (h : inv s = inv t) : s = t := by unfold inv at h; omega
def crcE (sum : Nat) (l : List Nat) : Nat := inv (feed (inv sum) l)
def crcS (l : List Nat) : Nat := crcE 0 l
theorem crcE_lt (sum : Nat) (l : List Nat) : crcE sum l < 4294967296 := inv_lt _
theorem crcE_append {sum : Nat} {l m : List Nat} (hl : ∀ b ∈ l, b < 256) : crcE sum (l ++ m) = crcE (crcE sum l) m := by
  unfold crcE
  rw [inv_inv (feed_lt (inv_lt _) hl), feed_append]
theorem crcS_append {l m : List Nat} (hl : ∀ b ∈ l, b < 256) : crcS (l ++ m) = crcE (crcS l) m := crcE_append hl
def comb (a b n : Nat) : Nat := b ^^^ stps (8 * n) a
theorem comb_lt {a b n : Nat} (ha : a < 4294967296) (hb : b < 4294967296) : comb a b n < 4294967296 := xor_lt32 hb (stps_lt ha)
theorem comb_crc {a : Nat} {l m : List Nat} (ha : a = crcS l) (hl : ∀ b ∈ l, b < 256) (hm : ∀ b ∈ m, b < 256) : comb a (crcS m) m.length = crcS (l ++ m) := by
  subst ha
  rw [crcS_append hl]
  unfold comb
  have ha := crcE_lt 0 l
  change crcS l < _ at ha
  generalize crcS l = a at ha
  unfold crcS crcE
  have e : inv a = 4294967295 ^^^ a := by rw [inv_xor ha, Nat.xor_comm]
  have e2 : inv 0 = 4294967295 := rfl
  rw [e, e2, feed_shift, inv_xor (feed_lt (by omega) hm), inv_xor (xor_lt32 (feed_lt (by omega) hm) (stps_lt ha))]
  ac_rfl
theorem comb_assoc (a b c n m : Nat) : comb (comb a b n) c m = comb a (comb b c m) (n + m) := by
  unfold comb
  rw [stps_xor, show 8 * (n + m) = 8 * n + 8 * m by omega, stps_add]
  ac_rfl

/-- A product, as a loop of so many steps. -/
def mulg : Nat → Nat → Nat → Nat
  | 0, _, _ => 0
  | k + 1, a, b => (if 2147483648 ≤ a then b else 0) ^^^ mulg k (2 * a % 4294967296) (stp b)
theorem mulg_stp (k a b : Nat) : mulg k a (stp b) = stp (mulg k a b) := by
  induction k generalizing a b with
  | zero => rw [mulg, mulg, stp_zero]
  | succ k ih =>
    rw [mulg, ih, mulg, stp_xor]
    by_cases h : 2147483648 ≤ a
    · rw [if_pos h, if_pos h]
    · rw [if_neg h, if_neg h, stp_zero]
theorem mulg_stps (n k a b : Nat) : mulg k a (stps n b) = stps n (mulg k a b) := by
  induction n generalizing b with
  | zero => rfl
  | succ n ih => rw [stps, ih, mulg_stp]; rfl
theorem mulg_zero (k b : Nat) : mulg k 0 b = 0 := by
  induction k generalizing b with
  | zero => rfl
  | succ k ih => rw [mulg, Nat.mul_zero, Nat.zero_mod, ih]; simp
theorem mulg_one (k a : Nat) (hk : k ≤ 32) (ha : a < 4294967296) : mulg k a (2 ^ k / 2) = a / 2 ^ (32 - k) := by
  induction k generalizing a with
  | zero => simp [mulg]; omega
  | succ k ih =>
    have e1 : 2 ^ (k + 1) / 2 = 2 ^ k := by rw [Nat.pow_succ]; omega
    have e2 : mulg k (2 * a % 4294967296) (stp (2 ^ k)) = mulg k (2 * a % 4294967296) (2 ^ k / 2) := by
      cases k with
      | zero => rfl
      | succ k => rw [show 2 ^ (k + 1) = 2 * 2 ^ k by rw [Nat.pow_succ, Nat.mul_comm], stp_even, show 2 * 2 ^ k / 2 = 2 ^ k by omega]
    rw [e1, mulg, e2, ih _ (by omega) (by omega)]
    have hk2 : 32 - k = (32 - (k + 1)) + 1 := by omega
    have hp : 2 ^ (32 - k) * 2 ^ k = 4294967296 := by rw [← Nat.pow_add, show 32 - k + k = 32 by omega]
    have hp1 : 2 ^ (32 - (k + 1)) * 2 ^ k = 2147483648 := by rw [← Nat.pow_add, show 32 - (k + 1) + k = 31 by omega]
    have e3 : ∀ x, 2 * x / 2 ^ (32 - k) = x / 2 ^ (32 - (k + 1)) := by
      intro x
      rw [hk2, Nat.pow_succ, Nat.mul_comm _ 2, Nat.mul_div_mul_left _ _ (by omega)]
    split
    · rename_i h
      have h4 : 2 * a % 4294967296 = 2 * (a - 2147483648) := by omega
      rw [h4, e3]
      have h5 : (a - 2147483648) / 2 ^ (32 - (k + 1)) < 2 ^ k := by
        rw [Nat.div_lt_iff_lt_mul (Nat.two_pow_pos _), Nat.mul_comm, hp1]
        omega
      have h6 : a / 2 ^ (32 - (k + 1)) = 2 ^ k + (a - 2147483648) / 2 ^ (32 - (k + 1)) := by
        have : a = (a - 2147483648) + 2 ^ (32 - (k + 1)) * 2 ^ k := by rw [hp1]; omega
        conv => lhs; rw [this, Nat.add_mul_div_left _ _ (Nat.two_pow_pos _)]
        omega
      rw [h6]
      generalize (a - 2147483648) / 2 ^ (32 - (k + 1)) = y at h5
      have h7 := split_xor k (2 ^ k + y)
      rw [Nat.add_mod_left, Nat.mod_eq_of_lt h5, Nat.add_div_left _ (Nat.two_pow_pos k), Nat.div_eq_of_lt h5, Nat.mul_one] at h7
      exact h7.symm
    · rename_i h
      have h4 : 2 * a % 4294967296 = 2 * a := by omega
      rw [h4, e3, Nat.zero_xor]
theorem mulg_full (n a : Nat) (ha : a < 4294967296) : mulg 32 a (stps n 2147483648) = stps n a := by
  rw [mulg_stps]
  congr 1
  have := mulg_one 32 a (by omega) ha
  simpa using this

/-- Whether the number of bits is odd. -/
def parN : Nat → Nat → Nat
  | 0, _ => 0
  | k + 1, r => (r % 2 + parN k (r / 2)) % 2
theorem parN_xor (k a b : Nat) : parN k (a ^^^ b) = (parN k a + parN k b) % 2 := by
  induction k generalizing a b with
  | zero => rfl
  | succ k ih =>
    rw [parN, xor_div2, ih, xor_mod2, parN, parN]
    omega
theorem parN_more (k a : Nat) (h : a < 2 ^ k) : parN (k + 1) a = parN k a := by
  induction k generalizing a with
  | zero => simp at h; subst h; rfl
  | succ k ih =>
    rw [parN, ih (a / 2) (by rw [Nat.pow_succ] at h; omega)]
    rfl
theorem parN_lt2 (k a : Nat) : parN k a < 2 := by
  cases k with
  | zero => simp [parN]
  | succ k => exact Nat.mod_lt _ (by omega)
def par (r : Nat) : Nat := parN 32 r
theorem par_xor (a b : Nat) : par (a ^^^ b) = (par a + par b) % 2 := parN_xor 32 a b
theorem par_stp {r : Nat} (h : r < 4294967296) : par (stp r) = par r := by
  unfold stp
  rw [par_xor]
  have h1 : par (r / 2) = parN 31 (r / 2) := parN_more 31 _ (by simp; omega)
  have h2 : par r = (r % 2 + parN 31 (r / 2)) % 2 := rfl
  rw [h1, h2]
  rcases Nat.mod_two_eq_zero_or_one r with h | h <;> rw [h]
  · rw [show par (0 * 2197175160) = 0 by decide]; omega
  · rw [show par (1 * 2197175160) = 1 by decide]; omega
theorem par_stps {k r : Nat} (h : r < 4294967296) : par (stps k r) = par r := by
  induction k generalizing r with
  | zero => rfl
  | succ k ih => rw [stps, ih (stp_lt h), par_stp h]
def parL : List Nat → Nat
  | [] => 0
  | x :: l => (par x + parL l) % 2
theorem par_lt2 (a : Nat) : par a < 2 := parN_lt2 32 a
theorem parL_lt2 (l : List Nat) : parL l < 2 := by
  cases l with
  | nil => decide
  | cons x l => exact Nat.mod_lt _ (by omega)
theorem par_feed {r : Nat} {l : List Nat} (h : r < 4294967296) (hl : ∀ b ∈ l, b < 256) : par (feed r l) = (par r + parL l) % 2 := by
  induction l generalizing r with
  | nil => have := par_lt2 r; simp [feed, parL]; omega
  | cons x l ih =>
    have hx := hl x (by simp)
    rw [feed, ih (inb_lt h hx) (fun b hb => hl b (by simp [hb]))]
    unfold inb
    rw [par_stps (xor_lt32 h (by omega)), par_xor, parL]
    omega
theorem crcS_par {l m : List Nat} (hl : ∀ b ∈ l, b < 256) (hm : ∀ b ∈ m, b < 256) (h : crcS l = crcS m) : parL l = parL m := by
  have h1 := inv_inj (feed_lt (inv_lt 0) hl) (feed_lt (inv_lt 0) hm) h
  have h2 := congrArg par h1
  rw [par_feed (inv_lt 0) hl, par_feed (inv_lt 0) hm] at h2
  have := parL_lt2 l
  have := parL_lt2 m
  omega

theorem mulg_low {k a : Nat} (hk : k + 1 ≤ 32) (h : a % 2 ^ (32 - (k + 1)) = 0) : (2 * a % 4294967296) % 2 ^ (32 - k) = 0 := by
  have e : 4294967296 = 2 ^ (32 - k) * 2 ^ k := by rw [← Nat.pow_add, show 32 - k + k = 32 by omega]
  have hk2 : 32 - k = (32 - (k + 1)) + 1 := by omega
  rw [e, Nat.mod_mul_right_mod, hk2, Nat.pow_succ, Nat.mul_comm _ 2, Nat.mul_mod_mul_left, h]
theorem mulg_step {k a b s t : Nat} (h : s ^^^ mulg (k + 1) a b = t) : (s ^^^ (if 2147483648 ≤ a then b else 0)) ^^^ mulg k (2 * a % 4294967296) (stp b) = t := by
  rw [mulg] at h
  rw [← h]
  ac_rfl

/-- The polynomial x to the n. -/
def pw (n : Nat) : Nat := stps n 2147483648
theorem pw_lt (n : Nat) : pw n < 4294967296 := stps_lt (by omega)
theorem pw_eight : pw 8 = 8388608 := by decide +kernel
theorem stps_pw (m n : Nat) : stps m (pw n) = pw (n + m) := (stps_add n m _).symm
theorem mulg_pw (n a : Nat) (ha : a < 4294967296) : mulg 32 a (pw n) = stps n a := mulg_full n a ha
theorem az_odd {n m j a : Nat} (hm : m = n / 2 ^ j) (h : m % 2 = 1) : stps (8 * 2 ^ j) (stps (8 * (n % 2 ^ j)) a) = stps (8 * (n % 2 ^ (j + 1))) a := by
  rw [← stps_add, Nat.mod_pow_succ, ← hm, h]
  congr 1
  omega
theorem az_even {n m j a : Nat} (hm : m = n / 2 ^ j) (h : m % 2 = 0) : stps (8 * (n % 2 ^ j)) a = stps (8 * (n % 2 ^ (j + 1))) a := by
  rw [Nat.mod_pow_succ, ← hm, h]
  congr 1
theorem az_half {n m j : Nat} (hm : m = n / 2 ^ j) : m / 2 = n / 2 ^ (j + 1) := by rw [hm, Nat.div_div_eq_div_mul, Nat.pow_succ]
theorem az_end {n j a : Nat} (hm : 0 = n / 2 ^ j) : stps (8 * (n % 2 ^ j)) a = stps (8 * n) a := by
  have := (Nat.div_eq_zero_iff_lt (Nat.two_pow_pos j)).1 hm.symm
  rw [Nat.mod_eq_of_lt this]

theorem bit_step (r x : Nat) : stp (r ^^^ x) = stp (r ^^^ (x % 2)) ^^^ (x / 2) := by
  have h := split_xor 1 x
  rw [show 2 ^ 1 = 2 from rfl] at h
  conv => lhs; rw [h]
  rw [show r ^^^ (2 * (x / 2) ^^^ x % 2) = (r ^^^ x % 2) ^^^ 2 * (x / 2) by ac_rfl, stp_xor, stp_even]
theorem inb_step {j u y t : Nat} (hj : j < 8) (h : stps (8 - j) (u ^^^ y) = t) : stps (8 - (j + 1)) (stp (u ^^^ (y % 2)) ^^^ (y / 2)) = t := by
  rw [← bit_step, ← h, show 8 - j = (8 - (j + 1)) + 1 by omega]
  rfl
theorem in_yes {r b : Nat} (hb : b < 2) (h : r % 2 ≠ b) : stp (r ^^^ b) = (r / 2) ^^^ 2197175160 := by
  unfold stp
  rw [xor_div2, xor_mod2, show b / 2 = 0 by omega, show (r % 2 + b % 2) % 2 = 1 by omega, Nat.xor_zero, Nat.one_mul]
theorem in_no {r b : Nat} (hb : b < 2) (h : r % 2 = b) : stp (r ^^^ b) = r / 2 := by
  unfold stp
  rw [xor_div2, xor_mod2, show b / 2 = 0 by omega, show (r % 2 + b % 2) % 2 = 0 by omega]
  simp
theorem feed_take {r x k : Nat} {l : List Nat} (h : l[k]? = some x) : feed r (l.take (k + 1)) = inb (feed r (l.take k)) x := by
  rw [List.take_add_one, h, feed_append]
  rfl
end Go.Proofs.YtlikhmhomkiadaaGreatDoor

namespace Go.Proofs.YtlikhmhomkiadaaGreatDoor
set_option maxRecDepth 100000
open Go

def flipB : List Nat → Nat → List Nat
  | [], _ => []
  | x :: l, p => if p < 8 then (x ^^^ 2 ^ p) :: l else x :: flipB l (p - 8)
theorem flipB_length (l : List Nat) (p : Nat) : (flipB l p).length = l.length := by
  induction l generalizing p with
  | nil => rfl
  | cons x l ih =>
    simp only [flipB]
    split
    · rfl
    · simp [ih]
theorem flipB_lt {l : List Nat} (p : Nat) (hl : ∀ x ∈ l, x < 256) : ∀ x ∈ flipB l p, x < 256 := by
  induction l generalizing p with
  | nil => intro x hx; cases hx
  | cons y l ih =>
    intro x hx
    simp only [flipB] at hx
    split at hx
    · rename_i hp
      rcases List.mem_cons.1 hx with rfl | hx
      · have : 2 ^ p < 2 ^ 8 := Nat.pow_lt_pow_right (by omega) hp
        exact Nat.xor_lt_two_pow (n := 8) (hl y (by simp)) this
      · exact hl x (by simp [hx])
    · rcases List.mem_cons.1 hx with rfl | hx
      · exact hl x (by simp)
      · exact ih (p - 8) (fun z hz => hl z (by simp [hz])) x hx
theorem flipB_set {l : List Nat} {p x : Nat} (h : l[p / 8]? = some x) : flipB l p = l.set (p / 8) (x ^^^ 2 ^ (p % 8)) := by
  induction l generalizing p with
  | nil => cases h
  | cons y l ih =>
    simp only [flipB]
    split
    · rename_i hp
      rw [show p / 8 = 0 by omega] at h ⊢
      simp at h
      subst h
      rw [show p % 8 = p by omega]
      rfl
    · rename_i hp
      rw [show p / 8 = (p - 8) / 8 + 1 by omega] at h ⊢
      rw [List.getElem?_cons_succ] at h
      rw [ih h, List.set_cons_succ, show (p - 8) % 8 = p % 8 by omega]
theorem flipB_twice (l : List Nat) (p : Nat) : flipB (flipB l p) p = l := by
  induction l generalizing p with
  | nil => rfl
  | cons x l ih =>
    by_cases hp : p < 8
    · simp only [flipB, if_pos hp]
      rw [Nat.xor_assoc, Nat.xor_self, Nat.xor_zero]
    · simp only [flipB, if_neg hp, ih]
theorem stps_bit {k m : Nat} (h : k ≤ m) : stps m (2 ^ k) = stps (m - k) 1 := by
  have e : m = k + (m - k) := by omega
  conv => lhs; rw [e, stps_add]
  have := stps_pow k 1
  rw [Nat.mul_one] at this
  rw [this]
theorem flipB_feed {l : List Nat} {p : Nat} (r : Nat) (hp : p < 8 * l.length) : feed r (flipB l p) = feed r l ^^^ stps (8 * l.length - p) 1 := by
  induction l generalizing r p with
  | nil => simp at hp
  | cons x l ih =>
    simp only [flipB]
    split
    · rename_i h8
      simp only [feed]
      have e : inb r (x ^^^ 2 ^ p) = inb r x ^^^ stps 8 (2 ^ p) := by
        unfold inb
        rw [← stps_xor, Nat.xor_assoc]
      rw [e, feed_shift, stps_bit (by omega : p ≤ 8), ← stps_add, List.length_cons, show 8 * (l.length + 1) - p = 8 - p + 8 * l.length by omega]
    · rename_i h8
      simp only [feed]
      rw [ih _ (by simp only [List.length_cons] at hp; omega), List.length_cons, show 8 * (l.length + 1) - p = 8 * l.length - (p - 8) by omega]

theorem crcS_diff {l m : List Nat} {d : Nat} (hl : ∀ b ∈ l, b < 256) (hm : ∀ b ∈ m, b < 256) (h : feed 4294967295 m = feed 4294967295 l ^^^ d) (he : crcS l = crcS m) : d = 0 := by
  have h1 : feed 4294967295 l = feed 4294967295 m := inv_inj (feed_lt (by omega) hl) (feed_lt (by omega) hm) he
  rw [h1] at h
  have h2 : feed 4294967295 m ^^^ feed 4294967295 m = feed 4294967295 m ^^^ (feed 4294967295 m ^^^ d) := by rw [← h]
  rw [← Nat.xor_assoc, Nat.xor_self, Nat.zero_xor] at h2
  exact h2.symm

/-- So many bits from a place on, those that a number names. -/
def flipN : List Nat → Nat → Nat → Nat → List Nat
  | l, _, _, 0 => l
  | l, p, w, k + 1 => if w / 2 ^ k % 2 = 1 then flipB (flipN l p w k) (p + k) else flipN l p w k
theorem flipN_length (l : List Nat) (p w k : Nat) : (flipN l p w k).length = l.length := by
  induction k with
  | zero => rfl
  | succ k ih =>
    simp only [flipN]
    split
    · rw [flipB_length, ih]
    · exact ih
theorem flipN_lt {l : List Nat} (p w k : Nat) (hl : ∀ x ∈ l, x < 256) : ∀ x ∈ flipN l p w k, x < 256 := by
  induction k with
  | zero => exact hl
  | succ k ih =>
    simp only [flipN]
    split
    · exact flipB_lt _ ih
    · exact ih
theorem pow_xor_mod (w k : Nat) (h : w / 2 ^ k % 2 = 1) : w % 2 ^ (k + 1) = w % 2 ^ k ^^^ 2 ^ k := by
  have e := split_xor k (w % 2 ^ (k + 1))
  rw [Nat.mod_pow_succ, h, Nat.mul_one] at e ⊢
  have h1 : w % 2 ^ k < 2 ^ k := Nat.mod_lt _ (Nat.two_pow_pos k)
  rw [Nat.add_mod_right, Nat.mod_eq_of_lt h1, Nat.add_div_right _ (Nat.two_pow_pos k), Nat.div_eq_of_lt h1, Nat.mul_one] at e
  rw [Nat.xor_comm]
  exact e
theorem flipN_feed {l : List Nat} {p w k : Nat} (hp : p + k ≤ 8 * l.length) : feed 4294967295 (flipN l p w k) = feed 4294967295 l ^^^ stps (8 * l.length - p) (w % 2 ^ k) := by
  induction k with
  | zero => simp [flipN, Nat.mod_one, stps_zero]
  | succ k ih =>
    have ih := ih (by omega)
    simp only [flipN]
    rcases Nat.mod_two_eq_zero_or_one (w / 2 ^ k) with h | h
    · rw [if_neg (by omega), ih, Nat.mod_pow_succ, h, Nat.mul_zero, Nat.add_zero]
    · rw [if_pos h, flipB_feed _ (by rw [flipN_length]; omega), ih, flipN_length, pow_xor_mod w k h, stps_xor, stps_bit (by omega : k ≤ 8 * l.length - p), Nat.xor_assoc, show 8 * l.length - p - k = 8 * l.length - (p + k) by omega]
theorem near_ne {l : List Nat} {p w : Nat} (hl : ∀ x ∈ l, x < 256) (hp : p + 32 ≤ 8 * l.length) (hw : w < 4294967296) (h0 : w ≠ 0) : crcS l ≠ crcS (flipN l p w 32) := by
  intro he
  have h1 := crcS_diff hl (flipN_lt p w 32 hl) (flipN_feed hp) he
  rw [show 2 ^ 32 = 4294967296 from rfl, Nat.mod_eq_of_lt hw] at h1
  exact h0 (stps_nz hw h1)

/-- Which powers of x are 1: none up to 12,000. -/
def walk1 : Nat → Nat → Bool
  | 0, _ => true
  | k + 1, r => (r != 1) && walk1 k (stp r)
theorem walk1_get {k r : Nat} (h : walk1 k r = true) (j : Nat) (hj : j < k) : stps j r ≠ 1 := by
  induction k generalizing r j with
  | zero => omega
  | succ k ih =>
    simp only [walk1, Bool.and_eq_true, bne_iff_ne, ne_eq] at h
    cases j with
    | zero => exact h.1
    | succ j => exact ih h.2 j (by omega)
end Go.Proofs.YtlikhmhomkiadaaGreatDoor
