/-
  What it means that a slice of bytes in memory reads as a list of numbers, and how that is carried along; no program.
-/
import Derived.Test.YtmpaocpgoihliaaQ00
import Derived.Below
import Derived.Laws.OwnMore
import Derived.Deep.AppendLies
import Derived.Deep.Draws
import Derived.WalkKit
import Derived.ProofKit
import Derived.OpenShut
import Derived.Deep.Slices
import Derived.Deep.Fields
import Derived.Laws.AppendOwnNone
import Derived.Laws.AppendOwn
import Derived.Test.YtmpaocpgoihliaaProg
import Derived.WalkSpells
import Derived.BigQuiet
import Derived.OwnWalk
import Derived.Lib.Hide
import Derived.Laws.BitsAllLaws
import Derived.RangeFuncNested
import Derived.RangeFuncBound
import Derived.RangeFuncCalls
import Derived.RangeFuncLeaves
import Derived.RangeFuncBox
import Derived.Maps.AppendAt
import Derived.Shelf.Abstract
import Derived.Shelf.RegionOpen
import Derived.OwnWalkIn
import Derived.TacticsInMore
import Derived.LoopNIn
import Derived.LoopIn
import Derived.Deep.DeepCutAuto
namespace Go.Proofs.Ytmpaocpgoihliaa
set_option maxRecDepth 100000
section
open Go Go.RowKit
def vb (l : List Nat) : List Value := l.map fun (b : Nat) => Value.int .u8 (b : Int)
def Rd (w : World) (B : Nat) (A : Option Addr) (l : List Nat) : Prop :=
  (∀ b ∈ l, b < 256) ∧ (0 < l.length → ∃ g o, A = some ⟨g, o, none⟩ ∧ g < B ∧ ∀ j x, l[j]? = some x → w.cell? ⟨g, o + j, none⟩ = some (.int .u8 ((x : Nat) : Int)))
section
variable {w w' : World} {B B' : Nat} {A : Option Addr} {l : List Nat}
theorem Rd.nil_ : Rd w B A [] := ⟨by simp, fun h => absurd h (by simp)⟩
theorem Rd.take (h : Rd w B A l) (k : Nat) : Rd w B A (l.take k) := by
  refine ⟨fun b hb => h.1 b (List.mem_of_mem_take hb), fun hn => ?_⟩
  rw [List.length_take] at hn
  obtain ⟨g, o, e, hg, hc⟩ := h.2 (by omega)
  refine ⟨g, o, e, hg, fun j x hx => hc j x ?_⟩
  rw [List.getElem?_take] at hx
  split at hx
  · exact hx
  · cases hx
end
theorem own_form {w : World} {base t n : Nat} {v : Value} {xs : List Value} (h : w.ownsRow base t 1 v n xs) : ∃ A c, v = .slice A n c ∧ n ≤ c ∧ c ≤ 9223372036854775807 := by
  rcases h.2 with ⟨rfl, rfl⟩ | ⟨g, cap, cur, rfl, _, _, h1, h2, _⟩
  · exact ⟨none, 0, rfl, Nat.le_refl _, by omega⟩
  · unfold maxLen at h2
    exact ⟨_, cap, rfl, h1, h2⟩
end
section
open Go Go.RowKit
def mostQ (n : Int) : Nat := if n = 3 then 2 else if n = 5 then 3 else if n = 7 then 4 else 0
def hasQ (s : Nat) (i : Int) : Bool := decide (0 ≤ i ∧ i < 7) && s.testBit i.toNat
def addQ (s : Nat) (i : Int) : Nat := if 0 ≤ i ∧ i < 7 then s ||| 2 ^ i.toNat else s
def memQ (s n : Nat) : List Nat := (List.range n).filter s.testBit
def membersQ (s : Nat) (n : Int) : List Nat := if mostQ n = 0 then [] else memQ s n.toNat
def enoughQ (s : Nat) (n : Int) : Bool := decide (0 < mostQ n ∧ mostQ n ≤ (membersQ s n).length)
def ofQ (s : Nat) (l : List Int) : Nat := l.foldl addQ s
theorem memQ_succ (s n : Nat) : memQ s (n + 1) = if s.testBit n = true then memQ s n ++ [n] else memQ s n := by
  unfold memQ
  rw [List.range_succ, List.filter_append]
  split
  · rename_i h; simp [h]
  · rename_i h; simp [h]
theorem memQ_len (s n : Nat) : (memQ s n).length ≤ n := by
  unfold memQ
  refine Nat.le_trans (List.length_filter_le _ _) ?_
  simp
theorem memQ_mem {s n i : Nat} : i ∈ memQ s n ↔ i < n ∧ s.testBit i = true := by simp [memQ]
theorem mostQ_cases {n : Int} (h : mostQ n ≠ 0) : n = 3 ∨ n = 5 ∨ n = 7 := by
  unfold mostQ at h
  split at h
  · left; assumption
  · split at h
    · right; left; assumption
    · split at h
      · right; right; assumption
      · exact absurd rfl h
theorem count_both (a b : Nat → Bool) : ∀ n : Nat, ((List.range n).filter a).length + ((List.range n).filter b).length ≤ n + ((List.range n).filter fun i => a i && b i).length
  | 0 => by simp
  | n + 1 => by
    have ih := count_both a b n
    simp only [List.range_succ, List.filter_append, List.length_append, List.filter_cons, List.filter_nil]
    cases a n <;> cases b n <;> simp <;> omega
theorem meetQ {a b n : Nat} (ha : n / 2 + 1 ≤ (memQ a n).length) (hb : n / 2 + 1 ≤ (memQ b n).length) : ∃ i, i < n ∧ a.testBit i = true ∧ b.testBit i = true := by
  have h := count_both a.testBit b.testBit n
  cases hc : (List.range n).filter fun i => a.testBit i && b.testBit i with
  | nil =>
    rw [hc] at h
    unfold memQ at ha hb
    simp at h
    omega
  | cons i l =>
    have hm : i ∈ (List.range n).filter fun i => a.testBit i && b.testBit i := by rw [hc]; exact List.mem_cons_self
    rw [List.mem_filter, List.mem_range, Bool.and_eq_true] at hm
    exact ⟨i, hm.1, hm.2.1, hm.2.2⟩
theorem not_len : ∀ a : Fin 256, ∀ n : Fin 8, (memQ a.1 n.1).length + (memQ (255 - a.1) n.1).length = n.1 := by decide +kernel
theorem add_len : ∀ a : Fin 256, ∀ i : Fin 7, ∀ n : Fin 8, (memQ a.1 n.1).length ≤ (memQ (a.1 ||| 2 ^ i.1) n.1).length := by decide +kernel
theorem of_take : ∀ a : Fin 256, ∀ m : Fin 8, ∀ n : Fin 8, m.1 ≤ (memQ a.1 n.1).length → (memQ (ofQ 0 (((memQ a.1 n.1).take m.1).map fun k : Nat => (k : Int))) n.1).length = m.1 := by decide +kernel
theorem add_lt : ∀ a : Fin 256, ∀ i : Fin 7, a.1 ||| 2 ^ i.1 < 256 := by decide +kernel
theorem has_div : ∀ a : Fin 256, ∀ i : Fin 7, decide ((a.1 / 2 ^ i.1) % 2 = 1) = a.1.testBit i.1 := by decide +kernel
end
section
open Go Go.RowKit
structure Bs (w : World) (B : Nat) (A : Option Addr) (n c : Nat) (l : List Nat) : Prop where
  len : l.length = n
  cap : n ≤ c
  most : c ≤ 9223372036854775807
  rd : Rd w B A l
  nil_ : A = none → c = 0
def Ext (w w' : World) : Prop := Below w.heap.size w w'
theorem Ext.refl (w : World) : Ext w w := Below.refl _ _
theorem Ext.trans {a b c : World} (h : Ext a b) (k : Ext b c) : Ext a c := Below.trans h (Below.mono k (Below.size h))
theorem Ext.alloc {a b : World} (h : Ext a b) (o : Obj) : Ext a (b.alloc o) := Below.alloc h (Below.size h) o
theorem Ext.size {a b : World} (h : Ext a b) : a.heap.size ≤ b.heap.size := Below.size h
def By (w : World) (A : Option Addr) (n c : Nat) (l : List Nat) : Prop := Bs w w.heap.size A n c l
theorem By.nil_ (w : World) : By w none 0 0 [] := ⟨rfl, Nat.le_refl _, by omega, Rd.nil_, fun _ => rfl⟩
end
section
open Go Go.RowKit Go.ChangeShapes Go.WideShapes
theorem bs_of_row {w : World} {x : Addr} {n c : Nat} {zs : List Int} (hl : n ≤ c) (hm : c ≤ maxLen) (hz : zs.length = c) (hcell : ∀ i, i < zs.length → w.cell? (x.add i) = some (.int .u8 (zs.getD i 0))) (hwz : ∀ z ∈ zs, (Lit.int .u8 z).wf = true) :
    Bs w w.heap.size (some x) n c ((zs.take n).map Int.toNat) := by
  have hb : ∀ z ∈ zs, 0 ≤ z ∧ z < 256 := by
    intro z hzm
    have := bounds_u8 (hwz z hzm)
    omega
  refine ⟨by simp [hz, hl], hl, by unfold maxLen at hm; exact hm, ⟨?_, ?_⟩, fun h => by cases h⟩
  · intro b hbm
    simp only [List.mem_map] at hbm
    obtain ⟨z, hzm, rfl⟩ := hbm
    have := hb z (List.mem_of_mem_take hzm)
    omega
  · intro h0
    have hn : 0 < n := by
      rw [List.length_map, List.length_take] at h0
      omega
    obtain ⟨g, o, spot⟩ := x
    have hc := hcell 0 (by omega)
    have hspot : spot = none := by simpa [Addr.add] using World.cell?_spot hc
    subst hspot
    refine ⟨g, o, rfl, ?_, fun j y hy => ?_⟩
    · have := World.block_lt_of_cell? w _ hc
      simpa [Addr.add] using this
    · rw [List.getElem?_map] at hy
      obtain ⟨z, hzj, rfl⟩ := Option.map_eq_some_iff.1 hy
      have hjn : j < n ∧ zs[j]? = some z := by
        rw [List.getElem?_take] at hzj
        split at hzj
        · exact ⟨by assumption, hzj⟩
        · cases hzj
      have hzb := hb z (List.mem_of_getElem? hjn.2)
      have h2 := hcell j (by omega)
      rw [Addr.add_lit] at h2
      rw [h2, List.getD_eq_getElem?_getD, hjn.2]
      simp only [Option.getD_some]
      rw [Int.toNat_of_nonneg hzb.1]
end
section
open Go Go.RowKit Go.ChangeShapes Go.WideShapes Go.Deep
structure Act5 where
  kind : Nat := 0
  sec : Int := 0
  num : Int := 0
  bA : Option Addr := none
  bn : Nat := 0
  bc : Nat := 0
  bl : List Nat := []
  kA : Option Addr := none
  kn : Nat := 0
  kc : Nat := 0
  kl : List Bool := []
instance : Inhabited Act5 := ⟨{}⟩
section
variable {H : Type} {enc : TypeId × Value → H} {P : Program} {w : World} {base : Nat} {spare : Nat → Bool} {held : Bool}
end
end
section
open Go Go.RowKit Go.ChangeShapes Go.WideShapes Go.Deep
structure Ls {α : Type} (cells : α → List Value) (N : Nat) (w : World) (B : Nat) (A : Option Addr) (n c : Nat) (l : List α) : Prop where
  len : l.length = n
  cap : n ≤ c
  most : c ≤ 9223372036854775807
  rd : 0 < n → ∃ g o, A = some ⟨g, o, none⟩ ∧ g < B ∧ ∀ j a, l[j]? = some a → ∀ k v, (cells a)[k]? = some v → w.cell? ⟨g, o + (j * N + k), none⟩ = some v
  nil_ : A = none → c = 0
theorem Ls.below {α : Type} {cells : α → List Value} {N : Nat} {w w' : World} {B : Nat} {A : Option Addr} {n c : Nat} {l : List α} (h : Ls cells N w B A n c l) (hb : Below B w w') : Ls cells N w' B A n c l :=
  ⟨h.len, h.cap, h.most, fun hn => by
    obtain ⟨g, o, e, hg, hc⟩ := h.rd hn
    exact ⟨g, o, e, hg, fun j a ha k v hv => (hb.cell (p := ⟨g, o + (j * N + k), none⟩) hg).trans (hc j a ha k v hv)⟩, h.nil_⟩
theorem Ls.at_ {α : Type} {cells : α → List Value} {N : Nat} {w : World} {B : Nat} {A : Option Addr} {n c : Nat} {l : List α} (h : Ls cells N w B A n c l) {j : Nat} (hj : j < n) :
    ∃ g o a, A = some ⟨g, o, none⟩ ∧ g < B ∧ l[j]? = some a ∧ ∀ k v, (cells a)[k]? = some v → w.cell? ⟨g, o + (j * N + k), none⟩ = some v := by
  obtain ⟨g, o, e, hg, hc⟩ := h.rd (by omega)
  have hj' : j < l.length := by rw [h.len]; exact hj
  have ha : l[j]? = some l[j] := List.getElem?_eq_getElem hj'
  exact ⟨g, o, l[j], e, hg, ha, fun k v hv => hc j _ ha k v hv⟩
section
variable {H : Type} {enc : TypeId × Value → H} {P : Program} {w : World} {base : Nat} {spare : Nat → Bool} {held : Bool}
structure Bal where
  x : Int := 0
  y : Int := 0
instance : Inhabited Bal := ⟨{}⟩
structure StepU where
  p : Bool := false
  x : Int := 0
  y : Int := 0
  w : Int := 0
  kA : Option Addr := none
  kn : Nat := 0
  kc : Nat := 0
  kl : List Bool := []
instance : Inhabited StepU := ⟨{}⟩
end
end
section
open Go Go.RowKit
structure Mod (F : Nat → Prop) (w w' : World) : Prop where
  os : w'.os = w.os
  tape : w'.tape = w.tape
  output : w'.output = w.output
  size : w.heap.size ≤ w'.heap.size
  block : ∀ k, k < w.heap.size → ¬ F k → w'.heap[k]? = w.heap[k]?
section
variable {F G : Nat → Prop} {a b c w w' : World}
theorem Mod.refl (F : Nat → Prop) (w : World) : Mod F w w := ⟨rfl, rfl, rfl, Nat.le_refl _, fun _ _ _ => rfl⟩
theorem Mod.trans (h : Mod F a b) (k : Mod G b c) (hG : ∀ i, G i → F i ∨ a.heap.size ≤ i) : Mod F a c :=
  ⟨k.os.trans h.os, k.tape.trans h.tape, k.output.trans h.output, Nat.le_trans h.size k.size, fun i hi hf =>
    (k.block i (Nat.lt_of_lt_of_le hi h.size) fun hg => (hG i hg).elim hf fun hl => absurd hi (by omega)).trans (h.block i hi hf)⟩
theorem Mod.of_ext (h : Ext w w') : Mod F w w' := ⟨h.os, h.tape, h.output, h.size, fun k hk _ => h.block k hk⟩
theorem Mod.setCell (h : Mod F a b) {p : Addr} (hp : F p.block ∨ a.heap.size ≤ p.block) (v : Value) : Mod F a (b.setCell p v) :=
  ⟨h.os, h.tape, h.output, Nat.le_trans h.size (by simp [World.setCell]), fun k hk hf => (Below.heap_setCell _ _ _ _ (fun e => by
    subst e
    exact hp.elim hf fun hl => absurd hk (by omega))).trans (h.block k hk hf)⟩
theorem Mod.grown {row : Option Nat} (h : Mod F a b) (hg : b.grownBy c row) (hr : ∀ k, row = some k → F k ∨ a.heap.size ≤ k) : Mod F a c :=
  ⟨hg.os.trans h.os, hg.tape.trans h.tape, hg.output.trans h.output, Nat.le_trans h.size hg.size, fun k hk hf =>
    (hg.block k (Nat.lt_of_lt_of_le hk h.size) (fun e => (hr k e.symm).elim hf fun hl => absurd hk (by omega))).trans (h.block k hk hf)⟩
theorem heap_mod {g : Nat} {o : Obj} (h : w.heap[g]? = some o) (k : Mod F w w') (hg : ¬ F g) : w'.heap[g]? = some o := (k.block g (Array.getElem?_eq_some_iff.1 h).1 hg).trans h
end
end
section
open Go Go.RowKit
theorem flat_get {α : Type} {cells : α → List Value} {N : Nat} (hN : ∀ a, (cells a).length = N) (h0 : 0 < N) : ∀ (l : List α) (k j : Nat), j < N → (l.flatMap cells)[k * N + j]? = (l[k]?).bind fun a => (cells a)[j]?
  | [], k, j, _ => by simp
  | a :: l, 0, j, hj => by
    rw [List.flatMap_cons, List.getElem?_append_left (by rw [hN]; omega)]
    simp
  | a :: l, k + 1, j, hj => by
    rw [List.flatMap_cons, List.getElem?_append_right (by rw [hN, Nat.succ_mul]; omega), hN, show (k + 1) * N + j - N = k * N + j by rw [Nat.succ_mul]; omega, flat_get hN h0 l k j hj]
    simp
theorem Ls.of_own {α : Type} {cells : α → List Value} {N : Nat} {w : World} {B : Nat} {e : TypeId} {v : Value} {l : List α} (hN : ∀ a, (cells a).length = N) (h0 : 0 < N) (h : w.ownsRow B e N v l.length (l.flatMap cells)) : ∃ A c, v = .slice A l.length c ∧ Ls cells N w w.heap.size A l.length c l := by
  rcases h.2 with ⟨rfl, hz⟩ | ⟨g, cap, cur, rfl, hB, hg, hn, hm, hs, ht⟩
  · have hl : l = [] := List.length_eq_zero_iff.1 hz
    subst hl
    exact ⟨none, 0, rfl, ⟨rfl, Nat.le_refl _, by omega, fun h => absurd h (by simp), fun _ => rfl⟩⟩
  · refine ⟨some ⟨g, 0, none⟩, cap, rfl, ⟨rfl, hn, by unfold maxLen at hm; exact hm, fun _ => ⟨g, 0, rfl, (Array.getElem?_eq_some_iff.1 hg).1, fun j a ha k x hx => ?_⟩, fun e => by cases e⟩⟩
    have hk : k < N := by have := (List.getElem?_eq_some_iff.1 hx).1; rw [hN] at this; exact this
    have hjl : j < l.length := (List.getElem?_eq_some_iff.1 ha).1
    have hf := flat_get hN h0 l j k hk
    rw [ha] at hf
    have hx2 : (l.flatMap cells)[j * N + k]? = some x := by rw [hf]; exact hx
    have hlt : j * N + k < l.length * N := by
      have : (j + 1) * N ≤ l.length * N := Nat.mul_le_mul_right _ hjl
      rw [Nat.succ_mul] at this
      omega
    rw [Nat.zero_add, cell_of_row w g _ _ _ _ hg, ← hx2, ← ht, List.getElem?_take_of_lt hlt, Array.getElem?_toList]
theorem Ls.of_row {α : Type} {cells : α → List Value} {N : Nat} {w : World} {B n : Nat} {e : TypeId} {v : Value} {l : List α} (hN : ∀ a, (cells a).length = N) (h0 : 0 < N) (hl : l.length = n) (h : w.ownsRow B e N v n (l.flatMap cells)) : ∃ A c, v = .slice A n c ∧ Ls cells N w w.heap.size A n c l := by
  subst hl
  exact Ls.of_own hN h0 h
end
section
open Go Go.RowKit
theorem mayHold_of (i : Int) (w : World) : Calls Try.prog 22 #[.int .i64 i] w fun e w' => e = .returned (.bool (decide (0 ≤ i ∧ i < 7))) ∧ w = w' := by
  obtain ⟨b, hb⟩ : ∃ b, decide (0 ≤ i ∧ i < 7) = b := ⟨_, rfl⟩
  rw [hb]
  have HB := Lib.hid hb
  clear hb
  by_cases h0 : 0 ≤ i
  · by_cases h1 : i < 7
    · have hb := HB.out
      rw [decide_eq_true ⟨h0, h1⟩] at hb
      subst hb
      go_enter Try.func22, Try.ntmps22
      go_wp2_with fail
      go_ret
      exact ⟨rfl, rfl⟩
    · have hb := HB.out
      rw [decide_eq_false fun h => h1 h.2] at hb
      subst hb
      go_enter Try.func22, Try.ntmps22
      go_wp2_with fail
      go_ret
      exact ⟨rfl, rfl⟩
  · have hb := HB.out
    rw [decide_eq_false fun h => h0 h.1] at hb
    subst hb
    go_enter Try.func22, Try.ntmps22
    go_wp2_with fail
    go_ret
    exact ⟨rfl, rfl⟩
theorem most_of (n : Int) (w : World) : Calls Try.prog 8 #[.int .i64 n] w fun e w' => e = .returned (.int .i64 (mostQ n : Int)) ∧ w = w' := by
  by_cases h3 : n = 3
  · subst h3
    go_enter Try.func8, Try.ntmps8
    go_wp2_with fail
    go_ret
    exact ⟨rfl, rfl⟩
  by_cases h5 : n = 5
  · subst h5
    go_enter Try.func8, Try.ntmps8
    go_wp2_with fail
    go_ret
    exact ⟨rfl, rfl⟩
  by_cases h7 : n = 7
  · subst h7
    go_enter Try.func8, Try.ntmps8
    go_wp2_with fail
    go_ret
    exact ⟨rfl, rfl⟩
  have HM := Lib.hid (show mostQ n = 0 by unfold mostQ; rw [if_neg h3, if_neg h5, if_neg h7])
  have e3 : (n == 3) = false := by simpa using h3
  have e5 : (n == 5) = false := by simpa using h5
  have e7 : (n == 7) = false := by simpa using h7
  clear h3 h5 h7
  go_enter Try.func8, Try.ntmps8
  go_wp2_with fail
  go_ret
  exact ⟨by rw [HM.out]; rfl, rfl⟩
theorem and_bit : ∀ s : Fin 256, ∀ k : Fin 7, (bits .and .u8 (s.1 : Int) ((2 : Int) ^ k.1 % 256) != 0) = s.1.testBit k.1 := by decide +kernel
theorem or_bit : ∀ s : Fin 256, ∀ k : Fin 7, bits .or .u8 (s.1 : Int) ((2 : Int) ^ k.1 % 256) = ((s.1 ||| 2 ^ k.1 : Nat) : Int) := by decide +kernel
theorem has_of (s : Nat) (hs : s < 256) (i : Int) (w : World) : Calls Try.prog 17 #[.int .u8 (s : Int), .int .i64 i] w fun e w' => e = .returned (.bool (hasQ s i)) ∧ w = w' := by
  have HM := Lib.hid (fun V => mayHold_of i V)
  by_cases h : 0 ≤ i ∧ i < 7
  · rw [decide_eq_true h] at HM
    obtain ⟨k, rfl⟩ : ∃ k : Nat, i = (k : Int) := ⟨i.toNat, by omega⟩
    have HH := Lib.hid (show hasQ s (k : Int) = s.testBit k by unfold hasQ; rw [decide_eq_true h]; rfl)
    have hk : k < 7 := by omega
    clear h
    go_enter Try.func17, Try.ntmps17
    go_wp2_with fail
    refine (HM.out _).mono ?_
    rintro e w1 ⟨rfl, rfl⟩
    go_wp2_with fail
    go_ret
    exact ⟨by rw [HH.out, ← and_bit ⟨s, hs⟩ ⟨k, by omega⟩]; rfl, rfl⟩
  · rw [decide_eq_false h] at HM
    have HH := Lib.hid (show hasQ s i = false by unfold hasQ; rw [decide_eq_false h]; rfl)
    clear h
    go_enter Try.func17, Try.ntmps17
    go_wp2_with fail
    refine (HM.out _).mono ?_
    rintro e w1 ⟨rfl, rfl⟩
    go_wp2_with fail
    go_ret
    exact ⟨by rw [HH.out]; rfl, rfl⟩
theorem addQ_lt {s : Nat} (hs : s < 256) (i : Int) : addQ s i < 256 := by
  unfold addQ
  split
  · rename_i h
    exact add_lt ⟨s, hs⟩ ⟨i.toNat, by omega⟩
  · exact hs
theorem add_of (s : Nat) (hs : s < 256) (i : Int) (w : World) : Calls Try.prog 18 #[.int .u8 (s : Int), .int .i64 i] w fun e w' => e = .returned (.int .u8 (addQ s i : Int)) ∧ w = w' := by
  have HM := Lib.hid (fun V => mayHold_of i V)
  by_cases h : 0 ≤ i ∧ i < 7
  · rw [decide_eq_true h] at HM
    obtain ⟨k, rfl⟩ : ∃ k : Nat, i = (k : Int) := ⟨i.toNat, by omega⟩
    have HH := Lib.hid (show addQ s (k : Int) = s ||| 2 ^ k by unfold addQ; rw [if_pos h]; rfl)
    have hk : k < 7 := by omega
    clear h
    go_enter Try.func18, Try.ntmps18
    go_wp2_with fail
    refine (HM.out _).mono ?_
    rintro e w1 ⟨rfl, rfl⟩
    go_wp2_with fail
    go_ret
    exact ⟨by rw [HH.out, ← or_bit ⟨s, hs⟩ ⟨k, by omega⟩]; rfl, rfl⟩
  · rw [decide_eq_false h] at HM
    have HH := Lib.hid (show addQ s i = s by unfold addQ; rw [if_neg h])
    clear h
    go_enter Try.func18, Try.ntmps18
    go_wp2_with fail
    refine (HM.out _).mono ?_
    rintro e w1 ⟨rfl, rfl⟩
    go_wp2_with fail
    go_ret
    exact ⟨by rw [HH.out]; rfl, rfl⟩
def intC (k : Int) : List Value := [.int .i64 k]
abbrev LsI (w : World) (A : Option Addr) (n c : Nat) (l : List Int) : Prop := Ls intC 1 w w.heap.size A n c l
theorem LsI.ext {w w' : World} {A : Option Addr} {n c : Nat} {l : List Int} (h : LsI w A n c l) (k : Ext w w') : LsI w' A n c l := by
  have h2 := Ls.below h k
  exact ⟨h2.len, h2.cap, h2.most, fun hn => by
    obtain ⟨g, o, e, hg, hc⟩ := h2.rd hn
    exact ⟨g, o, e, Nat.lt_of_lt_of_le hg k.size, hc⟩, h2.nil_⟩
theorem ofQ_lt {s : Nat} (hs : s < 256) : ∀ l : List Int, ofQ s l < 256
  | [] => hs
  | a :: l => ofQ_lt (addQ_lt hs a) l
theorem ofQ_take {s k : Nat} {l : List Int} {a : Int} (h : l[k]? = some a) : ofQ s (l.take (k + 1)) = addQ (ofQ s (l.take k)) a := by
  unfold ofQ
  rw [List.take_add_one, h, List.foldl_append]
  rfl
set_option maxHeartbeats 600000 in
theorem of_of {w : World} {A : Option Addr} {n c : Nat} {l : List Int} (h : LsI w A n c l) : Calls Try.prog 19 #[.slice A n c] w fun e w' => e = .returned (.int .u8 (ofQ 0 l : Int)) ∧ w = w' := by
  have HL := Lib.hid h
  have hcap := h.cap
  have hmost := h.most
  clear h
  go_enter Try.func19, Try.ntmps19
  go_wp2_with fail
  go_loopw [3, 8] (fun v i wr => ∃ k : Nat, k ≤ n ∧ i = .int .i64 (k : Int) ∧ v = .int .u8 (ofQ 0 (l.take k) : Int) ∧ wr = w) (fun _ i _ => n - (intOf i).toNat)
  case atStart => exact ⟨0, by omega, rfl, rfl, rfl⟩
  case round =>
    obtain ⟨k, hk, rfl, rfl, rfl⟩ := hrel
    by_cases hlt : k < n
    · obtain ⟨g, o, a, hA, hg, ha, hcell⟩ := HL.out.at_ hlt
      subst hA
      have hc0 := hcell 0 _ rfl
      rw [Nat.mul_one, Nat.add_zero] at hc0
      have HAT := Lib.hid ha
      have HA := Lib.hid (fun V => add_of (ofQ 0 (l.take k)) (ofQ_lt (by omega) _) a V)
      have hlt' : (k : Int) < (n : Int) := by omega
      clear hcell ha
      go_wp2_with fail
      refine (HA.out _).mono ?_
      rintro e w1 ⟨rfl, rfl⟩
      go_wp2_with fail
      go_roundw
      case rel => exact ⟨k + 1, by omega, by go_num, by rw [ofQ_take HAT.out], trivial⟩
      case measure => simp [intOf]; omega
    · obtain rfl : k = n := by omega
      have HE := Lib.hid (show l.take k = l by rw [List.take_of_length_le]; have := HL.out.len; omega)
      go_wp2_with fail
      go_ret
      exact ⟨by rw [HE.out]; rfl, rfl⟩
end
section
open Go Go.RowKit Go.Shelf
attribute [local go_sem] Oper.semAt_some
theorem calls_marksQ {f : FuncId} {fn : Func} {c : Code} {args : Array Value} {w : World} {R : Ending → World → Prop} (hf : Try.prog.funcs[f]? = some fn) (hb : fn.body = some c)
    (h : c.wp Try.prog (bodyPostM Fence.wide 9 Try.prog fn R) { tmps := args ++ Array.replicate (fn.ntmps - args.size) undef, defers := [] } w) : Calls Try.prog f args w R :=
  (callsIn_wide (n := 9)).1 (callsIn_of_wp_marks hf hb trivial (wpIn_wide.2 h) rfl)
theorem retM1Q {fn : Func} {R : Ending → World → Prop} {a : Act} {w : World} {v : Value} {D : Nat} (hd : a.defers = [{ target := .collected D, args := #[] }]) (hK : w.heap[D]? = some (.deferred (some [])))
    (hr : (results fn a.tmps).run Try.prog (w.putObj D (.deferred none)) = .ok v (w.putObj D (.deferred none))) (hR : R (.returned v) (w.putObj D (.deferred none))) : bodyPostM Fence.wide 9 Try.prog fn R .ret a w := by
  show LeavesInM Fence.wide 9 Try.prog fn a.tmps R a.defers .returning w
  rw [hd]
  exact ⟨by simp, .inl ⟨_, _, rfl, run_takeDeferred hK, v, hr, hR⟩⟩
theorem grown_of_extQ {w w' : World} (h : Ext w w') : w.grownBy w' none := ⟨h.os, h.tape, h.output, h.size, fun k hk _ => h.block k hk⟩
theorem mod_cellQ {G : Nat → Prop} {w w' : World} (k : Mod G w w') {g i : Nat} {v : Value} (hg : ¬ G g) (h : w.cell? ⟨g, i, none⟩ = some v) : w'.cell? ⟨g, i, none⟩ = some v :=
  (World.cell?_of_block (a := ⟨g, i, none⟩) (k.block g (World.block_lt_of_cell? w _ h) hg)).trans h
theorem ext_of_cellQ {w w' : World} {g i : Nat} {v : Value} (h : Ext w w') (hc : w.cell? ⟨g, i, none⟩ = some v) : w'.cell? ⟨g, i, none⟩ = some v := (Below.cell h (p := ⟨g, i, none⟩) (World.block_lt_of_cell? w _ hc)).trans hc
theorem mod_putQ {G : Nat → Prop} {w W : World} (l : Nat) (o o' : Obj) (hG : ∀ k, w.heap.size ≤ k → G k) (hl : w.heap.size ≤ l) (_ : W.heap[l]? = some o) : Mod G W (W.putObj l o') :=
  (Mod.refl G W).grown (grownBy_putObj' W l o') (fun k e => by cases e; exact .inl (hG l hl))
theorem ext_putQ {w W : World} {D : Nat} (h : Ext w W) (hD : w.heap.size ≤ D) (hK : W.heap[D]? = some (.deferred (some []))) : Ext w (W.putObj D (.deferred none)) :=
  Below.trans h (belowK_b (w := w) (Nat.le_refl _) W D _ _ hD hK rfl rfl)
theorem row_setQ {w : World} {g t : Nat} {fr : Nat × Nat} {cs cs' : Array Value} (i : Nat) (h : w.heap[g]? = some (.cells cs t fr)) (x : Value) (e : cs.setIfInBounds i x = cs') : (w.setCell ⟨g, i, none⟩ x).heap[g]? = some (.cells cs' t fr) := by
  subst e
  rw [setCell_eq_setRow w g i cs t fr x h]
  exact setRow_heap w g _ _ _ _ h
theorem int_infoQ : (Try.prog.info? 3).map (fun i => (i.zero, i.size, i.bytes)) = some (some (.int .i64 0), 1, 8) := by kernel_rfl
def encQ (k : Nat) : Array Value := #[.int .i64 (k : Int)]
theorem appendQ {W w1 : World} {B base : Nat} {t e : TypeId} {size : Nat} {v v' : Value} {k m : Nat} {xs ys : List Value} {tmp : Obj} (hv : Boxed W B t v) (hte : t ≠ e) (hrow : W.ownsRow base e size v k xs) (hb : base ≤ W.heap.size) (hBb : B ≤ base)
    (hown' : w1.ownsRow base e size v' m ys) (hgrow : (W.alloc tmp).grownBy w1 v.ownBlock) :
    Boxed w1 B t v ∧ Boxed (w1.setCell ⟨B, 0, none⟩ v') B t v' ∧ (w1.setCell ⟨B, 0, none⟩ v').ownsRow base e size v' m ys ∧ KeepsOthers W (w1.setCell ⟨B, 0, none⟩ v') ∧ Below B W (w1.setCell ⟨B, 0, none⟩ v') ∧ Mod (fun k => k = B ∨ base ≤ k) W (w1.setCell ⟨B, 0, none⟩ v') := by
  have low : ∀ {w : World} {v : Value} {n : Nat} {xs : List Value}, w.ownsRow base e size v n xs → w.ownsRow B e size v n xs := fun {w v n xs} h => by
    refine ⟨h.1, ?_⟩
    rcases h.2 with h0 | ⟨g, cap, cur, h1, h2, h3⟩
    · exact .inl h0
    · exact .inr ⟨g, cap, cur, h1, Nat.le_trans hBb h2, h3⟩
  obtain ⟨h1, h2, _, h4, h5⟩ := hv.appended hte (low hrow) (by omega) (Nat.le_refl _) (low hown') hgrow
  have m1 : Mod (fun k => k = B ∨ base ≤ k) W (W.alloc tmp) := Mod.of_ext ((Ext.refl W).alloc tmp)
  have m2 : Mod (fun k => k = B ∨ base ≤ k) W w1 := m1.grown hgrow fun k hk => .inl (.inr (by
    rcases hrow.2 with ⟨rfl, _⟩ | ⟨g, cap, cur, rfl, hb, _, _⟩
    · simp [Value.ownBlock] at hk
    · obtain rfl : g = k := by simpa [Value.ownBlock] using hk
      exact hb))
  exact ⟨h1, h2, hown'.kept (grownBy_setCell' w1 B v') (.inr (h1.not_row hte hown').symm), h4, h5, m2.setCell (p := ⟨B, 0, none⟩) (.inl (.inl rfl)) _⟩
theorem below_of (s n : Int) (w : World) :
    Calls Try.prog 20 #[.int .u8 s, .int .i64 n] w fun e w' => e = .returned (.func (.func 23) #[] #[.pointer (some ⟨w.heap.size + 1, 0, none⟩), .pointer (some ⟨w.heap.size, 0, none⟩)]) ∧ w' = (w.alloc (.cells #[.int .u8 s] 22)).alloc (.cells #[.int .i64 n] 3) := by
  go_enter Try.func20, Try.ntmps20
  go_wp2
  go_ret
  exact ⟨rfl, rfl⟩
theorem memQ_grow (s j : Nat) : ∀ q : Nat, (memQ s j).length ≤ (memQ s (j + q)).length
  | 0 => Nat.le_refl _
  | q + 1 => by
    refine Nat.le_trans (memQ_grow s j q) ?_
    rw [show j + (q + 1) = (j + q) + 1 by omega, memQ_succ]
    split <;> simp
theorem memQ_in {s j n : Nat} (h : j < n) (hb : s.testBit j = true) : (memQ s j).length < (memQ s n).length := by
  have h1 := memQ_grow s (j + 1) (n - (j + 1))
  rw [show j + 1 + (n - (j + 1)) = n by omega, memQ_succ, if_pos hb, List.length_append, List.length_singleton] at h1
  omega
set_option maxHeartbeats 1600000 in
theorem below1_in (n0 : Nat) (hn0 : 1 ≤ n0) (l bn bs : Nat) (G : Nat → Prop) (s : Nat) (hs : s < 256) (n : Int) (J Jx : List Nat → World → Prop) (W0 V : World) (hV : Mod G W0 V)
    (hAb : ∀ s W W', J s W → Ext W W' → J s W') (hGf : ¬ G bn ∧ ¬ G bs) (hcn : V.cell? ⟨bn, 0, none⟩ = some (.int .i64 n)) (hcs : V.cell? ⟨bs, 0, none⟩ = some (.int .u8 (s : Int)))
    (hY : ∀ pre x W, J pre W → pre.length < (membersQ s n).length → YieldAt Fence.wide (n0 - 1) Try.prog l (encQ x) W fun e W' =>
      (e = .returned (.bool true) ∧ J (pre ++ [x]) W' ∧ Mod G W W') ∨ (e = .returned (.bool false) ∧ Jx (pre ++ [x]) W')) (h0 : J [] V) :
    CallsIn Fence.wide n0 Try.prog 23 #[.func (.yield l) #[] #[], .pointer (some ⟨bn, 0, none⟩), .pointer (some ⟨bs, 0, none⟩)] V fun e W' => (∃ v, e = .returned v) ∧
      ((∃ ys : List Nat, ys = membersQ s n ∧ J ys W') ∨ (∃ pre : List Nat, pre.length ≤ (membersQ s n).length ∧ Jx pre W')) := by
  have HC := Lib.hid (And.intro hcn hcs)
  have HG := Lib.hid hGf
  have HV := Lib.hid hV
  have HY := Lib.hid hY
  have HAB := Lib.hid hAb
  have HM := Lib.hid (most_of n V)
  clear hV hY hGf hAb
  by_cases hm : mostQ n = 0
  · have HE := Lib.hid (show membersQ s n = [] by unfold membersQ; rw [if_pos hm])
    rw [hm] at HM
    clear hm
    refine callsIn_of_wp Try.func23 rfl trivial ?_ rfl
    simp only [Try.ntmps23, List.size_toArray, List.length_cons, List.length_nil, Nat.reduceAdd, Nat.reduceSub, Array.replicate_succ, Array.replicate_zero, List.push_toArray, List.append_toArray, List.nil_append, List.cons_append]
    gi_wp2_with (refine ⟨trivial, ?_⟩; gi_at_call 8; refine (callsIn_wide.2 HM.out).mono ?_; rintro e W3 ⟨rfl, rfl⟩)
    refine bodyPost_ret (results_none rfl _ _ _) rfl ?_
    exact ⟨⟨_, rfl⟩, .inl ⟨_, HE.out.symm, h0⟩⟩
  · have HE := Lib.hid (show membersQ s n = memQ s n.toNat by unfold membersQ; rw [if_neg hm])
    have hn : 0 ≤ n ∧ n ≤ 7 := by rcases mostQ_cases hm with rfl | rfl | rfl <;> omega
    have hmp : ((mostQ n : Int) == 0) = false := by simpa using hm
    generalize mostQ n = mq at *
    clear hm
    obtain ⟨N, rfl⟩ : ∃ N : Nat, n = (N : Int) := ⟨n.toNat, by omega⟩
    rw [Int.toNat_natCast] at HE
    have hN : N ≤ 7 := by omega
    clear hn
    refine callsIn_of_wp Try.func23 rfl trivial ?_ rfl
    simp only [Try.ntmps23, List.size_toArray, List.length_cons, List.length_nil, Nat.reduceAdd, Nat.reduceSub, Array.replicate_succ, Array.replicate_zero, List.push_toArray, List.append_toArray, List.nil_append, List.cons_append]
    gi_wp2_with (refine ⟨trivial, ?_⟩; gi_at_call 8; refine (callsIn_wide.2 HM.out).mono ?_; rintro e W3 ⟨rfl, rfl⟩)
    gi_loopw [9] (fun i wr => ∃ (j : Nat), j ≤ N ∧ i = .int .i64 (j : Int) ∧ Hid (J (memQ s j) wr) ∧ Hid (Mod G V wr)) (fun i _ => 100 - (intOf i).toNat)
    case atStart => exact ⟨0, by omega, rfl, Lib.hid h0, Lib.hid (Mod.refl _ _)⟩
    case round =>
      obtain ⟨j, hj, rfl, HJ, HMo⟩ := hrel
      have k0 : wr.cell? ⟨bn, 0, none⟩ = some (.int .i64 (N : Int)) := mod_cellQ HMo.out HG.out.1 HC.out.1
      have k1 : wr.cell? ⟨bs, 0, none⟩ = some (.int .u8 (s : Int)) := mod_cellQ HMo.out HG.out.2 HC.out.2
      clear hcn hcs
      by_cases hlt : j < N
      · have HH := Lib.hid (has_of s hs (j : Int) wr)
        have e7 : hasQ s (j : Int) = s.testBit j := by unfold hasQ; rw [decide_eq_true (show (0 : Int) ≤ (j : Int) ∧ (j : Int) < 7 by omega)]; rfl
        rw [e7] at HH
        have HS := Lib.hid (memQ_succ s j)
        obtain ⟨b, hb⟩ : ∃ b, s.testBit j = b := ⟨_, rfl⟩
        rw [hb] at HH
        have HB := Lib.hid hb
        clear hb e7
        cases b with
        | true =>
          obtain ⟨fn, tmps, assign, body, hy, hR⟩ := HY.out (memQ s j) j wr HJ.out (by rw [HE.out]; exact memQ_in hlt HB.out)
          have HR := Lib.hid hR
          have hy2 : (Instr.yield l #[.int .i64 (j : Int)]).run Try.prog wr = .ok (.round l fn tmps assign body) wr := hy
          clear hR hy
          gi_wp2_with (refine ⟨trivial, ?_⟩; gi_at_call 17; refine (callsIn_wide.2 HH.out).mono ?_; rintro e W3 ⟨rfl, rfl⟩)
          refine HR.out.mono ?_
          rintro e W4 (⟨rfl, hJ4, hM4⟩ | ⟨rfl, hJ4⟩)
          · have HJ4 := Lib.hid hJ4
            have HM4 : Hid (Mod G V W4) := Lib.hid (HMo.out.trans hM4 fun _ hi => .inl hi)
            clear hJ4 hM4 hy2 k0 k1
            gi_wp2
            go_roundw
            case rel => exact ⟨j + 1, by omega, by go_num, Lib.hid (by rw [HS.out, if_pos HB.out]; exact HJ4.out), HM4⟩
            case measure => simp [intOf]; omega
          · have HJ4 := Lib.hid hJ4
            clear hJ4 hy2 k0 k1
            gi_wp2
            refine bodyPost_ret (results_none rfl _ _ _) rfl ?_
            exact ⟨⟨_, rfl⟩, .inr ⟨_, by rw [HE.out, List.length_append, List.length_singleton]; exact memQ_in hlt HB.out, HJ4.out⟩⟩
        | false =>
          gi_wp2_with (refine ⟨trivial, ?_⟩; gi_at_call 17; refine (callsIn_wide.2 HH.out).mono ?_; rintro e W3 ⟨rfl, rfl⟩)
          refine ⟨fun _ h => (by cases h), ?_⟩
          gi_wp2
          go_roundw
          case rel => exact ⟨j + 1, by omega, by go_num, Lib.hid (by rw [HS.out, if_neg (by rw [HB.out]; simp)]; exact HJ.out), HMo⟩
          case measure => simp [intOf]; omega
      · obtain rfl : j = N := by omega
        gi_wp2
        go_end0
        exact ⟨⟨_, rfl⟩, .inl ⟨_, HE.out.symm, HJ.out⟩⟩
theorem below_stops (n0 : Nat) (hn0 : 1 ≤ n0) (bn bs : Nat) (G : Nat → Prop) (s : Nat) (hs : s < 256) (n : Int) (W0 : World) (hGf : ¬ G bn ∧ ¬ G bs) (hcn : W0.cell? ⟨bn, 0, none⟩ = some (.int .i64 n)) (hcs : W0.cell? ⟨bs, 0, none⟩ = some (.int .u8 (s : Int))) :
    SeqStopsK Fence.wide n0 Try.prog 23 #[.pointer (some ⟨bn, 0, none⟩), .pointer (some ⟨bs, 0, none⟩)] encQ (Mod G) (fun ys => ys = membersQ s n) (fun pre => pre.length ≤ (membersQ s n).length) (membersQ s n).length W0 := fun l J Jx V hV hJ _ hY h0 => by
  have hx : Ext W0 V := hV
  have hmo : Mod G W0 V := Mod.of_ext hx
  exact below1_in n0 hn0 l bn bs G s hs n J Jx W0 V hmo (fun s W W' hs hx => hJ s W W' none hs (grown_of_extQ hx) (fun r e => by cases e)) hGf (mod_cellQ hmo hGf.1 hcn) (mod_cellQ hmo hGf.2 hcs) hY h0
end
end Go.Proofs.Ytmpaocpgoihliaa
