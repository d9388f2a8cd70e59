/-
  What it means that a slice of bytes in memory reads as a list of numbers, and how that is carried along; no program.
  How what is known of slices of bytes is carried over calls that write nothing that was there.
  The contract of the document's own copy of bytes: new memory that holds the same bytes; nothing that was there is written.
  The contract of Join (and of the library's Grow and Concat at bytes, which it calls): new memory that holds the lists one behind the other.
  The contracts of Text, the program's and the document's: a text's length and its bytes, or which error.
-/
import Derived.Below
import Derived.Laws.OwnMore
import Derived.Deep.AppendLies
import Derived.Deep.Draws
import Derived.WalkKit
import Derived.Test.YtejejadbemkifaaDoorProg
import Derived.WalkSpells
import Derived.OwnWalk
import Derived.Laws.AppendOwnNone
import Derived.Lib.Hide
import Derived.Lib.AppendZeros
import Derived.Outline
import Derived.Laws.IdiomStrings
namespace Go.Proofs.YtejejadbemkifaaDoor
set_option maxRecDepth 100000
open Go Go.RowKit

/-- The cells of bytes. -/
def vb (l : List Nat) : List Value := l.map fun (b : Nat) => Value.int .u8 (b : Int)
theorem vb_length (l : List Nat) : (vb l).length = l.length := by simp [vb]
theorem vb_get (l : List Nat) (i : Nat) : (vb l)[i]? = (l[i]?).map fun (b : Nat) => Value.int .u8 (b : Int) := by simp [vb]
theorem vb_append (a b : List Nat) : vb (a ++ b) = vb a ++ vb b := by simp [vb]
theorem vb_one (l : List Nat) : ∀ u ∈ vb l, u.oneCell' = true := by
  intro u hu
  simp only [vb, List.mem_map] at hu
  obtain ⟨b, _, rfl⟩ := hu
  rfl

/-- The bytes l lie at the address A, below block number B. -/
def Rd (w : World) (B : Nat) (A : Option Addr) (l : List Nat) : Prop :=
  (∀ b ∈ l, b < 256) ∧ (0 < l.length → ∃ g o, A = some ⟨g, o, none⟩ ∧ g < B ∧ ∀ j x, l[j]? = some x → w.cell? ⟨g, o + j, none⟩ = some (.int .u8 ((x : Nat) : Int)))

section
variable {w w' : World} {B B' : Nat} {A : Option Addr} {l : List Nat}
theorem Rd.nil_ : Rd w B A [] := ⟨by simp, fun h => absurd h (by simp)⟩
theorem Rd.lt (h : Rd w B A l) : ∀ b ∈ l, b < 256 := h.1
theorem Rd.at_ {k : Nat} (h : Rd w B A l) (hk : k < l.length) : ∃ g o x, A = some ⟨g, o, none⟩ ∧ g < B ∧ l[k]? = some x ∧ x < 256 ∧ w.cell? ⟨g, o + k, none⟩ = some (.int .u8 ((x : Nat) : Int)) := by
  obtain ⟨g, o, e, hg, hc⟩ := h.2 (by omega)
  exact ⟨g, o, l[k], e, hg, List.getElem?_eq_getElem hk, h.1 _ (List.getElem_mem hk), hc k _ (List.getElem?_eq_getElem hk)⟩
theorem Rd.keep (h : Rd w B A l) (hk : ∀ p : Addr, p.block < B → w'.cell? p = w.cell? p) : Rd w' B A l :=
  ⟨h.1, fun hn => by
    obtain ⟨g, o, e, hg, hc⟩ := h.2 hn
    exact ⟨g, o, e, hg, fun j x hx => (hk ⟨g, o + j, none⟩ hg).trans (hc j x hx)⟩⟩
theorem Rd.more (h : Rd w B A l) (hB : B ≤ B') : Rd w B' A l :=
  ⟨h.1, fun hn => by
    obtain ⟨g, o, e, hg, hc⟩ := h.2 hn
    exact ⟨g, o, e, by omega, hc⟩⟩
theorem Rd.below (h : Rd w B A l) (hb : Below B w w') : Rd w' B A l := h.keep fun _ hp => hb.cell hp
theorem Rd.drewN (h : Rd w B A l) (k : Nat) : Rd (w.drewN k) B A l := h.keep fun _ _ => rfl
theorem Rd.drop (h : Rd w B A l) {g o : Nat} (hA : A = some ⟨g, o, none⟩) (k : Nat) : Rd w B (some ⟨g, o + k, none⟩) (l.drop k) := by
  refine ⟨fun b hb => h.1 b (List.mem_of_mem_drop hb), fun hn => ?_⟩
  rw [List.length_drop] at hn
  obtain ⟨g', o', e, hg, hc⟩ := h.2 (by omega)
  rw [hA] at e
  injection e with e
  injection e with e1 e2
  subst e1; subst e2
  refine ⟨g, o + k, rfl, hg, fun j x hx => ?_⟩
  rw [Nat.add_assoc]
  exact hc _ x (by rw [← hx, List.getElem?_drop])
theorem Rd.take (h : Rd w B A l) (k : Nat) : Rd w B A (l.take k) := by
  refine ⟨fun b hb => h.1 b (List.mem_of_mem_take hb), fun hn => ?_⟩
  rw [List.length_take] at hn
  obtain ⟨g, o, e, hg, hc⟩ := h.2 (by omega)
  refine ⟨g, o, e, hg, fun j x hx => hc j x ?_⟩
  rw [List.getElem?_take] at hx
  split at hx
  · exact hx
  · cases hx
theorem Rd.of_own {base t : Nat} {n c : Nat} (h : w.ownsRow base t 1 (.slice A n c) n (vb l)) (hl : ∀ b ∈ l, b < 256) : Rd w w.heap.size A l := by
  refine ⟨hl, fun hn => ?_⟩
  have hlen := h.1
  rw [vb_length] at hlen
  rcases h.2 with ⟨he, h0⟩ | ⟨g, cap, cur, hv, _, hg, _⟩
  · subst h0; omega
  · injection hv with hA _ _
    subst hA
    refine ⟨g, 0, rfl, (Array.getElem?_eq_some_iff.1 hg).1, fun j x hx => ?_⟩
    have hj : j < l.length := (List.getElem?_eq_some_iff.1 hx).1
    rw [Nat.zero_add, h.cellAt j (by omega), vb_get, hx]
    rfl
end

theorem own_form {w : World} {base t n : Nat} {v : Value} {xs : List Value} (h : w.ownsRow base t 1 v n xs) : ∃ A c, v = .slice A n c ∧ n ≤ c ∧ c ≤ 9223372036854775807 := by
  rcases h.2 with ⟨rfl, rfl⟩ | ⟨g, cap, cur, rfl, _, _, h1, h2, _⟩
  · exact ⟨none, 0, rfl, Nat.le_refl _, by omega⟩
  · unfold maxLen at h2
    exact ⟨_, cap, rfl, h1, h2⟩

theorem take_step {l l' : List Nat} {k x : Nat} (h : l.take k = l'.take k) (hx : l[k]? = some x) (hy : l'[k]? = some x) : l.take (k + 1) = l'.take (k + 1) := by
  rw [List.take_add_one, List.take_add_one, h, hx, hy]
theorem ne_of_get {l l' : List Nat} {k x y : Nat} (hx : l[k]? = some x) (hy : l'[k]? = some y) (h : x ≠ y) : decide (l = l') = false := by
  simp only [decide_eq_false_iff_not]
  rintro rfl
  rw [hx] at hy
  injection hy with hy
  exact h hy
theorem drewN_add (w : World) (a b : Nat) : (w.drewN a).drewN b = w.drewN (a + b) := by
  unfold World.drewN
  simp [Nat.add_assoc]
end Go.Proofs.YtejejadbemkifaaDoor

namespace Go.Proofs.YtejejadbemkifaaDoor
set_option maxRecDepth 100000
open Go Go.RowKit

theorem below_drewN {B : Nat} {a w : World} (h : Below B a w) (k : Nat) : Below B a (w.drewN k) := ⟨h.os, h.tape, h.output, h.size, h.block⟩

/-- A slice value that reads as the bytes l, whatever its capacity. -/
structure Bs (w : World) (B : Nat) (A : Option Addr) (n c : Nat) (l : List Nat) : Prop where
  len : l.length = n
  cap : n ≤ c
  most : c ≤ 9223372036854775807
  rd : Rd w B A l
  nil_ : A = none → c = 0
theorem Bs.below {w w' : World} {B : Nat} {A : Option Addr} {n c : Nat} {l : List Nat} (h : Bs w B A n c l) (hb : Below B w w') : Bs w' B A n c l := ⟨h.len, h.cap, h.most, h.rd.below hb, h.nil_⟩
theorem Bs.more {w : World} {B B' : Nat} {A : Option Addr} {n c : Nat} {l : List Nat} (h : Bs w B A n c l) (hB : B ≤ B') : Bs w B' A n c l := ⟨h.len, h.cap, h.most, h.rd.more hB, h.nil_⟩
theorem Bs.drewN {w : World} {B : Nat} {A : Option Addr} {n c : Nat} {l : List Nat} (h : Bs w B A n c l) (k : Nat) : Bs (w.drewN k) B A n c l := ⟨h.len, h.cap, h.most, h.rd.drewN k, h.nil_⟩
theorem Bs.of_own {w : World} {A : Option Addr} {base t n c : Nat} {l : List Nat} (h : w.ownsRow base t 1 (.slice A n c) n (vb l)) (hl : ∀ b ∈ l, b < 256) : Bs w w.heap.size A n c l := by
  have hlen := h.1
  rw [vb_length] at hlen
  refine ⟨by omega, ?_, ?_, Rd.of_own h hl, ?_⟩
  · obtain ⟨A', c', e, h1, _⟩ := own_form h
    injection e with _ _ e3
    omega
  · obtain ⟨A', c', e, _, h2⟩ := own_form h
    injection e with _ _ e3
    omega
  · intro hA
    subst hA
    rcases h.2 with ⟨e, _⟩ | ⟨g, cap, cur, e, _⟩
    · injection e
    · injection e with e1
      cases e1

/-- Nothing that was there has been written. -/
def Ext (w w' : World) : Prop := Below w.heap.size w w'
theorem Ext.refl (w : World) : Ext w w := Below.refl _ _
theorem Ext.trans {a b c : World} (h : Ext a b) (k : Ext b c) : Ext a c := Below.trans h (Below.mono k (Below.size h))
theorem Ext.alloc {a b : World} (h : Ext a b) (o : Obj) : Ext a (b.alloc o) := Below.alloc h (Below.size h) o
theorem Ext.drew {a b : World} (h : Ext a b) : Ext a b.drew := Below.drew h
theorem Ext.drewN {a b : World} (h : Ext a b) (k : Nat) : Ext a (b.drewN k) := below_drewN h k
theorem Ext.grown {a b c : World} (h : Ext a b) (hg : b.grownBy c none) : Ext a c := Below.grown h hg (Below.size h) (by simp)
theorem Ext.size {a b : World} (h : Ext a b) : a.heap.size ≤ b.heap.size := Below.size h
/-- A slice of bytes, wherever it lies. -/
def By (w : World) (A : Option Addr) (n c : Nat) (l : List Nat) : Prop := Bs w w.heap.size A n c l
theorem By.ext {a b : World} {A : Option Addr} {n c : Nat} {l : List Nat} (h : By a A n c l) (k : Ext a b) : By b A n c l := (Bs.below h k).more (Ext.size k)
theorem By.nil_ (w : World) : By w none 0 0 [] := ⟨rfl, Nat.le_refl _, by omega, Rd.nil_, fun _ => rfl⟩
theorem By.drop_last {w : World} {A : Option Addr} {n c : Nat} {l : List Nat} (h : By w A n c l) (k : Nat) (hk : k ≤ n) : By w A k c (l.take k) :=
  ⟨by rw [List.length_take, h.len]; omega, Nat.le_trans hk h.cap, h.most, h.rd.take k, Bs.nil_ h⟩
theorem By.of_row {w : World} {g n c : Nat} {l : List Nat} {cs : Array Value} {t : TypeId} {fr : Nat × Nat} (hh : w.heap[g]? = some (.cells cs t fr)) (hl : ∀ (j x : Nat), l[j]? = some x → cs[j]? = some (Value.int .u8 ((x : Nat) : Int))) (hb : ∀ b ∈ l, b < 256)
    (hn : l.length = n) (hc : n ≤ c) (hm : c ≤ 9223372036854775807) : By w (some ⟨g, 0, none⟩) n c l := by
  refine ⟨hn, hc, hm, ⟨hb, fun _ => ⟨g, 0, rfl, (Array.getElem?_eq_some_iff.1 hh).1, fun j x hx => ?_⟩⟩, fun h => by cases h⟩
  rw [Nat.zero_add, cell_of_row w g j cs t fr hh]
  exact hl j x hx
theorem vb_at {l : List Nat} {j x : Nat} (h : l[j]? = some x) : (vb l).toArray[j]? = some (Value.int .u8 ((x : Nat) : Int)) := by
  rw [List.getElem?_toArray, vb_get, h]
  rfl
/-- A literal of bytes that the call has just made. -/
theorem By.lit (w : World) (l : List Nat) (t : TypeId) (hb : ∀ b ∈ l, b < 256) (hm : l.length ≤ 9223372036854775807) (cs : Array Value) (hcs : cs = (vb l).toArray) : By (w.alloc (.cells cs t)) (some ⟨w.heap.size, 0, none⟩) l.length l.length l := by
  subst hcs
  exact By.of_row (heap_alloc_new w _) (fun j x hx => vb_at hx) hb rfl (Nat.le_refl _) hm
end Go.Proofs.YtejejadbemkifaaDoor

namespace Go.Proofs.YtejejadbemkifaaDoor
set_option maxRecDepth 100000
open Go Go.RowKit

theorem byte_info : (Tryd.prog.info? 5).map (fun i => (i.zero, i.size, i.bytes)) = some (some (.int .u8 0), 1, 1) := by kernel_rfl

set_option maxHeartbeats 400000 in
theorem copy_any (A : Option Addr) (l : List Nat) (n c B : Nat) (w : World) (hl : l.length = n) (hr : Rd w B A l) (hnil : A = none → c = 0) (hm : n ≤ 140737488355328) :
    Calls Tryd.prog 5 #[.slice A n c] w fun e w' => ∃ A' c', e = .returned (.slice A' n c') ∧ n ≤ c' ∧ c' ≤ 9223372036854775807 ∧ w'.ownsRow w.heap.size 5 1 (.slice A' n c') n (vb l) ∧ Below w.heap.size w w' := by
  obtain ⟨i0, hi, hz0, hz1, hz2⟩ := info_parts byte_info
  have HL := Lib.hid hl
  clear hl
  have fin : ∀ (v' : Value) (w1 : World), w1.ownsRow w.heap.size 5 1 v' n (vb l) → w.grownBy w1 none → ∃ A' c', Ending.returned v' = .returned (.slice A' n c') ∧ n ≤ c' ∧ c' ≤ 9223372036854775807 ∧ w1.ownsRow w.heap.size 5 1 (.slice A' n c') n (vb l) ∧ Below w.heap.size w w1 := by
    intro v' w1 hown hg
    obtain ⟨A', c', rfl, h1, h2⟩ := own_form hown
    exact ⟨A', c', rfl, h1, h2, hown, (Below.refl _ _).grown hg (Nat.le_refl _) (by simp)⟩
  have HFIN := Lib.hid fin
  clear fin
  rcases A with _ | ad
  · have hn0 : n = 0 := by
      rcases Nat.eq_zero_or_pos n with h | h
      · exact h
      · obtain ⟨g, o, hA, _⟩ := hr.2 (by rw [HL.out]; exact h)
        cases hA
    subst hn0
    obtain rfl := hnil rfl
    clear hnil
    have hl0 : l = [] := List.eq_nil_of_length_eq_zero HL.out
    subst hl0
    go_enter Tryd.func5, Tryd.ntmps5
    go_wp2_with (at_builtin; refine wpList_append_own_none rfl _ _ 24 rfl w.heap.size 5 i0 1 Tryd.underlying24 hi _ 0 [] rfl (World.ownsRow_nil _ _ _ _) rfl ?_)
    go_ret
    exact HFIN.out _ _ (World.ownsRow_nil _ _ _ _) (World.grownBy.refl _ _)
  · clear hnil
    go_enter Tryd.func5, Tryd.ntmps5
    go_wp2_with (at_builtin; refine wpList_append_own _ rfl _ _ 24 rfl w.heap.size 5 i0 (.int .u8 0) 1 1 Tryd.underlying24 hi hz0 hz1 hz2 rfl (by decide) _ 0 [] rfl (World.ownsRow_nil _ _ _ _) ad n c (vb l) rfl ?c1 ?c2 ?c3 ?c4 ?c5 ?c6 ?_)
    case c1 => rw [vb_length, HL.out]; omega
    case c2 =>
      intro j u hj
      rw [vb_get] at hj
      obtain ⟨x, hx, rfl⟩ := Option.map_eq_some_iff.1 hj
      have hjl : j < l.length := (List.getElem?_eq_some_iff.1 hx).1
      obtain ⟨g, o, y, hA, _, hy, _, hc⟩ := hr.at_ hjl
      injection hA with hA
      subst hA
      rw [hx] at hy
      injection hy with hy
      subst hy
      rw [Addr.add_lit, hc]
    case c3 => exact vb_one l
    case c4 => unfold maxLen; omega
    case c5 => omega
    case c6 => exact Nat.le_refl _
    intro v' w1 hown hg _
    have HO := Lib.hid hown
    have HG := Lib.hid hg
    clear hown hg
    go_wp2_with fail
    go_ret
    exact HFIN.out _ _ HO.out HG.out
end Go.Proofs.YtejejadbemkifaaDoor

namespace Go.Proofs.YtejejadbemkifaaDoor
set_option maxRecDepth 100000
open Go Go.RowKit

theorem size_zeroCells_one (n : Nat) (z : Value) : (Builtin.zeroCells #[z] n).size = n := by
  simp [Builtin.zeroCells]

set_option maxHeartbeats 800000 in
/-- slices.Grow of the nil slice of bytes. -/
theorem grow_nil (n : Nat) (w : World) (hn : n ≤ 140737488355328) :
    Calls Tryd.prog 32 #[.slice none 0 0, .int .i64 n] w fun e w' => ∃ v, e = .returned v ∧ w'.ownsRow w.heap.size 5 1 v 0 [] ∧ Below w.heap.size w w' := by
  obtain ⟨i0, hi, hz0, hz1, hz2⟩ := info_parts byte_info
  by_cases h0 : n = 0
  · subst h0
    go_enter Tryd.func32, Tryd.ntmps32
    go_wp2_with fail
    go_ret
    exact ⟨_, rfl, World.ownsRow_nil _ _ _ _, Below.refl _ _⟩
  · have hrun := fun ty => Lib.run_append_nil_zeros (P := Tryd.prog) w 24 3 ty 5 i0 (.int .u8 0) .i64 .i64 Tryd.underlying24 Tryd.underlying3 hi hz0 n (by omega) (by omega) (by omega) (by rw [hz2]; omega)
    have HR := Lib.hid hrun
    clear hrun
    have hcap := grownCap_le_maxLen w n 0 5 (by unfold maxLen; omega)
    have hge := grownCap_ge w n 0 5
    have hcs : (Builtin.zeroCells (Value.int .u8 0).cells n ++ Builtin.zeroCells (Value.int .u8 0).cells (grownCap w n 0 5 - n)).size = grownCap w n 0 5 * 1 := by
      have e : (Value.int IntKind.u8 0).cells = #[Value.int .u8 0] := rfl
      rw [e, Array.size_append, size_zeroCells_one, size_zeroCells_one]
      omega
    have HC := Lib.hid hcs
    clear hcs
    have hmx := hcap
    unfold maxLen at hmx
    generalize hgc : grownCap w n 0 5 = gc at *
    generalize hcells : (Builtin.zeroCells (Value.int .u8 0).cells n ++ Builtin.zeroCells (Value.int .u8 0).cells (gc - n)) = cells at *
    have HM := Lib.hid hcap
    clear hgc hcells hcap
    go_enter Tryd.func32, Tryd.ntmps32
    go_wp2_with (at_builtin; refine Lib.wpList_append_run _ rfl _ _ _ _ rfl _ _ rfl rfl _ _ (HR.out _) ?_)
    go_ret
    exact ⟨_, rfl, (World.ownsRow_made w cells gc (Nat.le_refl _) HM.out HC.out), ((Below.refl _ _).alloc (Nat.le_refl _) _).drew⟩

/-- The lists one behind the other. -/
def cat (ps : List (Value × List Nat)) : List Nat := ps.flatMap (·.2)
theorem cat_step {ps : List (Value × List Nat)} {k : Nat} {p : Value × List Nat} (h : ps[k]? = some p) : cat (ps.take (k + 1)) = cat (ps.take k) ++ p.2 := by
  unfold cat
  rw [List.take_add_one, h, Option.toList_some, List.flatMap_append]
  simp
theorem cat_take_le (ps : List (Value × List Nat)) (k : Nat) : (cat (ps.take k)).length ≤ (cat ps).length := by
  have e : cat ps = cat (ps.take k) ++ cat (ps.drop k) := by
    unfold cat
    rw [← List.flatMap_append, List.take_append_drop]
  rw [e, List.length_append]
  omega
/-- A row of slices of bytes, as Join takes it. -/
structure Parts (w : World) (B : Nat) (G : Option Addr) (m : Nat) (ps : List (Value × List Nat)) : Prop where
  len : ps.length = m
  at_ : 0 < m → ∃ g o, G = some ⟨g, o, none⟩ ∧ g < B ∧ ∀ j p, ps[j]? = some p → w.cell? ⟨g, o + j, none⟩ = some p.1
  each : ∀ p ∈ ps, ∃ A n c, p.1 = .slice A n c ∧ Bs w B A n c p.2
theorem Parts.below {w w' : World} {B : Nat} {G : Option Addr} {m : Nat} {ps : List (Value × List Nat)} (h : Parts w B G m ps) (hb : Below B w w') : Parts w' B G m ps := by
  refine ⟨h.len, fun hm => ?_, fun p hp => ?_⟩
  · obtain ⟨g, o, e, hg, hc⟩ := h.at_ hm
    exact ⟨g, o, e, hg, fun j p hp => (hb.cell (p := ⟨g, o + j, none⟩) hg).trans (hc j p hp)⟩
  · obtain ⟨A, n, c, e, hbs⟩ := h.each p hp
    exact ⟨A, n, c, e, hbs.below hb⟩
theorem Parts.get {w : World} {B : Nat} {G : Option Addr} {m : Nat} {ps : List (Value × List Nat)} (h : Parts w B G m ps) {k : Nat} (hk : k < m) :
    ∃ g o A n c l, G = some ⟨g, o, none⟩ ∧ g < B ∧ ps[k]? = some (.slice A n c, l) ∧ w.cell? ⟨g, o + k, none⟩ = some (.slice A n c) ∧ Bs w B A n c l := by
  obtain ⟨g, o, e, hg, hc⟩ := h.at_ (by omega)
  have hk' : k < ps.length := by rw [h.len]; exact hk
  obtain ⟨A, n, c, e1, hbs⟩ := h.each ps[k] (List.getElem_mem hk')
  have hp : ps[k]? = some (.slice A n c, ps[k].2) := by rw [List.getElem?_eq_getElem hk', ← e1]
  exact ⟨g, o, A, n, c, ps[k].2, e, hg, hp, hc k _ hp, hbs⟩
theorem cat_len_step {ps : List (Value × List Nat)} {k n : Nat} {v : Value} {l : List Nat} (h : ps[k]? = some (v, l)) (hl : l.length = n) : (cat (ps.take (k + 1))).length = (cat (ps.take k)).length + n := by
  rw [cat_step h, List.length_append, hl]

theorem concat_step {w wr w1 : World} {ps : List (Value × List Nat)} {k n : Nat} {v v1 u : Value} {l : List Nat} (hp : ps[k]? = some (u, l)) (hl : l.length = n)
    (hown : wr.ownsRow w.heap.size 5 1 v (cat (ps.take k)).length (vb (cat (ps.take k)))) (hbel : Below w.heap.size w wr)
    (hown1 : w1.ownsRow w.heap.size 5 1 v1 ((cat (ps.take k)).length + n) (vb (cat (ps.take k)) ++ vb l)) (hg : wr.grownBy w1 v.ownBlock) :
    w1.ownsRow w.heap.size 5 1 v1 (cat (ps.take (k + 1))).length (vb (cat (ps.take (k + 1)))) ∧ Below w.heap.size w w1 := by
  refine ⟨?_, ?_⟩
  · rw [cat_len_step hp hl, cat_step hp, vb_append]
    exact hown1
  · refine hbel.grown hg hbel.size ?_
    intro g hg'
    exact (hown.lt g hg').1

set_option maxHeartbeats 2000000 in
theorem concat_any (G : Option Addr) (m c : Nat) (ps : List (Value × List Nat)) (w : World) (hp : Parts w w.heap.size G m ps) (hm : m ≤ 9000000000000000000) (ht : (cat ps).length ≤ 140737488355328) :
    Calls Tryd.prog 24 #[.slice G m c] w fun e w' => ∃ A' c', e = .returned (.slice A' (cat ps).length c') ∧ w'.ownsRow w.heap.size 5 1 (.slice A' (cat ps).length c') (cat ps).length (vb (cat ps)) ∧ Below w.heap.size w w' := by
  obtain ⟨i0, hi, hz0, hz1, hz2⟩ := info_parts byte_info
  have HP := Lib.hid hp
  clear hp
  go_enter Tryd.func24, Tryd.ntmps24
  go_wp2_with fail
  go_loop [3, 11] (fun s i => ∃ k : Nat, k ≤ m ∧ i = .int .i64 k ∧ s = .int .i64 (((cat (ps.take k)).length : Nat) : Int)) (fun _ i => m - (intOf i).toNat)
  case atStart => exact ⟨0, Nat.zero_le _, rfl, rfl⟩
  case round =>
    obtain ⟨k, hk, rfl, rfl⟩ := hrel
    by_cases hlt : k < m
    · obtain ⟨g, o, A, n, c1, l, hG, _, hpk, hcell, hbs⟩ := HP.out.get hlt
      subst hG
      have HS := Lib.hid (cat_len_step hpk hbs.len)
      have hle : (cat (ps.take (k + 1))).length ≤ (cat ps).length := cat_take_le ps (k + 1)
      rw [HS.out] at hle
      clear hpk hbs
      generalize hsn : (cat (ps.take k)).length = sn at *
      clear hsn
      go_wp2_with fail
      go_round
      case rel => exact ⟨k + 1, by omega, by go_num, by rw [HS.out]; go_num⟩
      case measure => simp [intOf]; omega
    · have HK : Hid (k = m) := Lib.hid (by omega)
      have e0 : cat (ps.take k) = cat ps := by rw [HK.out, List.take_of_length_le (by rw [HP.out.len]; exact Nat.le_refl _)]
      rw [e0]
      clear e0
      go_wp2_with fail
      refine (grow_nil (cat ps).length _ ht).mono ?_
      rintro e w1 ⟨v1, rfl, hown1, hbel1⟩
      have HO1 := Lib.hid hown1
      have HB1 := Lib.hid hbel1
      clear hown1 hbel1 HK
      go_wp2_with fail
      go_loopw [6, 27] (fun v i wr => ∃ k : Nat, k ≤ m ∧ i = .int .i64 k ∧ Hid (wr.ownsRow w.heap.size 5 1 v (cat (ps.take k)).length (vb (cat (ps.take k)))) ∧ Hid (Below w.heap.size w wr)) (fun _ i _ => m - (intOf i).toNat)
      case atStart => exact ⟨0, Nat.zero_le _, rfl, HO1, HB1⟩
      case round =>
        obtain ⟨k, hk, rfl, HO, HB⟩ := hrel
        by_cases hlt : k < m
        · obtain ⟨g, o, A, n, c1, l, hG, _, hpk, hcell, hbs⟩ := (HP.out.below HB.out).get hlt
          subst hG
          have HBS := Lib.hid hbs
          have HPK := Lib.hid hpk
          have hle : (cat (ps.take (k + 1))).length ≤ (cat ps).length := cat_take_le ps (k + 1)
          rw [cat_len_step hpk hbs.len] at hle
          have hsz := HB.out.size
          clear hpk hbs
          rcases A with _ | ad
          · have hc0 : c1 = 0 := HBS.out.nil_ rfl
            subst hc0
            have hn0 : n = 0 := by have := HBS.out.cap; omega
            subst hn0
            have hl0 : l = [] := List.eq_nil_of_length_eq_zero HBS.out.len
            subst hl0
            go_wp2_with (at_builtin; refine wpList_append_own_none rfl _ _ 24 rfl w.heap.size 5 i0 1 Tryd.underlying24 hi _ _ _ rfl HO.out rfl ?_)
            go_roundw
            case rel => exact ⟨k + 1, by omega, by go_num, Lib.hid (by have h := HO.out; rw [cat_step HPK.out]; simpa using h), HB⟩
            case measure => simp [intOf]; omega
          · go_wp2_with (at_builtin; refine wpList_append_own _ rfl _ _ 24 rfl w.heap.size 5 i0 (.int .u8 0) 1 1 Tryd.underlying24 hi hz0 hz1 hz2 rfl (by decide) _ _ _ rfl HO.out ad n c1 (vb l) rfl ?c1 ?c2 ?c3 ?c4 ?c5 ?c6 ?_)
            case c1 => rw [vb_length, HBS.out.len]; omega
            case c2 =>
              intro j u hj
              rw [vb_get] at hj
              obtain ⟨x, hx, rfl⟩ := Option.map_eq_some_iff.1 hj
              have hjl : j < l.length := (List.getElem?_eq_some_iff.1 hx).1
              obtain ⟨g', o', y, hA, _, hy, _, hc⟩ := HBS.out.rd.at_ hjl
              injection hA with hA
              subst hA
              rw [hx] at hy
              injection hy with hy
              subst hy
              rw [Addr.add_lit, hc]
            case c3 => exact vb_one l
            case c4 => unfold maxLen; omega
            case c5 => omega
            case c6 => exact hsz
            intro v2 w2 hown hg _
            have R := concat_step HPK.out HBS.out.len HO.out HB.out hown hg
            have HO2 := Lib.hid R.1
            have HB2 := Lib.hid R.2
            clear hown hg R
            go_wp2_with fail
            go_roundw
            case rel => exact ⟨k + 1, by omega, by go_num, HO2, HB2⟩
            case measure => simp [intOf]; omega
        · have HK : Hid (k = m) := Lib.hid (by omega)
          have e0 : cat (ps.take k) = cat ps := by rw [HK.out, List.take_of_length_le (by rw [HP.out.len]; exact Nat.le_refl _)]
          have h1 := HO.out
          rw [e0] at h1
          obtain ⟨A', c', hv, _, _⟩ := own_form h1
          subst hv
          have HO3 := Lib.hid h1
          clear h1 e0
          go_wp2_with fail
          go_ret
          exact ⟨A', c', rfl, HO3.out, HB.out⟩

theorem join_any (G : Option Addr) (m c : Nat) (ps : List (Value × List Nat)) (w : World) (hp : Parts w w.heap.size G m ps) (hm : m ≤ 9000000000000000000) (ht : (cat ps).length ≤ 140737488355328) :
    Calls Tryd.prog 14 #[.slice G m c] w fun e w' => ∃ A' c', e = .returned (.slice A' (cat ps).length c') ∧ w'.ownsRow w.heap.size 5 1 (.slice A' (cat ps).length c') (cat ps).length (vb (cat ps)) ∧ Below w.heap.size w w' := by
  have HP := Lib.hid hp
  clear hp
  go_enter Tryd.func14, Tryd.ntmps14
  go_wp2_with fail
  refine (concat_any _ _ _ ps _ HP.out hm ht).mono ?_
  rintro e w1 ⟨A', c', rfl, hown, hbel⟩
  have HO := Lib.hid hown
  have HB := Lib.hid hbel
  clear hown hbel
  go_wp2_with fail
  go_ret
  exact ⟨A', c', rfl, HO.out, HB.out⟩
end Go.Proofs.YtejejadbemkifaaDoor

namespace Go.Proofs.YtejejadbemkifaaDoor
set_option maxRecDepth 100000
open Go Go.RowKit

/-- A text's bytes as numbers. -/
def bl (s : ByteArray) : List Nat := s.data.toList.map UInt8.toNat
theorem bl_length (s : ByteArray) : (bl s).length = s.size := by
  unfold bl
  rw [List.length_map]
  rfl
theorem bl_lt (s : ByteArray) : ∀ b ∈ bl s, b < 256 := by
  intro b hb
  simp only [bl, List.mem_map] at hb
  obtain ⟨u, _, rfl⟩ := hb
  exact u.toNat_lt

theorem bl_get (s : ByteArray) (j x : Nat) (h : (bl s)[j]? = some x) (cap : Nat) : (bytesRow s cap)[j]? = some (.int .u8 ((x : Nat) : Int)) := by
  unfold bl at h
  rw [List.getElem?_map] at h
  obtain ⟨u, hu, rfl⟩ := Option.map_eq_some_iff.1 h
  have hu' : s.data[j]? = some u := by rw [← Array.getElem?_toList]; exact hu
  have hj : j < s.data.size := (Array.getElem?_eq_some_iff.1 hu').1
  unfold bytesRow
  rw [Array.getElem?_append_left (by rw [Array.size_map]; exact hj), Array.getElem?_map, hu']
  rfl

theorem own_base {w : World} {b b' e : Nat} {v : Value} {n : Nat} {xs : List Value} (h : w.ownsRow b e 1 v n xs) (hb : b' ≤ b) : w.ownsRow b' e 1 v n xs := by
  refine ⟨h.1, ?_⟩
  rcases h.2 with h2 | ⟨g, cap, cur, h2, h3, h4⟩
  · exact .inl h2
  · exact .inr ⟨g, cap, cur, h2, Nat.le_trans hb h3, h4⟩

/-- The world in which Text calls Join. -/
def textW (s : ByteArray) (w : World) (cap : Nat) (fr : Nat × Nat) : World :=
  (((w.alloc (.cells #[.int .u8 (s.size : Int)] 5)).alloc (.cells (bytesRow s cap) 5 fr)).alloc
    (.cells #[.slice (some ⟨w.heap.size, 0, none⟩) 1 1, .slice (some ⟨w.heap.size + 1, 0, none⟩) s.size cap] 24)).drew
def textPs (s : ByteArray) (w : World) (cap : Nat) : List (Value × List Nat) :=
  [(.slice (some ⟨w.heap.size, 0, none⟩) 1 1, [s.size]), (.slice (some ⟨w.heap.size + 1, 0, none⟩) s.size cap, bl s)]
theorem textW_below (s : ByteArray) (w : World) (cap : Nat) (fr : Nat × Nat) : Below w.heap.size w (textW s w cap fr) :=
  ((((Below.refl _ _).alloc (Nat.le_refl _) _).alloc (by simp) _).alloc (by simp; omega) _).drew
theorem textW_size (s : ByteArray) (w : World) (cap : Nat) (fr : Nat × Nat) : (textW s w cap fr).heap.size = w.heap.size + 3 := by
  simp [textW]
theorem text_parts (s : ByteArray) (w : World) (cap : Nat) (fr : Nat × Nat) (hs : s.size ≤ 255) (h1 : s.size ≤ cap) (h2 : cap ≤ maxLen) :
    Parts (textW s w cap fr) (textW s w cap fr).heap.size (some ⟨w.heap.size + 1 + 1, 0, none⟩) 2 (textPs s w cap) := by
  unfold maxLen at h2
  rw [textW_size]
  refine ⟨rfl, fun _ => ⟨_, 0, rfl, by omega, fun j p hp => ?_⟩, fun p hp => ?_⟩
  · match j, hp with
    | 0, hp => simp [textPs] at hp; subst hp; simp [textW, go_sem]
    | 1, hp => simp [textPs] at hp; subst hp; simp [textW, go_sem]
    | j + 2, hp => simp [textPs] at hp
  · simp only [textPs, List.mem_cons, List.not_mem_nil, or_false] at hp
    rcases hp with rfl | rfl
    · refine ⟨_, _, _, rfl, rfl, Nat.le_refl _, by omega, ⟨by intro b hb; simp at hb; omega, fun _ => ⟨_, 0, rfl, by omega, fun j x hx => ?_⟩⟩, fun h => by cases h⟩
      match j, hx with
      | 0, hx => simp at hx; subst hx; simp [textW, go_sem]
      | j + 1, hx => simp at hx
    · refine ⟨_, _, _, rfl, bl_length s, h1, h2, ⟨bl_lt s, fun _ => ⟨_, 0, rfl, by omega, fun j x hx => ?_⟩⟩, fun h => by cases h⟩
      have hb := bl_get s j x hx cap
      have hh : ((w.alloc (.cells #[.int .u8 (s.size : Int)] 5)).alloc (.cells (bytesRow s cap) 5 fr)).heap[w.heap.size + 1]? = some (.cells (bytesRow s cap) 5 fr) := by
        have := heap_alloc_new (w.alloc (.cells #[.int .u8 (s.size : Int)] 5)) (.cells (bytesRow s cap) 5 fr)
        simpa using this
      have hc := cell_of_row _ _ j _ _ _ hh
      rw [hb] at hc
      simp [textW, go_sem, hc]
theorem textPs_cat (s : ByteArray) (w : World) (cap : Nat) : cat (textPs s w cap) = s.size :: bl s := by simp [cat, textPs]

set_option maxHeartbeats 800000 in
theorem otext_yes (s : ByteArray) (w : World) (hs : s.size ≤ 255) :
    Calls Tryd.prog 51 #[.string s] w fun e w' => ∃ A' c', e = .returned (.tuple #[.slice A' (s.size + 1) c', .int .i64 0]) ∧ w'.ownsRow w.heap.size 5 1 (.slice A' (s.size + 1) c') (s.size + 1) (vb (s.size :: bl s)) ∧ Below w.heap.size w w' := by
  have hconv := fun (W : World) => run_bytes_of_string (P := Tryd.prog) W 9 24 5 s Tryd.underlying9 Tryd.underlying24 Tryd.underlying5
  go_enter Tryd.func51, Tryd.ntmps51
  go_wp2_with fail
  refine (join_any _ 2 2 (textPs s w _) (textW s w _ _) (by exact text_parts s w _ _ hs (grownCap_ge _ _ _ _) (grownCap_le_maxLen _ _ _ _ (by unfold maxLen; omega))) (by omega) (by rw [textPs_cat, List.length_cons, bl_length]; omega)).mono ?_
  rw [textPs_cat, List.length_cons, bl_length]
  rintro e w1 ⟨A', c', rfl, hown, hbel⟩
  rw [textW_size] at hown hbel
  have HO := Lib.hid hown
  have HB := Lib.hid hbel
  clear hown hbel hconv
  go_wp2_with fail
  go_ret2
  exact ⟨A', c', rfl, own_base HO.out (by omega), (textW_below s w _ _).trans (HB.out.mono (by omega))⟩

theorem otext_no (s : ByteArray) (w : World) (hs : 255 < s.size) (hm : s.size ≤ 9223372036854775807) :
    Calls Tryd.prog 51 #[.string s] w fun e w' => e = .returned (.tuple #[.slice none 0 0, .int .i64 3]) ∧ w = w' := by
  go_enter Tryd.func51, Tryd.ntmps51
  go_wp2_with fail
  go_ret2
  exact ⟨rfl, rfl⟩
end Go.Proofs.YtejejadbemkifaaDoor
