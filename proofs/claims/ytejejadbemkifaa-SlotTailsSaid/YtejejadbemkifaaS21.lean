/-
  What SlotTails keeps ahead of its loop; what a round has to say.
  A slice of bytes that came in, opened by the guide's own law, read as a list of numbers.
  A region that draws its order and holds one call (or store) that all loads come ahead of: what is known of the world holds till that operation has come up, and no longer.
  The contracts of the statements' own is and good.
-/
import Derived.Test.YtejejadbemkifaaS01
import Derived.Test.YtejejadbemkifaaS15
import Derived.Test.YtejejadbemkifaaS16
import Derived.Test.YtejejadbemkifaaS20
import Derived.ProofKit
import Derived.OpenShut
import Derived.Deep.RegionHeld
import Derived.StillTail
namespace Go.Proofs.Ytejejadbemkifaa
set_option maxRecDepth 100000
open Go Go.RowKit

/-- A byte of a list that came in. -/
theorem byte_at {w : World} {B : Nat} {A : Option Addr} {n c : Nat} {l : List Nat} (h : Bs w B A n c l) {i : Nat} (hi : i < n) : ∃ (g o x : Nat), A = some ⟨g, o, none⟩ ∧ g < B ∧ x < 256 ∧ w.cell? ⟨g, o + i, none⟩ = some (.int .u8 (x : Int)) := by
  obtain ⟨g, o, e, hg, hc⟩ := h.rd.2 (by rw [h.len]; omega)
  have hl : i < l.length := by rw [h.len]; exact hi
  exact ⟨g, o, l[i], e, hg, h.rd.1 _ (List.getElem_mem hl), hc i _ (List.getElem?_eq_getElem hl)⟩
theorem cell_ext {w w' : World} {g i : Nat} {v : Value} (h : Ext w w') (hg : g < w.heap.size) (hc : w.cell? ⟨g, i, none⟩ = some v) : w'.cell? ⟨g, i, none⟩ = some v := (Below.cell h (p := ⟨g, i, none⟩) hg).trans hc
/-- What stands there ahead of the first put. -/
structure TlP (w W : World) (g g1 : Nat) (p : Rec) (f0 f1 : Cop) : Prop where
  rec_ : RecAt W g p
  two : Two W g1 f0 f1
  ext : Ext w W
  ne : g < g1 ∧ w.heap.size ≤ g
theorem TlP.mono {w W W' : World} {g g1 : Nat} {p : Rec} {f0 f1 : Cop} (h : TlP w W g g1 p f0 f1) (k : Ext W W') : TlP w W' g g1 p f0 f1 := ⟨h.rec_.ext k, h.two.ext k, h.ext.trans k, h.ne⟩
theorem TlP.new {w w1 : World} (hx : Ext w w1) : TlP w ((w1.alloc (.cells #[.int .u8 0, .int .i64 0, .int .i64 0, .int .i64 0, .int .i64 0] 27)).alloc (.cells #[.int .u8 0, .int .i64 0, .int .i64 0, .int .i64 0, .int .u8 0, .int .i64 0, .int .i64 0, .int .u8 0, .string ⟨#[]⟩, .string ⟨#[]⟩, .string ⟨#[]⟩, .int .u8 0, .int .i64 0, .int .i64 0, .int .i64 0, .int .u8 0, .int .i64 0, .int .i64 0, .int .u8 0, .string ⟨#[]⟩, .string ⟨#[]⟩, .string ⟨#[]⟩] 34)) w1.heap.size (w1.heap.size + 1) {} {} {} := by
  have past : ∀ (V : World) (o ob : Obj) (k : Nat), V.heap[k]? = some ob → (V.alloc o).heap[k]? = some ob := fun V o ob k h => keep_row ((Ext.refl V).alloc o) h
  have row : ∀ (V : World) (cs : Array Value) (t : TypeId) (k : Nat), k = V.heap.size → (V.alloc (.cells cs t)).heap[k]? = some (.cells cs t (0, 0)) := fun V cs t k hk => by subst hk; exact heap_alloc_new V _
  exact ⟨past _ _ _ _ (row _ _ _ _ rfl), row _ _ _ _ (by simp), (hx.alloc _).alloc _, by omega, hx.size⟩
theorem TlP.put5 {w W : World} {g g1 : Nat} {p : Rec} {f0 f1 : Cop} (h : TlP w W g g1 p f0 f1) (p' : Rec) : TlP w (((((W.setCell ⟨g, 0, none⟩ (.int .u8 (p'.st : Int))).setCell ⟨g, 1, none⟩ (.int .i64 p'.ix)).setCell ⟨g, 2, none⟩ (.int .i64 p'.bx)).setCell ⟨g, 3, none⟩ (.int .i64 p'.yb)).setCell ⟨g, 4, none⟩ (.int .i64 p'.wh)) g g1 p' f0 f1 :=
  ⟨row5 h.rec_ _ _ _ _ _, off5 h.two (by have := h.ne; omega) _ _ _ _ _, ext5 h.ext (by have := h.ne; omega) _ _ _ _ _, h.ne⟩
theorem TlP.put22 {w W : World} {g g1 : Nat} {p : Rec} {f0 f1 : Cop} (h : TlP w W g g1 p f0 f1) (f0' f1' : Cop) : TlP w ((((((((((((((((((((((W.setCell ⟨g1, 0, none⟩ (.int .u8 (f0'.st : Int))).setCell ⟨g1, 1, none⟩ (.int .i64 f0'.ix)).setCell ⟨g1, 2, none⟩ (.int .i64 f0'.bx)).setCell ⟨g1, 3, none⟩ (.int .i64 f0'.yb)).setCell ⟨g1, 4, none⟩ (.int .u8 (f0'.e.k : Int))).setCell ⟨g1, 5, none⟩ (.int .i64 f0'.e.cl)).setCell ⟨g1, 6, none⟩ (.int .i64 f0'.e.sq)).setCell ⟨g1, 7, none⟩ (.int .u8 (f0'.e.ok : Int))).setCell ⟨g1, 8, none⟩ (.string f0'.e.key)).setCell ⟨g1, 9, none⟩ (.string f0'.e.old)).setCell ⟨g1, 10, none⟩ (.string f0'.e.val)).setCell ⟨g1, 11, none⟩ (.int .u8 (f1'.st : Int))).setCell ⟨g1, 12, none⟩ (.int .i64 f1'.ix)).setCell ⟨g1, 13, none⟩ (.int .i64 f1'.bx)).setCell ⟨g1, 14, none⟩ (.int .i64 f1'.yb)).setCell ⟨g1, 15, none⟩ (.int .u8 (f1'.e.k : Int))).setCell ⟨g1, 16, none⟩ (.int .i64 f1'.e.cl)).setCell ⟨g1, 17, none⟩ (.int .i64 f1'.e.sq)).setCell ⟨g1, 18, none⟩ (.int .u8 (f1'.e.ok : Int))).setCell ⟨g1, 19, none⟩ (.string f1'.e.key)).setCell ⟨g1, 20, none⟩ (.string f1'.e.old)).setCell ⟨g1, 21, none⟩ (.string f1'.e.val)) g g1 p f0' f1' :=
  ⟨off22 h.rec_ (by have := h.ne; omega) _ _ _ _ _ _ _ _ _ _ _ _ _ _ _ _ _ _ _ _ _ _, row22 h.two _ _ _ _ _ _ _ _ _ _ _ _ _ _ _ _ _ _ _ _ _ _, ext22 h.ext (by have := h.ne; omega) _ _ _ _ _ _ _ _ _ _ _ _ _ _ _ _ _ _ _ _ _ _, h.ne⟩
theorem TlP.old5 {w W : World} {g g1 : Nat} {p : Rec} {f0 f1 : Cop} (h : TlP w W g g1 p f0 f1) (i : Int) : TlP w (((((W.setCell ⟨g, 0, none⟩ (.int .u8 1)).setCell ⟨g, 1, none⟩ (.int .i64 (i - 24))).setCell ⟨g, 2, none⟩ (.int .i64 1)).setCell ⟨g, 3, none⟩ (.int .i64 0)).setCell ⟨g, 4, none⟩ (.int .i64 1)) g g1 { st := 1, ix := i - 24, bx := 1, yb := 0, wh := 1 } f0 f1 :=
  ⟨row5 h.rec_ (.int .u8 1) (.int .i64 (i - 24)) (.int .i64 1) (.int .i64 0) (.int .i64 1), off5 h.two (by have := h.ne; omega) _ _ _ _ _, ext5 h.ext (by have := h.ne; omega) _ _ _ _ _, h.ne⟩
theorem TlP.old22 {w W : World} {g g1 : Nat} {p : Rec} {f0 f1 : Cop} (h : TlP w W g g1 p f0 f1) (i : Int) : TlP w (W.setCells g1 0 [.int .u8 1, .int .i64 (i - 24), .int .i64 1, .int .i64 0, .int .u8 1, .int .i64 0, .int .i64 0, .int .u8 0, .string ⟨#[]⟩, .string ⟨#[]⟩, .string ⟨#[]⟩, .int .u8 1, .int .i64 (i - 24), .int .i64 1, .int .i64 0, .int .u8 1, .int .i64 0, .int .i64 0, .int .u8 0, .string ⟨#[]⟩, .string ⟨#[]⟩, .string ⟨#[]⟩]) g g1 p { st := 1, ix := i - 24, bx := 1, yb := 0, e := { k := 1 } } { st := 1, ix := i - 24, bx := 1, yb := 0, e := { k := 1 } } := by
  refine ⟨off_setCells h.rec_ (by have := h.ne; omega) _ _, ?_, ext_setCells h.ext (by have := h.ne; omega) _ _, h.ne⟩
  have q := row_setCells h.two 0 [.int .u8 1, .int .i64 (i - 24), .int .i64 1, .int .i64 0, .int .u8 1, .int .i64 0, .int .i64 0, .int .u8 0, .string ⟨#[]⟩, .string ⟨#[]⟩, .string ⟨#[]⟩, .int .u8 1, .int .i64 (i - 24), .int .i64 1, .int .i64 0, .int .u8 1, .int .i64 0, .int .i64 0, .int .u8 0, .string ⟨#[]⟩, .string ⟨#[]⟩, .string ⟨#[]⟩]
  rw [arr22] at q
  exact q
theorem off_put2 {w : World} {g k : Nat} {ob : Obj} (h : w.heap[k]? = some ob) (hk : g < k) (x y : Value) : ((w.setCell ⟨g, 0, none⟩ x).setCell ⟨g, 1, none⟩ y).heap[k]? = some ob := off_setL (g := g) h (by omega) [x, y] 0
theorem TlP.ack {w W : World} {g g1 : Nat} {p : Rec} {f0 f1 : Cop} (h : TlP w W g g1 p f0 f1) (a y : Int) : TlW w (W.alloc (.cells #[.int .i64 a, .int .i64 y] 25)) g g1 W.heap.size p f0 f1 a y :=
  have k := (Ext.refl W).alloc (.cells #[.int .i64 a, .int .i64 y] 25)
  ⟨h.rec_.ext k, h.two.ext k, heap_alloc_new W _, h.ext.trans k, ⟨h.ne.1, (Array.getElem?_eq_some_iff.1 h.two).1⟩, h.ne.2⟩
theorem TInv.up {i r r' a : Int} {p : Rec} {f0 f1 : Cop} (h : TInv i r a p f0 f1) (hr : r ≤ r') : TInv i r' a p f0 f1 :=
  ⟨h.p1, h.p2, h.p3, h.a1, h.a2, fun x => by have := h.a3 x; omega, h.b1, h.b2, fun x => by have := h.b3 x; omega, fun x => by have := h.q1 x; omega, h.q2, h.q3⟩
/-- What a round has to say, in letters. -/
structure TSay (a2 c0 c1 k0 k1 x0 y0 x1 y1 r : Int) : Prop where
  no : k1 < 0 → a2 = 0 ∧ k0 < 0
  yes : 0 ≤ k1 → y1 = 1 ∧ a2 ≤ x1 ∧ (x1 = r ∨ (0 ≤ k0 ∧ y0 = 1 ∧ x1 = x0))
  was : c0 = 3 ↔ 0 ≤ k0
  is_ : c1 = 3 ↔ 0 ≤ k1
  cor : c1 ≠ 2
theorem TInv.say {i r a : Int} {p : Rec} {f0 f1 : Cop} {m : Nat} (h : TInv i r a p f0 f1) (h2 : 2 ≤ r) {P : Rec} {F0 F1 : Cop} (hP : tailP p f0 f1 i r m = P) (h0 : tailF0 p f0 f1 i r m = F0) (h1 : tailF1 p f0 f1 i r m = F1) :
    TInv i r (if m = 3 then r else a) P F0 F1 ∧ TSay (if m = 3 then r else a) (classL p f0 f1 i : Nat) (classL P F0 F1 i : Nat) (whereL p f0 f1 i) (whereL P F0 F1 i) (repX p f0 f1 i) (repY p f0 f1 i) (repX P F0 F1 i) (repY P F0 F1 i) r := by
  have q := h.says (how := m) (Int.le_refl r) h2
  have t := h.tail (how := m) (Int.le_refl r) h2
  rw [hP, h0, h1] at q t
  refine ⟨t, q.1, q.2, ?_, ?_, ?_⟩
  · rw [show ((classL p f0 f1 i : Nat) : Int) = 3 ↔ classL p f0 f1 i = 3 by omega]; exact classL_three
  · rw [show ((classL P F0 F1 i : Nat) : Int) = 3 ↔ classL P F0 F1 i = 3 by omega]; exact classL_three
  · have := t.class_; omega
theorem state_two {p : Rec} {f0 f1 : Cop} {i : Int} (h : 0 ≤ whereL p f0 f1 i) : stateL p f0 f1 i = 2 := by unfold stateL; rw [if_pos h]
theorem round_facts {i r a : Int} {p : Rec} {f0 f1 : Cop} (h : TInv i r a p f0 f1) (h2 : 2 ≤ r) (m : Nat) : ∃ (P : Rec) (F0 F1 : Cop) (c0 c1 s0 s1 : Nat) (k0 k1 x0 y0 x1 y1 : Int) (e0 e1 : Ent),
    (∀ V, Calls Try.prog 7 #[.agg #[.int .u8 (p.st : Int), .int .i64 p.ix, .int .i64 p.bx, .int .i64 p.yb, .int .i64 p.wh], .agg #[.int .u8 (f0.st : Int), .int .i64 f0.ix, .int .i64 f0.bx, .int .i64 f0.yb, .int .u8 (f0.e.k : Int), .int .i64 f0.e.cl, .int .i64 f0.e.sq, .int .u8 (f0.e.ok : Int), .string f0.e.key, .string f0.e.old, .string f0.e.val, .int .u8 (f1.st : Int), .int .i64 f1.ix, .int .i64 f1.bx, .int .i64 f1.yb, .int .u8 (f1.e.k : Int), .int .i64 f1.e.cl, .int .i64 f1.e.sq, .int .u8 (f1.e.ok : Int), .string f1.e.key, .string f1.e.old, .string f1.e.val], .int .i64 i] V fun e w' => e = .returned (.tuple #[.int .u8 (c0 : Nat), .agg #[.int .i64 i, .int .u8 (s0 : Nat), .int .i64 x0, .int .i64 y0, .int .u8 (e0.k : Int), .int .i64 e0.cl, .int .i64 e0.sq, .int .u8 (e0.ok : Int), .string e0.key, .string e0.old, .string e0.val], .int .i64 k0]) ∧ Ext V w') ∧
    (∀ V, Calls Try.prog 8 #[.agg #[.int .u8 (p.st : Int), .int .i64 p.ix, .int .i64 p.bx, .int .i64 p.yb, .int .i64 p.wh], .agg #[.int .u8 (f0.st : Int), .int .i64 f0.ix, .int .i64 f0.bx, .int .i64 f0.yb, .int .u8 (f0.e.k : Int), .int .i64 f0.e.cl, .int .i64 f0.e.sq, .int .u8 (f0.e.ok : Int), .string f0.e.key, .string f0.e.old, .string f0.e.val, .int .u8 (f1.st : Int), .int .i64 f1.ix, .int .i64 f1.bx, .int .i64 f1.yb, .int .u8 (f1.e.k : Int), .int .i64 f1.e.cl, .int .i64 f1.e.sq, .int .u8 (f1.e.ok : Int), .string f1.e.key, .string f1.e.old, .string f1.e.val], .int .i64 i, .agg #[.int .i64 r, .int .i64 1], .int .u8 (m : Int)] V fun e w' => e = .returned (.tuple #[.agg #[.int .u8 (P.st : Int), .int .i64 P.ix, .int .i64 P.bx, .int .i64 P.yb, .int .i64 P.wh], .agg #[.int .u8 (F0.st : Int), .int .i64 F0.ix, .int .i64 F0.bx, .int .i64 F0.yb, .int .u8 (F0.e.k : Int), .int .i64 F0.e.cl, .int .i64 F0.e.sq, .int .u8 (F0.e.ok : Int), .string F0.e.key, .string F0.e.old, .string F0.e.val, .int .u8 (F1.st : Int), .int .i64 F1.ix, .int .i64 F1.bx, .int .i64 F1.yb, .int .u8 (F1.e.k : Int), .int .i64 F1.e.cl, .int .i64 F1.e.sq, .int .u8 (F1.e.ok : Int), .string F1.e.key, .string F1.e.old, .string F1.e.val]]) ∧ Ext V w') ∧
    (∀ V, Calls Try.prog 7 #[.agg #[.int .u8 (P.st : Int), .int .i64 P.ix, .int .i64 P.bx, .int .i64 P.yb, .int .i64 P.wh], .agg #[.int .u8 (F0.st : Int), .int .i64 F0.ix, .int .i64 F0.bx, .int .i64 F0.yb, .int .u8 (F0.e.k : Int), .int .i64 F0.e.cl, .int .i64 F0.e.sq, .int .u8 (F0.e.ok : Int), .string F0.e.key, .string F0.e.old, .string F0.e.val, .int .u8 (F1.st : Int), .int .i64 F1.ix, .int .i64 F1.bx, .int .i64 F1.yb, .int .u8 (F1.e.k : Int), .int .i64 F1.e.cl, .int .i64 F1.e.sq, .int .u8 (F1.e.ok : Int), .string F1.e.key, .string F1.e.old, .string F1.e.val], .int .i64 i] V fun e w' => e = .returned (.tuple #[.int .u8 (c1 : Nat), .agg #[.int .i64 i, .int .u8 (s1 : Nat), .int .i64 x1, .int .i64 y1, .int .u8 (e1.k : Int), .int .i64 e1.cl, .int .i64 e1.sq, .int .u8 (e1.ok : Int), .string e1.key, .string e1.old, .string e1.val], .int .i64 k1]) ∧ Ext V w') ∧
    TInv i r (if m % 4 = 3 then r else a) P F0 F1 ∧ TSay (if m % 4 = 3 then r else a) c0 c1 k0 k1 x0 y0 x1 y1 r ∧ (0 ≤ k1 → s1 = 2) := by
  obtain ⟨t, q⟩ := h.say (m := m % 4) h2 rfl rfl rfl
  have hp := h.p1
  have tp := t.p1
  exact ⟨_, _, _, _, _, _, _, _, _, _, _, _, _, _, _, fun V => what_of p f0 f1 i V (by omega) h.a1 h.b1 h.p3, fun V => tail_of p f0 f1 i r m (by omega) h.a1 h.b1 h.p3 V, fun V => what_of _ _ _ i V (by omega) t.a1 t.b1 t.p3, t, q, state_two⟩
end Go.Proofs.Ytejejadbemkifaa

namespace Go.Proofs.Ytejejadbemkifaa
set_option maxRecDepth 100000
open Go Go.RowKit Go.ChangeShapes Go.WideShapes

theorem bs_of_row {w : World} {x : Addr} {n c : Nat} {zs : List Int} (hl : n ≤ c) (hm : c ≤ maxLen) (hz : zs.length = c) (hcell : ∀ i, i < zs.length → w.cell? (x.add i) = some (.int .u8 (zs.getD i 0))) (hwz : ∀ z ∈ zs, (Lit.int .u8 z).wf = true) :
    Bs w w.heap.size (some x) n c ((zs.take n).map Int.toNat) := by
  have hb : ∀ z ∈ zs, 0 ≤ z ∧ z < 256 := by
    intro z hzm
    have := bounds_u8 (hwz z hzm)
    omega
  refine ⟨by simp [hz, hl], hl, by unfold maxLen at hm; exact hm, ⟨?_, ?_⟩, fun h => by cases h⟩
  · intro b hbm
    simp only [List.mem_map] at hbm
    obtain ⟨z, hzm, rfl⟩ := hbm
    have := hb z (List.mem_of_mem_take hzm)
    omega
  · intro h0
    have hn : 0 < n := by
      rw [List.length_map, List.length_take] at h0
      omega
    obtain ⟨g, o, spot⟩ := x
    have hc := hcell 0 (by omega)
    have hspot : spot = none := by simpa [Addr.add] using World.cell?_spot hc
    subst hspot
    refine ⟨g, o, rfl, ?_, fun j y hy => ?_⟩
    · have := World.block_lt_of_cell? w _ hc
      simpa [Addr.add] using this
    · rw [List.getElem?_map] at hy
      obtain ⟨z, hzj, rfl⟩ := Option.map_eq_some_iff.1 hy
      have hjn : j < n ∧ zs[j]? = some z := by
        rw [List.getElem?_take] at hzj
        split at hzj
        · exact ⟨by assumption, hzj⟩
        · cases hzj
      have hzb := hb z (List.mem_of_getElem? hjn.2)
      have h2 := hcell j (by omega)
      rw [Addr.add_lit] at h2
      rw [h2, List.getD_eq_getElem?_getD, hjn.2]
      simp only [Option.getD_some]
      rw [Int.toNat_of_nonneg hzb.1]
end Go.Proofs.Ytejejadbemkifaa

namespace Go.Proofs.Ytejejadbemkifaa
set_option maxRecDepth 100000
open Go

section
variable {P : Program} {md : Region.Mode} {ops : Array Oper} {Q : Exit → Act → World → Prop} {S : World → Prop} {c : Nat}

/-- Whatever order is picked from here on; S holds behind every operation that comes up ahead of operation c. -/
def wpAnyC (P : Program) (md : Region.Mode) (ops : Array Oper) (Q : Exit → Act → World → Prop) (S : World → Prop) (c : Nat) : Nat → Array Bool → Act → World → Prop
  | 0, listed, a, w => Region.ready md ops listed = [] ∧ Q .normal a w
  | fuel + 1, listed, a, w => (Region.ready md ops listed = [] → Q .normal a w) ∧ ∀ i ∈ Region.ready md ops listed, wpOp P ops Q i (fun a' w' => ((listed.setIfInBounds i true).getD c false = false → S w') ∧ wpAnyC P md ops Q S c fuel (listed.setIfInBounds i true) a' w') a w

theorem wpAny_of_c : ∀ (fuel : Nat) (listed : Array Bool) (a : Act) (w : World), wpAnyC P md ops Q S c fuel listed a w → wpAny P md ops Q fuel listed a w
  | 0, _, _, _, h => h
  | fuel + 1, _, _, _, h => ⟨h.1, fun i hi => wpOp_mono (fun a' w' h' => wpAny_of_c fuel _ a' w' h'.2) (h.2 i hi)⟩
theorem listed_stays {listed : Array Bool} {i c : Nat} (h : listed.getD c false = true) : (listed.setIfInBounds i true).getD c false = true := by
  by_cases hic : i = c
  · subst hic
    rcases Nat.lt_or_ge i listed.size with hl | hl
    · simp [hl]
    · simp [Array.getElem?_eq_none hl] at h
  · rw [getD_set_ne false hic]; exact h
/-- Once the operation c has come up: any other S. -/
theorem anyC_of_held {S' : World → Prop} : ∀ (fuel : Nat) (listed : Array Bool) (a : Act) (w : World), listed.getD c false = true → wpAnyH P md ops Q S' fuel listed a w → wpAnyC P md ops Q S c fuel listed a w
  | 0, _, _, _, _, h => h
  | fuel + 1, _, _, _, hl, h => ⟨h.1, fun i hi => wpOp_mono (fun a' w' h' => ⟨(fun hn => by rw [listed_stays hl] at hn; cases hn), anyC_of_held fuel _ a' w' (listed_stays hl) h'.2⟩) (h.2 i hi)⟩

theorem anyC_first {i : Nat} {oi : Oper} {v : Value} {T : World → Prop} (hi : ops[i]? = some oi) (hsel : ∀ (j : Nat) (o : Oper) cs b, ops[j]? = some o → o.op ≠ .select cs b)
    (hQ : ∀ d a w, Q (.panic d) (a.put oi.dst v) w → Q (.panic d) a w) (hic : i ≠ c) :
    ∀ (fuel : Nat) (listed : Array Bool) (a : Act) (w : World),
      ((∀ w, T w) ∨ (Region.waitsFor md ops c i = true ∧ (∀ w, S w → T w) ∧ listed.getD c false = false)) →
      (∀ j oj, ops[j]? = some oj → j ≠ i → listed.getD j true = false → (∀ e ∈ oj.after, Region.binds md e = true → e.on ≠ i) → oi.apart ops oj = true) →
      i ∈ Region.ready md ops listed → YieldsIf P ops T oi v a → T w → (listed.getD c false = false → S w) →
      wpAnyC P md ops Q S c fuel (listed.setIfInBounds i true) (a.put oi.dst v) w → wpAnyC P md ops Q S c (fuel + 1) listed a w := by
  have back : ∀ {listed : Array Bool} {i : Nat}, (listed.setIfInBounds i true).getD c false = false → listed.getD c false = false := fun {l i} h => by
    cases hh : l.getD c false with
    | false => rfl
    | true => rw [listed_stays hh] at h; cases h
  intro fuel
  induction fuel with
  | zero =>
    intro listed a w _ _ hr hy hT hS H
    refine ⟨fun h => (by rw [h] at hr; cases hr), fun j hj => ?_⟩
    by_cases hji : j = i
    · subst hji
      exact hy.wpOp hi hT ⟨fun hn => hS (back hn), H⟩
    · have := ready_mono hj hji
      rw [H.1] at this
      cases this
  | succ fuel ih =>
    intro listed a w hc hfree hr hy hT hS H
    refine ⟨fun h => (by rw [h] at hr; cases hr), fun j hj => ?_⟩
    by_cases hji : j = i
    · subst hji
      exact hy.wpOp hi hT ⟨fun hn => hS (back hn), H⟩
    · have g1 := H.2 j (ready_mono hj hji)
      obtain ⟨hjun, oj, hoj, hall⟩ := mem_ready.1 hj
      have hnot : ∀ e ∈ oj.after, Region.binds md e = true → e.on ≠ i := fun e he hb heq => by
        have q1 := hall e he hb
        have q0 := (mem_ready.1 hr).1
        rw [heq] at q1
        rcases Nat.lt_or_ge i listed.size with h' | h'
        · simp [h'] at q0 q1
          rw [q0] at q1
          cases q1
        · simp [Array.getElem?_eq_none h'] at q1
      have g2 := wpOp_putIf hoj (hfree j oj hoj hji hjun hnot) (fun cs b => hsel i oi cs b hi) (fun cs b => hsel j oj cs b hoj) hQ hy g1
      refine wpOp_mono (fun a' w' h3 => ?_) g2
      obtain ⟨y3, s3, k3⟩ := h3
      rw [Array.setIfInBounds_comm _ _ (Ne.symm hji)] at s3
      have s4 : (listed.setIfInBounds j true).getD c false = false → S w' := fun hn => s3 (by rw [getD_set_ne false hic]; exact hn)
      have both : ((∀ w, T w) ∨ (Region.waitsFor md ops c i = true ∧ (∀ w, S w → T w) ∧ (listed.setIfInBounds j true).getD c false = false)) ∧ T w' := by
        rcases hc with hc | ⟨hci, hST, hl⟩
        · exact ⟨.inl hc, hc _⟩
        · have hjc : j ≠ c := fun hjc => by
            subst hjc
            obtain ⟨oj', hoj', e, he, hb, heq⟩ := Region.waitsFor_spec hci
            rw [hoj] at hoj'
            cases hoj'
            exact hnot e he hb heq
          have hl' : (listed.setIfInBounds j true).getD c false = false := by rw [getD_set_ne false hjc]; exact hl
          exact ⟨.inr ⟨hci, hST, hl'⟩, hST _ (s4 hl')⟩
      refine ⟨fun hn => ?_, ih (listed.setIfInBounds j true) a' w' both.1 (fun k ok hk hki hun hno => ?_) (ready_mono hr (Ne.symm hji)) y3 both.2 (fun hn => ?_) (by rw [Array.setIfInBounds_comm _ _ hji]; exact k3)⟩
      · exact s4 hn
      · refine hfree k ok hk hki ?_ hno
        by_cases hjk : j = k
        · subst hjk; exact hjun
        · rw [getD_set_ne true hjk] at hun; exact hun
      · exact s4 hn

/-- Take number i first: it may come up, the operation c waits for it, it yields v in every world that meets S. -/
theorem anyC_take {i : Nat} {oi : Oper} {v : Value} {fuel : Nat} {listed : Array Bool} {a : Act} {w : World} (hi : ops[i]? = some oi)
    (hs : Region.noSelect ops = true) (hf : Region.free md ops listed i = true) (hr : (Region.ready md ops listed).contains i = true)
    (hQ : ∀ d a w, Q (.panic d) (a.put oi.dst v) w → Q (.panic d) a w) (hic : i ≠ c) (hci : Region.waitsFor md ops c i = true) (hl : listed.getD c false = false) (hy : YieldsIf P ops S oi v a) (hS : S w)
    (h : wpAnyC P md ops Q S c fuel (listed.setIfInBounds i true) (a.put oi.dst v) w) : wpAnyC P md ops Q S c (fuel + 1) listed a w :=
  anyC_first hi (Region.noSelect_spec hs) hQ hic fuel listed a w (.inr ⟨hci, fun _ h => h, hl⟩) (Region.free_spec hi hf) (by simpa using hr) hy hS (fun _ => hS) h
/-- The same of an operation that asks nothing of the world. -/
theorem anyC_pure {i : Nat} {oi : Oper} {v : Value} {fuel : Nat} {listed : Array Bool} {a : Act} {w : World} (hi : ops[i]? = some oi)
    (hs : Region.noSelect ops = true) (hf : Region.free md ops listed i = true) (hr : (Region.ready md ops listed).contains i = true)
    (hQ : ∀ d a w, Q (.panic d) (a.put oi.dst v) w → Q (.panic d) a w) (hic : i ≠ c) (hy : YieldsIf P ops (fun _ => True) oi v a) (hS : S w)
    (h : wpAnyC P md ops Q S c fuel (listed.setIfInBounds i true) (a.put oi.dst v) w) : wpAnyC P md ops Q S c (fuel + 1) listed a w :=
  anyC_first hi (Region.noSelect_spec hs) hQ hic fuel listed a w (.inl fun _ => trivial) (Region.free_spec hi hf) (by simpa using hr) hy trivial (fun _ => hS) h
/-- The operation c itself, once it alone may come up: behind it another S. -/
theorem anyC_now (S' : World → Prop) {o : Oper} {fuel : Nat} {listed : Array Bool} {a : Act} {w : World} (hr : Region.ready md ops listed = [c]) (hb : (listed.setIfInBounds c true).getD c false = true) (ho : ops[c]? = some o)
    (h : ∀ K' : Act → World → Prop, Shut (∀ a w, S' w → (S' w → wpAnyH P md ops Q S' fuel (listed.setIfInBounds c true) a w) → K' a w) → if Region.wanted o (yielded ops a.tmps) = true then Oper.wp P o a w K' Q else K' (a.put o.dst undef) w) :
    wpAnyC P md ops Q S c (fuel + 1) listed a w := by
  refine ⟨(fun h0 => by rw [hr] at h0; cases h0), fun j hj => ?_⟩
  rw [hr] at hj
  obtain rfl : j = c := by simpa using hj
  exact wpOp_step ho fun K hK => h K fun a w hS hW => hK a w ⟨(fun hn => by rw [hb] at hn; cases hn), anyC_of_held _ _ _ _ hb (hW hS)⟩
theorem region_anyC (S : World → Prop) (c : Nat) {id : Nat} {a : Act} {w : World} (hm : P.follows .mixedOrders = true) (hS : S w.drew)
    (h : S w.drew → wpAnyC P .any ops Q S c ops.size (Array.replicate ops.size false) a w.drew) : (Code.region id ops true).wp P Q a w :=
  wp_region_any hm (wpAny_of_c _ _ _ _ (h hS))
end
end Go.Proofs.Ytejejadbemkifaa

namespace Go.Proofs.Ytejejadbemkifaa
set_option maxRecDepth 100000
open Go Go.RowKit

theorem goodv_of (i r y : Int) (w : World) : Calls Try.prog 6 #[.int .i64 i, .int .i64 r, .int .i64 y] w fun e w' => e = .returned (.agg #[.int .u8 1, .int .i64 i, .int .i64 r, .int .i64 y, .int .u8 1, .int .i64 0, .int .i64 0, .int .u8 0, .string ⟨#[]⟩, .string ⟨#[]⟩, .string ⟨#[]⟩]) ∧ Ext w w' := by
  have HE := Lib.hid ((Ext.refl w).alloc (.cells #[.int .u8 1, .int .i64 i, .int .i64 r, .int .i64 y, .int .u8 1, .int .i64 0, .int .i64 0, .int .u8 0, .string ⟨#[]⟩, .string ⟨#[]⟩, .string ⟨#[]⟩] 33))
  go_enter Try.func6, Try.ntmps6
  go_wp2_with fail
  have hT := heap_alloc_new w (.cells #[.int .u8 1, .int .i64 i, .int .i64 r, .int .i64 y, .int .u8 1, .int .i64 0, .int .i64 0, .int .u8 0, .string ⟨#[]⟩, .string ⟨#[]⟩, .string ⟨#[]⟩] 33)
  have z0 := cell_of_row _ w.heap.size 0 _ _ _ (hT)
  have z1 := cell_of_row _ w.heap.size 1 _ _ _ (hT)
  have z2 := cell_of_row _ w.heap.size 2 _ _ _ (hT)
  have z3 := cell_of_row _ w.heap.size 3 _ _ _ (hT)
  have z4 := cell_of_row _ w.heap.size 4 _ _ _ (hT)
  have z5 := cell_of_row _ w.heap.size 5 _ _ _ (hT)
  have z6 := cell_of_row _ w.heap.size 6 _ _ _ (hT)
  have z7 := cell_of_row _ w.heap.size 7 _ _ _ (hT)
  have z8 := cell_of_row _ w.heap.size 8 _ _ _ (hT)
  have z9 := cell_of_row _ w.heap.size 9 _ _ _ (hT)
  have z10 := cell_of_row _ w.heap.size 10 _ _ _ (hT)
  generalize (w.alloc (.cells #[.int .u8 1, .int .i64 i, .int .i64 r, .int .i64 y, .int .u8 1, .int .i64 0, .int .i64 0, .int .u8 0, .string ⟨#[]⟩, .string ⟨#[]⟩, .string ⟨#[]⟩] 33)) = w1 at *
  refine bodyPost_ret (v := .agg #[.int .u8 1, .int .i64 i, .int .i64 r, .int .i64 y, .int .u8 1, .int .i64 0, .int .i64 0, .int .u8 0, .string ⟨#[]⟩, .string ⟨#[]⟩, .string ⟨#[]⟩]) (by simp [results, Try.results6, go_sem, z0, z1, z2, z3, z4, z5, z6, z7, z8, z9, z10]) rfl ⟨rfl, HE.out⟩
set_option maxRecDepth 100000 in
set_option maxHeartbeats 600000 in
theorem is_of (p : Rec) (a b : Cop) (w : World) (hp : p.st ≤ 2) (h0 : a.st ≤ 2) (h1 : b.st ≤ 2) (hw : p.wh = 0 ∨ p.wh = 1) (cl st wh : Int) (hcl : (classL p a b 5 : Nat) = cl) (hst : (stateL p a b 5 : Nat) = st) (hwh : whereL p a b 5 = wh) :
    Calls Try.prog 12 #[.agg #[.int .u8 (p.st : Int), .int .i64 p.ix, .int .i64 p.bx, .int .i64 p.yb, .int .i64 p.wh], .agg #[.int .u8 (a.st : Int), .int .i64 a.ix, .int .i64 a.bx, .int .i64 a.yb, .int .u8 (a.e.k : Int), .int .i64 a.e.cl, .int .i64 a.e.sq, .int .u8 (a.e.ok : Int), .string a.e.key, .string a.e.old, .string a.e.val], .agg #[.int .u8 (b.st : Int), .int .i64 b.ix, .int .i64 b.bx, .int .i64 b.yb, .int .u8 (b.e.k : Int), .int .i64 b.e.cl, .int .i64 b.e.sq, .int .u8 (b.e.ok : Int), .string b.e.key, .string b.e.old, .string b.e.val], .int .u8 cl, .int .u8 st, .int .i64 wh] w fun e w' => e = .returned (.bool true) ∧ Ext w w' := by
  have HWH := Lib.hid (fun V => what_of p a b 5 V hp h0 h1 hw)
  rw [hcl, hst, hwh] at HWH
  have HE := Lib.hid (((((Ext.refl w).alloc (.cells #[.int .u8 (p.st : Int), .int .i64 p.ix, .int .i64 p.bx, .int .i64 p.yb, .int .i64 p.wh] 27)).alloc (.cells #[.int .u8 (a.st : Int), .int .i64 a.ix, .int .i64 a.bx, .int .i64 a.yb, .int .u8 (a.e.k : Int), .int .i64 a.e.cl, .int .i64 a.e.sq, .int .u8 (a.e.ok : Int), .string a.e.key, .string a.e.old, .string a.e.val] 33)).alloc (.cells #[.int .u8 (b.st : Int), .int .i64 b.ix, .int .i64 b.bx, .int .i64 b.yb, .int .u8 (b.e.k : Int), .int .i64 b.e.cl, .int .i64 b.e.sq, .int .u8 (b.e.ok : Int), .string b.e.key, .string b.e.old, .string b.e.val] 33)))
  clear hp h0 h1 hw hcl hst hwh
  go_enter Try.func12, Try.ntmps12
  go_wp2_with fail
  refine (HWH.out _).mono ?_
  rintro e w1 ⟨rfl, hx⟩
  have HX := Lib.hid ((HE.out.trans hx).alloc (.cells #[.int .i64 5, .int .u8 st, .int .i64 (repX p a b 5), .int .i64 (repY p a b 5), .int .u8 ((repE p a b 5).k : Int), .int .i64 (repE p a b 5).cl, .int .i64 (repE p a b 5).sq, .int .u8 ((repE p a b 5).ok : Int), .string (repE p a b 5).key, .string (repE p a b 5).old, .string (repE p a b 5).val] 37))
  clear hx
  go_upto_region 2 with (fail)
  have i0 := cell_of_row _ _ 0 _ _ _ (heap_alloc_new w1 (.cells #[.int .i64 5, .int .u8 st, .int .i64 (repX p a b 5), .int .i64 (repY p a b 5), .int .u8 ((repE p a b 5).k : Int), .int .i64 (repE p a b 5).cl, .int .i64 (repE p a b 5).sq, .int .u8 ((repE p a b 5).ok : Int), .string (repE p a b 5).key, .string (repE p a b 5).old, .string (repE p a b 5).val] 37))
  have i1 := cell_of_row _ _ 1 _ _ _ (heap_alloc_new w1 (.cells #[.int .i64 5, .int .u8 st, .int .i64 (repX p a b 5), .int .i64 (repY p a b 5), .int .u8 ((repE p a b 5).k : Int), .int .i64 (repE p a b 5).cl, .int .i64 (repE p a b 5).sq, .int .u8 ((repE p a b 5).ok : Int), .string (repE p a b 5).key, .string (repE p a b 5).old, .string (repE p a b 5).val] 37))
  generalize (w1.alloc (.cells #[.int .i64 5, .int .u8 st, .int .i64 (repX p a b 5), .int .i64 (repY p a b 5), .int .u8 ((repE p a b 5).k : Int), .int .i64 (repE p a b 5).cl, .int .i64 (repE p a b 5).sq, .int .u8 ((repE p a b 5).ok : Int), .string (repE p a b 5).key, .string (repE p a b 5).old, .string (repE p a b 5).val] 37)) = w2 at *
  generalize w1.heap.size = gr at *
  go_wp2_with fail
  go_ret
  exact ⟨rfl, HX.out⟩
end Go.Proofs.Ytejejadbemkifaa
