/-
  The contract of chunk's pieces, as an iterator: the chunks of bytes, in their memory, come in order.
-/
import Derived.Test.YtmbmpabjclkhlaaGreatDoorN00
import Derived.Test.YtmbmpabjclkhlaaGreatDoorN01
import Derived.Test.YtmbmpabjclkhlaaGreatDoorN02
import Derived.Test.YtmbmpabjclkhlaaGreatDoorN04
import Derived.Test.YtmbmpabjclkhlaaGreatDoorN05
import Derived.Test.YtmbmpabjclkhlaaGreatDoorN10
import Derived.Test.YtmbmpabjclkhlaaGreatDoorN11
import Derived.Deep.DeepCutAuto
import Derived.RangeFuncNested
import Derived.RangeFuncBound
import Derived.RangeFuncCalls
import Derived.RangeFuncLeaves
import Derived.Shelf.Abstract
import Derived.Shelf.RegionOpen
import Derived.WalkKit
import Derived.OwnWalkIn
import Derived.TacticsInMore
import Derived.LoopNIn
import Derived.LoopIn
import Derived.OrdersIn
import Derived.TacticsIn
import Derived.Laws.IdiomArrays
import Derived.Deep.AppendLies
import Derived.Maps.AppendAt
import Derived.Maps.OwnSet
import Derived.Maps.Keyed
import Derived.Deep.RegionHeld3
import Derived.Laws.EntriesVeiled
namespace Go.Proofs.YtmbmpabjclkhlaaGreatDoor
set_option maxRecDepth 100000
section
open Go Go.RowKit Go.Shelf
attribute [local go_sem] Oper.semAt_some
end
section
open Go Go.RowKit Go.ChangeShapes Go.WideShapes Go.Deep
structure Lst where
  A : Option Addr := none
  n : Nat := 0
  c : Nat := 0
  l : List Nat := []
instance : Inhabited Lst := ⟨{}⟩
def Lst.Ok (a : Lst) (w : World) (B : Nat) : Prop := Bs w B a.A a.n a.c a.l
structure Lsts (w : World) (B : Nat) (A : Option Addr) (n c : Nat) (l : List Lst) : Prop where
  len : l.length = n
  cap : n ≤ c
  most : c ≤ 9223372036854775807
  each : ∀ a ∈ l, a.Ok w B
  rd : 0 < n → ∃ g o, A = some ⟨g, o, none⟩ ∧ g < B ∧ ∀ j a, l[j]? = some a → w.cell? ⟨g, o + j, none⟩ = some (.slice a.A a.n a.c)
  nil_ : A = none → c = 0
theorem Lsts.below {w w' : World} {B : Nat} {A : Option Addr} {n c : Nat} {l : List Lst} (h : Lsts w B A n c l) (hb : Below B w w') : Lsts w' B A n c l :=
  ⟨h.len, h.cap, h.most, fun a ha => (h.each a ha).below hb, fun hn => by
    obtain ⟨g, o, e, hg, hc⟩ := h.rd hn
    exact ⟨g, o, e, hg, fun j a ha => (hb.cell (p := ⟨g, o + j, none⟩) hg).trans (hc j a ha)⟩, h.nil_⟩
theorem Lsts.more {w : World} {B B' : Nat} {A : Option Addr} {n c : Nat} {l : List Lst} (h : Lsts w B A n c l) (hB : B ≤ B') : Lsts w B' A n c l :=
  ⟨h.len, h.cap, h.most, fun a ha => (h.each a ha).more hB, fun hn => by
    obtain ⟨g, o, e, hg, hc⟩ := h.rd hn
    exact ⟨g, o, e, by omega, hc⟩, h.nil_⟩
theorem Lsts.at_ {w : World} {B : Nat} {A : Option Addr} {n c : Nat} {l : List Lst} (h : Lsts w B A n c l) {j : Nat} (hj : j < n) : ∃ g o a, A = some ⟨g, o, none⟩ ∧ g < B ∧ l[j]? = some a ∧ Bs w B a.A a.n a.c a.l ∧
    w.cell? ⟨g, o + j, none⟩ = some (.slice a.A a.n a.c) := by
  obtain ⟨g, o, e, hg, hc⟩ := h.rd (by omega)
  have hj' : j < l.length := by rw [h.len]; exact hj
  have ha : l[j]? = some l[j] := List.getElem?_eq_getElem hj'
  exact ⟨g, o, l[j], e, hg, ha, h.each _ (List.getElem_mem hj'), hc j _ ha⟩
section
variable {H : Type} {enc : TypeId × Value → H} {P : Program} {w : World} {base : Nat} {spare : Nat → Bool} {held : Bool}
end
end
section
open Go Go.RowKit Go.Shelf
attribute [local go_sem] Oper.semAt_some
def Lst.val (a : Lst) : Value := .slice a.A a.n a.c
def ByO (W : World) (b : Nat) (a : Lst) : Prop := By W a.A a.n a.c a.l ∧ W.ownsRow b 5 1 a.val a.n (vb a.l)
def LsOk (W : World) (b : Nat) (v : Value) (L : List Lst) : Prop := ∀ a ∈ L, ByO W b a ∧ ∀ p, a.A = some p → b < p.block ∧ p.block < W.heap.size ∧ v.ownBlock ≠ some p.block
theorem ownsRow_ext {w w' : World} {b e sz n : Nat} {v : Value} {xs : List Value} (h : w.ownsRow b e sz v n xs) (k : Ext w w') : w'.ownsRow b e sz v n xs := own_mod h (Mod.of_ext (F := fun _ => False) k) fun _ _ hf => hf
theorem By.grown {W W' : World} {A : Option Addr} {n c : Nat} {l : List Nat} {row : Option Nat} (h : By W A n c l) (hg : W.grownBy W' row) (hr : ∀ r, row = some r → ∃ o : Obj, W.heap[r]? = some o ∧ o.isCells = false) : By W' A n c l := by
  cases l with
  | nil => exact ⟨h.len, h.cap, h.most, Rd.nil_, Bs.nil_ h⟩
  | cons x l =>
    obtain ⟨g, o, hA, hlt, hc⟩ := h.rd.2 (by simp)
    have h0 := hc 0 x rfl
    have hm : Mod (fun k => some k = row) W W' := ⟨hg.os, hg.tape, hg.output, hg.size, fun k hk hf => hg.block k hk hf⟩
    refine By.mod h hm ?_
    intro p hp hf
    rw [hA] at hp
    injection hp with hp
    subst hp
    obtain ⟨ob, ho, hcl⟩ := hr g hf.symm
    unfold World.cell? at h0
    rw [show (⟨g, o + 0, none⟩ : Addr).block = g from rfl, ho] at h0
    cases ob <;> simp [Obj.isCells] at hcl h0
theorem ByO.mod {W W' : World} {b : Nat} {a : Lst} {F : Nat → Prop} (h : ByO W b a) (k : Mod F W W') (ho : ∀ p, a.A = some p → ¬ F p.block) : ByO W' b a :=
  ⟨By.mod h.1 k ho, own_mod h.2 k fun i hi => by
    cases hA : a.A with
    | none => rw [Lst.val, hA] at hi; cases hi
    | some p =>
      rw [Lst.val, hA] at hi
      have hi : some p.block = some i := hi
      injection hi with hi
      subst hi
      exact ho p hA⟩
theorem ByO.ext {W W' : World} {b : Nat} {a : Lst} (h : ByO W b a) (k : Ext W W') : ByO W' b a := ⟨By.ext h.1 k, ownsRow_ext h.2 k⟩
theorem ByO.grown {W W' : World} {b : Nat} {a : Lst} {row : Option Nat} (h : ByO W b a) (hg : W.grownBy W' row) (hr : ∀ r, row = some r → ∃ o : Obj, W.heap[r]? = some o ∧ o.isCells = false) : ByO W' b a := by
  have hm : Mod (fun k => some k = row) W W' := ⟨hg.os, hg.tape, hg.output, hg.size, fun k hk hf => hg.block k hk hf⟩
  refine ⟨By.grown h.1 hg hr, own_mod h.2 hm fun i hi hf => ?_⟩
  obtain ⟨o, ho, hc⟩ := hr i hf.symm
  rcases h.2.2 with ⟨hv, _⟩ | ⟨g, cap, cur, hv, _, hgo, _⟩
  · rw [hv] at hi; cases hi
  · rw [hv] at hi
    have hi : some g = some i := hi
    injection hi with hi
    subst hi
    rw [hgo] at ho
    cases ho
    cases hc
theorem LsOk.grown {W W' : World} {b : Nat} {v : Value} {L : List Lst} {row : Option Nat} (h : LsOk W b v L) (hg : W.grownBy W' row) (hr : ∀ r, row = some r → ∃ o : Obj, W.heap[r]? = some o ∧ o.isCells = false) : LsOk W' b v L := fun a ha =>
  ⟨(h a ha).1.grown hg hr, fun p hp => by
    obtain ⟨h1, h2, h3⟩ := (h a ha).2 p hp
    exact ⟨h1, Nat.lt_of_lt_of_le h2 hg.size, h3⟩⟩
theorem LsOk.more {W w1 w2 : World} {b g cap m : Nat} {v : Value} {L : List Lst} {tmp : Obj} {a0 : Lst} (h : LsOk W b v L) (hb : b < W.heap.size) (hvo : ∀ k, v.ownBlock = some k → k < W.heap.size) (hx : Ext W w1) (hby : ByO w1 b a0) (hfr : ∀ p, a0.A = some p → W.heap.size ≤ p.block ∧ p.block < w1.heap.size)
    (hg : (w1.alloc tmp).grownBy w2 v.ownBlock) (hgl : v.ownBlock = some g ∨ g = (w1.alloc tmp).heap.size) (u : Value) : LsOk (w2.setCell ⟨b, 0, none⟩ u) b (.slice (some ⟨g, 0, none⟩) m cap) (L ++ [a0]) := by
  have hs1 := hx.size
  have hs2 : (w1.alloc tmp).heap.size = w1.heap.size + 1 := World.size_alloc _ _
  have hs3 := hg.size
  have hs4 : (w2.setCell ⟨b, 0, none⟩ u).heap.size = w2.heap.size := by simp [World.setCell]
  have hm : Mod (fun k => k = b ∨ some k = v.ownBlock) w1 (w2.setCell ⟨b, 0, none⟩ u) := by
    have h1 : Mod (fun k => k = b ∨ some k = v.ownBlock) w1 (w1.alloc tmp) := Mod.of_ext ((Ext.refl w1).alloc tmp)
    have h2 : Mod (fun k => k = b ∨ some k = v.ownBlock) w1 w2 := h1.grown hg fun k hk => .inl (.inr hk.symm)
    exact Mod.setCell h2 (p := ⟨b, 0, none⟩) (.inl (.inl rfl)) u
  intro a ha
  rcases List.mem_append.1 ha with ha | ha
  · obtain ⟨h1, h2⟩ := h a ha
    refine ⟨ByO.mod (h1.ext hx) hm fun p hp hf => ?_, fun p hp => ?_⟩
    · obtain ⟨q1, _, q3⟩ := h2 p hp
      rcases hf with hf | hf
      · omega
      · exact q3 hf.symm
    · obtain ⟨q1, q2, q3⟩ := h2 p hp
      refine ⟨q1, by omega, fun e => ?_⟩
      injection e with e
      rcases hgl with hgl | hgl
      · have e2 : g = p.block := e
        rw [e2] at hgl; exact q3 hgl
      · have : g = p.block := e
        omega
  · rw [List.mem_singleton] at ha
    subst ha
    refine ⟨ByO.mod hby hm fun p hp hf => ?_, fun p hp => ?_⟩
    · obtain ⟨q1, q2⟩ := hfr p hp
      rcases hf with hf | hf
      · omega
      · have := hvo _ hf.symm
        omega
    · obtain ⟨q1, q2⟩ := hfr p hp
      refine ⟨by omega, by omega, fun e => ?_⟩
      injection e with e
      have e2 : g = p.block := e
      rcases hgl with hgl | hgl
      · have := hvo _ hgl
        omega
      · omega
end
section
open Go Go.RowKit Go.Maps
def RV : Value → Option (DataW Value × List MemPlace) := fun v => some (.held v, [])
def updZ (f : Int → Option Lst) (k : Int) (o : Option Lst) : Int → Option Lst := fun j => if j = k then o else f j
theorem lawZ : Keyed Tryz.prog 3 := int_keyed Tryz.underlying3
theorem keyZ_is (k : Int) (_ : (Lit.int .i64 k).wf = true) : WideAt.IsKeyLit (.int .i64 k) := by
  first | trivial | (simp [WideAt.IsKeyLit])
structure MapZ (w : World) (bm nb : Nat) (f : Int → Option Lst) : Prop where
  own : ∃ D : DataW Value, w.ownsMap Tryz.prog 3 RV bm nb D ∧ ∀ k : Int, (Lit.int .i64 k).wf = true → Maps.has D (.int .i64 k) = (f k).isSome ∧ ∀ a, f k = some a → ∀ z, D.atKey (.int .i64 k) z = .held a.val
theorem MapZ.lt {w : World} {bm nb : Nat} {f : Int → Option Lst} (h : MapZ w bm nb f) : bm < w.heap.size := by
  obtain ⟨D, ho, _⟩ := h.own
  exact ho.lt
theorem MapZ.mod {w w' : World} {bm nb : Nat} {f : Int → Option Lst} {F : Nat → Prop} (h : MapZ w bm nb f) (hm : Mod F w w') (hF : ¬ F bm) : MapZ w' bm nb f := by
  obtain ⟨D, ⟨es, clock, hb, r⟩, hd⟩ := h.own
  exact ⟨D, ⟨es, clock, heap_mod hb hm hF, r⟩, hd⟩
theorem MapZ.ext {w w' : World} {bm nb : Nat} {f : Int → Option Lst} (h : MapZ w bm nb f) (hx : Ext w w') : MapZ w' bm nb f := h.mod (F := fun _ => False) (Mod.of_ext hx) fun hf => hf
theorem lit_ne {j k : Int} (h : j ≠ k) : (Lit.int .i64 j) ≠ (Lit.int .i64 k) := fun e => h (by injection e)
theorem MapZ.store {w : World} {bm nb : Nat} {f : Int → Option Lst} (h : MapZ w bm nb f) {k : Int} (hk : (Lit.int .i64 k).wf = true) (hn : nb < maxLen) (a : Lst) :
    ∃ w', (Instr.mapUpdate 323 (.map (some bm)) (.int .i64 k) (.slice a.A a.n a.c)).run Tryz.prog w = .ok () w' ∧ MapZ w' bm (nb + 1) (updZ f k (some a)) ∧ w.mapTurned w' bm := by
  obtain ⟨D, ho, hd⟩ := h.own
  obtain ⟨w', hrun, ho2, ht⟩ := ho.store lawZ Tryz.underlying323 hn (keyOf_int_mk Tryz.underlying3 hk) (val := .slice a.A a.n a.c) (d := .held (.slice a.A a.n a.c)) (ps := []) rfl
  have hM := ho.isMap
  refine ⟨w', hrun, ⟨_, ho2, fun j hj => ?_⟩, ht⟩
  by_cases hjk : j = k
  · subst hjk
    unfold updZ
    rw [if_pos rfl]
    refine ⟨has_put_same hM (keyZ_is j hj) _, fun b hb z => ?_⟩
    injection hb with hb
    subst hb
    exact atKey_put_same hM (keyZ_is j hj) _ _
  · unfold updZ
    rw [if_neg hjk]
    refine ⟨(has_put_other (lit_ne hjk) _).trans (hd j hj).1, fun b hb z => ?_⟩
    rw [atKey_put_other (lit_ne hjk)]
    exact (hd j hj).2 b hb z
theorem MapZ.drop {w : World} {bm nb : Nat} {f : Int → Option Lst} (h : MapZ w bm nb f) {k : Int} (hk : (Lit.int .i64 k).wf = true) (ty : TypeId) :
    ∃ w', (Builtin.delete_ #[323, 3] ty #[.map (some bm), .int .i64 k]).run Tryz.prog w = .ok (.tuple #[]) w' ∧ MapZ w' bm nb (updZ f k none) ∧ w.mapTurned w' bm := by
  obtain ⟨D, ho, hd⟩ := h.own
  obtain ⟨w', hrun, ho2, ht⟩ := ho.drop lawZ Tryz.underlying323 (keyOf_int_mk Tryz.underlying3 hk) ty
  refine ⟨w', hrun, ⟨_, ho2, fun j hj => ?_⟩, ht⟩
  by_cases hjk : j = k
  · subst hjk
    unfold updZ
    rw [if_pos rfl]
    exact ⟨has_del_same, fun b hb => by cases hb⟩
  · unfold updZ
    rw [if_neg hjk]
    refine ⟨(has_del_other (lit_ne hjk)).trans (hd j hj).1, fun b hb z => ?_⟩
    rw [atKey_del_other (lit_ne hjk)]
    exact (hd j hj).2 b hb z
theorem turned_mod {w w' : World} {b : Nat} (h : w.mapTurned w' b) : Mod (fun k => k = b) w w' := by
  have hg := h.grown
  exact ⟨hg.os, hg.tape, hg.output, hg.size, fun k hk hf => hg.block k hk (fun e => hf (by injection e))⟩
end
section
open Go Go.RowKit Go.Maps
structure ZH (w : World) (h count bm nb : Nat) (f : Int → Option Lst) : Prop where
  row : w.heap[h]? = some (.cells #[.pointer (some ⟨h, 0, none⟩), .int .i64 (count : Int), .map (some bm)] 325 (0, 0))
  map : MapZ w bm nb f
  rng : ∀ k, (f k).isSome = true → 0 ≤ k ∧ k < (count : Int)
  each : ∀ k a, f k = some a → By w a.A a.n a.c a.l ∧ a.n ≤ 80 ∧ ∀ p, a.A = some p → p.block ≠ bm
  cnt : 1 ≤ count ∧ count ≤ 8
section
variable {w w' : World} {h count bm nb : Nat} {f : Int → Option Lst}
theorem ZH.lt (z : ZH w h count bm nb f) : h < w.heap.size := (Array.getElem?_eq_some_iff.1 z.row).1
theorem ZH.ne (z : ZH w h count bm nb f) : h ≠ bm := fun e => by
  obtain ⟨D, ⟨es, clock, hb, _⟩, _⟩ := z.map.own
  have := z.row
  rw [e, hb] at this
  cases this
theorem ZH.ext (z : ZH w h count bm nb f) (hx : Ext w w') : ZH w' h count bm nb f :=
  ⟨(hx.block _ z.lt).trans z.row, z.map.ext hx, z.rng, fun k a ha => ⟨(z.each k a ha).1.ext hx, (z.each k a ha).2⟩, z.cnt⟩
theorem ZH.cells (z : ZH w h count bm nb f) : w.cell? ⟨h, 0, none⟩ = some (.pointer (some ⟨h, 0, none⟩)) ∧ w.cell? ⟨h, 1, none⟩ = some (.int .i64 (count : Int)) ∧ w.cell? ⟨h, 2, none⟩ = some (.map (some bm)) :=
  ⟨cell_of_row w h 0 _ _ _ z.row, cell_of_row w h 1 _ _ _ z.row, cell_of_row w h 2 _ _ _ z.row⟩
end
end
section
open Go Go.RowKit Go.Shelf
attribute [local go_sem] Oper.semAt_some
theorem ZH.mod {w w' : World} {h count bm nb : Nat} {f : Int → Option Lst} {F : Nat → Prop} (z : ZH w h count bm nb f) (hm : Mod F w w') (h1 : ¬ F h) (h2 : ¬ F bm) (h3 : ∀ k a, f k = some a → Off F a.A) : ZH w' h count bm nb f :=
  ⟨heap_mod z.row hm h1, z.map.mod hm h2, z.rng, fun k a ha => ⟨By.mod (z.each k a ha).1 hm (h3 k a ha), (z.each k a ha).2⟩, z.cnt⟩
end
section
open Go Go.RowKit Go.Shelf
attribute [local go_sem] Oper.semAt_some
end
section
open Go Go.RowKit Go.Maps
section
variable {w w' : World} {h count bm nb : Nat} {f : Int → Option Lst}
theorem ZH.put (z : ZH w h count bm nb f) {w1 w2 : World} {k : Int} {a : Lst} (hk : 0 ≤ k ∧ k < (count : Int)) (hx : Ext w w1) (hb : By w1 a.A a.n a.c a.l) (hn : a.n ≤ 80) (hfr : ∀ p, a.A = some p → w.heap.size ≤ p.block) (hm : MapZ w2 bm (nb + 1) (updZ f k (some a))) (ht : w1.mapTurned w2 bm) :
    ZH w2 h count bm (nb + 1) (updZ f k (some a)) := by
  have hmo := turned_mod ht
  have hbm := z.map.lt
  refine ⟨heap_mod ((z.ext hx).row) hmo z.ne, hm, fun j hj => ?_, fun j b hjb => ?_, z.cnt⟩
  · unfold updZ at hj
    split at hj
    · rename_i e; rw [e]; exact hk
    · exact z.rng j hj
  · unfold updZ at hjb
    split at hjb
    · injection hjb with hjb
      subst hjb
      have hne : ∀ p, a.A = some p → p.block ≠ bm := fun p hp => by have := hfr p hp; omega
      exact ⟨By.mod hb hmo fun p hp e => hne p hp e, hn, hne⟩
    · obtain ⟨h1, h2, h3⟩ := z.each j b hjb
      exact ⟨By.mod (h1.ext hx) hmo fun p hp e => h3 p hp e, h2, h3⟩
theorem ZH.drop (z : ZH w h count bm nb f) {w2 : World} {k : Int} (hm : MapZ w2 bm nb (updZ f k none)) (ht : w.mapTurned w2 bm) : ZH w2 h count bm nb (updZ f k none) := by
  have hmo := turned_mod ht
  refine ⟨heap_mod z.row hmo z.ne, hm, fun j hj => ?_, fun j b hjb => ?_, z.cnt⟩
  · unfold updZ at hj
    split at hj
    · cases hj
    · exact z.rng j hj
  · unfold updZ at hjb
    split at hjb
    · cases hjb
    · obtain ⟨h1, h2, h3⟩ := z.each j b hjb
      exact ⟨By.mod h1 hmo fun p hp e => h3 p hp e, h2, h3⟩
end
end
section
open Go Go.RowKit Go.Maps
section
variable {w : World} {p : Option Addr}
end
end
section
open Go Go.RowKit
structure ShAt (w : World) (g d : Nat) (r inc : Int) (s : ShM) : Prop where
  row : w.heap[g]? = some (.cells #[.pointer (some ⟨g, 0, none⟩), .pointer (some ⟨d, 0, none⟩), .int .i64 r, .int .i64 inc, .int .i64 (s.ix : Int), .int .i64 (s.ar : Int), .int .i64 (s.ct : Int)] 108 (0, 0))
section
variable {w w' : World} {g d : Nat} {r inc : Int} {s : ShM}
theorem ShAt.lt (h : ShAt w g d r inc s) : g < w.heap.size := (Array.getElem?_eq_some_iff.1 h.row).1
theorem ShAt.cells (h : ShAt w g d r inc s) : w.cell? ⟨g, 0, none⟩ = some (.pointer (some ⟨g, 0, none⟩)) ∧ w.cell? ⟨g, 1, none⟩ = some (.pointer (some ⟨d, 0, none⟩)) ∧ w.cell? ⟨g, 2, none⟩ = some (.int .i64 r) ∧ w.cell? ⟨g, 3, none⟩ = some (.int .i64 inc) ∧ w.cell? ⟨g, 4, none⟩ = some (.int .i64 (s.ix : Int)) ∧ w.cell? ⟨g, 5, none⟩ = some (.int .i64 (s.ar : Int)) ∧ w.cell? ⟨g, 6, none⟩ = some (.int .i64 (s.ct : Int)) :=
  ⟨cell_of_row w g 0 _ _ _ h.row, cell_of_row w g 1 _ _ _ h.row, cell_of_row w g 2 _ _ _ h.row, cell_of_row w g 3 _ _ _ h.row, cell_of_row w g 4 _ _ _ h.row, cell_of_row w g 5 _ _ _ h.row, cell_of_row w g 6 _ _ _ h.row⟩
theorem ShAt.ext (h : ShAt w g d r inc s) (hx : Ext w w') : ShAt w' g d r inc s := ⟨(hx.block _ h.lt).trans h.row⟩
theorem ShAt.mod {F : Nat → Prop} (h : ShAt w g d r inc s) (hm : Mod F w w') (hF : ¬ F g) : ShAt w' g d r inc s := ⟨(hm.block g h.lt hF).trans h.row⟩
end
theorem eqlY_nil_some (a : Addr) (w : World) : (binOp .eql 91 (.pointer none) (.pointer (some a))).run Tryz.prog w = .ok (.bool false) w := by
  have h : ∀ d : Nat, (Op.equalIn (d + 1) 91 (.pointer none) (.pointer (some a))).run Tryz.prog w = .ok false w := fun d => by
    simp [Op.equalIn, run_underlying Tryz.underlying91]
  simp only [binOp]
  simp [Op.equal, Op.maxDepth, h 9999]
def UnmadeY (w : World) (p : Option Addr) : Prop := p = none ∨ ∃ d, p = some ⟨d, 0, none⟩ ∧ w.cell? ⟨d, 0, none⟩ = some (.pointer none)
theorem UnmadeY.ext {w w' : World} {p : Option Addr} (h : UnmadeY w p) (hx : Ext w w') : UnmadeY w' p := h.imp id fun ⟨d, e, hc⟩ => ⟨d, e, ext_of_cell hx hc⟩
set_option maxHeartbeats 400000 in
theorem ymade_no (p : Option Addr) (w : World) (h : UnmadeY w p) :
    Calls Tryz.prog 101 #[.pointer p] w fun e w' => e = .returned (.bool false) ∧ w = w' := by
  rcases h with rfl | ⟨d, rfl, h⟩
  · go_enter Tryz.func101, Tryz.ntmps101
    go_wp2
    go_ret
    exact ⟨rfl, rfl⟩
  · have he := eqlY_nil_some
    go_enter Tryz.func101, Tryz.ntmps101
    go_wp2
    go_ret
    exact ⟨rfl, rfl⟩
set_option maxHeartbeats 400000 in
theorem ywithin_of (a b c : Int) (w : World) : Calls Tryz.prog 95 #[.int .i64 a, .int .i64 b, .int .i64 c] w fun e w' => e = .returned (.bool (inI a b c)) ∧ w = w' := by
  by_cases h : a ≤ b
  · have hi : inI a b c = decide (b ≤ c) := by unfold inI; rw [decide_eq_true h, Bool.true_and]
    rw [hi]
    clear hi
    go_enter Tryz.func95, Tryz.ntmps95
    go_wp2_with fail
    go_ret
    exact ⟨rfl, rfl⟩
  · have hi : inI a b c = false := by unfold inI; rw [decide_eq_false h, Bool.false_and]
    rw [hi]
    clear hi
    go_enter Tryz.func95, Tryz.ntmps95
    go_wp2_with fail
    go_ret
    exact ⟨rfl, rfl⟩
theorem inI_iff {a b c : Int} : inI a b c = true ↔ a ≤ b ∧ b ≤ c := by unfold inI; simp
end
section
structure WtY (m0 m : DM) (pw : Int) (Z : List (Nat × List Nat)) : Prop where
  b : CB m Z
  dead : m.dead = false
  power : m.power = pw
  rest : m.rest = m0.rest
  lost : m.lost = m0.lost
section
variable {m0 m : DM} {pw : Int} {Z : List (Nat × List Nat)}
theorem WtY.up (h : WtY m0 m pw Z) : m.up = true := by unfold DM.up; rw [h.b.down, h.dead]; rfl
theorem WtY.has (h : WtY m0 m pw Z) {s : Nat} (hs : s < 156) : m.has (s : Int) = true := DM.has_iff.2 ⟨by omega, by rw [h.b.size]; omega⟩
theorem WtY.write (h : WtY m0 m pw Z) (hp : pw ≠ 0) {s : Nat} {L : List Nat} (hs : s < 156) (hL : Sect L) : ∃ m', m.write (s : Int) L = (0, m') ∧ WtY m0 m' (lessP pw) (Z ++ [(s, L)]) := by
  have hok := DM.write_ok h.b.ok (s : Int) hL.2
  have e : m.write (s : Int) L = (0, { m with power := lessP pw, waits := Z ++ [(s, L)] }) := by
    unfold DM.write
    rw [if_neg (by rw [h.up]; simp), if_neg (by rw [h.has hs, hL.1]; simp), if_neg (by rw [h.power]; exact hp), h.power, h.b.waits, Int.toNat_natCast]
  rw [e] at hok
  exact ⟨_, e, ⟨hok, h.b.size, rfl, h.b.down⟩, h.dead, rfl, h.rest, h.lost⟩
theorem WtY.write0 (h : WtY m0 m 0 Z) {s : Nat} {L : List Nat} (hs : s < 156) (hL : Sect L) : (m.write (s : Int) L).1 = 5 := by
  unfold DM.write
  rw [if_neg (by rw [h.up]; simp), if_neg (by rw [h.has hs, hL.1]; simp), if_pos h.power]
theorem WtY.flush (h : WtY m0 m pw Z) (hp : pw ≠ 0) : ∃ m', m.flush = (0, m') ∧ CD m' (lessP pw) ∧ ∀ t, m'.hold t = (lastW Z t).getD (m0.hold t) := by
  have hok := DM.flush_ok h.b.ok
  have e : m.flush = (0, { ({ m with power := lessP pw } : DM).comes Z with waits := [] }) := by
    unfold DM.flush
    rw [if_neg (by rw [h.up]; simp), if_neg (by rw [h.power]; exact hp), h.power, h.b.waits]
  rw [e] at hok
  obtain ⟨w1, w2, w3, w4⟩ := DM.comes_waits Z ({ m with power := lessP pw } : DM)
  have hp1 : -1 ≤ lessP pw := by have := lessP_le h.b.ok.power; rw [h.power] at this; exact this
  have hok2 : ({ m with power := lessP pw } : DM).Ok := ⟨h.b.ok.meant, h.b.ok.lost, h.b.ok.rests, h.b.ok.means, h.b.ok.waits, hp1⟩
  refine ⟨_, e, ⟨⟨hok, ?_, rfl, w2.trans h.b.down⟩, w3.trans h.dead, w4⟩, fun t => ?_⟩
  · show (DM.comes _ _).size = 156
    rw [DM.comes_size]
    exact h.b.size
  · show (DM.comes _ _).hold t = _
    rw [hold_comes hok2 (fun x hx => (h.b.ok.waits x (by rw [h.b.waits]; exact hx)).1)]
    congr 1
    unfold DM.hold
    show (if m.lost.getD t false = true then [] else m.rest.getD t []) = _
    rw [h.rest, h.lost]
theorem WtY.two (h : WtY m0 m pw Z) (hp : -1 ≤ pw) {s : Nat} {L : List Nat} (hs : s + 1 < 156) (h1 : Sect (L.take 64)) (h2 : Sect (L.drop 64)) :
    (∃ m' q, wrsE (0, m) (s : Int) L 2 = (0, m') ∧ -1 ≤ q ∧ (pw = -1 → q = -1) ∧ WtY m0 m' q (Z ++ [(s, L.take 64), (s + 1, L.drop 64)])) ∨ (pw ≠ -1 ∧ (wrsE (0, m) (s : Int) L 2).1 = 5) := by
  have e0 : (L.drop (64 * 0)).take 64 = L.take 64 := by rw [Nat.mul_zero, List.drop_zero]
  have e1 : (L.drop (64 * 1)).take 64 = L.drop 64 := by rw [Nat.mul_one, List.take_of_length_le (by rw [h2.1]; exact Nat.le_refl _)]
  have w1 : wrsE (0, m) (s : Int) L 1 = m.write (s : Int) (L.take 64) := by
    show unE (0, m) _ = _
    unfold unE
    rw [if_pos rfl]
    simp only
    rw [e0, Int.natCast_zero, Int.add_zero]
  have w2 : wrsE (0, m) (s : Int) L 2 = unE (m.write (s : Int) (L.take 64)) fun m => m.write ((s + 1 : Nat) : Int) (L.drop 64) := by
    show unE (wrsE (0, m) (s : Int) L 1) _ = _
    rw [w1, e1]
    rfl
  have lp : ∀ q : Int, -1 ≤ q → -1 ≤ lessP q ∧ (q = -1 → lessP q = -1) := fun q hq => by unfold lessP; split <;> omega
  rw [w2]
  by_cases hp0 : pw = 0
  · subst hp0
    right
    have := h.write0 (s := s) (by omega) h1
    exact ⟨by omega, by unfold unE; rw [if_neg (by rw [this]; omega)]; exact this⟩
  · obtain ⟨m1, x1, y1⟩ := h.write hp0 (s := s) (by omega) h1
    obtain ⟨l1, l2⟩ := lp pw hp
    rw [x1]
    unfold unE
    rw [if_pos rfl]
    by_cases hq0 : lessP pw = 0
    · rw [hq0] at y1
      right
      exact ⟨fun e => by rw [l2 e] at hq0; omega, y1.write0 (s := s + 1) hs h2⟩
    · obtain ⟨m2, x2, y2⟩ := y1.write hq0 (s := s + 1) hs h2
      obtain ⟨l3, l4⟩ := lp _ l1
      left
      exact ⟨m2, _, x2, l3, fun e => l4 (l2 e), by rw [List.append_assoc] at y2; exact y2⟩
end
theorem mayC {r inc : Int} {s : ShM} {k : Nat} (hr : 0 ≤ r ∧ r ≤ 6) (hc : 1 ≤ inc ∧ inc ≤ 1099511627776) (hs : manOk s = true) (hk : k < 8) : mayB r 5 ((8 * s.ar + k : Nat) : Int) (s.ix : Int) inc = true := by
  have := manOk_iff.1 hs
  rw [mayB_iff]
  have h16 : plc 5 = 16 := rfl
  omega
theorem sealY {r inc : Int} {s : ShM} {k : Nat} {c : List Nat} (hr : 0 ≤ r ∧ r ≤ 6) (hc : 1 ≤ inc ∧ inc ≤ 1099511627776) (hs : manOk s = true) (hk : k < 8) (hn : c.length ≤ 80) : sealE r 5 ((8 * s.ar + k : Nat) : Int) (s.ix : Int) inc (prZL (s.ct : Int) c).length 2 = 0 := by
  refine sealE_yes (by decide) (mayC hr hc hs hk) ?_
  rw [roomN_two]
  unfold prZL
  split
  · rw [List.length_cons]; omega
  · simp
theorem prZL_lt {s : ShM} {c : List Nat} (hs : manOk s = true) (hb : ∀ x ∈ c, x < 256) : ∀ x ∈ prZL (s.ct : Int) c, x < 256 := by
  have := manOk_iff.1 hs
  intro x hx
  unfold prZL at hx
  split at hx
  · rcases List.mem_cons.1 hx with h | h
    · subst h; simp; omega
    · exact hb x h
  · cases hx
theorem frmY_sects {r inc : Int} {s : ShM} {k : Nat} {c : List Nat} (hr : 0 ≤ r ∧ r ≤ 6) (hc : 1 ≤ inc ∧ inc ≤ 1099511627776) (hs : manOk s = true) (hk : k < 8) (hn : c.length ≤ 80) (hb : ∀ x ∈ c, x < 256) :
    Sect ((frmY r inc s k c).take 64) ∧ Sect ((frmY r inc s k c).drop 64) ∧ pair2 ((frmY r inc s k c).take 64) ((frmY r inc s k c).drop 64) = frmY r inc s k c := by
  have hE := sealY hr hc hs hk hn
  have hl : (frmY r inc s k c).length = 128 := by unfold frmY; rw [(sealL_len hE).1]; rfl
  have hb : ∀ z ∈ frmY r inc s k c, z < 256 := sealL_lt (prZL_lt hs hb)
  have h1 : ((frmY r inc s k c).take 64).length = 64 := by rw [List.length_take, hl]; rfl
  have h2 : ((frmY r inc s k c).drop 64).length = 64 := by rw [List.length_drop, hl]
  refine ⟨⟨h1, fun z hz => hb z (List.mem_of_mem_take hz)⟩, ⟨h2, fun z hz => hb z (List.mem_of_mem_drop hz)⟩, ?_⟩
  unfold pair2
  rw [if_neg (by
    rintro (h | h)
    · rw [h] at h1; cases h1
    · rw [h] at h2; cases h2), List.take_append_drop]
theorem frmY_back {r inc : Int} {s : ShM} {k : Nat} {c : List Nat} (hr : 0 ≤ r ∧ r ≤ 6) (hc : 1 ≤ inc ∧ inc ≤ 1099511627776) (hs : manOk s = true) (hf : fitsC k s.ct c.length = true) :
    okC r s k (frmY r inc s k c) = true ∧ bytC r s k (frmY r inc s k c) = c := by
  have hm := manOk_iff.1 hs
  have hf' := fitsC_iff.1 hf
  obtain ⟨h1, _, h3, _, _, _, h4, _⟩ := seal_mine (sealY (k := k) hr hc hs (by omega) (show c.length ≤ 80 by omega))
  have hb : bdZ (s.ct : Int) c = true := bdZ_iff.2 (by omega)
  have hp := paZ_back hb
  have e : okC r s k (frmY r inc s k c) = true := by
    unfold okC frmY
    rw [h1, h3, hp, Int.toNat_natCast]
    exact decide_eq_true ⟨rfl, Int.ofNat.inj h4, rfl, rfl, hf⟩
  refine ⟨e, ?_⟩
  unfold bytC
  rw [if_pos e]
  unfold frmY
  rw [h3, hp]
def prsY (r inc : Int) (s : ShM) : Nat → List (List Nat) → List (Nat × List Nat)
  | _, [] => []
  | k, c :: l => [(sC (8 * s.ar + k), (frmY r inc s k c).take 64), (sC (8 * s.ar + k) + 1, (frmY r inc s k c).drop 64)] ++ prsY r inc s (k + 1) l
theorem prsY_low {r inc : Int} {s : ShM} : ∀ (l : List (List Nat)) (k : Nat), ∀ x ∈ prsY r inc s k l, sC (8 * s.ar + k) ≤ x.1 ∧ x.1 < sC (8 * s.ar + k + l.length)
  | [], k, x, h => by cases h
  | c :: l, k, x, h => by
    rcases List.mem_append.1 h with h | h
    · simp only [List.mem_cons, List.not_mem_nil, or_false] at h
      rw [List.length_cons]
      rcases h with h | h <;> (subst h; dsimp only; unfold sC; omega)
    · have := prsY_low l (k + 1) x h
      rw [List.length_cons]
      unfold sC at *
      omega
theorem lastW_append (a : List (Nat × List Nat)) : ∀ (b : List (Nat × List Nat)) (t : Nat), lastW (a ++ b) t = (lastW b t).or (lastW a t) := by
  intro b t
  induction a with
  | nil =>
    show lastW b t = (lastW b t).or none
    cases lastW b t <;> rfl
  | cons x a ih =>
    show (lastW (a ++ b) t).or _ = (lastW b t).or ((lastW a t).or _)
    rw [ih]
    cases lastW b t <;> rfl
theorem prsY_get {r inc : Int} {s : ShM} : ∀ (l : List (List Nat)) (k j : Nat), j < l.length → lastW (prsY r inc s k l) (sC (8 * s.ar + (k + j))) = some ((frmY r inc s (k + j) (l.getD j [])).take 64) ∧ lastW (prsY r inc s k l) (sC (8 * s.ar + (k + j)) + 1) = some ((frmY r inc s (k + j) (l.getD j [])).drop 64)
  | [], k, j, h => by cases h
  | c :: l, k, 0, _ => by
    have hn : ∀ d, d ≤ 1 → lastW (prsY r inc s (k + 1) l) (sC (8 * s.ar + (k + 0)) + d) = none := fun d hd => lastW_none fun x hx e => by
      have := prsY_low l (k + 1) x hx
      unfold sC at *
      omega
    have h0 : lastW (prsY r inc s (k + 1) l) (sC (8 * s.ar + (k + 0))) = none := hn 0 (by omega)
    have h1 := hn 1 (by omega)
    have e : ∀ t, lastW (prsY r inc s k (c :: l)) t = (lastW (prsY r inc s (k + 1) l) t).or (lastW [(sC (8 * s.ar + k), (frmY r inc s k c).take 64), (sC (8 * s.ar + k) + 1, (frmY r inc s k c).drop 64)] t) := fun t => lastW_append _ _ t
    rw [e, e, h0, h1]
    simp [lastW]
  | c :: l, k, j + 1, h => by
    obtain ⟨h1, h2⟩ := prsY_get (r := r) (inc := inc) (s := s) l (k + 1) j (by simpa using h)
    rw [show k + 1 + j = k + (j + 1) from by omega] at h1 h2
    have e : ∀ t, lastW (prsY r inc s k (c :: l)) t = (lastW (prsY r inc s (k + 1) l) t).or (lastW [(sC (8 * s.ar + k), (frmY r inc s k c).take 64), (sC (8 * s.ar + k) + 1, (frmY r inc s k c).drop 64)] t) := fun t => lastW_append _ _ t
    rw [e, e, h1, h2]
    exact ⟨rfl, rfl⟩
section
variable {r inc : Int} {s : ShM} {m : DM} {pw : Int}
def arT (a t : Nat) : Prop := sC (8 * a) ≤ t ∧ t < sC (8 * a + 8)
end
end
section
section
variable {m : DM} {pw : Int} {r : Int} {v : Nat} {b : List Nat}
end
end
section
def DM.kh (m : DM) (p : Nat) : List Nat := pair2 (m.hold (sC p)) (m.hold (sC p + 1))
theorem CD.kb {m : DM} {pw : Int} (h : CD m pw) {p : Nat} (hp : p < 16) : m.kb (p : Int) = m.kh p := by
  have := sC_lt hp
  unfold DM.kb DM.kh
  rw [first5 hp, h.read (by omega), show ((sC p : Nat) : Int) + 1 = ((sC p + 1 : Nat) : Int) from by omega, h.read this]
theorem kh_same {m m' : DM} {p : Nat} (h0 : m'.hold (sC p) = m.hold (sC p)) (h1 : m'.hold (sC p + 1) = m.hold (sC p + 1)) : m'.kh p = m.kh p := by unfold DM.kh; rw [h0, h1]
structure HeldY (m : DM) (r : Int) (s : ShM) (b : List Nat) : Prop where
  ok : (s = {} ∧ b = []) ∨ (manOk s = true ∧ s.ct = chunkN b.length)
  most : b.length ≤ 640
  at_ : ∀ k, k < s.ct → ∃ inc, 1 ≤ inc ∧ inc ≤ 1099511627776 ∧ m.kh (8 * s.ar + k) = frmY r inc s k (chunkL b k)
theorem HeldY.ct8 {m : DM} {r : Int} {s : ShM} {b : List Nat} (h : HeldY m r s b) : s.ct ≤ 8 ∧ s.ar ≤ 1 := by
  rcases h.ok with ⟨rfl, _⟩ | ⟨h1, _⟩
  · exact ⟨Nat.zero_le _, Nat.zero_le _⟩
  · have := manOk_iff.1 h1
    omega
theorem HeldY.same {m m' : DM} {r : Int} {s : ShM} {b : List Nat} (h : HeldY m r s b) (hh : ∀ t, arT s.ar t → m'.hold t = m.hold t) : HeldY m' r s b :=
  ⟨h.ok, h.most, fun k hk => by
    obtain ⟨inc, h1, h2, h3⟩ := h.at_ k hk
    have := h.ct8
    exact ⟨inc, h1, h2, (kh_same (hh _ (by unfold arT sC; omega)) (hh _ (by unfold arT sC; omega))).trans h3⟩⟩
section
variable {m : DM} {pw : Int} {r : Int} {s : ShM} {b : List Nat}
theorem HeldY.good (h : HeldY m r s b) (hd : CD m pw) (hr : 0 ≤ r ∧ r ≤ 6) {k : Nat} (hk : k < s.ct) : m.chB r s k = true ∧ m.chL r s k = chunkL b k := by
  have h8 := h.ct8
  obtain ⟨inc, h1, h2, h3⟩ := h.at_ k hk
  rcases h.ok with ⟨rfl, _⟩ | ⟨hs, hc⟩
  · exact absurd hk (Nat.not_lt_zero _)
  have hf : fitsC k s.ct (chunkL b k).length = true := by rw [hc] at hk ⊢; exact split_fits h.most hk
  obtain ⟨b1, b2⟩ := frmY_back hr ⟨h1, h2⟩ hs hf
  unfold DM.chB DM.chL
  rw [hd.kb (by omega), h3]
  exact ⟨b1, b2⟩
theorem HeldY.unhurt (h : HeldY m r s b) (hd : CD m pw) (hr : 0 ≤ r ∧ r ≤ 6) : m.hurtK r s s.ct = [] := hurtK_nil.2 fun _ hk => (h.good hd hr hk).1
theorem HeldY.cat (h : HeldY m r s b) (hd : CD m pw) (hr : 0 ≤ r ∧ r ≤ 6) : m.catK r s s.ct = b := by
  have e : m.catK r s s.ct = ((List.range s.ct).map (chunkL b)).flatten := by
    unfold DM.catK
    congr 1
    exact List.map_congr_left fun k hk => (h.good hd hr (List.mem_range.1 hk)).2
  rw [e]
  rcases h.ok with ⟨rfl, rfl⟩ | ⟨_, hc⟩
  · rfl
  · rw [hc]
    exact split_flat h.most
end
theorem HeldY.kind {m : DM} {r : Int} {s : ShM} {b : List Nat} (h : HeldY m r s b) : s = {} ∨ manOk s = true := h.ok.imp And.left And.left
theorem cellY_far {a t : Nat} (h : arT a t) : t ≠ secV 2 0 ∧ t ≠ secV 2 1 := by
  have h0 : secV 2 0 = 2 := rfl
  have h1 : secV 2 1 = 3 := rfl
  unfold arT sC at h
  omega
def cellT (t : Nat) : Prop := t = secV 2 0 ∨ t = secV 2 1
theorem cell_first {p : Int} (h : p = 0 ∨ p = 1) : ∃ t : Nat, firstS 2 p = (t : Int) ∧ cellT t := by
  rcases h with rfl | rfl
  · exact ⟨secV 2 0, secV_first (.inr rfl) (p := 0) (by omega), .inl rfl⟩
  · exact ⟨secV 2 1, secV_first (.inr rfl) (p := 1) (by omega), .inr rfl⟩
theorem Tch.at_ {m : DM} {pw : Int} (hd : CD m pw) (T : Nat → Prop) : Tch m T m.hold := ⟨hd.b.ok, hd.b.size, hd.b.down, (fun z hz => by rw [hd.b.waits] at hz; cases hz), fun _ _ => rfl⟩
theorem Tch.store {m : DM} {pw : Int} (hd : CD m pw) (r c : Int) {body : List Nat} (hb : ∀ x ∈ body, x < 256) : Tch (m.store r 2 c body).2 cellT m.hold := by
  have h0 := Tch.at_ hd cellT
  unfold DM.store
  split
  · exact h0
  · have hf : firstP r 2 (m.cb 2 0) (m.cb 2 1) = 0 ∨ firstP r 2 (m.cb 2 0) (m.cb 2 1) = 1 := by unfold firstP; split <;> simp
    obtain ⟨t, ht, hT⟩ := cell_first hf
    obtain ⟨u, hu, hU⟩ := cell_first (p := otherP (firstP r 2 (m.cb 2 0) (m.cb 2 1))) (by unfold otherP; omega)
    unfold DM.puts2
    rw [ht, hu]
    have h1 := h0.putC hT (L := sealC r 2 (firstP r 2 (m.cb 2 0) (m.cb 2 1)) (m.loadV r 2 + 1) c.toNat body) (sealL_lt hb)
    split
    · exact h1
    · exact h1.putC hU (sealL_lt hb)
section
variable {m : DM} {pw : Int} {r inc : Int} {s : ShM} {v : Nat} {b : List Nat}
theorem HeldY.cell (h : HeldY m r s b) {m' : DM} (hh : ∀ t, ¬ cellT t → m'.hold t = m.hold t) : HeldY m' r s b := h.same fun t ht => hh t fun hc => by
  have := cellY_far ht
  unfold cellT at hc
  omega
theorem HeldY.put (hs : manOk s = true) (hb : b.length ≤ 640) (hlt : ∀ x ∈ b, x < 256) (hct : s.ct = chunkN b.length) (hr : 0 ≤ r ∧ r ≤ 6) (hc : 1 ≤ inc ∧ inc ≤ 1099511627776) {h0 : Nat → List Nat} (hh : ∀ t, m.hold t = (lastW (prsY r inc s 0 (splitL b)) t).getD (h0 t)) : HeldY m r s b := by
  refine ⟨.inr ⟨hs, hct⟩, hb, fun k hk => ⟨inc, hc.1, hc.2, ?_⟩⟩
  have hm := manOk_iff.1 hs
  have hkc : k < chunkN b.length := by omega
  obtain ⟨g1, g2⟩ := prsY_get (r := r) (inc := inc) (s := s) (splitL b) 0 k (by rw [splitL_len]; omega)
  have hg : (splitL b).getD k [] = chunkL b k := by rw [List.getD_eq_getElem?_getD, splitL_get hkc]; rfl
  rw [Nat.zero_add, hg] at g1 g2
  obtain ⟨_, _, sp⟩ := frmY_sects (r := r) (inc := inc) (s := s) (k := k) (c := chunkL b k) hr hc hs (by omega) (by rw [chunkL_len]; omega) fun x hx => hlt x (List.mem_of_mem_drop (List.mem_of_mem_take hx))
  unfold DM.kh
  rw [hh, hh, g1, g2]
  exact sp
end
end
section
open Go Go.RowKit
theorem heap_extE {w w' : World} {g : Nat} {o : Obj} (h : w.heap[g]? = some o) (k : Ext w w') : w'.heap[g]? = some o := (k.block g (Array.getElem?_eq_some_iff.1 h).1).trans h
end
section
open Go Go.RowKit
structure RdS (w : World) (g : Nat) (A : Option Addr) (n c : Nat) (l : List Nat) (a : Nat) (sh : Bool) : Prop where
  row : w.heap[g]? = some (.cells #[.slice A n c, .int .i64 (a : Int), .bool sh] 342 (0, 0))
  by_ : By w A n c l
  off : 0 < n → ∀ p, A = some p → p.block ≠ g
  le : a ≤ l.length
  most : n ≤ 9000000000000000000
  laid : Laid w
section
variable {w w' : World} {g n c a : Nat} {A : Option Addr} {l : List Nat} {sh : Bool}
theorem RdS.lt (h : RdS w g A n c l a sh) : g < w.heap.size := (Array.getElem?_eq_some_iff.1 h.row).1
theorem by_mod {G : Nat → Prop} (h : By w A n c l) (k : Mod G w w') (ho : 0 < n → ∀ p, A = some p → ¬ G p.block) : By w' A n c l := by
  by_cases h0 : 0 < n
  · exact By.mod h k fun p hp => ho h0 p hp
  · refine ⟨h.len, h.cap, h.most, ⟨h.rd.1, fun hn => ?_⟩, Bs.nil_ h⟩
    have := h.len
    omega
theorem laid_mod {G : Nat → Prop} (h : Laid w) (k : Mod G w w') (hg : ¬ G 4) : Laid w' := by
  have hlt : 4 < w.heap.size := World.block_lt_of_cell? w _ h.1
  have hb := k.block _ hlt hg
  unfold Laid at h ⊢
  obtain ⟨h0, h1, h2, h3, h4, h5, h6⟩ := h
  exact ⟨(World.cell?_of_block (a := ⟨_, _, none⟩) hb).trans h0, (World.cell?_of_block (a := ⟨_, _, none⟩) hb).trans h1, (World.cell?_of_block (a := ⟨_, _, none⟩) hb).trans h2, (World.cell?_of_block (a := ⟨_, _, none⟩) hb).trans h3, (World.cell?_of_block (a := ⟨_, _, none⟩) hb).trans h4, (World.cell?_of_block (a := ⟨_, _, none⟩) hb).trans h5, (World.cell?_of_block (a := ⟨_, _, none⟩) hb).trans h6⟩
theorem RdS.glob (h : RdS w g A n c l a sh) : 4 ≠ g := by
  intro e
  have h1 := h.laid.1
  have h2 := cell_of_row w g 0 _ _ _ h.row
  rw [← e] at h2
  have h3 := h1.symm.trans h2
  simp at h3
theorem RdS.step {a' : Nat} {sh' : Bool} (h : RdS w g A n c l a sh) (k : Mod (fun i => i = g) w w') (hr : w'.heap[g]? = some (.cells #[.slice A n c, .int .i64 (a' : Int), .bool sh'] 342 (0, 0))) (hle : a' ≤ l.length) : RdS w' g A n c l a' sh' :=
  ⟨hr, by_mod h.by_ k h.off, h.off, hle, h.most, laid_mod h.laid k h.glob⟩
theorem RdS.ext (h : RdS w g A n c l a sh) (k : Ext w w') : RdS w' g A n c l a sh :=
  ⟨(k.block g h.lt).trans h.row, h.by_.ext k, h.off, h.le, h.most, h.laid.ext k⟩
theorem RdS.mod {G : Nat → Prop} (h : RdS w g A n c l a sh) (k : Mod G w w') (hG : ∀ i, G i → w.heap.size ≤ i) : RdS w' g A n c l a sh := h.ext (k.to_ext hG)
end
theorem rdr_set {w : World} {g i : Nat} {cs : Array Value} {t : TypeId} (h : w.heap[g]? = some (.cells cs t (0, 0))) (v : Value) : (w.setCell ⟨g, i, none⟩ v).heap[g]? = some (.cells (cs.setIfInBounds i v) t (0, 0)) := by
  rw [setCell_eq_setRow w g i _ _ _ v h]
  exact setRow_heap w g _ (cs.setIfInBounds i v) _ _ h
theorem mod_set {w : World} (g i : Nat) (v : Value) : Mod (fun k => k = g) w (w.setCell ⟨g, i, none⟩ v) := Mod.setCell (F := fun k => k = g) (Mod.refl (fun k => k = g) w) (p := ⟨g, i, none⟩) (.inl rfl) v
end
end Go.Proofs.YtmbmpabjclkhlaaGreatDoor
