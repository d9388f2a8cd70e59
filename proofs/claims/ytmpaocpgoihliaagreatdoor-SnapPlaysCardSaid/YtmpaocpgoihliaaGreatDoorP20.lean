/-
  Lists of acts of the cells' and metadata's great statements (a kind; a number and bytes, or a ballot; an act of ghost's) that came in, opened.
-/
import Derived.Test.YtmpaocpgoihliaaGreatDoorP00
import Derived.Test.YtmpaocpgoihliaaGreatDoorP01
import Derived.Test.YtmpaocpgoihliaaGreatDoorP05
import Derived.Test.YtmpaocpgoihliaaGreatDoorP06
import Derived.Test.YtmpaocpgoihliaaGreatDoorP11
import Derived.Test.YtmpaocpgoihliaaGreatDoorP19
import Derived.Lib.Hide
import Derived.Laws.OwnMore
import Derived.Deep.RegionHeld3
namespace Go.Proofs.YtmpaocpgoihliaaGreatDoor
set_option maxRecDepth 100000
section
open Go Go.RowKit Go.ChangeShapes Go.WideShapes Go.Deep
structure Act7 where
 k : Nat := 0
 num : Int := 0
 bA : Option Addr := none
 bn : Nat := 0
 bc : Nat := 0
 bl : List Nat := []
 o : Act6 := {}
instance : Inhabited Act7 := ⟨{}⟩
def Act7.cells (x : Act7) : List Value := [.int .u8 (x.k : Int), .int .i64 x.num, .slice x.bA x.bn x.bc, .bool x.o.sl, .int .i64 x.o.ta, .int .i64 x.o.tb, .int .i64 x.o.tc, .int .i64 x.o.td, .int .i64 x.o.te, .slice x.o.bA x.o.bn x.o.bc, .int .u8 (x.o.act.kind : Int), .int .i64 x.o.act.sec, .int .i64 x.o.act.num, .slice x.o.act.bA x.o.act.bn x.o.act.bc, .slice x.o.act.kA x.o.act.kn x.o.act.kc]
structure Act7.Ok (x : Act7) (w : World) (B : Nat) : Prop where
 lt : x.k < 256
 body : Bs w B x.bA x.bn x.bc x.bl
 o : x.o.Ok w B
structure Act8 where
 k : Nat := 0
 x : Int := 0
 y : Int := 0
 o : Act6 := {}
instance : Inhabited Act8 := ⟨{}⟩
section
variable {H : Type} {enc : TypeId × Value → H} {P : Program} {w : World} {base : Nat} {spare : Nat → Bool} {held : Bool}
structure Act7Ty (P : Program) (e e6 tq tt ta t8 ti tb tk e8 eb : TypeId) : Prop where
 fs : ∃ f0 f1 f2 f3 : Field, P.underlying e = some (.struct #[f0, f1, f2, f3]) ∧ (f0.type = t8 ∧ f0.offset = 0) ∧ (f1.type = ti ∧ f1.offset = 1) ∧ (f2.type = tb ∧ f2.offset = 2) ∧ (f3.type = e6 ∧ f3.offset = 3)
 cells : P.cellsOf e = 15
 act : Act6Ty P e6 tq tt ta t8 ti tb tk e8 eb
theorem trod_act7 {e e6 tq tt ta t8 ti tb tk e8 eb : TypeId} (T : Act7Ty P e e6 tq tt ta t8 ti tb tk e8 eb) (hsp : ∀ g, spare g = true) {fuel : Nat} {cs : List Value} {x : DataW H × List MemPlace} (h : DataW.trod enc P w base spare held fuel e cs = some x) : ∃ a : Act7, cs = a.cells ∧ a.Ok w w.heap.size := by
 obtain ⟨f0, f1, f2, f3, hs, ⟨y0, o0⟩, ⟨y1, o1⟩, ⟨y2, o2⟩, y3, o3⟩ := T.fs
 obtain ⟨xs, n, _, _, hcl, hxl, hg⟩ := DataW.trod_struct hs h
 rw [T.cells] at hcl
 match cs, hcl, xs, hxl with
 | [c0, c1, c2, c3, c4, c5, c6, c7, c8, c9, c10, c11, c12, c13, c14], _, [x0, x1, x2, x3], _ =>
  have g0 := hg 0 f0 rfl
  have g1 := hg 1 f1 rfl
  have g2 := hg 2 f2 rfl
  have g3 := hg 3 f3 rfl
  rw [y0, o0, T.act.act.one.1] at g0
  rw [y1, o1, T.act.act.one.2.1] at g1
  rw [y2, o2, T.act.act.one.2.2.1] at g2
  rw [y3, o3, T.act.cells] at g3
  obtain ⟨q, e0, _, hq⟩ := DataW.trod_int T.act.act.u8 (show DataW.trod enc P w base spare held n t8 [c0] = some x0 from g0)
  obtain ⟨a, e1, _, _⟩ := DataW.trod_int T.act.act.i64 (show DataW.trod enc P w base spare held n ti [c1] = some x1 from g1)
  obtain ⟨bA, bn, bc, bl, e2, hb⟩ := trod_bytes T.act.act.bytes.1 T.act.act.bytes.2.1 T.act.act.bytes.2.2 hsp (show DataW.trod enc P w base spare held n tb [c2] = some x2 from g2)
  obtain ⟨y, e3, hy⟩ := trod_act6 T.act hsp (show DataW.trod enc P w base spare held n e6 [c3, c4, c5, c6, c7, c8, c9, c10, c11, c12, c13, c14] = some x3 from g3)
  have hk8 := bounds_u8 hq
  injection e0 with e0 _
  injection e1 with e1 _
  injection e2 with e2 _
  refine ⟨{ k := q.toNat, num := a, bA := bA, bn := bn, bc := bc, bl := bl, o := y }, ?_, ⟨by show q.toNat < 256; omega, hb, hy⟩⟩
  rw [e0, e1, e2, e3]
  show _ = [Value.int .u8 ((q.toNat : Nat) : Int), _, _] ++ y.cells
  rw [Int.toNat_of_nonneg hk8.1]
  rfl
end
end
section
open Go Go.RowKit Go.ChangeShapes Go.WideShapes
theorem sact5_ty : ActTy Tryz.prog 48 5 3 45 46 5 4 :=
 ⟨⟨_, _, _, _, _, Tryz.underlying48, ⟨rfl, rfl⟩, ⟨rfl, rfl⟩, ⟨rfl, rfl⟩, ⟨rfl, rfl⟩, rfl, rfl⟩, by kernel_rfl, ⟨by kernel_rfl, by kernel_rfl, by kernel_rfl, by kernel_rfl, by kernel_rfl⟩, Tryz.underlying5, Tryz.underlying3, ⟨Tryz.underlying45, Tryz.underlying5, by kernel_rfl⟩, ⟨Tryz.underlying46, Tryz.underlying4⟩⟩
theorem sact6_ty : Act6Ty Tryz.prog 50 4 44 48 5 3 45 46 5 4 :=
 ⟨⟨_, _, _, _, Tryz.underlying50, ⟨rfl, rfl⟩, ⟨rfl, rfl⟩, ⟨rfl, rfl⟩, rfl, rfl⟩, ⟨_, _, _, _, _, Tryz.underlying44, ⟨rfl, rfl⟩, ⟨rfl, rfl⟩, ⟨rfl, rfl⟩, ⟨rfl, rfl⟩, rfl, rfl⟩, by kernel_rfl, by kernel_rfl, by kernel_rfl, Tryz.underlying4, sact5_ty⟩
theorem sact7_ty : Act7Ty Tryz.prog 83 50 4 44 48 5 3 45 46 5 4 :=
 ⟨⟨_, _, _, _, Tryz.underlying83, ⟨rfl, rfl⟩, ⟨rfl, rfl⟩, ⟨rfl, rfl⟩, rfl, rfl⟩, by kernel_rfl, sact6_ty⟩
theorem open_t74 {H : Type} {enc : TypeId × Value → H} {w : World} {base : Nat} {held : Bool} {r : Reach} {b0 : Nat} {v : Value} {d : DataW H} {p : List MemPlace}
 (hv : Value.okWide Tryz.prog w r b0 74 v) (h : DataW.Trod enc Tryz.prog w base (fun _ => true) held 74 v d p) : ∃ (A : Option Addr) (n c : Nat) (l : List Act7), v = .slice A n c ∧ Ls Act7.cells 15 w w.heap.size A n c l ∧ ∀ a ∈ l, a.Ok w w.heap.size :=
 open_list (cells := Act7.cells) (N := 15) (Ok := fun a => a.Ok w w.heap.size) (fun _ => rfl) (by omega) Tryz.underlying74 (by kernel_rfl) (fun h => trod_act7 sact7_ty (fun _ => rfl) h) hv h
end
section
open Go Go.RowKit
structure RHead (w : World) (d gr cr gm cm gl cl : Nat) (pv : Value) (m : DM) : Prop where
 head : w.heap[d]? = some (.cells #[.slice (some ⟨gr, 0, none⟩) m.size cr, .slice (some ⟨gm, 0, none⟩) m.size cm, .slice (some ⟨gl, 0, none⟩) m.size cl, pv, .bool m.down, .bool m.dead, .int .i64 m.power] 65 (0, 0))
 n1 : 1 ≤ m.size ∧ m.size ≤ 1024
section
variable {w w' : World} {d gr cr gm cm gl cl : Nat} {pv : Value} {m : DM} {F : Nat → Prop}
theorem RHead.mod (h : RHead w d gr cr gm cm gl cl pv m) (k : Mod F w w') (hd : ¬ F d) : RHead w' d gr cr gm cm gl cl pv m := ⟨heap_mod h.head k hd, h.n1⟩
theorem RHead.cells (h : RHead w d gr cr gm cm gl cl pv m) :
 (w.cell? ⟨d, 0, none⟩ = some (.slice (some ⟨gr, 0, none⟩) m.size cr) ∧ w.cell? ⟨d, 1, none⟩ = some (.slice (some ⟨gm, 0, none⟩) m.size cm) ∧ w.cell? ⟨d, 2, none⟩ = some (.slice (some ⟨gl, 0, none⟩) m.size cl) ∧ w.cell? ⟨d, 3, none⟩ = some pv ∧ w.cell? ⟨d, 4, none⟩ = some (.bool m.down) ∧ w.cell? ⟨d, 5, none⟩ = some (.bool m.dead) ∧ w.cell? ⟨d, 6, none⟩ = some (.int .i64 m.power)) ∧
  ∀ i, w.frozen? ⟨d, i, none⟩ = false :=
 ⟨⟨cell_of_row w d 0 _ _ _ h.head, cell_of_row w d 1 _ _ _ h.head, cell_of_row w d 2 _ _ _ h.head, cell_of_row w d 3 _ _ _ h.head, cell_of_row w d 4 _ _ _ h.head, cell_of_row w d 5 _ _ _ h.head, cell_of_row w d 6 _ _ _ h.head⟩, fun i => frozen_of_row w d i _ _ h.head⟩
set_option maxHeartbeats 600000 in
theorem rhas_of (h : RHead w d gr cr gm cm gl cl pv m) (s : Int) :
 Calls Tryz.prog 146 #[.pointer (some ⟨d, 0, none⟩), .int .i64 s] w fun e w' => e = .returned (.bool (m.has s)) ∧ w = w' := by
 obtain ⟨⟨c0, _⟩, _⟩ := h.cells
 have HE : Hid (m.has s = (decide (0 ≤ s) && decide (s < (m.size : Int)))) := Lib.hid (by unfold DM.has; rfl)
 clear h
 generalize m.size = n at *
 by_cases h0 : 0 ≤ s
 ·by_cases h1 : s < (n : Int)
  ·go_enter Tryz.func146, Tryz.ntmps146
   go_wp2_with fail
   go_ret
   exact ⟨by rw [HE.out]; simp [h0, h1], rfl⟩
  ·go_enter Tryz.func146, Tryz.ntmps146
   go_wp2_with fail
   go_ret
   exact ⟨by rw [HE.out]; simp [h0, h1], rfl⟩
 ·go_enter Tryz.func146, Tryz.ntmps146
  go_wp2_with fail
  go_ret
  exact ⟨by rw [HE.out, decide_eq_false (show ¬ 0 ≤ s by omega)]; rfl, rfl⟩
def spendM (m : DM) : DM := if m.power = 0 then { m with dead := true } else { m with power := lessP m.power }
set_option maxHeartbeats 600000 in
theorem rspend_of (h : RHead w d gr cr gm cm gl cl pv m) (hp : -1 ≤ m.power ∧ m.power ≤ 9223372036854775807) :
 Calls Tryz.prog 147 #[.pointer (some ⟨d, 0, none⟩)] w fun e w' => e = .returned (.bool (decide (m.power ≠ 0))) ∧ RHead w' d gr cr gm cm gl cl pv (spendM m) ∧ Mod (fun i => i = d) w w' := by
 have H := Lib.hid h
 obtain ⟨⟨_, _, _, _, _, c5, c6⟩, hf⟩ := h.cells
 have f5 := hf 5
 have f6 := hf 6
 obtain ⟨p, hpp⟩ : ∃ p, m.power = p := ⟨_, rfl⟩
 have HP := Lib.hid hpp
 rw [hpp] at c6 hp
 clear h hf hpp
 generalize m.dead = dd at c5
 by_cases h0 : p = 0
 ·subst h0
  go_enter Tryz.func147, Tryz.ntmps147
  go_wp2_with fail
  go_ret
  have e : spendM m = { m with dead := true } := if_pos HP.out
  rw [e]
  exact ⟨by rw [HP.out]; rfl, ⟨row_set 5 H.out.head _ rfl, H.out.n1⟩, Mod.setCell (F := fun i => i = d) (Mod.refl _ _) (.inl rfl) _⟩
 ·have g0 : (p == 0) = false := by simpa using h0
  have e : spendM m = { m with power := lessP p } := by unfold spendM; rw [if_neg (by rw [HP.out]; exact h0), HP.out]
  by_cases h1 : 0 < p
  ·have hw : IntKind.i64.wrap (p - 1) = p - 1 := IntWalk.i64_in _ (by omega)
   have HE := Lib.hid e
   have HL : Hid (lessP p = p - 1) := Lib.hid (if_pos h1)
   have H0 := Lib.hid h0
   clear e
   go_enter Tryz.func147, Tryz.ntmps147
   go_wp2_with fail
   go_ret
   rw [HE.out, HL.out]
   exact ⟨by rw [HP.out]; first | (rw [decide_eq_true (show p ≠ 0 from H0.out)]; rfl) | (rw [decide_eq_false H0.out]; rfl), ⟨row_set 6 H.out.head _ rfl, H.out.n1⟩, Mod.setCell (F := fun i => i = d) (Mod.refl _ _) (.inl rfl) _⟩
  ·have HE := Lib.hid e
   have HL : Hid (lessP p = p) := Lib.hid (if_neg h1)
   have H0 := Lib.hid h0
   clear e
   go_enter Tryz.func147, Tryz.ntmps147
   go_wp2_with fail
   go_ret
   rw [HE.out, HL.out]
   refine ⟨by rw [HP.out]; first | (rw [decide_eq_true (show p ≠ 0 from H0.out)]; rfl) | (rw [decide_eq_false H0.out]; rfl), ⟨?_, H.out.n1⟩, Mod.refl _ _⟩
   have := H.out.head
   rw [HP.out] at this
   exact this
set_option maxHeartbeats 600000 in
theorem rstart_of (h : RHead w d gr cr gm cm gl cl pv m) :
 Calls Tryz.prog 141 #[.pointer (some ⟨d, 0, none⟩)] w fun e w' => e = .returned (.int .i64 m.start.1) ∧ RHead w' d gr cr gm cm gl cl pv m.start.2 ∧ Mod (fun i => i = d) w w' := by
 have H := Lib.hid h
 obtain ⟨⟨_, _, _, _, c4, c5, c6⟩, hf⟩ := h.cells
 have f4 := hf 4
 have f5 := hf 5
 have f6 := hf 6
 clear h hf
 by_cases hd : m.down = true
 ·have e : m.start = (0, { m with down := false, dead := false, power := -1 }) := by unfold DM.start; rw [if_neg (by rw [hd]; simp)]
  have HE := Lib.hid e
  rw [hd] at c4
  clear e hd
  generalize m.dead = dd at c5
  generalize m.power = pp at c6
  go_enter Tryz.func141, Tryz.ntmps141
  go_wp2_with fail
  go_ret
  rw [HE.out]
  exact ⟨rfl, ⟨row_set 6 (row_set 5 (row_set 4 H.out.head _ rfl) _ rfl) _ rfl, H.out.n1⟩, ((Mod.setCell (F := fun i => i = d) (Mod.refl _ _) (.inl rfl) _).setCell (.inl rfl) _).setCell (.inl rfl) _⟩
 ·have hd' : m.down = false := by simpa using hd
  have e : m.start = (2, m) := by unfold DM.start; rw [if_pos hd']
  have HE := Lib.hid e
  rw [hd'] at c4
  clear e hd hd'
  go_enter Tryz.func141, Tryz.ntmps141
  go_wp2_with fail
  go_ret
  rw [HE.out]
  exact ⟨rfl, H.out, Mod.refl _ _⟩
set_option maxHeartbeats 600000 in
theorem rpower_of (h : RHead w d gr cr gm cm gl cl pv m) (n : Int) :
 Calls Tryz.prog 145 #[.pointer (some ⟨d, 0, none⟩), .int .i64 n] w fun e w' => e = .returned (.int .i64 (m.setPower n).1) ∧ RHead w' d gr cr gm cm gl cl pv (m.setPower n).2 ∧ Mod (fun i => i = d) w w' := by
 have H := Lib.hid h
 obtain ⟨⟨_, _, _, _, c4, c5, c6⟩, hf⟩ := h.cells
 have f6 := hf 6
 clear h hf
 by_cases hu : m.up = true
 ·have hd : m.down = false ∧ m.dead = false := by
   unfold DM.up at hu
   cases h1 : m.down <;> cases h2 : m.dead <;> simp_all
  rw [hd.1] at c4
  rw [hd.2] at c5
  have HU := Lib.hid hu
  clear hd hu
  by_cases hn : n < 0
  ·have e : m.setPower n = (2, m) := by unfold DM.setPower; rw [if_neg (by rw [HU.out]; simp), if_pos hn]
   have HE := Lib.hid e
   clear e
   go_enter Tryz.func145, Tryz.ntmps145
   go_wp2_with fail
   go_ret
   rw [HE.out]
   exact ⟨rfl, H.out, Mod.refl _ _⟩
  ·have e : m.setPower n = (0, { m with power := n }) := by unfold DM.setPower; rw [if_neg (by rw [HU.out]; simp), if_neg hn]
   have HE := Lib.hid e
   clear e
   generalize m.power = pp at c6
   go_enter Tryz.func145, Tryz.ntmps145
   go_wp2_with fail
   go_ret
   rw [HE.out]
   exact ⟨rfl, ⟨row_set 6 H.out.head _ rfl, H.out.n1⟩, Mod.setCell (F := fun i => i = d) (Mod.refl _ _) (.inl rfl) _⟩
 ·have e : m.setPower n = (5, m) := by unfold DM.setPower; rw [if_pos (by simpa using hu)]
  have HE := Lib.hid e
  have hd : m.down = true ∨ (m.down = false ∧ m.dead = true) := by
   unfold DM.up at hu
   cases h1 : m.down <;> cases h2 : m.dead <;> simp_all
  clear e hu
  rcases hd with hd | hd
  ·rw [hd] at c4
   clear hd
   go_enter Tryz.func145, Tryz.ntmps145
   go_wp2_with fail
   go_ret
   rw [HE.out]
   exact ⟨rfl, H.out, Mod.refl _ _⟩
  ·rw [hd.1] at c4
   rw [hd.2] at c5
   clear hd
   go_enter Tryz.func145, Tryz.ntmps145
   go_wp2_with fail
   go_ret
   rw [HE.out]
   exact ⟨rfl, H.out, Mod.refl _ _⟩
end
end
section
open Go Go.RowKit
structure Nm where
 gr : Nat
 gm : Nat
 gl : Nat
 cr : Nat
 cm : Nat
 cl : Nat
 pv : Value
 RB : List (Nat × Nat)
 MB : List (Nat × Nat)
 WB : List (Nat × Nat)
def slV (x : Nat × Nat) : Value := .slice (some ⟨x.1, 0, none⟩) 64 x.2
def wflat : List (Nat × List Nat) → List (Nat × Nat) → List Value
 | x :: l, y :: r => .int .i64 (x.1 : Int) :: slV y :: wflat l r
 | _, _ => []
def Byt (w : World) (x : Nat × Nat) (b : List Nat) : Prop := w.ownsRow 0 5 1 (slV x) 64 (vb b)
structure RDq (w : World) (d : Nat) (p : Nat → Nat) (q : Nm) (m : DM) : Prop where
 ok : m.Ok
 head : RHead w d q.gr q.cr q.gm q.cm q.gl q.cl q.pv m
 rr : w.ownsRow 0 45 1 (.slice (some ⟨q.gr, 0, none⟩) m.size q.cr) m.size (q.RB.map slV)
 rm : w.ownsRow 0 45 1 (.slice (some ⟨q.gm, 0, none⟩) m.size q.cm) m.size (q.MB.map slV)
 rl : w.ownsRow 0 4 1 (.slice (some ⟨q.gl, 0, none⟩) m.size q.cl) m.size (m.lost.map .bool)
 rb : ∀ j x, q.RB[j]? = some x → p x.1 = 7 + j ∧ Byt w x (m.rest.getD j [])
 mb : ∀ j x, q.MB[j]? = some x → p x.1 = 6 ∧ Byt w x (m.meant.getD j [])
 wl : q.WB.length = m.waits.length
 wb : ∀ j x, q.WB[j]? = some x → p x.1 = 6 ∧ Byt w x (m.waits.getD j (0, [])).2
 pen : w.ownsRow 0 208 2 q.pv m.waits.length (wflat m.waits q.WB)
 pd : p d = 1
 pr : p q.gr = 2
 pm : p q.gm = 3
 pl : p q.gl = 4
 pp : ∀ k, q.pv.ownBlock = some k → p k = 5
 few : m.power ≤ 9223372036854775807
def RD (w : World) (d : Nat) (p : Nat → Nat) (m : DM) : Prop := (∃ q, RDq w d p q m) ∧ ∀ k, p k ≠ 0 → k < w.heap.size
def ROut (d : Nat) (p : Nat → Nat) (w : World) (m' : DM) (w' : World) : Prop := ∃ p', RD w' d p' m' ∧ Mod (fun k => p k ≠ 0) w w' ∧ ∀ k, p' k ≠ 0 → p k ≠ 0 ∨ w.heap.size ≤ k
section
variable {w w' : World} {d : Nat} {p : Nat → Nat} {q : Nm} {m : DM} {F : Nat → Prop}
theorem Byt.mod {x : Nat × Nat} {b : List Nat} (h : Byt w x b) (k : Mod F w w') (hx : ¬ F x.1) : Byt w' x b := own_mod h k fun i hi => by
 injection hi with hi
 subst hi
 exact hx
theorem Byt.lt {x : Nat × Nat} {b : List Nat} (h : Byt w x b) : x.1 < w.heap.size := (World.ownsRow.lt h x.1 rfl).2
theorem Byt.by {x : Nat × Nat} {b : List Nat} (h : Byt w x b) (hb : ∀ y ∈ b, y < 256) : By w (some ⟨x.1, 0, none⟩) 64 x.2 b := Bs.of_own h hb
theorem RDq.mod (h : RDq w d p q m) (k : Mod F w w') (hF : ∀ i, p i ≠ 0 → ¬ F i) : RDq w' d p q m :=
 ⟨h.ok, h.head.mod k (hF d (by rw [h.pd]; omega)), own_mod h.rr k (fun i hi => by injection hi with hi; subst hi; exact hF _ (by rw [h.pr]; omega)), own_mod h.rm k (fun i hi => by injection hi with hi; subst hi; exact hF _ (by rw [h.pm]; omega)), own_mod h.rl k (fun i hi => by injection hi with hi; subst hi; exact hF _ (by rw [h.pl]; omega)),
  fun j x hx => ⟨(h.rb j x hx).1, (h.rb j x hx).2.mod k (hF _ (by rw [(h.rb j x hx).1]; omega))⟩, fun j x hx => ⟨(h.mb j x hx).1, (h.mb j x hx).2.mod k (hF _ (by rw [(h.mb j x hx).1]; omega))⟩, h.wl, fun j x hx => ⟨(h.wb j x hx).1, (h.wb j x hx).2.mod k (hF _ (by rw [(h.wb j x hx).1]; omega))⟩,
  own_mod h.pen k (fun i hi => hF i (by rw [h.pp i hi]; omega)), h.pd, h.pr, h.pm, h.pl, h.pp, h.few⟩
theorem RDq.ext (h : RDq w d p q m) (k : Ext w w') : RDq w' d p q m := h.mod (F := fun _ => False) (Mod.of_ext k) fun _ _ h => h
theorem RDq.lts (h : RDq w d p q m) : d < w.heap.size ∧ q.gr < w.heap.size ∧ q.gm < w.heap.size ∧ q.gl < w.heap.size :=
 ⟨(Array.getElem?_eq_some_iff.1 h.head.head).1, (h.rr.lt q.gr rfl).2, (h.rm.lt q.gm rfl).2, (h.rl.lt q.gl rfl).2⟩
theorem RDq.recast (h : RDq w d p q m) {p' : Nat → Nat} (hp : ∀ k, k < w.heap.size → p' k = p k) : RDq w d p' q m :=
 ⟨h.ok, h.head, h.rr, h.rm, h.rl, fun j x hx => ⟨(hp _ (h.rb j x hx).2.lt).trans (h.rb j x hx).1, (h.rb j x hx).2⟩, fun j x hx => ⟨(hp _ (h.mb j x hx).2.lt).trans (h.mb j x hx).1, (h.mb j x hx).2⟩, h.wl, fun j x hx => ⟨(hp _ (h.wb j x hx).2.lt).trans (h.wb j x hx).1, (h.wb j x hx).2⟩, h.pen,
  (hp _ h.lts.1).trans h.pd, (hp _ h.lts.2.1).trans h.pr, (hp _ h.lts.2.2.1).trans h.pm, (hp _ h.lts.2.2.2).trans h.pl, fun k hk => (hp _ (h.pen.lt k hk).2).trans (h.pp k hk), h.few⟩
theorem mod_one (w : World) (g k : Nat) (v : Value) : Mod (fun i => i = g) w (w.setCell ⟨g, k, none⟩ v) := Mod.setCell (F := fun i => i = g) (Mod.refl _ _) (.inl rfl) v
theorem map_set_val {α : Type} (f : α → Value) (l : List α) (j : Nat) (x : α) : (l.set j x).map f = (l.map f).set j (f x) := by rw [List.map_set]
theorem getD_setE {α : Type} {l : List α} {i j : Nat} {x d : α} (hi : i < l.length) : (l.set i x).getD j d = if i = j then x else l.getD j d := getD_set hi
theorem set_get {α : Type} {l : List α} {i j : Nat} {x y : α} (h : (l.set i x)[j]? = some y) : (i = j ∧ y = x) ∨ (i ≠ j ∧ l[j]? = some y) := by
 rw [List.getElem?_set] at h
 split at h
 ·split at h
  ·injection h with h
   exact .inl ⟨by assumption, h.symm⟩
  ·cases h
 ·exact .inr ⟨by assumption, h⟩
theorem RDq.setRest (h : RDq w d p q m) {j : Nat} {x : Nat × Nat} {b : List Nat} (hj : j < m.size) (hb : Sect b) (hx : Byt w x b) (hp : p x.1 = 7 + j) : RDq (w.setCell ⟨q.gr, j, none⟩ (slV x)) d p { q with RB := q.RB.set j x } { m with rest := m.rest.set j b } := by
 have k := mod_one w q.gr j (slV x)
 have hrl : q.RB.length = m.size := by have := h.rr.1; rw [List.length_map] at this; omega
 have hs : ({ m with rest := m.rest.set j b } : DM).size = m.size := by simp [DM.size]
 have ne : ∀ i r, p i = r → r ≠ 2 → ¬ i = q.gr := fun i r hi hr e => by rw [e, h.pr] at hi; omega
 have own := fun {e s n : Nat} {v : Value} {xs : List Value} (ho : w.ownsRow 0 e s v n xs) (r : Nat) (hr : r ≠ 2) (hv : ∀ i, v.ownBlock = some i → p i = r) => own_mod ho k fun i hi => ne i r (hv i hi) hr
 refine ⟨⟨by rw [hs]; exact h.ok.meant, by rw [hs]; exact h.ok.lost, mem_set_of h.ok.rests hb, h.ok.means, by rw [hs]; exact h.ok.waits, h.ok.power⟩, ?_, ?_, ?_, ?_, ?_, ?_, h.wl, ?_, own h.pen 5 (by omega) h.pp, h.pd, h.pr, h.pm, h.pl, h.pp, h.few⟩
 ·have := h.head.mod k (ne d 1 h.pd (by omega))
  exact ⟨by rw [hs]; exact this.head, by rw [hs]; exact this.n1⟩
 ·rw [hs]
  have := (h.rr.stored j (slV x)).1
  rwa [← map_set_val] at this
 ·rw [hs]; exact own h.rm 3 (by omega) fun i hi => by injection hi with hi; subst hi; exact h.pm
 ·rw [hs]; exact own h.rl 4 (by omega) fun i hi => by injection hi with hi; subst hi; exact h.pl
 ·intro i y hy
  rcases set_get hy with ⟨rfl, rfl⟩ | ⟨hne, hy⟩
  ·refine ⟨hp, ?_⟩
   show Byt _ _ ((m.rest.set j b).getD j [])
   rw [getD_setE (by exact hj), if_pos rfl]
   exact hx.mod k (ne _ _ hp (by omega))
  ·refine ⟨(h.rb i y hy).1, ?_⟩
   show Byt _ _ ((m.rest.set j b).getD i [])
   rw [getD_setE (by exact hj), if_neg hne]
   exact (h.rb i y hy).2.mod k (ne _ _ (h.rb i y hy).1 (by omega))
 ·intro i y hy
  exact ⟨(h.mb i y hy).1, (h.mb i y hy).2.mod k (ne _ _ (h.mb i y hy).1 (by omega))⟩
 ·intro i y hy
  exact ⟨(h.wb i y hy).1, (h.wb i y hy).2.mod k (ne _ _ (h.wb i y hy).1 (by omega))⟩
theorem RDq.setMeant (h : RDq w d p q m) {j : Nat} {x : Nat × Nat} {b : List Nat} (hj : j < m.size) (hb : Sect b) (hx : Byt w x b) (hp : p x.1 = 6) : RDq (w.setCell ⟨q.gm, j, none⟩ (slV x)) d p { q with MB := q.MB.set j x } { m with meant := m.meant.set j b } := by
 have k := mod_one w q.gm j (slV x)
 have ne : ∀ i r, p i = r → r ≠ 3 → ¬ i = q.gm := fun i r hi hr e => by rw [e, h.pm] at hi; omega
 have own := fun {e s n : Nat} {v : Value} {xs : List Value} (ho : w.ownsRow 0 e s v n xs) (r : Nat) (hr : r ≠ 3) (hv : ∀ i, v.ownBlock = some i → p i = r) => own_mod ho k fun i hi => ne i r (hv i hi) hr
 refine ⟨⟨by show (m.meant.set j b).length = _; rw [List.length_set]; exact h.ok.meant, h.ok.lost, h.ok.rests, mem_set_of h.ok.means hb, h.ok.waits, h.ok.power⟩, ?_, ?_, ?_, ?_, ?_, ?_, h.wl, ?_, own h.pen 5 (by omega) h.pp, h.pd, h.pr, h.pm, h.pl, h.pp, h.few⟩
 ·have := h.head.mod k (ne d 1 h.pd (by omega))
  exact ⟨this.head, this.n1⟩
 ·exact own h.rr 2 (by omega) fun i hi => by injection hi with hi; subst hi; exact h.pr
 ·have := (h.rm.stored j (slV x)).1
  rwa [← map_set_val] at this
 ·exact own h.rl 4 (by omega) fun i hi => by injection hi with hi; subst hi; exact h.pl
 ·intro i y hy
  exact ⟨(h.rb i y hy).1, (h.rb i y hy).2.mod k (ne _ _ (h.rb i y hy).1 (by omega))⟩
 ·intro i y hy
  rcases set_get hy with ⟨rfl, rfl⟩ | ⟨hne, hy⟩
  ·refine ⟨hp, ?_⟩
   show Byt _ _ ((m.meant.set j b).getD j [])
   rw [getD_setE (by rw [h.ok.meant]; exact hj), if_pos rfl]
   exact hx.mod k (ne _ _ hp (by omega))
  ·refine ⟨(h.mb i y hy).1, ?_⟩
   show Byt _ _ ((m.meant.set j b).getD i [])
   rw [getD_setE (by rw [h.ok.meant]; exact hj), if_neg hne]
   exact (h.mb i y hy).2.mod k (ne _ _ (h.mb i y hy).1 (by omega))
 ·intro i y hy
  exact ⟨(h.wb i y hy).1, (h.wb i y hy).2.mod k (ne _ _ (h.wb i y hy).1 (by omega))⟩
theorem RDq.setLost (h : RDq w d p q m) (j : Nat) (v : Bool) : RDq (w.setCell ⟨q.gl, j, none⟩ (.bool v)) d p q { m with lost := m.lost.set j v } := by
 have k := mod_one w q.gl j (.bool v)
 have ne : ∀ i r, p i = r → r ≠ 4 → ¬ i = q.gl := fun i r hi hr e => by rw [e, h.pl] at hi; omega
 have own := fun {e s n : Nat} {v : Value} {xs : List Value} (ho : w.ownsRow 0 e s v n xs) (r : Nat) (hr : r ≠ 4) (hv : ∀ i, v.ownBlock = some i → p i = r) => own_mod ho k fun i hi => ne i r (hv i hi) hr
 refine ⟨⟨h.ok.meant, by show (m.lost.set j v).length = _; rw [List.length_set]; exact h.ok.lost, h.ok.rests, h.ok.means, h.ok.waits, h.ok.power⟩, ?_, ?_, ?_, ?_, ?_, ?_, h.wl, ?_, own h.pen 5 (by omega) h.pp, h.pd, h.pr, h.pm, h.pl, h.pp, h.few⟩
 ·have := h.head.mod k (ne d 1 h.pd (by omega))
  exact ⟨this.head, this.n1⟩
 ·exact own h.rr 2 (by omega) fun i hi => by injection hi with hi; subst hi; exact h.pr
 ·exact own h.rm 3 (by omega) fun i hi => by injection hi with hi; subst hi; exact h.pm
 ·have := (h.rl.stored j (.bool v)).1
  rwa [← map_set_val] at this
 ·intro i y hy
  exact ⟨(h.rb i y hy).1, (h.rb i y hy).2.mod k (ne _ _ (h.rb i y hy).1 (by omega))⟩
 ·intro i y hy
  exact ⟨(h.mb i y hy).1, (h.mb i y hy).2.mod k (ne _ _ (h.mb i y hy).1 (by omega))⟩
 ·intro i y hy
  exact ⟨(h.wb i y hy).1, (h.wb i y hy).2.mod k (ne _ _ (h.wb i y hy).1 (by omega))⟩
theorem RDq.setHead (h : RDq w d p q m) {m' : DM} (k : Mod (fun i => i = d) w w') (hd : RHead w' d q.gr q.cr q.gm q.cm q.gl q.cl q.pv m') (h1 : m'.rest = m.rest) (h2 : m'.meant = m.meant) (h3 : m'.lost = m.lost) (h4 : m'.waits = m.waits) (h5 : -1 ≤ m'.power ∧ m'.power ≤ 9223372036854775807) : RDq w' d p q m' := by
 have hs : m'.size = m.size := by unfold DM.size; rw [h1]
 have ne : ∀ i r, p i = r → r ≠ 1 → ¬ i = d := fun i r hi hr e => by rw [e, h.pd] at hi; omega
 have own := fun {e s n : Nat} {v : Value} {xs : List Value} (ho : w.ownsRow 0 e s v n xs) (r : Nat) (hr : r ≠ 1) (hv : ∀ i, v.ownBlock = some i → p i = r) => own_mod ho k fun i hi => ne i r (hv i hi) hr
 refine ⟨⟨by rw [h2, hs]; exact h.ok.meant, by rw [h3, hs]; exact h.ok.lost, by rw [h1]; exact h.ok.rests, by rw [h2]; exact h.ok.means, by rw [h4, hs]; exact h.ok.waits, h5.1⟩, hd, ?_, ?_, ?_, ?_, ?_, by rw [h4]; exact h.wl, ?_, by rw [h4]; exact own h.pen 5 (by omega) h.pp, h.pd, h.pr, h.pm, h.pl, h.pp, h5.2⟩
 ·rw [hs]; exact own h.rr 2 (by omega) fun i hi => by injection hi with hi; subst hi; exact h.pr
 ·rw [hs]; exact own h.rm 3 (by omega) fun i hi => by injection hi with hi; subst hi; exact h.pm
 ·rw [hs, h3]; exact own h.rl 4 (by omega) fun i hi => by injection hi with hi; subst hi; exact h.pl
 ·intro i y hy
  rw [h1]
  exact ⟨(h.rb i y hy).1, (h.rb i y hy).2.mod k (ne _ _ (h.rb i y hy).1 (by omega))⟩
 ·intro i y hy
  rw [h2]
  exact ⟨(h.mb i y hy).1, (h.mb i y hy).2.mod k (ne _ _ (h.mb i y hy).1 (by omega))⟩
 ·intro i y hy
  rw [h4]
  exact ⟨(h.wb i y hy).1, (h.wb i y hy).2.mod k (ne _ _ (h.wb i y hy).1 (by omega))⟩
end
end
section
open Go Go.RowKit
theorem cell_far {w : World} {g h i j : Nat} {v u : Value} (hne : h ≠ g) (hc : w.cell? ⟨h, i, none⟩ = some u) : (w.setCell ⟨g, j, none⟩ v).cell? ⟨h, i, none⟩ = some u := by
 rw [World.cell?_setCell_far _ _ _ _ (by simpa using fun e => hne e.symm)]
 exact hc
theorem keepA {u w' : World} {a b i j k : Nat} {x y z : Value} (e : Hid (Ext u w')) (h : Hid (u.cell? ⟨a, i, none⟩ = some x ∧ u.cell? ⟨b, j, none⟩ = some y ∧ u.cell? ⟨b, k, none⟩ = some z)) : w'.cell? ⟨a, i, none⟩ = some x ∧ w'.cell? ⟨b, j, none⟩ = some y ∧ w'.cell? ⟨b, k, none⟩ = some z :=
 ⟨(Below.cell e.out (p := ⟨a, i, none⟩) (World.block_lt_of_cell? u _ h.out.1)).trans h.out.1, (Below.cell e.out (p := ⟨b, j, none⟩) (World.block_lt_of_cell? u _ h.out.2.1)).trans h.out.2.1, (Below.cell e.out (p := ⟨b, k, none⟩) (World.block_lt_of_cell? u _ h.out.2.2)).trans h.out.2.2⟩
theorem keepB {u w' : World} {a b i j k g s : Nat} {x y z v : Value} (e : Hid (Ext u w')) (hg : Hid (a ≠ g ∧ b ≠ g)) (h : Hid (u.cell? ⟨a, i, none⟩ = some x ∧ u.cell? ⟨b, j, none⟩ = some y ∧ u.cell? ⟨b, k, none⟩ = some z)) :
 (w'.setCell ⟨g, s, none⟩ v).cell? ⟨a, i, none⟩ = some x ∧ (w'.setCell ⟨g, s, none⟩ v).cell? ⟨b, j, none⟩ = some y ∧ (w'.setCell ⟨g, s, none⟩ v).cell? ⟨b, k, none⟩ = some z :=
 ⟨cell_far hg.out.1 (keepA e h).1, cell_far hg.out.2 (keepA e h).2.1, cell_far hg.out.2 (keepA e h).2.2⟩
theorem fresh_byt {w w' : World} {A : Option Addr} {c : Nat} {b : List Nat} (h : w'.ownsRow w.heap.size 5 1 (.slice A 64 c) 64 (vb b)) : ∃ g, A = some ⟨g, 0, none⟩ ∧ w.heap.size ≤ g ∧ g < w'.heap.size ∧ Byt w' (g, c) b := by
 rcases h.2 with ⟨_, h0⟩ | ⟨g, cap, cur, hv, hb, hg, rest⟩
 ·cases h0
 ·injection hv with e1 _ e3
  subst e1; subst e3
  exact ⟨g, rfl, hb, (Array.getElem?_eq_some_iff.1 hg).1, h.1, .inr ⟨g, c, cur, rfl, Nat.zero_le _, hg, rest⟩⟩
theorem RDq.restAt {w : World} {d : Nat} {p : Nat → Nat} {q : Nm} {m : DM} (h : RDq w d p q m) {s : Nat} (hs : s < m.size) : ∃ x, q.RB[s]? = some x ∧ w.cell? ⟨q.gr, s, none⟩ = some (slV x) ∧ w.frozen? ⟨q.gr, s, none⟩ = false ∧ q.gr < w.heap.size := by
 have hl : q.RB.length = m.size := by have := h.rr.1; rw [List.length_map] at this; omega
 obtain ⟨x, hx⟩ : ∃ x, q.RB[s]? = some x := ⟨_, List.getElem?_eq_getElem (by omega)⟩
 exact ⟨x, hx, by rw [h.rr.cellAt s (by omega), List.getElem?_map, hx]; rfl, h.rr.frozenAt s, h.lts.2.1⟩
theorem RDq.meantAt {w : World} {d : Nat} {p : Nat → Nat} {q : Nm} {m : DM} (h : RDq w d p q m) {s : Nat} (hs : s < m.size) : ∃ x, q.MB[s]? = some x ∧ w.cell? ⟨q.gm, s, none⟩ = some (slV x) ∧ w.frozen? ⟨q.gm, s, none⟩ = false ∧ q.gm < w.heap.size := by
 have hl : q.MB.length = m.size := by have := h.rm.1; rw [List.length_map] at this; omega
 obtain ⟨x, hx⟩ : ∃ x, q.MB[s]? = some x := ⟨_, List.getElem?_eq_getElem (by omega)⟩
 exact ⟨x, hx, by rw [h.rm.cellAt s (by omega), List.getElem?_map, hx]; rfl, h.rm.frozenAt s, h.lts.2.2.1⟩
theorem RDq.lostAt {w : World} {d : Nat} {p : Nat → Nat} {q : Nm} {m : DM} (h : RDq w d p q m) {s : Nat} (hs : s < m.size) : w.cell? ⟨q.gl, s, none⟩ = some (.bool (m.lost.getD s false)) ∧ w.frozen? ⟨q.gl, s, none⟩ = false ∧ q.gl < w.heap.size := by
 have hl := h.ok.lost
 refine ⟨?_, h.rl.frozenAt s, h.lts.2.2.2⟩
 rw [h.rl.cellAt s (by omega), List.getElem?_map, List.getElem?_eq_getElem (by omega), List.getD_eq_getElem?_getD, List.getElem?_eq_getElem (by omega)]
 rfl
def part (p : Nat → Nat) (b r : Nat) : Nat → Nat := fun k => if k = b then r else p k
theorem part_at (p : Nat → Nat) (b r : Nat) : part p b r b = r := if_pos rfl
theorem part_old {p : Nat → Nat} {b r n : Nat} (h : n ≤ b) : ∀ k, k < n → part p b r k = p k := fun k hk => if_neg (by omega)
theorem part_nz {p : Nat → Nat} {b r k : Nat} (h : part p b r k ≠ 0) : k = b ∨ p k ≠ 0 := by
 unfold part at h
 split at h
 ·exact .inl (by assumption)
 ·exact .inr h
set_option maxHeartbeats 2400000 in
theorem rcome_of {w : World} {d : Nat} {p : Nat → Nat} {m : DM} (h : RD w d p m) (s : Nat) (hs : s < m.size) (A : Option Addr) (c : Nat) (b : List Nat) (hb : By w A 64 c b) (hsb : Sect b) (ho : Off (fun i => p i = 2 ∨ p i = 3 ∨ p i = 4) A) :
 Calls Tryz.prog 170 #[.pointer (some ⟨d, 0, none⟩), .agg #[.int .i64 (s : Int), .slice A 64 c]] w fun e w' => (∃ v, e = .returned v) ∧ ROut d p w (m.come (s, b)) w' := by
 obtain ⟨⟨q, hq⟩, hlt⟩ := h
 obtain ⟨l1, l2, l3, l4⟩ := hq.lts
 have hE : Ext w (w.alloc (.cells #[.int .i64 (s : Int), .slice A 64 c] 208)) := (Ext.refl w).alloc _
 have hZ := heap_alloc_new w (.cells #[.int .i64 (s : Int), .slice A 64 c] 208)
 obtain ⟨V, hV⟩ : ∃ V, w.alloc (.cells #[.int .i64 (s : Int), .slice A 64 c] 208) = V := ⟨_, rfl⟩
 rw [hV] at hE hZ
 have HE := Lib.hid hE
 have HQ := Lib.hid (hq.ext hE)
 have HB := Lib.hid (hb.ext hE)
 have HLT := Lib.hid hlt
 have HO := Lib.hid ho
 have HSB := Lib.hid hsb
 have hsz : m.size ≤ 1024 := hq.head.n1.2
 have n1 : d ≠ q.gr ∧ w.heap.size ≠ q.gr := ⟨fun e => by have a := hq.pd; have b := hq.pr; rw [e] at a; omega, by omega⟩
 have n2 : d ≠ q.gm ∧ w.heap.size ≠ q.gm := ⟨fun e => by have a := hq.pd; have b := hq.pm; rw [e] at a; omega, by omega⟩
 have n3 : d ≠ q.gl ∧ w.heap.size ≠ q.gl := ⟨fun e => by have a := hq.pd; have b := hq.pl; rw [e] at a; omega, by omega⟩
 have N1 := Lib.hid n1
 have N2 := Lib.hid n2
 have N3 := Lib.hid n3
 have hc0 := cell_of_row V w.heap.size 0 _ _ _ hZ
 have hc1 := cell_of_row V w.heap.size 1 _ _ _ hZ
 obtain ⟨⟨d0, d1, d2, _⟩, _⟩ := HQ.out.head.cells
 have HS1 : Hid (V.drew.cell? ⟨d, 0, none⟩ = some (.slice (some ⟨q.gr, 0, none⟩) m.size q.cr) ∧ V.drew.cell? ⟨w.heap.size, 0, none⟩ = some (.int .i64 (s : Int)) ∧ V.drew.cell? ⟨w.heap.size, 1, none⟩ = some (.slice A 64 c)) := Lib.hid ⟨d0, hc0, hc1⟩
 have HZ := Lib.hid hZ
 have HVR : Hid (Ext V.drew V.drew) := Lib.hid (Ext.refl _)
 have i0 : (0 : Int) ≤ (s : Int) := by omega
 have i1 : (s : Int) < (m.size : Int) := by omega
 have HQd := Lib.hid (HQ.out.ext (Ext.refl V).drew)
 have HBd : Hid (By V.drew A 64 c b) := Lib.hid (HB.out.ext (Ext.refl V).drew)
 clear hq hb hsb hlt n1 n2 n3 hE hZ ho
 go_enter Tryz.func170, Tryz.ntmps170
 go_wp2_with fail
 go_region_held3 (fun w' => w'.cell? ⟨d, 0, none⟩ = some (.slice (some ⟨q.gr, 0, none⟩) m.size q.cr) ∧ w'.cell? ⟨w.heap.size, 0, none⟩ = some (.int .i64 (s : Int)) ∧ w'.cell? ⟨w.heap.size, 1, none⟩ = some (.slice A 64 c))
  (first | exact keepA (by assumption) HS1 | exact keepB (by assumption) N1 HS1)
  (first
   | (go_at_call 25; ((with_reducible refine (copy_by A b 64 c _ HBd.out (by omega)).mono ?_); rintro e w2 ⟨A1, c1, rfl, _, hx, ho⟩; obtain ⟨b1, rfl, g1, g2, hb1⟩ := fresh_byt ho; have HK1 := Lib.hid hx; have HY1 := Lib.hid hb1; obtain ⟨x1, _, hc1, hf1, hl1⟩ := (HQd.out.ext hx).restAt hs; clear hx ho hb1)))
 have hVs : V.heap.size = w.heap.size + 1 := by rw [← hV]; simp
 have hQ1 : RDq (w2.setCell ⟨q.gr, s, none⟩ (slV (b1, c1))) d (part p b1 (7 + s)) { q with RB := q.RB.set s (b1, c1) } { m with rest := m.rest.set s b } := ((HQd.out.recast (p' := part p b1 (7 + s)) (part_old g1)).ext HK1.out).setRest hs HSB.out HY1.out (part_at _ _ _)
 have hB1 : By (w2.setCell ⟨q.gr, s, none⟩ (slV (b1, c1))) A 64 c b := (HBd.out.ext HK1.out).mod (mod_one _ _ _ _) fun r hr e => HO.out r hr (.inl (by rw [e]; exact HQ.out.pr))
 have hZ1 : (w2.setCell ⟨q.gr, s, none⟩ (slV (b1, c1))).heap[w.heap.size]? = _ := heap_set (g := q.gr) (k := s) (x := slV (b1, c1)) N1.out.2 ((HK1.out.block _ (show w.heap.size < V.drew.heap.size by show _ < V.heap.size; omega)).trans HZ.out)
 have hM1 : Mod (fun k => p k ≠ 0) w (w2.setCell ⟨q.gr, s, none⟩ (slV (b1, c1))) := ((Mod.of_ext ((HE.out.trans (Ext.refl V).drew).trans HK1.out)).trans (mod_one w2 q.gr s (slV (b1, c1))) fun i hi => .inl (by rw [hi, HQ.out.pr]; omega))
 have hb1 : w.heap.size ≤ b1 ∧ b1 < (w2.setCell ⟨q.gr, s, none⟩ (slV (b1, c1))).heap.size := ⟨by have : V.drew.heap.size = V.heap.size := rfl; omega, by simpa [World.setCell] using g2⟩
 rw [show Value.slice (some ⟨b1, 0, none⟩) 64 c1 = slV (b1, c1) from rfl]
 obtain ⟨X1, hX1⟩ : ∃ X, w2.setCell ⟨q.gr, s, none⟩ (slV (b1, c1)) = X := ⟨_, rfl⟩
 rw [hX1] at hQ1 hB1 hZ1 hM1 hb1
 rw [hX1]
 have HQ1 := Lib.hid (hQ1.ext (Ext.refl X1).drew)
 have HB1 := Lib.hid (hB1.ext (Ext.refl X1).drew)
 have HZ1 := Lib.hid hZ1
 have HM1 := Lib.hid hM1
 have HN1 := Lib.hid hb1
 obtain ⟨⟨d0, d1, d2, _⟩, _⟩ := hQ1.head.cells
 have hc0 := cell_of_row X1 w.heap.size 0 _ _ _ hZ1
 have hc1 := cell_of_row X1 w.heap.size 1 _ _ _ hZ1
 have HS2 : Hid (X1.drew.cell? ⟨d, 1, none⟩ = some (.slice (some ⟨q.gm, 0, none⟩) m.size q.cm) ∧ X1.drew.cell? ⟨w.heap.size, 0, none⟩ = some (.int .i64 (s : Int)) ∧ X1.drew.cell? ⟨w.heap.size, 1, none⟩ = some (.slice A 64 c)) := Lib.hid ⟨by have := d1; simp only [DM.size, List.length_set] at this ⊢; exact this, hc0, hc1⟩
 have HVR2 : Hid (Ext X1.drew X1.drew) := Lib.hid (Ext.refl _)
 clear hQ1 hB1 hZ1 hM1 hb1 HS1 HVR HQd HBd hX1 HK1 HY1 g1 g2 hf1 hl1 hc1 hc0 d0 d1 d2
 go_wp2_with fail
 go_region_held3 (fun w' => w'.cell? ⟨d, 1, none⟩ = some (.slice (some ⟨q.gm, 0, none⟩) m.size q.cm) ∧ w'.cell? ⟨w.heap.size, 0, none⟩ = some (.int .i64 (s : Int)) ∧ w'.cell? ⟨w.heap.size, 1, none⟩ = some (.slice A 64 c))
  (first | exact keepA (by assumption) HS2 | exact keepB (by assumption) N2 HS2)
  (first
   | (go_at_call 25; ((with_reducible refine (copy_by A b 64 c _ HB1.out (by omega)).mono ?_); rintro e w4 ⟨A2, c2, rfl, _, hx, ho⟩; obtain ⟨b2, rfl, g1, g2, hb2⟩ := fresh_byt ho; have HK2 := Lib.hid hx; have HY2 := Lib.hid hb2; obtain ⟨x2, _, hc2, hf2, hl2⟩ := (HQ1.out.ext hx).meantAt (s := s) (by simp only [DM.size, List.length_set]; exact hs); clear hx ho hb2)))
 have hQ2 : RDq (w4.setCell ⟨q.gm, s, none⟩ (slV (b2, c2))) d (part (part p b1 (7 + s)) b2 6) { q with RB := q.RB.set s (b1, c1), MB := q.MB.set s (b2, c2) } { m with rest := m.rest.set s b, meant := m.meant.set s b } := ((HQ1.out.recast (p' := part (part p b1 (7 + s)) b2 6) (part_old g1)).ext HK2.out).setMeant (by simp only [DM.size, List.length_set]; exact hs) HSB.out HY2.out (part_at _ _ _)
 have hZ2 : (w4.setCell ⟨q.gm, s, none⟩ (slV (b2, c2))).heap[w.heap.size]? = _ := heap_set (g := q.gm) (k := s) (x := slV (b2, c2)) N2.out.2 ((HK2.out.block _ (show w.heap.size < X1.drew.heap.size from (Array.getElem?_eq_some_iff.1 HZ1.out).1)).trans HZ1.out)
 have hM2 : Mod (fun k => p k ≠ 0) w (w4.setCell ⟨q.gm, s, none⟩ (slV (b2, c2))) := ((HM1.out.ext ((Ext.refl X1).drew.trans HK2.out)).trans (mod_one w4 q.gm s (slV (b2, c2))) fun i hi => .inl (by rw [hi, HQ.out.pm]; omega))
 have hb2 : X1.heap.size ≤ b2 ∧ b2 < (w4.setCell ⟨q.gm, s, none⟩ (slV (b2, c2))).heap.size := ⟨g1, by simpa [World.setCell] using g2⟩
 have hsz2 : X1.heap.size ≤ (w4.setCell ⟨q.gm, s, none⟩ (slV (b2, c2))).heap.size := by have := HK2.out.size; simp [World.setCell]; exact this
 rw [show Value.slice (some ⟨b2, 0, none⟩) 64 c2 = slV (b2, c2) from rfl]
 obtain ⟨X2, hX2⟩ : ∃ X, w4.setCell ⟨q.gm, s, none⟩ (slV (b2, c2)) = X := ⟨_, rfl⟩
 rw [hX2] at hQ2 hZ2 hM2 hb2 hsz2
 rw [hX2]
 have HQ2 := Lib.hid hQ2
 have HM2 := Lib.hid hM2
 have HN2 := Lib.hid hb2
 have HZ2 := Lib.hid hZ2
 obtain ⟨⟨d0, d1, d2, _⟩, _⟩ := hQ2.head.cells
 have d2' : X2.cell? ⟨d, 2, none⟩ = some (.slice (some ⟨q.gl, 0, none⟩) m.size q.cl) := by have := d2; simp only [DM.size, List.length_set] at this ⊢; exact this
 have hc0 := cell_of_row X2 w.heap.size 0 _ _ _ hZ2
 obtain ⟨hcl, hfl, hll⟩ := hQ2.lostAt (s := s) (by simp only [DM.size, List.length_set]; exact hs)
 clear hQ2 hZ2 hM2 hb2 HS2 HVR2 HQ1 HB1 HZ1 HM1 hX2 HK2 HY2 g1 g2 hf2 hl2 hc2 d0 d1 d2
 go_wp2_with fail
 go_region
 go_end0
 have hM3 : Mod (fun k => p k ≠ 0) w (X2.setCell ⟨q.gl, s, none⟩ (.bool false)).drew := ((HM2.out.trans (mod_one X2 q.gl s (.bool false)) fun i hi => .inl (by rw [hi, HQ.out.pl]; omega))).drew
 have hs3 : (X2.setCell ⟨q.gl, s, none⟩ (.bool false)).drew.heap.size = X2.heap.size := by show (X2.setCell ⟨q.gl, s, none⟩ (.bool false)).heap.size = _; simp [World.setCell]
 refine ⟨⟨_, rfl⟩, part (part p b1 (7 + s)) b2 6, ⟨⟨_, (HQ2.out.setLost s false).ext (Ext.refl _).drew⟩, fun k hk => ?_⟩, hM3, fun k hk => ?_⟩
 ·rw [hs3]
  rcases part_nz hk with rfl | hk
  ·exact HN2.out.2
  ·rcases part_nz hk with rfl | hk
   ·exact Nat.lt_of_lt_of_le HN1.out.2 hsz2
   ·exact Nat.lt_of_lt_of_le (HLT.out k hk) HM2.out.size
 ·rcases part_nz hk with rfl | hk
  ·exact .inr (Nat.le_trans (Nat.le_trans HN1.out.1 (Nat.le_of_lt HN1.out.2)) HN2.out.1)
  ·rcases part_nz hk with rfl | hk
   ·exact .inr HN1.out.1
   ·exact .inl hk
end
end Go.Proofs.YtmpaocpgoihliaaGreatDoor
