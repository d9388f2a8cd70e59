/-
  The contracts of slices' IndexFunc and ContainsFunc over two copies, of isCovered and named.
-/
import Derived.Test.YtmpaocpgoihliaaGreatDoorP00
import Derived.Test.YtmpaocpgoihliaaGreatDoorP06
import Derived.Test.YtmpaocpgoihliaaGreatDoorP07
import Derived.Test.YtmpaocpgoihliaaGreatDoorP12
import Derived.Test.YtmpaocpgoihliaaGreatDoorP13
import Derived.Test.YtmpaocpgoihliaaGreatDoorP14
import Derived.Test.YtmpaocpgoihliaaGreatDoorP15
import Derived.Test.YtmpaocpgoihliaaGreatDoorP27
import Derived.Test.YtmpaocpgoihliaaGreatDoorP29
import Derived.Shelf.Abstract
import Derived.Deep.DeepCutAuto
import Derived.Laws.EntriesVeiled
import Derived.Deep.MidRow
import Derived.RangeFuncNested
import Derived.RangeFuncBound
import Derived.RangeFuncCalls
import Derived.RangeFuncLeaves
import Derived.Shelf.RegionOpen
import Derived.WalkKit
import Derived.OwnWalkIn
import Derived.TacticsInMore
import Derived.LoopNIn
import Derived.LoopIn
import Derived.Deep.RegionHeld3
namespace Go.Proofs.YtmpaocpgoihliaaGreatDoor
set_option maxRecDepth 100000
section
open Go Go.RowKit
section
variable {w W W' : World} {g g1 g2 g3 g4 : Nat} {rv tv zr zt : Array Value} {r : Int}
end
end
section
open Go Go.RowKit
section
variable {w W : World} {b : Nat} {zr zt ht : Array Value}
end
end
section
open Go Go.RowKit
theorem setA_whole : ∀ (pre xs ys : List Value), xs.length = ys.length → setA (pre ++ xs).toArray pre.length ys = (pre ++ ys).toArray
 | pre, [], [], _ => rfl
 | pre, x :: xs, y :: ys, h => by
  have h1 : (pre ++ x :: xs).toArray.setIfInBounds pre.length y = ((pre ++ [y]) ++ xs).toArray := by
   apply Array.ext'
   simp
  show setA ((pre ++ x :: xs).toArray.setIfInBounds pre.length y) (pre.length + 1) ys = _
  rw [h1]
  have h2 := setA_whole (pre ++ [y]) xs ys (by simpa using h)
  rw [List.length_append, List.length_singleton] at h2
  rw [h2]
  simp
 | _, [], _ :: _, h => by simp at h
 | _, _ :: _, [], h => by simp at h
theorem setA_all (cs vs : Array Value) (h : cs.size = vs.size) : setA cs 0 vs.toList = vs := by
 have := setA_whole [] cs.toList vs.toList (by simpa using h)
 simpa using this
theorem alloc_setCell (W : World) (cs : Array Value) (t : TypeId) (i : Nat) (v : Value) : (W.alloc (.cells cs t)).setCell ⟨W.heap.size, i, none⟩ v = W.alloc (.cells (cs.setIfInBounds i v) t) := by
 have h : ((W.alloc (.cells cs t)).setCell ⟨W.heap.size, i, none⟩ v).heap = W.heap.push (.cells (cs.setIfInBounds i v) t) := by
  apply Array.ext_getElem?
  intro k
  unfold World.setCell World.alloc
  simp only
  rw [Array.getElem?_modify]
  by_cases hk : W.heap.size = k
  ·subst hk
   simp
  ·rw [if_neg hk, Array.getElem?_push, Array.getElem?_push, if_neg (by omega), if_neg (by omega)]
 exact congrArg (fun h => World.mk h W.tape W.drawn W.os W.output) h
theorem alloc_setL (W : World) (t : TypeId) : ∀ (vs : List Value) (o : Nat) (cs : Array Value), (W.alloc (.cells cs t)).setCells W.heap.size o vs = W.alloc (.cells (setA cs o vs) t)
 | [], _, _ => rfl
 | v :: vs, o, cs => by
  show ((W.alloc (.cells cs t)).setCell ⟨W.heap.size, o, none⟩ v).setCells W.heap.size (o + 1) vs = _
  rw [alloc_setCell]
  exact alloc_setL W t vs (o + 1) _
theorem alloc_setCells (W : World) (cs vs : Array Value) (t : TypeId) (h : cs.size = vs.size) : (W.alloc (.cells cs t)).setCells W.heap.size 0 vs.toList = W.alloc (.cells vs t) := by
 rw [alloc_setL, setA_all cs vs h]
variable {P : Program}
end
section
structure PutA where
 at_ : Nat := 0
 x : Int := 0
 y : Int := 0
 e : Ent := {}
end
section
open Go Go.RowKit
section
variable {w : World} {g d s : Nat} {r inc : Int} {F : Nat → Prop} {m : DM}
end
end
section
open Go Go.RowKit
section
variable {w : World}
end
section
variable {w : World} {g d s : Nat} {r inc : Int} {F : Nat → Prop} {m : DM}
end
end
section
open Go Go.RowKit Go.Shelf
attribute [local go_sem] Oper.semAt_some
end
section
open Go Go.RowKit
theorem arr5Y (x0 x1 x2 x3 x4 z0 z1 z2 z3 z4 : Value) : setA #[z0, z1, z2, z3, z4] 0 [x0, x1, x2, x3, x4] = #[x0, x1, x2, x3, x4] := by
 rfl
set_option maxHeartbeats 3200000 in
theorem yseal_of {w : World} {g d : Nat} {r inc : Int} {s : ShM} (h : ShAt w g d r inc s) (hL : LaidY w) (ix ar ct : Nat) (har : ar ≤ 1) (k : Nat) (hk : k ≤ 100) (A : Option Addr) (n c : Nat) (l : List Nat) (hb : By w A n c l) (hn : n ≤ 140737488355000) :
 Calls Tryz.prog 166 #[.pointer (some ⟨g, 0, none⟩), .agg #[.int .i64 (ix : Int), .int .i64 (ar : Int), .int .i64 (ct : Int)], .int .i64 (k : Int), .slice A n c] w fun e w' => ∃ A' c', e = .returned (.slice A' (frmY r inc ⟨ix, ar, ct⟩ k l).length c') ∧ By w' A' (frmY r inc ⟨ix, ar, ct⟩ k l).length c' (frmY r inc ⟨ix, ar, ct⟩ k l) ∧ (sealE r 5 ((8 * ar + k : Nat) : Int) (ix : Int) inc (prZL (ct : Int) l).length 2 = 0 → ∀ q, A' = some q → w.heap.size ≤ q.block) ∧ Ext w w' := by
 have hE := (Ext.refl w).alloc (.cells #[.int .i64 (ix : Int), .int .i64 (ar : Int), .int .i64 (ct : Int)] 137)
 have hz := heap_alloc_new w (.cells #[.int .i64 (ix : Int), .int .i64 (ar : Int), .int .i64 (ct : Int)] 137)
 obtain ⟨p, hp⟩ : ∃ p : Nat, 8 * ar + k = p := ⟨_, rfl⟩
 have hf : frmY r inc ⟨ix, ar, ct⟩ k l = sealL r 5 (p : Int) (ix : Int) inc (prZL (ct : Int) l) 2 := by unfold frmY; dsimp only; rw [hp]
 have hpl := yplace_of ix ar ct k har hk
 rw [hp] at hpl
 have HPL := Lib.hid hpl
 rw [hf, hp]
 obtain ⟨L, hLL⟩ : ∃ L, sealL r 5 (p : Int) (ix : Int) inc (prZL (ct : Int) l) 2 = L := ⟨_, rfl⟩
 rw [hLL]
 have HLL := Lib.hid hLL
 have HI5 : Hid ((Tryz.prog.info? 44).map (·.size) = some 5) := Lib.hid (by kernel_rfl)
 have HE := Lib.hid hE
 have HZ := Lib.hid hz
 have H := Lib.hid h
 have HL := Lib.hid hL
 have HB := Lib.hid hb
 have HN := Lib.hid hn
 clear h hL hb hn hf hp hpl hE hz hLL
 have c0 := cell_of_row _ w.heap.size 0 _ _ _ HZ.out
 have c1 := cell_of_row _ w.heap.size 1 _ _ _ HZ.out
 have c2 := cell_of_row _ w.heap.size 2 _ _ _ HZ.out
 go_enter Tryz.func166, Tryz.ntmps166
 go_wp2_with fail
 refine (zprint_any (ct : Int) A n c l _ (HL.out.ext HE.out).f.a.o (HB.out.ext HE.out) HN.out).mono ?_
 rintro e w1 ⟨A1, n1, b1, rfl, hb1, hx⟩
 have HX1 := Lib.hid (HE.out.trans hx)
 have hz1 := (hx.block _ (by simp)).trans HZ.out
 clear c0 c1 c2 HE HZ
 obtain ⟨E, hEE⟩ : ∃ E, sealE r 5 (p : Int) (ix : Int) inc n1 2 = E := ⟨_, rfl⟩
 have HEE := Lib.hid hEE
 have HEQ : Hid (sealE r 5 (p : Int) (ix : Int) inc (prZL (ct : Int) l).length 2 = E) := Lib.hid (by rw [hb1.len]; exact hEE)
 have HXD : Hid (Ext w w1.drew) := Lib.hid (Below.drew HX1.out)
 have HBD : Hid (By w1.drew A1 n1 b1 (prZL (ct : Int) l)) := Lib.hid (hb1.ext (Below.drew (Ext.refl w1)))
 generalize w.heap.size = b at hz1 ⊢
 have HS0 : Hid (∀ V, Ext w1.drew V → (V.cell? ⟨g, 2, none⟩ = some (.int .i64 r) ∧ V.cell? ⟨g, 3, none⟩ = some (.int .i64 inc) ∧ V.cell? ⟨b, 0, none⟩ = some (.int .i64 (ix : Int)) ∧ V.cell? ⟨b, 1, none⟩ = some (.int .i64 (ar : Int)) ∧ V.cell? ⟨b, 2, none⟩ = some (.int .i64 (ct : Int)))) := Lib.hid fun V hV => by
  have hr := ((Ext.trans (Below.drew (Ext.refl w1)) hV).block _ (Array.getElem?_eq_some_iff.1 hz1).1).trans hz1
  have hc := (H.out.ext (HXD.out.trans hV)).cells
  exact ⟨hc.2.2.1, hc.2.2.2.1, cell_of_row V b 0 _ _ _ hr, cell_of_row V b 1 _ _ _ hr, cell_of_row V b 2 _ _ _ hr⟩
 clear hx hz1 hb1 hEE
 go_wp2_with fail
 refine wp_region_held_drew (S := fun w' => w'.cell? ⟨g, 2, none⟩ = some (.int .i64 r) ∧ w'.cell? ⟨g, 3, none⟩ = some (.int .i64 inc) ∧ w'.cell? ⟨b, 0, none⟩ = some (.int .i64 (ix : Int)) ∧ w'.cell? ⟨b, 1, none⟩ = some (.int .i64 (ar : Int)) ∧ w'.cell? ⟨b, 2, none⟩ = some (.int .i64 (ct : Int))) (by kernel_rfl) (HS0.out _ (Ext.refl _)) (fun hHeld => ?_)
 refine tj (i := 0) (oi := ⟨some 21, .move (.tmp 0), 76, "snap.go:277", #[], none⟩) rfl (by kernel_rfl) ?_
 try simp only [Act.put, sT, s0, s1]
 refine tj (i := 1) (oi := ⟨some 22, .nilCheck (.tmp 21), 0, "snap.go:277", #[⟨0, .data⟩], none⟩) rfl (by kernel_rfl) ?_
 try simp only [Act.put, sT, s0, s1]
 refine tj (i := 2) (oi := ⟨some 23, .fieldAddr 142 (.tmp 22) 2, 0, "snap.go:277", #[⟨1, .data⟩], none⟩) rfl (by kernel_rfl) ?_
 try simp only [Act.put, sT, s0, s1]
 refine tj (i := 3) (oi := ⟨some 24, .load 3 (.tmp 23), 3, "snap.go:277", #[⟨2, .data⟩], none⟩) rfl (by kernel_rfl) ?_
 try simp only [Act.put, sT, s0, s1]
 refine tk (i := 4) (oi := ⟨some 25, .load 137 (.tmp 5), 137, "snap.go:277", #[], none⟩) (v := .agg #[.int .i64 (ix : Int), .int .i64 (ar : Int), .int .i64 (ct : Int)]) rfl (by kernel_rfl) (yieldsIf_load_mid (by rfl) 137 (.tmp 5) rfl b 0 rfl [.int .i64 (ix : Int), .int .i64 (ar : Int), .int .i64 (ct : Int)] _ (fun w hw => three_range hw.2.2.1 hw.2.2.2.1 hw.2.2.2.2) Tryz.underlying137 rfl (by kernel_rfl)) ?_
 try simp only [Act.put, sT, s0, s1]
 refine tj (i := 5) (oi := ⟨some 26, .move (.tmp 2), 3, "snap.go:277", #[], none⟩) rfl (by kernel_rfl) ?_
 try simp only [Act.put, sT, s0, s1]
 refine tj (i := 7) (oi := ⟨some 28, .fieldAddr 137 (.tmp 5) 0, 0, "snap.go:277", #[], none⟩) rfl (by kernel_rfl) ?_
 try simp only [Act.put, sT, s0, s1]
 refine tj (i := 8) (oi := ⟨some 29, .load 3 (.tmp 28), 3, "snap.go:277", #[⟨7, .data⟩], none⟩) rfl (by kernel_rfl) ?_
 try simp only [Act.put, sT, s0, s1]
 refine tj (i := 9) (oi := ⟨some 30, .move (.tmp 0), 76, "snap.go:277", #[], none⟩) rfl (by kernel_rfl) ?_
 try simp only [Act.put, sT, s0, s1]
 refine tj (i := 10) (oi := ⟨some 31, .nilCheck (.tmp 30), 0, "snap.go:277", #[⟨9, .data⟩], none⟩) rfl (by kernel_rfl) ?_
 try simp only [Act.put, sT, s0, s1]
 refine tj (i := 11) (oi := ⟨some 32, .fieldAddr 142 (.tmp 31) 3, 0, "snap.go:277", #[⟨10, .data⟩], none⟩) rfl (by kernel_rfl) ?_
 try simp only [Act.put, sT, s0, s1]
 refine tj (i := 12) (oi := ⟨some 33, .load 3 (.tmp 32), 3, "snap.go:277", #[⟨11, .data⟩], none⟩) rfl (by kernel_rfl) ?_
 try simp only [Act.put, sT, s0, s1]
 refine wpAnyH_ready (rs := [6, 14]) (by kernel_rfl) (by simp) ?_
 refine AllReadyH.cons (o := ⟨some 27, .call { callee := .value (.func 167), args := #[.tmp 25, .tmp 26], argTypes := #[137, 3] }, 3, "snap.go:277", #[⟨4, .data⟩, ⟨5, .data⟩], none⟩) rfl (fun K hK => ?_) (AllReadyH.cons (o := ⟨some 11, .alloc 44, 0, "snap.go:277", #[], none⟩) rfl (fun K hK => ?_) AllReadyH.nil)
 ·go_simp
  refine (HPL.out _).mono ?_
  rintro e w3 ⟨rfl, hx⟩
  have HXk : Hid (Ext w1.drew w3) := Lib.hid hx
  clear hx
  go_wp2_with fail
  refine hK.out _ _ (HS0.out _ HXk.out) (fun hHeld => ?_)
  clear hK K
  try simp only [Act.put, sT, s0, s1]
  refine tj (i := 13) (oi := ⟨some 34, .build 44 #[(0, .tmp 24), (1, .const (.int .i64 5)), (2, .tmp 27), (3, .tmp 29), (4, .tmp 33)], 44, "snap.go:277", #[⟨3, .data⟩, ⟨6, .data⟩, ⟨8, .data⟩, ⟨12, .data⟩], none⟩) rfl (by kernel_rfl) ?_
  try simp only [Act.put, sT, s0, s1]
  refine wpAnyH_ready (rs := [14]) (by kernel_rfl) (by simp) ?_
  refine AllReadyH.cons (o := ⟨some 11, .alloc 44, 0, "snap.go:277", #[], none⟩) rfl (fun K hK => ?_) AllReadyH.nil
  clear hHeld
  go_simp
  refine hK.out _ _ (HS0.out _ (HXk.out.alloc _)) (fun hHeld => ?_)
  clear hK K
  try simp only [Act.put, sT, s0, s1]
  refine wpAnyH_ready (rs := [15]) (by kernel_rfl) (by simp) ?_
  refine AllReadyH.cons (o := ⟨none, .store 44 (.tmp 11) (.tmp 34), 0, "snap.go:277", #[⟨14, .data⟩, ⟨13, .data⟩, ⟨6, .chain⟩, ⟨0, .phase⟩, ⟨1, .phase⟩, ⟨2, .phase⟩, ⟨3, .phase⟩, ⟨4, .phase⟩, ⟨5, .phase⟩, ⟨6, .phase⟩, ⟨7, .phase⟩, ⟨8, .phase⟩, ⟨9, .phase⟩, ⟨10, .phase⟩, ⟨11, .phase⟩, ⟨12, .phase⟩, ⟨13, .phase⟩, ⟨14, .phase⟩], none⟩) rfl (fun K hK => ?_) AllReadyH.nil
  clear hHeld
  rw [if_pos (by rfl)]
  refine wp_store_mid 44 (.tmp 11) (.tmp 34) rfl w3.heap.size 0 #[.int .i64 r, .int .i64 5, .int .i64 (p : Int), .int .i64 (ix : Int), .int .i64 inc] rfl rfl (there_row (heap_alloc_new w3 _) 0 5 (by simp)) HI5.out (by simp [Value.oneCell']) ?_
  rw [alloc_setCells w3 _ #[.int .i64 r, .int .i64 5, .int .i64 (p : Int), .int .i64 (ix : Int), .int .i64 inc] _ (by rfl)]
  refine hK.out _ _ (HS0.out _ (HXk.out.alloc _)) (fun hHeld => ?_)
  clear hK K
  simp only [Act.put]
  refine wpAnyH_done (by kernel_rfl) ?_ _
  clear hHeld
  have hrow := heap_alloc_new w3 (.cells #[.int .i64 r, .int .i64 5, .int .i64 (p : Int), .int .i64 (ix : Int), .int .i64 inc] 44)
  have hx5 : Ext w1.drew (w3.alloc (.cells #[.int .i64 r, .int .i64 5, .int .i64 (p : Int), .int .i64 (ix : Int), .int .i64 inc] 44)) := HXk.out.alloc _
  generalize w3.alloc (.cells #[.int .i64 r, .int .i64 5, .int .i64 (p : Int), .int .i64 (ix : Int), .int .i64 inc] 44) = V1 at hrow hx5 ⊢
  generalize w3.heap.size = tb at hrow ⊢
  clear HXk
  have HX5 : Hid (Ext w V1) := Lib.hid (HXD.out.trans hx5)
  have HR1 := Lib.hid hrow
  have HR0 := Lib.hid (Ext.refl V1.drew)
  have hS2 : V1.drew.cell? ⟨tb, 0, none⟩ = some (.int .i64 r) ∧ V1.drew.cell? ⟨tb, 1, none⟩ = some (.int .i64 5) ∧ V1.drew.cell? ⟨tb, 2, none⟩ = some (.int .i64 (p : Int)) ∧ V1.drew.cell? ⟨tb, 3, none⟩ = some (.int .i64 (ix : Int)) ∧ V1.drew.cell? ⟨tb, 4, none⟩ = some (.int .i64 inc) := (five_cells hrow).1
  have HWD : Hid (∀ V, Hid (Ext V1.drew V) → Calls Tryz.prog 115 #[.int .i64 5] V fun e w' => e = .returned (.int .i64 2) ∧ Ext V w') := Lib.hid fun V hV => wide_any 5 V (HL.out.ext (Ext.trans (Below.drew HX5.out) hV.out)).f.a.t
  have HSL : Hid (∀ V, Hid (Ext V1.drew V) → Calls Tryz.prog 114 #[.agg #[.int .i64 r, .int .i64 5, .int .i64 (p : Int), .int .i64 (ix : Int), .int .i64 inc], .slice A1 n1 b1, .int .i64 2] V fun e w' => ∃ A' c', e = .returned (.tuple #[.slice A' L.length c', .int .i64 E]) ∧ Hid (By w' A' L.length c' L) ∧ Hid (E = 0 → ∀ q, A' = some q → V.heap.size ≤ q.block) ∧ Ext V w') := Lib.hid fun V hV => by
   refine (seal_own r 5 (p : Int) (ix : Int) inc 2 A1 n1 b1 (prZL (ct : Int) l) V (HL.out.ext (Ext.trans (Below.drew HX5.out) hV.out)).f ((HBD.out.ext (Below.drew hx5)).ext hV.out)).mono fun e w' ⟨A', c', h1, h2, h3, h4⟩ => ?_
   rw [HLL.out] at h1 h2 h3
   rw [HEE.out] at h1 h3
   exact ⟨A', c', h1, Lib.hid h2, Lib.hid (fun h0 q hq => ((h3 h0).lt q.block (by rw [hq]; rfl)).1), h4⟩
  clear hrow
  go_wp2_with fail
  go_region_held3 (fun w' => w'.cell? ⟨tb, 0, none⟩ = some (.int .i64 r) ∧ w'.cell? ⟨tb, 1, none⟩ = some (.int .i64 5) ∧ w'.cell? ⟨tb, 2, none⟩ = some (.int .i64 (p : Int)) ∧ w'.cell? ⟨tb, 3, none⟩ = some (.int .i64 (ix : Int)) ∧ w'.cell? ⟨tb, 4, none⟩ = some (.int .i64 inc))
   (first | with_reducible exact hS2 | exact keepT5 (by assumption) HR1 | go_keep)
   (first
    | (go_at_call 115; ((with_reducible refine (HWD.out _ HR0).mono ?_); rintro e w4 ⟨rfl, hx⟩; have HXk := Lib.hid hx; clear hx))
    | (go_at_call 114; ((with_reducible refine (HSL.out _ HXk).mono ?_); rintro e w5 ⟨A2, c2, rfl, HBY, HFR, hx⟩; have HXk3 : Hid (Ext V1.drew w5) := Lib.hid (HXk.out.trans hx); clear hx)))
  go_wp2_with fail
  go_ret
  exact ⟨A2, c2, rfl, HBY.out, fun h0 q hq => Nat.le_trans (Ext.trans (Below.drew HX5.out) HXk.out).size (HFR.out (HEQ.out.symm.trans h0) q hq), Ext.trans (Below.drew HX5.out) HXk3.out⟩
 ·go_simp
  refine hK.out _ _ (HS0.out _ ((Ext.refl w1.drew).alloc _)) (fun hHeld => ?_)
  clear hK K
  try simp only [Act.put, sT, s0, s1]
  refine wpAnyH_ready (rs := [6]) (by kernel_rfl) (by simp) ?_
  refine AllReadyH.cons (o := ⟨some 27, .call { callee := .value (.func 167), args := #[.tmp 25, .tmp 26], argTypes := #[137, 3] }, 3, "snap.go:277", #[⟨4, .data⟩, ⟨5, .data⟩], none⟩) rfl (fun K hK => ?_) AllReadyH.nil
  clear hHeld
  go_simp
  refine (HPL.out _).mono ?_
  rintro e w3 ⟨rfl, hx⟩
  have HXk : Hid (Ext w1.drew w3) := Lib.hid ((hid_ad _).out.trans hx)
  have HN2 := Lib.hid (new_after2 hx)
  clear hx
  go_wp2_with fail
  refine hK.out _ _ (HS0.out _ HXk.out) (fun hHeld => ?_)
  clear hK K
  try simp only [Act.put, sT, s0, s1]
  refine tj (i := 13) (oi := ⟨some 34, .build 44 #[(0, .tmp 24), (1, .const (.int .i64 5)), (2, .tmp 27), (3, .tmp 29), (4, .tmp 33)], 44, "snap.go:277", #[⟨3, .data⟩, ⟨6, .data⟩, ⟨8, .data⟩, ⟨12, .data⟩], none⟩) rfl (by kernel_rfl) ?_
  try simp only [Act.put, sT, s0, s1]
  refine wpAnyH_ready (rs := [15]) (by kernel_rfl) (by simp) ?_
  refine AllReadyH.cons (o := ⟨none, .store 44 (.tmp 11) (.tmp 34), 0, "snap.go:277", #[⟨14, .data⟩, ⟨13, .data⟩, ⟨6, .chain⟩, ⟨0, .phase⟩, ⟨1, .phase⟩, ⟨2, .phase⟩, ⟨3, .phase⟩, ⟨4, .phase⟩, ⟨5, .phase⟩, ⟨6, .phase⟩, ⟨7, .phase⟩, ⟨8, .phase⟩, ⟨9, .phase⟩, ⟨10, .phase⟩, ⟨11, .phase⟩, ⟨12, .phase⟩, ⟨13, .phase⟩, ⟨14, .phase⟩], none⟩) rfl (fun K hK => ?_) AllReadyH.nil
  clear hHeld
  rw [if_pos (by rfl)]
  refine wp_store_mid 44 (.tmp 11) (.tmp 34) rfl w1.heap.size 0 #[.int .i64 r, .int .i64 5, .int .i64 (p : Int), .int .i64 (ix : Int), .int .i64 inc] rfl rfl (there_row HN2.out 0 5 (by simp)) HI5.out (by simp [Value.oneCell']) ?_
  refine hK.out _ _ (HS0.out _ (ext_setCells HXk.out (Nat.le_refl _) 0 _)) (fun hHeld => ?_)
  clear hK K
  simp only [Act.put]
  refine wpAnyH_done (by kernel_rfl) ?_ _
  clear hHeld
  have hrow := row_setCells HN2.out 0 [.int .i64 r, .int .i64 5, .int .i64 (p : Int), .int .i64 (ix : Int), .int .i64 inc]
  rw [arr5Y] at hrow
  have hx5 := ext_setCells HXk.out (g := w1.heap.size) (Nat.le_refl _) 0 [.int .i64 r, .int .i64 5, .int .i64 (p : Int), .int .i64 (ix : Int), .int .i64 inc]
  generalize hV1 : w3.setCells w1.heap.size 0 [.int .i64 r, .int .i64 5, .int .i64 (p : Int), .int .i64 (ix : Int), .int .i64 inc] = V1 at hrow hx5 ⊢
  clear hV1 HN2 HXk
  generalize w1.heap.size = tb at hrow ⊢
  have HX5 : Hid (Ext w V1) := Lib.hid (HXD.out.trans hx5)
  have HR1 := Lib.hid hrow
  have HR0 := Lib.hid (Ext.refl V1.drew)
  have hS2 : V1.drew.cell? ⟨tb, 0, none⟩ = some (.int .i64 r) ∧ V1.drew.cell? ⟨tb, 1, none⟩ = some (.int .i64 5) ∧ V1.drew.cell? ⟨tb, 2, none⟩ = some (.int .i64 (p : Int)) ∧ V1.drew.cell? ⟨tb, 3, none⟩ = some (.int .i64 (ix : Int)) ∧ V1.drew.cell? ⟨tb, 4, none⟩ = some (.int .i64 inc) := (five_cells hrow).1
  have HWD : Hid (∀ V, Hid (Ext V1.drew V) → Calls Tryz.prog 115 #[.int .i64 5] V fun e w' => e = .returned (.int .i64 2) ∧ Ext V w') := Lib.hid fun V hV => wide_any 5 V (HL.out.ext (Ext.trans (Below.drew HX5.out) hV.out)).f.a.t
  have HSL : Hid (∀ V, Hid (Ext V1.drew V) → Calls Tryz.prog 114 #[.agg #[.int .i64 r, .int .i64 5, .int .i64 (p : Int), .int .i64 (ix : Int), .int .i64 inc], .slice A1 n1 b1, .int .i64 2] V fun e w' => ∃ A' c', e = .returned (.tuple #[.slice A' L.length c', .int .i64 E]) ∧ Hid (By w' A' L.length c' L) ∧ Hid (E = 0 → ∀ q, A' = some q → V.heap.size ≤ q.block) ∧ Ext V w') := Lib.hid fun V hV => by
   refine (seal_own r 5 (p : Int) (ix : Int) inc 2 A1 n1 b1 (prZL (ct : Int) l) V (HL.out.ext (Ext.trans (Below.drew HX5.out) hV.out)).f ((HBD.out.ext (Below.drew hx5)).ext hV.out)).mono fun e w' ⟨A', c', h1, h2, h3, h4⟩ => ?_
   rw [HLL.out] at h1 h2 h3
   rw [HEE.out] at h1 h3
   exact ⟨A', c', h1, Lib.hid h2, Lib.hid (fun h0 q hq => ((h3 h0).lt q.block (by rw [hq]; rfl)).1), h4⟩
  clear hrow
  go_wp2_with fail
  go_region_held3 (fun w' => w'.cell? ⟨tb, 0, none⟩ = some (.int .i64 r) ∧ w'.cell? ⟨tb, 1, none⟩ = some (.int .i64 5) ∧ w'.cell? ⟨tb, 2, none⟩ = some (.int .i64 (p : Int)) ∧ w'.cell? ⟨tb, 3, none⟩ = some (.int .i64 (ix : Int)) ∧ w'.cell? ⟨tb, 4, none⟩ = some (.int .i64 inc))
   (first | with_reducible exact hS2 | exact keepT5 (by assumption) HR1 | go_keep)
   (first
    | (go_at_call 115; ((with_reducible refine (HWD.out _ HR0).mono ?_); rintro e w4 ⟨rfl, hx⟩; have HXk := Lib.hid hx; clear hx))
    | (go_at_call 114; ((with_reducible refine (HSL.out _ HXk).mono ?_); rintro e w5 ⟨A2, c2, rfl, HBY, HFR, hx⟩; have HXk3 : Hid (Ext V1.drew w5) := Lib.hid (HXk.out.trans hx); clear hx)))
  go_wp2_with fail
  go_ret
  exact ⟨A2, c2, rfl, HBY.out, fun h0 q hq => Nat.le_trans (Ext.trans (Below.drew HX5.out) HXk.out).size (HFR.out (HEQ.out.symm.trans h0) q hq), Ext.trans (Below.drew HX5.out) HXk3.out⟩
end
section
open Go Go.RowKit
def lsOf (L : List Lst) : List (List Nat) := L.map fun a => a.l
end
section
open Go Go.RowKit
theorem wrs_stop {X : Int × DM} {S : Int} {L : List Nat} {n : Nat} : ∀ {W : Nat}, n ≤ W → (wrsE X S L n).1 ≠ 0 → wrsE X S L W = wrsE X S L n
 | 0, h, _ => by
  obtain rfl : n = 0 := by omega
  rfl
 | W + 1, h, he => by
  by_cases hn : n = W + 1
  ·rw [hn]
  ·have ih := wrs_stop (X := X) (S := S) (L := L) (n := n) (W := W) (by omega) he
   show unE (wrsE X S L W) _ = _
   rw [ih]
   exact if_neg he
theorem wrsY_append (r inc : Int) (s : ShM) : ∀ (l l' : List (List Nat)) (x : Int × DM) (k : Nat), wrsY r inc s x k (l ++ l') = wrsY r inc s (wrsY r inc s x k l) (k + l.length) l'
 | [], l', x, k => rfl
 | c :: l, l', x, k => by
  show wrsY r inc s _ (k + 1) (l ++ l') = _
  rw [wrsY_append r inc s l l' _ (k + 1), List.length_cons, show k + 1 + l.length = k + (l.length + 1) from by omega]
  rfl
theorem wrsY_stop {r inc : Int} {s : ShM} {x : Int × DM} {k j : Nat} {l : List (List Nat)} (h : (wrsY r inc s x k (l.take j)).1 ≠ 0) : wrsY r inc s x k l = wrsY r inc s x k (l.take j) := by
 have e : wrsY r inc s x k l = wrsY r inc s x k (l.take j ++ l.drop j) := by rw [List.take_append_drop]
 rw [e, wrsY_append]
 obtain ⟨X, hX⟩ : ∃ X, wrsY r inc s x k (l.take j) = X := ⟨_, rfl⟩
 rw [hX] at h ⊢
 obtain ⟨E, m'⟩ := X
 exact wrsY_err r inc s h _ _
theorem wrsY_waits {r inc : Int} {s : ShM} : ∀ (l : List (List Nat)) (x : Int × DM) (k : Nat), (wrsY r inc s x k l).2.waits.length ≤ x.2.waits.length + 2 * l.length
 | [], x, k => by show x.2.waits.length ≤ _; omega
 | c :: l, x, k => by
  show (wrsY r inc s _ (k + 1) l).2.waits.length ≤ _
  obtain ⟨E, m⟩ := x
  have h1 := wrsY_waits (r := r) (inc := inc) (s := s) l (wrsE (E, m) (firstS 5 ((8 * s.ar + k : Nat) : Int)) (frmY r inc s k c) 2) (k + 1)
  have h2 := wrs_waits (m := m) (E := E) (S := firstS 5 ((8 * s.ar + k : Nat) : Int)) (L := frmY r inc s k c) 2
  rw [List.length_cons]
  dsimp only
  omega
structure WY (w0 : World) (d : Nat) (F F' : Nat → Prop) (w : World) (m : DM) : Prop where
 disk : PDisk w d F' m
 sub : ∀ k, k < w0.heap.size → F' k → F k
 mod : Mod F w0 w
section
variable {w0 w w' : World} {d : Nat} {F F' : Nat → Prop} {m m' : DM}
theorem WY.start (h : PDisk w d F m) : WY w d F F w m := ⟨h, fun _ _ hf => hf, Mod.refl _ _⟩
theorem WY.ext (h : WY w0 d F F' w m) (hx : Ext w w') : WY w0 d F F' w' m := ⟨h.disk.ext hx, h.sub, h.mod.ext hx⟩
theorem WY.step (h : WY w0 d F F' w m) (hd : PDisk w' d (grow F' w w') m') (hm : Mod F' w w') : WY w0 d F (grow F' w w') w' m' :=
 ⟨hd, fun k hk hf => hf.elim (h.sub k hk) (fun hg => absurd hg.1 (by have := h.mod.size; omega)), h.mod.trans hm fun i hi => by
  by_cases hlt : i < w0.heap.size
  ·exact .inl (h.sub i hlt hi)
  ·exact .inr (by omega)⟩
theorem WY.base {w1 : World} (h : WY w1 d F F' w m) (hx : Ext w0 w1) : WY w0 d F F' w m :=
 ⟨h.disk, fun k hk hf => h.sub k (Nat.lt_of_lt_of_le hk hx.size) hf, (Mod.of_ext hx).trans h.mod fun _ hi => .inl hi⟩
theorem grow_not {k : Nat} (h : ¬ F' k) (hk : k < w.heap.size) : ¬ grow F' w w' k := fun hg => hg.elim h (fun hh => absurd hh.1 (by omega))
theorem WY.not_ (h : WY w0 d F F' w m) {k : Nat} (hk : k < w0.heap.size) (hF : ¬ F k) : ¬ F' k := fun hf => hF (h.sub k hk hf)
end
theorem By.modN {F : Nat → Prop} {w w' : World} {A : Option Addr} {n cp : Nat} {l : List Nat} (h : By w A n cp l) (k : Mod F w w') (ho : 0 < n → Off F A) : By w' A n cp l := by
 refine ⟨h.len, h.cap, h.most, ⟨h.rd.1, fun hn => ?_⟩, Bs.nil_ h⟩
 obtain ⟨g, o, e, hg, hc⟩ := h.rd.2 hn
 refine ⟨g, o, e, Nat.lt_of_lt_of_le hg k.size, fun j x hx => ?_⟩
 rw [← hc j x hx]
 exact World.cell?_of_block (a := ⟨g, o + j, none⟩) (k.block g hg (ho (by have := h.len; omega) _ e))
theorem Lsts.modY {w w' : World} {F : Nat → Prop} {A : Option Addr} {n c : Nat} {l : List Lst} (h : Lsts w w.heap.size A n c l) (hm : Mod F w w') (hA : Off F A) (hO : ∀ a ∈ l, 0 < a.n → Off F a.A) {j : Nat} (hj : j < n) :
 ∃ g o a, A = some ⟨g, o, none⟩ ∧ l[j]? = some a ∧ By w' a.A a.n a.c a.l ∧ w'.cell? ⟨g, o + j, none⟩ = some (.slice a.A a.n a.c) := by
 obtain ⟨g, o, a, e, hg, ha, hb, hc⟩ := h.at_ hj
 exact ⟨g, o, a, e, ha, By.modN hb hm (hO a (List.mem_of_getElem? ha)), mod_cell hm (hA _ e) hc⟩
end
section
open Go Go.RowKit
theorem lsts_own {w : World} {b b' : Nat} {v v' : Value} {L : List Lst} (hrow : w.ownsRow b 45 1 v L.length (L.map Lst.val)) (hok : LsOk w b' v' L) : ∃ A c, v = .slice A L.length c ∧ Lsts w w.heap.size A L.length c L := by
 obtain ⟨A, c, rfl, h1, h2⟩ := own_form hrow
 refine ⟨A, c, rfl, rfl, h1, h2, fun a ha => (hok a ha).1.1, fun hn => ?_, fun hA => ?_⟩
 ·rcases hrow.2 with ⟨_, h0⟩ | ⟨g, cap, cur, hv, hb, hg, _⟩
  ·omega
  ·injection hv with hA hN hC
   subst hA
   refine ⟨g, 0, rfl, (Array.getElem?_eq_some_iff.1 hg).1, fun j a ha => ?_⟩
   have hj : j < L.length := (List.getElem?_eq_some_iff.1 ha).1
   rw [Nat.zero_add, hrow.cellAt j (by omega), List.getElem?_map, ha]
   rfl
 ·rcases hrow.2 with ⟨hv, _⟩ | ⟨g, cap, cur, hv, _⟩
  ·injection hv
  ·injection hv with hA' _ _
   rw [hA] at hA'
   cases hA'
theorem Lsts.ext {w w' : World} {A : Option Addr} {n c : Nat} {l : List Lst} (h : Lsts w w.heap.size A n c l) (k : Ext w w') : Lsts w' w'.heap.size A n c l := (h.below k).more k.size
end
end Go.Proofs.YtmpaocpgoihliaaGreatDoor
