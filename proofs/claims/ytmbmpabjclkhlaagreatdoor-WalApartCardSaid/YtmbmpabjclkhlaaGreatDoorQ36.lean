/-
  The contract of slots, as an iterator: the live slots' classes and reports come in order.
-/
import Derived.Test.YtmbmpabjclkhlaaGreatDoorQ00
import Derived.Test.YtmbmpabjclkhlaaGreatDoorQ15
import Derived.Test.YtmbmpabjclkhlaaGreatDoorQ17
import Derived.Test.YtmbmpabjclkhlaaGreatDoorQ21
import Derived.Test.YtmbmpabjclkhlaaGreatDoorQ33
import Derived.Test.YtmbmpabjclkhlaaGreatDoorQ34
import Derived.Test.YtmbmpabjclkhlaaGreatDoorQ35
import Derived.Deep.DeepCutAuto
import Derived.Deep.MidRow
import Derived.RangeFuncNested
import Derived.RangeFuncBound
import Derived.RangeFuncCalls
import Derived.RangeFuncLeaves
import Derived.Shelf.Abstract
import Derived.Shelf.RegionOpen
import Derived.WalkKit
import Derived.OwnWalkIn
import Derived.TacticsInMore
import Derived.LoopNIn
import Derived.LoopIn
namespace Go.Proofs.YtmbmpabjclkhlaaGreatDoor
set_option maxRecDepth 100000
section
open Go Go.RowKit Go.Shelf
attribute [local go_sem] Oper.semAt_some
abbrev SlIn := { k : Nat // k < 24 }
def encSl (cls : Nat → Nat) (rpt : Nat → Rpt) (x : SlIn) : Array Value := #[.int .u8 (cls x.1 : Int), .agg #[.int .i64 (rpt x.1).ix, .int .u8 ((rpt x.1).st : Int), .int .i64 (rpt x.1).x, .int .i64 (rpt x.1).y, .int .u8 ((rpt x.1).e.k : Int), .int .i64 (rpt x.1).e.cl, .int .i64 (rpt x.1).e.sq, .int .u8 ((rpt x.1).e.ok : Int), .string (rpt x.1).e.key, .string (rpt x.1).e.old, .string (rpt x.1).e.val]]
def WhatOn (G : Nat → Prop) (W0 : World) (g s : Nat) (cls : Nat → Nat) (rpt : Nat → Rpt) : Prop :=
  ∀ k : Nat, k < 24 → ∀ W, Mod G W0 W → Calls Tryz.prog 177 #[.pointer (some ⟨g, 0, none⟩), .int .i64 ((s : Int) + 1 + (k : Int))] W fun e W' => e = .returned (.tuple #[.int .u8 (cls k : Int), .agg #[.int .i64 (rpt k).ix, .int .u8 ((rpt k).st : Int), .int .i64 (rpt k).x, .int .i64 (rpt k).y, .int .u8 ((rpt k).e.k : Int), .int .i64 (rpt k).e.cl, .int .i64 (rpt k).e.sq, .int .u8 ((rpt k).e.ok : Int), .string (rpt k).e.key, .string (rpt k).e.old, .string (rpt k).e.val]]) ∧ Ext W W'
set_option maxHeartbeats 400000 in
theorem wslots_of (g : Nat) (w : World) :
    Calls Tryz.prog 89 #[.pointer (some ⟨g, 0, none⟩)] w fun e w' => e = .returned (.func (.func 176) #[] #[.pointer (some ⟨w.heap.size, 0, none⟩)]) ∧ w' = w.alloc (.cells #[.pointer (some ⟨g, 0, none⟩)] 31) := by
  go_enter Tryz.func89, Tryz.ntmps89
  go_wp2
  go_ret
  exact ⟨rfl, rfl⟩
theorem keepTwoD {V W : World} {a b : Addr} {v0 v1 : Value} (k : Hid (Ext V W)) (h : Hid (V.cell? a = some v0 ∧ V.cell? b = some v1)) : W.cell? a = some v0 ∧ W.cell? b = some v1 :=
  ⟨(Below.cell k.out (p := a) (World.block_lt_of_cell? V _ h.out.1)).trans h.out.1, (Below.cell k.out (p := b) (World.block_lt_of_cell? V _ h.out.2)).trans h.out.2⟩
theorem keepTwoSD {V W : World} {a b : Addr} {v0 v1 : Value} (o : Nat) (vs : List Value) (k : Hid (Ext V W)) (h : Hid (V.cell? a = some v0 ∧ V.cell? b = some v1)) : (W.setCells V.heap.size o vs).cell? a = some v0 ∧ (W.setCells V.heap.size o vs).cell? b = some v1 := by
  have one : ∀ {c : Addr} {v : Value}, V.cell? c = some v → (W.setCells V.heap.size o vs).cell? c = some v := fun {c _} hc => by
    have hlt := World.block_lt_of_cell? V _ hc
    rw [World.cell?_setCells_out V.heap.size vs o W c (fun e => by omega)]
    exact (Below.cell k.out (p := c) hlt).trans hc
  exact ⟨one h.out.1, one h.out.2⟩
set_option maxHeartbeats 1600000 in
theorem wslots1_in (n : Nat) (hn : 1 ≤ n) (l bl : Nat) (G : Nat → Prop) (g s : Nat) (hs9 : s ≤ 1900000000000) (cls : Nat → Nat) (rpt : Nat → Rpt) (J Jx : List SlIn → World → Prop) (W0 V : World) (hV : Mod G W0 V)
    (hAb : ∀ s W W', J s W → Ext W W' → J s W') (hI : WhatOn G W0 g s cls rpt) (hGf : ¬ G bl ∧ ¬ G g)
    (hcl : V.cell? ⟨bl, 0, none⟩ = some (.pointer (some ⟨g, 0, none⟩))) (hcs : V.cell? ⟨g, 4, none⟩ = some (.int .i64 (s : Int)))
    (hY : ∀ pre x W, J pre W → pre.length < 24 → YieldAt Fence.wide (n - 1) Tryz.prog l (encSl cls rpt x) W fun e W' =>
      (e = .returned (.bool true) ∧ J (pre ++ [x]) W' ∧ Mod G W W') ∨ (e = .returned (.bool false) ∧ Jx (pre ++ [x]) W')) (h0 : J [] V) :
    CallsIn Fence.wide n Tryz.prog 176 #[.func (.yield l) #[] #[], .pointer (some ⟨bl, 0, none⟩)] V fun e W' => (∃ v, e = .returned v) ∧
      ((∃ ys : List SlIn, ys.map (fun x => x.1) = List.range 24 ∧ J ys W') ∨ (∃ pre : List SlIn, True ∧ Jx pre W')) := by
  have HI := Lib.hid hI
  have HG := Lib.hid hGf
  have HC := Lib.hid (And.intro hcl hcs)
  have HAB := Lib.hid hAb
  have HV := Lib.hid hV
  have HY := Lib.hid hY
  clear hI hGf hcl hcs hAb hV hY
  refine callsIn_of_wp Tryz.func176 rfl trivial ?_ rfl
  simp only [Tryz.ntmps176, List.size_toArray, List.length_cons, List.length_nil, Nat.reduceAdd, Nat.reduceSub, Array.replicate_succ, Array.replicate_zero, List.push_toArray, List.append_toArray, List.nil_append, List.cons_append]
  gi_wp2
  gi_loopw [6] (fun i wr => ∃ (j : Nat) (pre : List SlIn), j ≤ 24 ∧ i = .int .i64 (j : Int) ∧ Hid (pre.map (fun x => x.1) = List.range j) ∧ Hid (J pre wr) ∧ Hid (Mod G V wr)) (fun i _ => 24 - (intOf i).toNat)
  case atStart => exact ⟨0, [], Nat.zero_le _, rfl, Lib.hid rfl, Lib.hid h0, Lib.hid (Mod.refl _ _)⟩
  case round =>
    obtain ⟨j, pre, hj, rfl, HP, HJ, HM⟩ := hrel
    have HC2 : Hid (wr.cell? ⟨bl, 0, none⟩ = some (.pointer (some ⟨g, 0, none⟩)) ∧ wr.cell? ⟨g, 4, none⟩ = some (.int .i64 (s : Int))) := Lib.hid ⟨mod_cell HM.out HG.out.1 HC.out.1, mod_cell HM.out HG.out.2 HC.out.2⟩
    have hC2 := HC2.out
    by_cases hlt : j < 24
    · have HW : Hid (∀ V', Hid (Ext wr.drew V') → Calls Tryz.prog 177 #[.pointer (some ⟨g, 0, none⟩), .int .i64 (IntKind.i64.wrap (IntKind.i64.wrap ((s : Int) + 1) + (j : Int)))] V' fun e W' => e = .returned (.tuple #[.int .u8 (cls j : Int), .agg #[.int .i64 (rpt j).ix, .int .u8 ((rpt j).st : Int), .int .i64 (rpt j).x, .int .i64 (rpt j).y, .int .u8 ((rpt j).e.k : Int), .int .i64 (rpt j).e.cl, .int .i64 (rpt j).e.sq, .int .u8 ((rpt j).e.ok : Int), .string (rpt j).e.key, .string (rpt j).e.old, .string (rpt j).e.val]]) ∧ Ext V' W') := Lib.hid fun V' hV' => by
        rw [wrap_i64 (x := (s : Int) + 1) (by omega) (by omega), wrap_i64 (by omega) (by omega)]
        exact HI.out j hlt V' ((HV.out.trans HM.out fun _ hi => .inl hi).ext ((Below.drew (Ext.refl wr)).trans hV'.out))
      have HR0 := Lib.hid (Ext.refl wr.drew)
      gi_wp2
      refine wpIn_wide.2 ?_
      have hi11 : (Tryz.prog.info? 80).map (·.size) = some 11 := by kernel_rfl
      have HI11 := Lib.hid hi11
      clear hi11
      refine wp_region_held_drew (S := fun w' => w'.cell? ⟨bl, 0, none⟩ = some (.pointer (some ⟨g, 0, none⟩)) ∧ w'.cell? ⟨g, 4, none⟩ = some (.int .i64 (s : Int))) (by kernel_rfl) (HC2.out) (fun hHeld => ?_)
      refine tj (i := 0) (oi := ⟨some 10, .load 31 (.tmp 1), 31, "wal.go:153", #[], none⟩) rfl (by kernel_rfl) ?_
      try simp only [Act.put, sT, s0, s1]
      refine tj (i := 1) (oi := ⟨some 11, .load 31 (.tmp 1), 31, "wal.go:153", #[], none⟩) rfl (by kernel_rfl) ?_
      try simp only [Act.put, sT, s0, s1]
      refine tj (i := 2) (oi := ⟨some 12, .nilCheck (.tmp 11), 0, "wal.go:153", #[⟨1, .data⟩], none⟩) rfl (by kernel_rfl) ?_
      try simp only [Act.put, sT, s0, s1]
      refine tj (i := 3) (oi := ⟨some 13, .fieldAddr 142 (.tmp 12) 4, 0, "wal.go:153", #[⟨2, .data⟩], none⟩) rfl (by kernel_rfl) ?_
      try simp only [Act.put, sT, s0, s1]
      refine tj (i := 4) (oi := ⟨some 14, .load 3 (.tmp 13), 3, "wal.go:153", #[⟨3, .data⟩], none⟩) rfl (by kernel_rfl) ?_
      try simp only [Act.put, sT, s0, s1]
      refine tj (i := 5) (oi := ⟨some 15, .binOp .add 3 (.tmp 14) (.const (.int .i64 1)) 3, 3, "wal.go:153", #[⟨4, .data⟩], none⟩) rfl (by kernel_rfl) ?_
      try simp only [Act.put, sT, s0, s1]
      refine tj (i := 6) (oi := ⟨some 16, .move (.tmp 3), 3, "wal.go:153", #[], none⟩) rfl (by kernel_rfl) ?_
      try simp only [Act.put, sT, s0, s1]
      refine tj (i := 7) (oi := ⟨some 17, .binOp .add 3 (.tmp 15) (.tmp 16) 3, 3, "wal.go:153", #[⟨5, .data⟩, ⟨6, .data⟩], none⟩) rfl (by kernel_rfl) ?_
      try simp only [Act.put, sT, s0, s1]
      generalize hwd : wr.drew = wd at *
      have HCD : Hid (wd.cell? ⟨bl, 0, none⟩ = some (.pointer (some ⟨g, 0, none⟩)) ∧ wd.cell? ⟨g, 4, none⟩ = some (.int .i64 (s : Int))) := Lib.hid (by rw [← hwd]; exact HC2.out)
      have HJ2 : Hid (J pre wd) := Lib.hid (by rw [← hwd]; exact HAB.out _ _ _ HJ.out (Below.drew (Ext.refl wr)))
      have HM2 : Hid (Mod G V wd) := Lib.hid (by rw [← hwd]; exact HM.out.drew)
      clear hC2 HC2 hwd
      refine wpAnyH_ready (rs := [8, 12]) (by kernel_rfl) (by simp) ?_
      refine AllReadyH.cons (o := ⟨some 18, .call { callee := .value (.func 177), args := #[.tmp 10, .tmp 17], argTypes := #[31, 3] }, 254, "wal.go:153", #[⟨0, .data⟩, ⟨7, .data⟩], none⟩) rfl (fun K hK => ?_) (AllReadyH.cons (o := ⟨some 5, .alloc 80, 0, "wal.go:153", #[], none⟩) rfl (fun K hK => ?_) AllReadyH.nil)
      · go_simp
        refine (HW.out _ HR0).mono ?_
        rintro e w3 ⟨rfl, hx⟩
        have HXk : Hid (Ext wd w3) := Lib.hid (HR0.out.trans hx)
        clear hx
        go_wp2_with fail
        refine hK.out _ _ (keepTwoD HXk HCD) (fun hHeld => ?_)
        clear hK K
        try simp only [Act.put, sT, s0, s1]
        refine tj (i := 9) (oi := ⟨some 9, .move (.tmp 18), 254, "wal.go:153", #[⟨8, .data⟩], none⟩) rfl (by kernel_rfl) ?_
        try simp only [Act.put, sT, s0, s1]
        refine tj (i := 10) (oi := ⟨some 19, .extract (.tmp 9) 0, 5, "wal.go:153", #[⟨9, .data⟩], none⟩) rfl (by kernel_rfl) ?_
        try simp only [Act.put, sT, s0, s1]
        refine tj (i := 11) (oi := ⟨some 20, .extract (.tmp 9) 1, 80, "wal.go:153", #[⟨9, .data⟩, ⟨13, .gcOnly .lateStores⟩], none⟩) rfl (by kernel_rfl) ?_
        try simp only [Act.put, sT, s0, s1]
        refine wpAnyH_ready (rs := [12]) (by kernel_rfl) (by simp) ?_
        refine AllReadyH.cons (o := ⟨some 5, .alloc 80, 0, "wal.go:153", #[], none⟩) rfl (fun K hK => ?_) AllReadyH.nil
        clear hHeld
        go_simp
        refine hK.out _ _ (keepTwoD (hid_alloc _ HXk) HCD) (fun hHeld => ?_)
        clear hK K
        try simp only [Act.put, sT, s0, s1]
        refine tj (i := 13) (oi := ⟨some 4, .assign (.tmp 19), 5, "wal.go:153", #[⟨10, .data⟩, ⟨8, .chain⟩, ⟨0, .phase⟩, ⟨1, .phase⟩, ⟨2, .phase⟩, ⟨3, .phase⟩, ⟨4, .phase⟩, ⟨5, .phase⟩, ⟨6, .phase⟩, ⟨7, .phase⟩, ⟨8, .phase⟩, ⟨9, .phase⟩, ⟨10, .phase⟩, ⟨11, .textOnly .lateStores⟩, ⟨12, .phase⟩], none⟩) rfl (by kernel_rfl) ?_
        try simp only [Act.put, sT, s0, s1]
        refine wpAnyH_ready (rs := [14]) (by kernel_rfl) (by simp) ?_
        refine AllReadyH.cons (o := ⟨none, .store 80 (.tmp 5) (.tmp 20), 0, "wal.go:153", #[⟨12, .data⟩, ⟨11, .data⟩, ⟨13, .chain⟩, ⟨0, .phase⟩, ⟨1, .phase⟩, ⟨2, .phase⟩, ⟨3, .phase⟩, ⟨4, .phase⟩, ⟨5, .phase⟩, ⟨6, .phase⟩, ⟨7, .phase⟩, ⟨8, .phase⟩, ⟨9, .phase⟩, ⟨10, .phase⟩, ⟨11, .phase⟩, ⟨12, .phase⟩, ⟨13, .phase⟩], none⟩) rfl (fun K hK => ?_) AllReadyH.nil
        clear hHeld
        rw [if_pos (by rfl)]
        refine wp_store_mid 80 (.tmp 5) (.tmp 20) rfl w3.heap.size 0 #[.int .i64 (rpt j).ix, .int .u8 ((rpt j).st : Int), .int .i64 (rpt j).x, .int .i64 (rpt j).y, .int .u8 ((rpt j).e.k : Int), .int .i64 (rpt j).e.cl, .int .i64 (rpt j).e.sq, .int .u8 ((rpt j).e.ok : Int), .string (rpt j).e.key, .string (rpt j).e.old, .string (rpt j).e.val] rfl rfl (there_row (heap_alloc_new w3 _) 0 11 (by simp)) HI11.out (by simp [Value.oneCell']) ?_
        rw [alloc_setCells w3 _ #[.int .i64 (rpt j).ix, .int .u8 ((rpt j).st : Int), .int .i64 (rpt j).x, .int .i64 (rpt j).y, .int .u8 ((rpt j).e.k : Int), .int .i64 (rpt j).e.cl, .int .i64 (rpt j).e.sq, .int .u8 ((rpt j).e.ok : Int), .string (rpt j).e.key, .string (rpt j).e.old, .string (rpt j).e.val] _ (by rfl)]
        refine hK.out _ _ (keepTwoD (hid_alloc _ HXk) HCD) (fun hHeld => ?_)
        clear hK K
        simp only [Act.put]
        refine wpAnyH_done (by kernel_rfl) ?_ _
        clear hHeld
        have hrow := heap_alloc_new w3 (.cells #[.int .i64 (rpt j).ix, .int .u8 ((rpt j).st : Int), .int .i64 (rpt j).x, .int .i64 (rpt j).y, .int .u8 ((rpt j).e.k : Int), .int .i64 (rpt j).e.cl, .int .i64 (rpt j).e.sq, .int .u8 ((rpt j).e.ok : Int), .string (rpt j).e.key, .string (rpt j).e.old, .string (rpt j).e.val] 80)
        have hx := HXk.out.alloc (.cells #[.int .i64 (rpt j).ix, .int .u8 ((rpt j).st : Int), .int .i64 (rpt j).x, .int .i64 (rpt j).y, .int .u8 ((rpt j).e.k : Int), .int .i64 (rpt j).e.cl, .int .i64 (rpt j).e.sq, .int .u8 ((rpt j).e.ok : Int), .string (rpt j).e.key, .string (rpt j).e.old, .string (rpt j).e.val] 80)
        generalize w3.alloc (.cells #[.int .i64 (rpt j).ix, .int .u8 ((rpt j).st : Int), .int .i64 (rpt j).x, .int .i64 (rpt j).y, .int .u8 ((rpt j).e.k : Int), .int .i64 (rpt j).e.cl, .int .i64 (rpt j).e.sq, .int .u8 ((rpt j).e.ok : Int), .string (rpt j).e.key, .string (rpt j).e.old, .string (rpt j).e.val] 80) = V5 at hrow hx ⊢
        generalize w3.heap.size = b5 at hrow ⊢
        have HROW := Lib.hid hrow
        have HX5 := Lib.hid hx
        have HJ5 := Lib.hid (HAB.out _ _ _ HJ2.out hx)
        obtain ⟨fn, tmps, assign, body, hy, hR⟩ := HY.out pre ⟨j, hlt⟩ V5 HJ5.out (by have := congrArg List.length HP.out; simp at this; omega)
        have HR5 := Lib.hid hR
        have c0 := cell_of_row V5 b5 0 _ _ _ (HROW.out)
        have c1 := cell_of_row V5 b5 1 _ _ _ (HROW.out)
        have c2 := cell_of_row V5 b5 2 _ _ _ (HROW.out)
        have c3 := cell_of_row V5 b5 3 _ _ _ (HROW.out)
        have c4 := cell_of_row V5 b5 4 _ _ _ (HROW.out)
        have c5 := cell_of_row V5 b5 5 _ _ _ (HROW.out)
        have c6 := cell_of_row V5 b5 6 _ _ _ (HROW.out)
        have c7 := cell_of_row V5 b5 7 _ _ _ (HROW.out)
        have c8 := cell_of_row V5 b5 8 _ _ _ (HROW.out)
        have c9 := cell_of_row V5 b5 9 _ _ _ (HROW.out)
        have c10 := cell_of_row V5 b5 10 _ _ _ (HROW.out)
        clear hrow hx hR
        have hy2 : (Instr.yield l #[.int .u8 (cls j : Int), .agg #[.int .i64 (rpt j).ix, .int .u8 ((rpt j).st : Int), .int .i64 (rpt j).x, .int .i64 (rpt j).y, .int .u8 ((rpt j).e.k : Int), .int .i64 (rpt j).e.cl, .int .i64 (rpt j).e.sq, .int .u8 ((rpt j).e.ok : Int), .string (rpt j).e.key, .string (rpt j).e.old, .string (rpt j).e.val]]).run Tryz.prog V5 = .ok (.round l fn tmps assign body) V5 := hy
        clear hy
        gi_wp2
        refine HR5.out.mono ?_
        rintro e W4 (⟨rfl, hJ4, hM4⟩ | ⟨rfl, hJ4⟩)
        · have HJ4 := Lib.hid hJ4
          have HM4 : Hid (Mod G V W4) := Lib.hid ((HM2.out.ext HX5.out).trans hM4 fun _ hi => .inl hi)
          clear hJ4 hM4 c0 c1 c2 c3 c4 c5 c6 c7 c8 c9 c10 hy2
          gi_wp2
          go_roundw
          case rel => exact ⟨j + 1, _, by omega, by go_num, Lib.hid (by rw [List.map_append, HP.out, List.range_succ]; rfl), HJ4, HM4⟩
          case measure => simp [intOf]; omega
        · have HJ4 := Lib.hid hJ4
          clear hJ4 c0 c1 c2 c3 c4 c5 c6 c7 c8 c9 c10 hy2
          gi_wp2
          refine bodyPost_ret (results_none rfl _ _ _) rfl ?_
          exact ⟨⟨_, rfl⟩, .inr ⟨_, trivial, HJ4.out⟩⟩
      · go_simp
        refine hK.out _ _ (keepTwoD (hid_alloc _ HR0) HCD) (fun hHeld => ?_)
        clear hK K
        try simp only [Act.put, sT, s0, s1]
        refine wpAnyH_ready (rs := [8]) (by kernel_rfl) (by simp) ?_
        refine AllReadyH.cons (o := ⟨some 18, .call { callee := .value (.func 177), args := #[.tmp 10, .tmp 17], argTypes := #[31, 3] }, 254, "wal.go:153", #[⟨0, .data⟩, ⟨7, .data⟩], none⟩) rfl (fun K hK => ?_) AllReadyH.nil
        clear hHeld
        go_simp
        refine (HW.out _ (hid_alloc _ HR0)).mono ?_
        rintro e w3 ⟨rfl, hx⟩
        have HXk : Hid (Ext wd w3) := Lib.hid ((hid_alloc _ HR0).out.trans hx)
        have HN2 := Lib.hid (new_after hx)
        clear hx
        go_wp2_with fail
        refine hK.out _ _ (keepTwoD HXk HCD) (fun hHeld => ?_)
        clear hK K
        try simp only [Act.put, sT, s0, s1]
        refine tj (i := 9) (oi := ⟨some 9, .move (.tmp 18), 254, "wal.go:153", #[⟨8, .data⟩], none⟩) rfl (by kernel_rfl) ?_
        try simp only [Act.put, sT, s0, s1]
        refine tj (i := 10) (oi := ⟨some 19, .extract (.tmp 9) 0, 5, "wal.go:153", #[⟨9, .data⟩], none⟩) rfl (by kernel_rfl) ?_
        try simp only [Act.put, sT, s0, s1]
        refine tj (i := 11) (oi := ⟨some 20, .extract (.tmp 9) 1, 80, "wal.go:153", #[⟨9, .data⟩, ⟨13, .gcOnly .lateStores⟩], none⟩) rfl (by kernel_rfl) ?_
        try simp only [Act.put, sT, s0, s1]
        refine tj (i := 13) (oi := ⟨some 4, .assign (.tmp 19), 5, "wal.go:153", #[⟨10, .data⟩, ⟨8, .chain⟩, ⟨0, .phase⟩, ⟨1, .phase⟩, ⟨2, .phase⟩, ⟨3, .phase⟩, ⟨4, .phase⟩, ⟨5, .phase⟩, ⟨6, .phase⟩, ⟨7, .phase⟩, ⟨8, .phase⟩, ⟨9, .phase⟩, ⟨10, .phase⟩, ⟨11, .textOnly .lateStores⟩, ⟨12, .phase⟩], none⟩) rfl (by kernel_rfl) ?_
        try simp only [Act.put, sT, s0, s1]
        refine wpAnyH_ready (rs := [14]) (by kernel_rfl) (by simp) ?_
        refine AllReadyH.cons (o := ⟨none, .store 80 (.tmp 5) (.tmp 20), 0, "wal.go:153", #[⟨12, .data⟩, ⟨11, .data⟩, ⟨13, .chain⟩, ⟨0, .phase⟩, ⟨1, .phase⟩, ⟨2, .phase⟩, ⟨3, .phase⟩, ⟨4, .phase⟩, ⟨5, .phase⟩, ⟨6, .phase⟩, ⟨7, .phase⟩, ⟨8, .phase⟩, ⟨9, .phase⟩, ⟨10, .phase⟩, ⟨11, .phase⟩, ⟨12, .phase⟩, ⟨13, .phase⟩], none⟩) rfl (fun K hK => ?_) AllReadyH.nil
        clear hHeld
        rw [if_pos (by rfl)]
        refine wp_store_mid 80 (.tmp 5) (.tmp 20) rfl wd.heap.size 0 #[.int .i64 (rpt j).ix, .int .u8 ((rpt j).st : Int), .int .i64 (rpt j).x, .int .i64 (rpt j).y, .int .u8 ((rpt j).e.k : Int), .int .i64 (rpt j).e.cl, .int .i64 (rpt j).e.sq, .int .u8 ((rpt j).e.ok : Int), .string (rpt j).e.key, .string (rpt j).e.old, .string (rpt j).e.val] rfl rfl (there_row HN2.out 0 11 (by simp)) HI11.out (by simp [Value.oneCell']) ?_
        skip
        refine hK.out _ _ (keepTwoSD _ _ HXk HCD) (fun hHeld => ?_)
        clear hK K
        simp only [Act.put]
        refine wpAnyH_done (by kernel_rfl) ?_ _
        clear hHeld
        have hrow := row_setCells HN2.out 0 [.int .i64 (rpt j).ix, .int .u8 ((rpt j).st : Int), .int .i64 (rpt j).x, .int .i64 (rpt j).y, .int .u8 ((rpt j).e.k : Int), .int .i64 (rpt j).e.cl, .int .i64 (rpt j).e.sq, .int .u8 ((rpt j).e.ok : Int), .string (rpt j).e.key, .string (rpt j).e.old, .string (rpt j).e.val]
        rw [arr11] at hrow
        have hx := ext_setCells HXk.out (g := wd.heap.size) (Nat.le_refl _) 0 [.int .i64 (rpt j).ix, .int .u8 ((rpt j).st : Int), .int .i64 (rpt j).x, .int .i64 (rpt j).y, .int .u8 ((rpt j).e.k : Int), .int .i64 (rpt j).e.cl, .int .i64 (rpt j).e.sq, .int .u8 ((rpt j).e.ok : Int), .string (rpt j).e.key, .string (rpt j).e.old, .string (rpt j).e.val]
        generalize hV5 : w3.setCells wd.heap.size 0 [.int .i64 (rpt j).ix, .int .u8 ((rpt j).st : Int), .int .i64 (rpt j).x, .int .i64 (rpt j).y, .int .u8 ((rpt j).e.k : Int), .int .i64 (rpt j).e.cl, .int .i64 (rpt j).e.sq, .int .u8 ((rpt j).e.ok : Int), .string (rpt j).e.key, .string (rpt j).e.old, .string (rpt j).e.val] = V5 at hrow hx ⊢
        clear hV5
        generalize hb5 : wd.heap.size = b5 at hrow ⊢
        clear hb5 HN2
        have HROW := Lib.hid hrow
        have HX5 := Lib.hid hx
        have HJ5 := Lib.hid (HAB.out _ _ _ HJ2.out hx)
        obtain ⟨fn, tmps, assign, body, hy, hR⟩ := HY.out pre ⟨j, hlt⟩ V5 HJ5.out (by have := congrArg List.length HP.out; simp at this; omega)
        have HR5 := Lib.hid hR
        have c0 := cell_of_row V5 b5 0 _ _ _ (HROW.out)
        have c1 := cell_of_row V5 b5 1 _ _ _ (HROW.out)
        have c2 := cell_of_row V5 b5 2 _ _ _ (HROW.out)
        have c3 := cell_of_row V5 b5 3 _ _ _ (HROW.out)
        have c4 := cell_of_row V5 b5 4 _ _ _ (HROW.out)
        have c5 := cell_of_row V5 b5 5 _ _ _ (HROW.out)
        have c6 := cell_of_row V5 b5 6 _ _ _ (HROW.out)
        have c7 := cell_of_row V5 b5 7 _ _ _ (HROW.out)
        have c8 := cell_of_row V5 b5 8 _ _ _ (HROW.out)
        have c9 := cell_of_row V5 b5 9 _ _ _ (HROW.out)
        have c10 := cell_of_row V5 b5 10 _ _ _ (HROW.out)
        clear hrow hx hR
        have hy2 : (Instr.yield l #[.int .u8 (cls j : Int), .agg #[.int .i64 (rpt j).ix, .int .u8 ((rpt j).st : Int), .int .i64 (rpt j).x, .int .i64 (rpt j).y, .int .u8 ((rpt j).e.k : Int), .int .i64 (rpt j).e.cl, .int .i64 (rpt j).e.sq, .int .u8 ((rpt j).e.ok : Int), .string (rpt j).e.key, .string (rpt j).e.old, .string (rpt j).e.val]]).run Tryz.prog V5 = .ok (.round l fn tmps assign body) V5 := hy
        clear hy
        gi_wp2
        refine HR5.out.mono ?_
        rintro e W4 (⟨rfl, hJ4, hM4⟩ | ⟨rfl, hJ4⟩)
        · have HJ4 := Lib.hid hJ4
          have HM4 : Hid (Mod G V W4) := Lib.hid ((HM2.out.ext HX5.out).trans hM4 fun _ hi => .inl hi)
          clear hJ4 hM4 c0 c1 c2 c3 c4 c5 c6 c7 c8 c9 c10 hy2
          gi_wp2
          go_roundw
          case rel => exact ⟨j + 1, _, by omega, by go_num, Lib.hid (by rw [List.map_append, HP.out, List.range_succ]; rfl), HJ4, HM4⟩
          case measure => simp [intOf]; omega
        · have HJ4 := Lib.hid hJ4
          clear hJ4 c0 c1 c2 c3 c4 c5 c6 c7 c8 c9 c10 hy2
          gi_wp2
          refine bodyPost_ret (results_none rfl _ _ _) rfl ?_
          exact ⟨⟨_, rfl⟩, .inr ⟨_, trivial, HJ4.out⟩⟩
    · obtain rfl : j = 24 := by omega
      gi_wp2
      go_end0
      exact ⟨⟨_, rfl⟩, .inl ⟨pre, HP.out, HJ.out⟩⟩
theorem wslots_stops (n : Nat) (hn : 1 ≤ n) (bl : Nat) (G : Nat → Prop) (g s : Nat) (hs9 : s ≤ 1900000000000) (cls : Nat → Nat) (rpt : Nat → Rpt) (W0 : World) (hI : WhatOn G W0 g s cls rpt) (hGf : ¬ G bl ∧ ¬ G g)
    (hcl : W0.cell? ⟨bl, 0, none⟩ = some (.pointer (some ⟨g, 0, none⟩))) (hcs : W0.cell? ⟨g, 4, none⟩ = some (.int .i64 (s : Int))) :
    SeqStopsK Fence.wide n Tryz.prog 176 #[.pointer (some ⟨bl, 0, none⟩)] (encSl cls rpt) (Mod G) (fun ys => ys.map (fun x => x.1) = List.range 24) (fun _ => True) 24 W0 := fun l J Jx V hV hJ _ hY h0 => by
  have hx : Ext W0 V := hV
  have hm : Mod G W0 V := Mod.of_ext hx
  exact wslots1_in n hn l bl G g s hs9 cls rpt J Jx W0 V hm (fun s W W' hs hx => hJ s W W' none hs (grown_of_ext hx) (fun r e => by cases e)) hI hGf (mod_cell hm hGf.1 hcl) (mod_cell hm hGf.2 hcs) hY h0
end
section
open Go Go.RowKit Go.Shelf
attribute [local go_sem] Oper.semAt_some
end
section
open Go Go.RowKit Go.Shelf
attribute [local go_sem] Oper.semAt_some
def rptC (x : Rpt) : List Value := [.int .i64 x.ix, .int .u8 (x.st : Int), .int .i64 x.x, .int .i64 x.y, .int .u8 (x.e.k : Int), .int .i64 x.e.cl, .int .i64 x.e.sq, .int .u8 (x.e.ok : Int), .string x.e.key, .string x.e.old, .string x.e.val]
def inC (cls : Nat → Nat) (k : Nat) : Bool := decide (cls k = 3 ∨ cls k = 2)
def toldK (cls : Nat → Nat) (rpt : Nat → Rpt) (ks : List Nat) : List Rpt := (ks.filter (inC cls)).map rpt
def toldC (ps : List Rpt) : List Value := ps.flatMap rptC
theorem toldK_yes {cls : Nat → Nat} {rpt : Nat → Rpt} {ks : List Nat} {k : Nat} (h : cls k = 3 ∨ cls k = 2) : toldK cls rpt (ks ++ [k]) = toldK cls rpt ks ++ [rpt k] := by
  unfold toldK
  rw [List.filter_append, List.filter_cons_of_pos (by unfold inC; simpa using h)]
  simp
theorem toldK_no {cls : Nat → Nat} {rpt : Nat → Rpt} {ks : List Nat} {k : Nat} (h : ¬ (cls k = 3 ∨ cls k = 2)) : toldK cls rpt (ks ++ [k]) = toldK cls rpt ks := by
  unfold toldK
  rw [List.filter_append, List.filter_cons_of_neg (by unfold inC; simpa using h)]
  simp
theorem toldK_len (cls : Nat → Nat) (rpt : Nat → Rpt) (ks : List Nat) : (toldK cls rpt ks).length ≤ ks.length := by
  unfold toldK
  rw [List.length_map]
  exact List.length_filter_le _ _
theorem toldC_snoc (ps : List Rpt) (x : Rpt) : toldC (ps ++ [x]) = toldC ps ++ rptC x := by
  unfold toldC
  simp
theorem rpt_info : (Tryz.prog.info? 80).map (fun i => (i.zero, i.size, i.bytes)) = some (some (.agg #[.int .i64 0, .int .u8 0, .int .i64 0, .int .i64 0, .int .u8 0, .int .i64 0, .int .i64 0, .int .u8 0, .string ByteArray.empty, .string ByteArray.empty, .string ByteArray.empty]), 11, 112) := by kernel_rfl
theorem cells_new (w : World) (t : TypeId) (vs : List Value) : ∀ j u, vs[j]? = some u → (w.alloc (.cells vs.toArray t)).cell? ((⟨w.heap.size, 0, none⟩ : Addr).add j) = some u := by
  intro j u hj
  have h := cell_of_row (w.alloc (.cells vs.toArray t)) w.heap.size j vs.toArray t (0, 0) (World.alloc_heap_new w _)
  rw [List.getElem?_toArray, hj] at h
  have e : ((⟨w.heap.size, 0, none⟩ : Addr).add j) = ⟨w.heap.size, j, none⟩ := by
    simp [Addr.add]
    exact fun e => e.symm
  rw [e]
  exact h
theorem mod_two {b : Nat} {W W' : World} (h : Below b W W') (hk : W'.heap[b + 1]? = W.heap[b + 1]?) : Mod (fun k => b ≤ k ∧ k ≠ b + 1) W W' :=
  ⟨h.os, h.tape, h.output, Below.size h, fun k hlt hg => by
    by_cases e : k = b + 1
    · subst e
      exact hk
    · exact h.block k (by omega)⟩
def AllI (b : Nat) (w : World) (g : Nat) (cls : Nat → Nat) (rpt : Nat → Rpt) (pre : List SlIn) (W : World) : Prop :=
  ((∃ v, Boxed W b 66 v ∧ W.ownsRow b 80 11 v (toldK cls rpt (pre.map fun x => x.1)).length (toldC (toldK cls rpt (pre.map fun x => x.1))) ∧ True) ∧ Boxed W (b + 1) 31 (.pointer (some ⟨g, 0, none⟩))) ∧ Below b w W
def AllX (g b : Nat) (fv : Value) (cls : Nat → Nat) (rpt : Nat → Rpt) (x : SlIn) (a' : Act) (W : World) : Prop :=
  ∃ q, W.heap[q]? = some (.cells (rptC (rpt x.1)).toArray 80 (0, 0)) ∧ a' = { tmps := #[.pointer (some ⟨g, 0, none⟩), undef, .slice none 0 0, .int .i64 0, .int .i64 0, .pointer (some ⟨b, 0, none⟩), .int .u8 (cls x.1 : Int), .pointer (some ⟨q, 0, none⟩), .pointer (some ⟨g, 0, none⟩), .int .i64 0, .int .i64 0, .bool false, undef, .pointer (some ⟨g, 0, none⟩), fv, .int .u8 (cls x.1 : Int), .agg (rptC (rpt x.1)).toArray, undef, undef, undef, undef, undef, undef, undef, undef, undef, undef, undef], defers := [] }
set_option maxHeartbeats 1600000 in
theorem wall_yes {w : World} (g s : Nat) (hs9 : s ≤ 1900000000000) (cls : Nat → Nat) (rpt : Nat → Rpt) (hr : Calls Tryz.prog 68 #[.pointer (some ⟨g, 0, none⟩)] w fun e w' => e = .returned (.int .i64 0) ∧ w = w')
    (hcs : w.cell? ⟨g, 4, none⟩ = some (.int .i64 (s : Int))) (hI : WhatOn (fun k => w.heap.size ≤ k ∧ k ≠ w.heap.size + 1) w g s cls rpt) :
    Calls Tryz.prog 24 #[.pointer (some ⟨g, 0, none⟩)] w fun e w' => ∃ v, e = .returned (.tuple #[v, .int .i64 0]) ∧ w'.ownsRow w.heap.size 80 11 v (toldK cls rpt (List.range 24)).length (toldC (toldK cls rpt (List.range 24))) ∧ Ext w w' := by
  obtain ⟨i0, hi, hz0, hz1, hz2⟩ := info_parts rpt_info
  have hgl : g < w.heap.size := World.block_lt_of_cell? w _ hcs
  have hE : Ext w ((w.alloc (.cells #[.slice none 0 0] 66)).alloc (.cells #[.pointer (some ⟨g, 0, none⟩)] 31)) := ((Ext.refl w).alloc _).alloc _
  have hI1 : WhatOn (fun k => w.heap.size ≤ k ∧ k ≠ w.heap.size + 1) ((w.alloc (.cells #[.slice none 0 0] 66)).alloc (.cells #[.pointer (some ⟨g, 0, none⟩)] 31)) g s cls rpt := fun k hk W hm => hI k hk W ((Mod.of_ext hE).trans hm fun _ hi => .inl hi)
  have bO : Boxed ((w.alloc (.cells #[.slice none 0 0] 66)).alloc (.cells #[.pointer (some ⟨g, 0, none⟩)] 31)) w.heap.size 66 (.slice none 0 0) := (Boxed.new w _ _).alloc _
  have bL : Boxed ((w.alloc (.cells #[.slice none 0 0] 66)).alloc (.cells #[.pointer (some ⟨g, 0, none⟩)] 31)) (w.heap.size + 1) 31 (.pointer (some ⟨g, 0, none⟩)) := by
    have := Boxed.new (w.alloc (.cells #[.slice none 0 0] 66)) 31 (.pointer (some ⟨g, 0, none⟩))
    rwa [World.size_alloc] at this
  have hst := wslots_stops 8 (by omega) (w.heap.size + 1) _ g s hs9 cls rpt _ hI1 ⟨by omega, by omega⟩ bL.cell (ext_of_cell hE hcs)
  have HR := Lib.hid hr
  have HST := Lib.hid hst
  have HE := Lib.hid hE
  have HB := Lib.hid (And.intro bO bL)
  clear hI hI1 hst hcs hE bO bL hr hgl
  refine calls_marks Tryz.func24 rfl ?_
  simp only [Tryz.ntmps24, List.size_toArray, List.length_cons, List.length_nil, Nat.reduceAdd, Nat.reduceSub, Array.replicate_succ, Array.replicate_zero, List.push_toArray, List.append_toArray, List.nil_append, List.cons_append]
  go_wp2_with fail
  refine HR.out.mono ?_
  rintro e w1 ⟨rfl, rfl⟩
  go_wp2_with fail
  refine (wslots_of g _).mono ?_
  rintro e w1 ⟨rfl, rfl⟩
  go_wp2_with fail
  refine (wpIn_wide (n := 9)).1 ?_
  refine wpIn_rangeFunc_ownH (F := Fence.wide) (n := 9) rfl (by omega) (gf := 176) (lb := #[.pointer (some ⟨w.heap.size + 1, 0, none⟩)]) rfl trivial (enters_of Tryz.func176 (by kernel_rfl) rfl)
    HST.out (fun h k => h.trans k fun _ hi => .inl hi) (fun W l o o' hl ho _ _ => mod_put (w := (w.alloc (.cells #[.slice none 0 0] 66)).alloc (.cells #[.pointer (some ⟨g, 0, none⟩)] 31)) l o o' (fun k hk => by simp at hk; omega) hl ho) (Below.refl _ _) (fun _ => rfl)
    (AllI w.heap.size w g cls rpt)
    (fun _ _ _ => False)
    (OwnFrom.and (OwnFrom.and (Own.from (holdsRow_own w.heap.size w.heap.size 66 80 11 (fun pre : List SlIn => (toldK cls rpt (pre.map fun x => x.1)).length) (fun pre : List SlIn => toldC (toldK cls rpt (pre.map fun x => x.1))) (fun _ _ => True)) _) (Own.from (boxed_own (w.heap.size + 1) 31 (fun _ => .pointer (some ⟨g, 0, none⟩))) _)) (ownFrom_below (Nat.le_refl _) HE.out.size))
    (fun _ _ _ _ _ hs _ _ => hs)
    ⟨⟨⟨_, HB.out.1, World.ownsRow_nil _ _ _ _, trivial⟩, HB.out.2⟩, HE.out⟩
    (AllX g w.heap.size (.func (.func 176) #[] #[.pointer (some ⟨w.heap.size + 1, 0, none⟩)]) cls rpt)
    (fun x a' _ X Y row hs hg hrow => by
      obtain ⟨q, hq, e⟩ := hs
      exact ⟨q, (hg.block q (Array.getElem?_eq_some_iff.1 hq).1 (fun e' => by obtain ⟨_, o, ho, hc⟩ := hrow q e'.symm; rw [hq] at ho; cases ho; cases hc)).trans hq, e⟩) ?assign ?body ?done ?stop
  case assign =>
    intro l pre x W K hI hK
    have HI := Lib.hid hI
    have HK := Lib.hid hK
    clear hI hK
    dsimp only [encSl]
    gi_wp2
    have hk := KeepsOthers.alloc W (.cells (rptC (rpt x.1)).toArray 80)
    refine HK.out _ _ (hk.from _) ((Mod.refl _ _).ext ((Ext.refl W).alloc _)) ?_ ⟨_, World.alloc_heap_new W (.cells (rptC (rpt x.1)).toArray 80), rfl⟩
    obtain ⟨⟨⟨v, hv, hrow, _⟩, hbl⟩, hB⟩ := HI.out
    exact ⟨⟨⟨v, hv.alloc _, hrow.alloc _, trivial⟩, hbl.alloc _⟩, hB.alloc hB.size _⟩
  case body =>
    rintro l pre x a' W hl _ ⟨⟨⟨v, hv, hrow, _⟩, hbl⟩, hB⟩ ⟨q, hq, rfl⟩ hlt
    have hlen : (toldK cls rpt (pre.map fun x => x.1)).length < 24 := by
      have := toldK_len cls rpt (pre.map fun x => x.1)
      rw [List.length_map] at this
      omega
    have HQ := Lib.hid hq
    clear hq
    by_cases hin : cls x.1 = 3 ∨ cls x.1 = 2
    · have hin2 := toldK_yes (rpt := rpt) (ks := pre.map fun x => x.1) hin
      have HIN := Lib.hid hin2
      have hc := hv.cell
      have c0 := cell_of_row W q 0 _ _ _ HQ.out
      have c1 := cell_of_row W q 1 _ _ _ HQ.out
      have c2 := cell_of_row W q 2 _ _ _ HQ.out
      have c3 := cell_of_row W q 3 _ _ _ HQ.out
      have c4 := cell_of_row W q 4 _ _ _ HQ.out
      have c5 := cell_of_row W q 5 _ _ _ HQ.out
      have c6 := cell_of_row W q 6 _ _ _ HQ.out
      have c7 := cell_of_row W q 7 _ _ _ HQ.out
      have c8 := cell_of_row W q 8 _ _ _ HQ.out
      have c9 := cell_of_row W q 9 _ _ _ HQ.out
      have c10 := cell_of_row W q 10 _ _ _ HQ.out
      simp only [rptC] at c0 c1 c2 c3 c4 c5 c6 c7 c8 c9 c10 ⊢
      simp at c0 c1 c2 c3 c4 c5 c6 c7 c8 c9 c10
      have h31 : ((3 : Nat) : Int) = 3 := rfl
      rcases hin with hz | hz
      all_goals
        rw [hz]
        clear hz hin2
        gi_wp2_with (gi_at_builtin; revert c0)
        intro c0
        refine wpListIn_append_own _ rfl _ _ 66 rfl w.heap.size 80 i0 (.agg #[.int .i64 0, .int .u8 0, .int .i64 0, .int .i64 0, .int .u8 0, .int .i64 0, .int .i64 0, .int .u8 0, .string ByteArray.empty, .string ByteArray.empty, .string ByteArray.empty]) 11 112 (by kernel_rfl) hi hz0 hz1 hz2 ?_ ?_ v _ _ ?_ (hrow.alloc _) ⟨W.heap.size, 0, none⟩ 1 1 (rptC (rpt x.1)) ?_ ?_ ?_ ?_ ?_ ?_ ?_ ?_
        case refine_1 => rfl
        case refine_2 => decide
        case refine_3 => rfl
        case refine_4 => rfl
        case refine_5 => rfl
        case refine_6 => exact cells_new _ _ _
        case refine_7 => simp [rptC, Value.oneCell']
        case refine_8 => unfold maxLen; omega
        case refine_9 => omega
        case refine_10 => (have := hB.size; simp; omega)
        intro v' w1 hown' hgrow _
        obtain ⟨g', cap', rfl⟩ := ownsRow_succ hown'
        obtain ⟨hv1, hv2, hr2, hk2, hb2⟩ := hv.appended (by decide) hrow hB.size (Nat.le_refl _) hown' hgrow
        have hbl1 := (hbl.alloc (.cells (rptC (rpt x.1)).toArray 80)).kept hgrow (hbl.not_row (by decide) hrow)
        have hc1 := hv1.cell
        have hf1 := hv1.frozen
        gi_wp2
        have hbl2 := hbl1.other (B' := w.heap.size) (by omega) (.slice (some ⟨g', 0, none⟩) ((toldK cls rpt (pre.map fun x => x.1)).length + 1) cap')
        refine ⟨hk2.from _, mod_two hb2 (hbl2.trans hbl.symm), ⟨⟨_, hv2, ?_, trivial⟩, hbl2⟩, hB.trans hb2⟩
        rw [List.map_append, List.map_cons, List.map_nil, HIN.out, toldC_snoc, List.length_append]
        exact hr2
    · have HIN := Lib.hid (toldK_no (rpt := rpt) (ks := pre.map fun x => x.1) hin)
      obtain ⟨z, hz⟩ : ∃ z, ((cls x.1 : Nat) : Int) = z := ⟨_, rfl⟩
      have h3 : ¬ z = 3 := by omega
      have h2 : ¬ z = 2 := by omega
      have e3 : (z == 3) = false := by simpa using h3
      have e2 : (z == 2) = false := by simpa using h2
      rw [hz]
      clear hz hin
      gi_wp2
      refine ⟨KeepsFrom.refl _ _, Mod.refl _ _, ⟨⟨v, hv, ?_, trivial⟩, hbl⟩, hB⟩
      rw [List.map_append, List.map_cons, List.map_nil, HIN.out]
      exact hrow
  case done =>
    rintro D ys W hD hys ⟨⟨⟨v, hv, hrow, _⟩, _⟩, hB⟩ hK
    have hc := hv.cell
    rw [hys] at hrow
    have HRW := Lib.hid hrow
    have HBB := Lib.hid hB
    clear hrow hys hB hv
    go_wp2_with fail
    refine retM1 rfl hK (v := .tuple #[v, .int .i64 0]) ?_ ?_
    · simp [results, Tryz.results24, go_sem]
    · exact ⟨v, rfl, ownsRow_putObj HRW.out _ hK rfl, HBB.out.trans (belowK_b (w := w) (Nat.le_refl _) W D _ _ (Nat.le_trans HE.out.size hD) hK rfl rfl)⟩
  case stop =>
    rintro D c pre W _ _ h _
    exact h.elim
end
section
open Go Go.RowKit
theorem toldK_allTo (m : DM) (r snap : Int) (n : Nat) : toldK (fun k => m.clsW r (snap + 1 + (k : Int))) (fun k => m.rptW r (snap + 1 + (k : Int))) (List.range n) = m.allTo r snap n := by
  unfold toldK DM.allTo
  rw [List.filter_map, List.map_map]
  rfl
section
variable {w0 w : World} {d : Nat} {F : Nat → Prop} {g s : Nat} {r inc : Int} {m : DM}
theorem all_ld (h : LD w0 w d F g s r inc m) (hL : LaidF w0) (hLS : LaidS w0) (hs : s ≤ 1099511627752) (hup : m.up = true) (hfew : m.waits.length ≤ 1000000) :
    Calls Tryz.prog 24 #[.pointer (some ⟨g, 0, none⟩)] w fun e w' => ∃ v, e = .returned (.tuple #[v, .int .i64 0]) ∧ w'.ownsRow w.heap.size 80 11 v (m.allTo r (s : Int) 24).length (toldC (m.allTo r (s : Int) 24)) ∧ Ext w w' := by
  have hr := wrunning_of h.log h.dk.disk
  have hE : upE m = 0 := if_pos hup
  rw [hE] at hr
  have hI : WhatOn (fun k => w.heap.size ≤ k ∧ k ≠ w.heap.size + 1) w g s (fun k => m.clsW r ((s : Int) + 1 + (k : Int))) (fun k => m.rptW r ((s : Int) + 1 + (k : Int))) := fun k hk V hm => by
    have hx : Ext w V := Below.mod (Ext.refl w) hm (Nat.le_refl _) (fun k hk => hk.1)
    have hV := h.ext hx
    have e : ((s : Int) + 1 + (k : Int)) = ((s + 1 + k : Nat) : Int) := by omega
    simp only [e]
    exact wwhat_of hV.log hV.dk.disk (hV.laid hL) (hV.laidS hLS) (s + 1 + k) (by omega) (by omega) hfew
  have hq := wall_yes g s (by omega) _ _ hr h.log.cells.2.2.2.2 hI
  rw [toldK_allTo] at hq
  exact hq
end
end
section
open Go Go.RowKit
theorem rptC_len (x : Rpt) : (rptC x).length = 11 := rfl
theorem toldC_cons (p : Rpt) (ps : List Rpt) : toldC (p :: ps) = rptC p ++ toldC ps := by
  unfold toldC
  rw [List.flatMap_cons]
theorem toldC_get {x : Rpt} {j : Nat} (hj : j < 11) : ∀ (ps : List Rpt) (k : Nat), ps[k]? = some x → (toldC ps)[k * 11 + j]? = (rptC x)[j]?
  | [], k, h => by simp at h
  | p :: ps, 0, h => by
    rw [toldC_cons, List.getElem?_append_left (by rw [rptC_len]; omega)]
    simp at h
    rw [h]
    simp
  | p :: ps, k + 1, h => by
    rw [toldC_cons, List.getElem?_append_right (by rw [rptC_len]; omega), rptC_len, show (k + 1) * 11 + j - 11 = k * 11 + j by omega]
    exact toldC_get hj ps k (by simpa using h)
theorem told_row {w : World} {base : Nat} {v : Value} {ps : List Rpt} (h : w.ownsRow base 80 11 v ps.length (toldC ps)) :
    (v = .slice none 0 0 ∧ ps = []) ∨ ∃ g cap, v = .slice (some ⟨g, 0, none⟩) ps.length cap ∧ base ≤ g ∧ ps.length ≤ cap ∧ ∀ (k : Nat) (x : Rpt), ps[k]? = some x → ∀ j, j < 11 → w.cell? ⟨g, k * 11 + j, none⟩ = (rptC x)[j]? := by
  rcases h.2 with ⟨rfl, h0⟩ | ⟨g, cap, cur, rfl, hg, hrow, hn, _, _, ht⟩
  · exact .inl ⟨rfl, List.length_eq_zero_iff.1 h0⟩
  · refine .inr ⟨g, cap, rfl, hg, hn, fun k x hk j hj => ?_⟩
    have hkl : k < ps.length := (List.getElem?_eq_some_iff.1 hk).1
    rw [cell_of_row w g _ _ _ _ hrow, ← toldC_get hj ps k hk, ← ht, List.getElem?_take_of_lt (by omega), Array.getElem?_toList]
end
end Go.Proofs.YtmbmpabjclkhlaaGreatDoor
