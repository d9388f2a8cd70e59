/-
  The contract of snap's seal: the frame of a chunk.
-/
import Derived.Test.YtgcinagkbdcgiaaGreatDoorM00
import Derived.Test.YtgcinagkbdcgiaaGreatDoorM07
import Derived.Test.YtgcinagkbdcgiaaGreatDoorM08
import Derived.Test.YtgcinagkbdcgiaaGreatDoorM12
import Derived.Test.YtgcinagkbdcgiaaGreatDoorM16
import Derived.Test.YtgcinagkbdcgiaaGreatDoorM17
import Derived.Test.YtgcinagkbdcgiaaGreatDoorM24
import Derived.Test.YtgcinagkbdcgiaaGreatDoorM25
import Derived.Deep.RegionHeld3
import Derived.WalkMore
import Derived.Deep.DeepCutAuto
namespace Go.Proofs.YtgcinagkbdcgiaaGreatDoor
set_option maxRecDepth 100000
section
open Go Go.RowKit
theorem arr5Y (x0 x1 x2 x3 x4 z0 z1 z2 z3 z4 : Value) : setA #[z0, z1, z2, z3, z4] 0 [x0, x1, x2, x3, x4] = #[x0, x1, x2, x3, x4] := by
  rfl
set_option maxHeartbeats 3200000 in
theorem yseal_of {w : World} {g d : Nat} {r inc : Int} {s : ShM} (h : ShAt w g d r inc s) (hL : LaidY w) (ix ar ct : Nat) (har : ar ≤ 1) (k : Nat) (hk : k ≤ 100) (A : Option Addr) (n c : Nat) (l : List Nat) (hb : By w A n c l) (hn : n ≤ 140737488355000) :
    Calls Tryz.prog 188 #[.pointer (some ⟨g, 0, none⟩), .agg #[.int .i64 (ix : Int), .int .i64 (ar : Int), .int .i64 (ct : Int)], .int .i64 (k : Int), .slice A n c] w fun e w' => ∃ A' c', e = .returned (.slice A' (frmY r inc ⟨ix, ar, ct⟩ k l).length c') ∧ By w' A' (frmY r inc ⟨ix, ar, ct⟩ k l).length c' (frmY r inc ⟨ix, ar, ct⟩ k l) ∧ (sealE r 5 ((8 * ar + k : Nat) : Int) (ix : Int) inc (prZL (ct : Int) l).length 2 = 0 → ∀ q, A' = some q → w.heap.size ≤ q.block) ∧ Ext w w' := by
  have hE := (Ext.refl w).alloc (.cells #[.int .i64 (ix : Int), .int .i64 (ar : Int), .int .i64 (ct : Int)] 158)
  have hz := heap_alloc_new w (.cells #[.int .i64 (ix : Int), .int .i64 (ar : Int), .int .i64 (ct : Int)] 158)
  obtain ⟨p, hp⟩ : ∃ p : Nat, 8 * ar + k = p := ⟨_, rfl⟩
  have hf : frmY r inc ⟨ix, ar, ct⟩ k l = sealL r 5 (p : Int) (ix : Int) inc (prZL (ct : Int) l) 2 := by unfold frmY; dsimp only; rw [hp]
  have hpl := yplace_of ix ar ct k har hk
  rw [hp] at hpl
  have HPL := Lib.hid hpl
  rw [hf, hp]
  obtain ⟨L, hLL⟩ : ∃ L, sealL r 5 (p : Int) (ix : Int) inc (prZL (ct : Int) l) 2 = L := ⟨_, rfl⟩
  rw [hLL]
  have HLL := Lib.hid hLL
  have HI5 : Hid ((Tryz.prog.info? 44).map (·.size) = some 5) := Lib.hid (by kernel_rfl)
  have HE := Lib.hid hE
  have HZ := Lib.hid hz
  have H := Lib.hid h
  have HL := Lib.hid hL
  have HB := Lib.hid hb
  have HN := Lib.hid hn
  clear h hL hb hn hf hp hpl hE hz hLL
  have c0 := cell_of_row _ w.heap.size 0 _ _ _ HZ.out
  have c1 := cell_of_row _ w.heap.size 1 _ _ _ HZ.out
  have c2 := cell_of_row _ w.heap.size 2 _ _ _ HZ.out
  go_enter Tryz.func188, Tryz.ntmps188
  go_wp2_with fail
  refine (zprint_any (ct : Int) A n c l _ (HL.out.ext HE.out).f.a.o (HB.out.ext HE.out) HN.out).mono ?_
  rintro e w1 ⟨A1, n1, b1, rfl, hb1, hx⟩
  have HX1 := Lib.hid (HE.out.trans hx)
  have hz1 := (hx.block _ (by simp)).trans HZ.out
  clear c0 c1 c2 HE HZ
  obtain ⟨E, hEE⟩ : ∃ E, sealE r 5 (p : Int) (ix : Int) inc n1 2 = E := ⟨_, rfl⟩
  have HEE := Lib.hid hEE
  have HEQ : Hid (sealE r 5 (p : Int) (ix : Int) inc (prZL (ct : Int) l).length 2 = E) := Lib.hid (by rw [hb1.len]; exact hEE)
  have HXD : Hid (Ext w w1.drew) := Lib.hid (Below.drew HX1.out)
  have HBD : Hid (By w1.drew A1 n1 b1 (prZL (ct : Int) l)) := Lib.hid (hb1.ext (Below.drew (Ext.refl w1)))
  generalize w.heap.size = b at hz1 ⊢
  have HS0 : Hid (∀ V, Ext w1.drew V → (V.cell? ⟨g, 2, none⟩ = some (.int .i64 r) ∧ V.cell? ⟨g, 3, none⟩ = some (.int .i64 inc) ∧ V.cell? ⟨b, 0, none⟩ = some (.int .i64 (ix : Int)) ∧ V.cell? ⟨b, 1, none⟩ = some (.int .i64 (ar : Int)) ∧ V.cell? ⟨b, 2, none⟩ = some (.int .i64 (ct : Int)))) := Lib.hid fun V hV => by
    have hr := ((Ext.trans (Below.drew (Ext.refl w1)) hV).block _ (Array.getElem?_eq_some_iff.1 hz1).1).trans hz1
    have hc := (H.out.ext (HXD.out.trans hV)).cells
    exact ⟨hc.2.2.1, hc.2.2.2.1, cell_of_row V b 0 _ _ _ hr, cell_of_row V b 1 _ _ _ hr, cell_of_row V b 2 _ _ _ hr⟩
  clear hx hz1 hb1 hEE
  go_wp2_with fail
  refine wp_region_held_drew (S := fun w' => w'.cell? ⟨g, 2, none⟩ = some (.int .i64 r) ∧ w'.cell? ⟨g, 3, none⟩ = some (.int .i64 inc) ∧ w'.cell? ⟨b, 0, none⟩ = some (.int .i64 (ix : Int)) ∧ w'.cell? ⟨b, 1, none⟩ = some (.int .i64 (ar : Int)) ∧ w'.cell? ⟨b, 2, none⟩ = some (.int .i64 (ct : Int))) (by kernel_rfl) (HS0.out _ (Ext.refl _)) (fun hHeld => ?_)
  refine tj (i := 0) (oi := ⟨some 21, .move (.tmp 0), 76, "snap.go:277", #[], none⟩) rfl (by kernel_rfl) ?_
  try simp only [Act.put, sT, s0, s1]
  refine tj (i := 1) (oi := ⟨some 22, .nilCheck (.tmp 21), 0, "snap.go:277", #[⟨0, .data⟩], none⟩) rfl (by kernel_rfl) ?_
  try simp only [Act.put, sT, s0, s1]
  refine tj (i := 2) (oi := ⟨some 23, .fieldAddr 163 (.tmp 22) 2, 0, "snap.go:277", #[⟨1, .data⟩], none⟩) rfl (by kernel_rfl) ?_
  try simp only [Act.put, sT, s0, s1]
  refine tj (i := 3) (oi := ⟨some 24, .load 3 (.tmp 23), 3, "snap.go:277", #[⟨2, .data⟩], none⟩) rfl (by kernel_rfl) ?_
  try simp only [Act.put, sT, s0, s1]
  refine tk (i := 4) (oi := ⟨some 25, .load 158 (.tmp 5), 158, "snap.go:277", #[], none⟩) (v := .agg #[.int .i64 (ix : Int), .int .i64 (ar : Int), .int .i64 (ct : Int)]) rfl (by kernel_rfl) (yieldsIf_load_mid (by rfl) 158 (.tmp 5) rfl b 0 rfl [.int .i64 (ix : Int), .int .i64 (ar : Int), .int .i64 (ct : Int)] _ (fun w hw => three_range hw.2.2.1 hw.2.2.2.1 hw.2.2.2.2) Tryz.underlying158 rfl (by kernel_rfl)) ?_
  try simp only [Act.put, sT, s0, s1]
  refine tj (i := 5) (oi := ⟨some 26, .move (.tmp 2), 3, "snap.go:277", #[], none⟩) rfl (by kernel_rfl) ?_
  try simp only [Act.put, sT, s0, s1]
  refine tj (i := 7) (oi := ⟨some 28, .fieldAddr 158 (.tmp 5) 0, 0, "snap.go:277", #[], none⟩) rfl (by kernel_rfl) ?_
  try simp only [Act.put, sT, s0, s1]
  refine tj (i := 8) (oi := ⟨some 29, .load 3 (.tmp 28), 3, "snap.go:277", #[⟨7, .data⟩], none⟩) rfl (by kernel_rfl) ?_
  try simp only [Act.put, sT, s0, s1]
  refine tj (i := 9) (oi := ⟨some 30, .move (.tmp 0), 76, "snap.go:277", #[], none⟩) rfl (by kernel_rfl) ?_
  try simp only [Act.put, sT, s0, s1]
  refine tj (i := 10) (oi := ⟨some 31, .nilCheck (.tmp 30), 0, "snap.go:277", #[⟨9, .data⟩], none⟩) rfl (by kernel_rfl) ?_
  try simp only [Act.put, sT, s0, s1]
  refine tj (i := 11) (oi := ⟨some 32, .fieldAddr 163 (.tmp 31) 3, 0, "snap.go:277", #[⟨10, .data⟩], none⟩) rfl (by kernel_rfl) ?_
  try simp only [Act.put, sT, s0, s1]
  refine tj (i := 12) (oi := ⟨some 33, .load 3 (.tmp 32), 3, "snap.go:277", #[⟨11, .data⟩], none⟩) rfl (by kernel_rfl) ?_
  try simp only [Act.put, sT, s0, s1]
  refine wpAnyH_ready (rs := [6, 14]) (by kernel_rfl) (by simp) ?_
  refine AllReadyH.cons (o := ⟨some 27, .call { callee := .value (.func 189), args := #[.tmp 25, .tmp 26], argTypes := #[158, 3] }, 3, "snap.go:277", #[⟨4, .data⟩, ⟨5, .data⟩], none⟩) rfl (fun K hK => ?_) (AllReadyH.cons (o := ⟨some 11, .alloc 44, 0, "snap.go:277", #[], none⟩) rfl (fun K hK => ?_) AllReadyH.nil)
  · go_simp
    refine (HPL.out _).mono ?_
    rintro e w3 ⟨rfl, hx⟩
    have HXk : Hid (Ext w1.drew w3) := Lib.hid hx
    clear hx
    go_wp2_with fail
    refine hK.out _ _ (HS0.out _ HXk.out) (fun hHeld => ?_)
    clear hK K
    try simp only [Act.put, sT, s0, s1]
    refine tj (i := 13) (oi := ⟨some 34, .build 44 #[(0, .tmp 24), (1, .const (.int .i64 5)), (2, .tmp 27), (3, .tmp 29), (4, .tmp 33)], 44, "snap.go:277", #[⟨3, .data⟩, ⟨6, .data⟩, ⟨8, .data⟩, ⟨12, .data⟩], none⟩) rfl (by kernel_rfl) ?_
    try simp only [Act.put, sT, s0, s1]
    refine wpAnyH_ready (rs := [14]) (by kernel_rfl) (by simp) ?_
    refine AllReadyH.cons (o := ⟨some 11, .alloc 44, 0, "snap.go:277", #[], none⟩) rfl (fun K hK => ?_) AllReadyH.nil
    clear hHeld
    go_simp
    refine hK.out _ _ (HS0.out _ (HXk.out.alloc _)) (fun hHeld => ?_)
    clear hK K
    try simp only [Act.put, sT, s0, s1]
    refine wpAnyH_ready (rs := [15]) (by kernel_rfl) (by simp) ?_
    refine AllReadyH.cons (o := ⟨none, .store 44 (.tmp 11) (.tmp 34), 0, "snap.go:277", #[⟨14, .data⟩, ⟨13, .data⟩, ⟨6, .chain⟩, ⟨0, .phase⟩, ⟨1, .phase⟩, ⟨2, .phase⟩, ⟨3, .phase⟩, ⟨4, .phase⟩, ⟨5, .phase⟩, ⟨6, .phase⟩, ⟨7, .phase⟩, ⟨8, .phase⟩, ⟨9, .phase⟩, ⟨10, .phase⟩, ⟨11, .phase⟩, ⟨12, .phase⟩, ⟨13, .phase⟩, ⟨14, .phase⟩], none⟩) rfl (fun K hK => ?_) AllReadyH.nil
    clear hHeld
    rw [if_pos (by rfl)]
    refine wp_store_mid 44 (.tmp 11) (.tmp 34) rfl w3.heap.size 0 #[.int .i64 r, .int .i64 5, .int .i64 (p : Int), .int .i64 (ix : Int), .int .i64 inc] rfl rfl (there_row (heap_alloc_new w3 _) 0 5 (by simp)) HI5.out (by simp [Value.oneCell']) ?_
    rw [alloc_setCells w3 _ #[.int .i64 r, .int .i64 5, .int .i64 (p : Int), .int .i64 (ix : Int), .int .i64 inc] _ (by rfl)]
    refine hK.out _ _ (HS0.out _ (HXk.out.alloc _)) (fun hHeld => ?_)
    clear hK K
    simp only [Act.put]
    refine wpAnyH_done (by kernel_rfl) ?_ _
    clear hHeld
    have hrow := heap_alloc_new w3 (.cells #[.int .i64 r, .int .i64 5, .int .i64 (p : Int), .int .i64 (ix : Int), .int .i64 inc] 44)
    have hx5 : Ext w1.drew (w3.alloc (.cells #[.int .i64 r, .int .i64 5, .int .i64 (p : Int), .int .i64 (ix : Int), .int .i64 inc] 44)) := HXk.out.alloc _
    generalize w3.alloc (.cells #[.int .i64 r, .int .i64 5, .int .i64 (p : Int), .int .i64 (ix : Int), .int .i64 inc] 44) = V1 at hrow hx5 ⊢
    generalize w3.heap.size = tb at hrow ⊢
    clear HXk
    have HX5 : Hid (Ext w V1) := Lib.hid (HXD.out.trans hx5)
    have HR1 := Lib.hid hrow
    have HR0 := Lib.hid (Ext.refl V1.drew)
    have hS2 : V1.drew.cell? ⟨tb, 0, none⟩ = some (.int .i64 r) ∧ V1.drew.cell? ⟨tb, 1, none⟩ = some (.int .i64 5) ∧ V1.drew.cell? ⟨tb, 2, none⟩ = some (.int .i64 (p : Int)) ∧ V1.drew.cell? ⟨tb, 3, none⟩ = some (.int .i64 (ix : Int)) ∧ V1.drew.cell? ⟨tb, 4, none⟩ = some (.int .i64 inc) := (five_cells hrow).1
    have HWD : Hid (∀ V, Hid (Ext V1.drew V) → Calls Tryz.prog 122 #[.int .i64 5] V fun e w' => e = .returned (.int .i64 2) ∧ Ext V w') := Lib.hid fun V hV => wide_any 5 V (HL.out.ext (Ext.trans (Below.drew HX5.out) hV.out)).f.a.t
    have HSL : Hid (∀ V, Hid (Ext V1.drew V) → Calls Tryz.prog 144 #[.agg #[.int .i64 r, .int .i64 5, .int .i64 (p : Int), .int .i64 (ix : Int), .int .i64 inc], .slice A1 n1 b1, .int .i64 2] V fun e w' => ∃ A' c', e = .returned (.tuple #[.slice A' L.length c', .int .i64 E]) ∧ Hid (By w' A' L.length c' L) ∧ Hid (E = 0 → ∀ q, A' = some q → V.heap.size ≤ q.block) ∧ Ext V w') := Lib.hid fun V hV => by
      refine (seal_own r 5 (p : Int) (ix : Int) inc 2 A1 n1 b1 (prZL (ct : Int) l) V (HL.out.ext (Ext.trans (Below.drew HX5.out) hV.out)).f ((HBD.out.ext (Below.drew hx5)).ext hV.out)).mono fun e w' ⟨A', c', h1, h2, h3, h4⟩ => ?_
      rw [HLL.out] at h1 h2 h3
      rw [HEE.out] at h1 h3
      exact ⟨A', c', h1, Lib.hid h2, Lib.hid (fun h0 q hq => ((h3 h0).lt q.block (by rw [hq]; rfl)).1), h4⟩
    clear hrow
    go_wp2_with fail
    go_region_held3 (fun w' => w'.cell? ⟨tb, 0, none⟩ = some (.int .i64 r) ∧ w'.cell? ⟨tb, 1, none⟩ = some (.int .i64 5) ∧ w'.cell? ⟨tb, 2, none⟩ = some (.int .i64 (p : Int)) ∧ w'.cell? ⟨tb, 3, none⟩ = some (.int .i64 (ix : Int)) ∧ w'.cell? ⟨tb, 4, none⟩ = some (.int .i64 inc))
      (first | with_reducible exact hS2 | exact keepT5 (by assumption) HR1 | go_keep)
      (first
        | (go_at_call 122; ((with_reducible refine (HWD.out _ HR0).mono ?_); rintro e w4 ⟨rfl, hx⟩; have HXk := Lib.hid hx; clear hx))
        | (go_at_call 144; ((with_reducible refine (HSL.out _ HXk).mono ?_); rintro e w5 ⟨A2, c2, rfl, HBY, HFR, hx⟩; have HXk3 : Hid (Ext V1.drew w5) := Lib.hid (HXk.out.trans hx); clear hx)))
    go_wp2_with fail
    go_ret
    exact ⟨A2, c2, rfl, HBY.out, fun h0 q hq => Nat.le_trans (Ext.trans (Below.drew HX5.out) HXk.out).size (HFR.out (HEQ.out.symm.trans h0) q hq), Ext.trans (Below.drew HX5.out) HXk3.out⟩
  · go_simp
    refine hK.out _ _ (HS0.out _ ((Ext.refl w1.drew).alloc _)) (fun hHeld => ?_)
    clear hK K
    try simp only [Act.put, sT, s0, s1]
    refine wpAnyH_ready (rs := [6]) (by kernel_rfl) (by simp) ?_
    refine AllReadyH.cons (o := ⟨some 27, .call { callee := .value (.func 189), args := #[.tmp 25, .tmp 26], argTypes := #[158, 3] }, 3, "snap.go:277", #[⟨4, .data⟩, ⟨5, .data⟩], none⟩) rfl (fun K hK => ?_) AllReadyH.nil
    clear hHeld
    go_simp
    refine (HPL.out _).mono ?_
    rintro e w3 ⟨rfl, hx⟩
    have HXk : Hid (Ext w1.drew w3) := Lib.hid ((hid_ad _).out.trans hx)
    have HN2 := Lib.hid (new_after2 hx)
    clear hx
    go_wp2_with fail
    refine hK.out _ _ (HS0.out _ HXk.out) (fun hHeld => ?_)
    clear hK K
    try simp only [Act.put, sT, s0, s1]
    refine tj (i := 13) (oi := ⟨some 34, .build 44 #[(0, .tmp 24), (1, .const (.int .i64 5)), (2, .tmp 27), (3, .tmp 29), (4, .tmp 33)], 44, "snap.go:277", #[⟨3, .data⟩, ⟨6, .data⟩, ⟨8, .data⟩, ⟨12, .data⟩], none⟩) rfl (by kernel_rfl) ?_
    try simp only [Act.put, sT, s0, s1]
    refine wpAnyH_ready (rs := [15]) (by kernel_rfl) (by simp) ?_
    refine AllReadyH.cons (o := ⟨none, .store 44 (.tmp 11) (.tmp 34), 0, "snap.go:277", #[⟨14, .data⟩, ⟨13, .data⟩, ⟨6, .chain⟩, ⟨0, .phase⟩, ⟨1, .phase⟩, ⟨2, .phase⟩, ⟨3, .phase⟩, ⟨4, .phase⟩, ⟨5, .phase⟩, ⟨6, .phase⟩, ⟨7, .phase⟩, ⟨8, .phase⟩, ⟨9, .phase⟩, ⟨10, .phase⟩, ⟨11, .phase⟩, ⟨12, .phase⟩, ⟨13, .phase⟩, ⟨14, .phase⟩], none⟩) rfl (fun K hK => ?_) AllReadyH.nil
    clear hHeld
    rw [if_pos (by rfl)]
    refine wp_store_mid 44 (.tmp 11) (.tmp 34) rfl w1.heap.size 0 #[.int .i64 r, .int .i64 5, .int .i64 (p : Int), .int .i64 (ix : Int), .int .i64 inc] rfl rfl (there_row HN2.out 0 5 (by simp)) HI5.out (by simp [Value.oneCell']) ?_
    refine hK.out _ _ (HS0.out _ (ext_setCells HXk.out (Nat.le_refl _) 0 _)) (fun hHeld => ?_)
    clear hK K
    simp only [Act.put]
    refine wpAnyH_done (by kernel_rfl) ?_ _
    clear hHeld
    have hrow := row_setCells HN2.out 0 [.int .i64 r, .int .i64 5, .int .i64 (p : Int), .int .i64 (ix : Int), .int .i64 inc]
    rw [arr5Y] at hrow
    have hx5 := ext_setCells HXk.out (g := w1.heap.size) (Nat.le_refl _) 0 [.int .i64 r, .int .i64 5, .int .i64 (p : Int), .int .i64 (ix : Int), .int .i64 inc]
    generalize hV1 : w3.setCells w1.heap.size 0 [.int .i64 r, .int .i64 5, .int .i64 (p : Int), .int .i64 (ix : Int), .int .i64 inc] = V1 at hrow hx5 ⊢
    clear hV1 HN2 HXk
    generalize w1.heap.size = tb at hrow ⊢
    have HX5 : Hid (Ext w V1) := Lib.hid (HXD.out.trans hx5)
    have HR1 := Lib.hid hrow
    have HR0 := Lib.hid (Ext.refl V1.drew)
    have hS2 : V1.drew.cell? ⟨tb, 0, none⟩ = some (.int .i64 r) ∧ V1.drew.cell? ⟨tb, 1, none⟩ = some (.int .i64 5) ∧ V1.drew.cell? ⟨tb, 2, none⟩ = some (.int .i64 (p : Int)) ∧ V1.drew.cell? ⟨tb, 3, none⟩ = some (.int .i64 (ix : Int)) ∧ V1.drew.cell? ⟨tb, 4, none⟩ = some (.int .i64 inc) := (five_cells hrow).1
    have HWD : Hid (∀ V, Hid (Ext V1.drew V) → Calls Tryz.prog 122 #[.int .i64 5] V fun e w' => e = .returned (.int .i64 2) ∧ Ext V w') := Lib.hid fun V hV => wide_any 5 V (HL.out.ext (Ext.trans (Below.drew HX5.out) hV.out)).f.a.t
    have HSL : Hid (∀ V, Hid (Ext V1.drew V) → Calls Tryz.prog 144 #[.agg #[.int .i64 r, .int .i64 5, .int .i64 (p : Int), .int .i64 (ix : Int), .int .i64 inc], .slice A1 n1 b1, .int .i64 2] V fun e w' => ∃ A' c', e = .returned (.tuple #[.slice A' L.length c', .int .i64 E]) ∧ Hid (By w' A' L.length c' L) ∧ Hid (E = 0 → ∀ q, A' = some q → V.heap.size ≤ q.block) ∧ Ext V w') := Lib.hid fun V hV => by
      refine (seal_own r 5 (p : Int) (ix : Int) inc 2 A1 n1 b1 (prZL (ct : Int) l) V (HL.out.ext (Ext.trans (Below.drew HX5.out) hV.out)).f ((HBD.out.ext (Below.drew hx5)).ext hV.out)).mono fun e w' ⟨A', c', h1, h2, h3, h4⟩ => ?_
      rw [HLL.out] at h1 h2 h3
      rw [HEE.out] at h1 h3
      exact ⟨A', c', h1, Lib.hid h2, Lib.hid (fun h0 q hq => ((h3 h0).lt q.block (by rw [hq]; rfl)).1), h4⟩
    clear hrow
    go_wp2_with fail
    go_region_held3 (fun w' => w'.cell? ⟨tb, 0, none⟩ = some (.int .i64 r) ∧ w'.cell? ⟨tb, 1, none⟩ = some (.int .i64 5) ∧ w'.cell? ⟨tb, 2, none⟩ = some (.int .i64 (p : Int)) ∧ w'.cell? ⟨tb, 3, none⟩ = some (.int .i64 (ix : Int)) ∧ w'.cell? ⟨tb, 4, none⟩ = some (.int .i64 inc))
      (first | with_reducible exact hS2 | exact keepT5 (by assumption) HR1 | go_keep)
      (first
        | (go_at_call 122; ((with_reducible refine (HWD.out _ HR0).mono ?_); rintro e w4 ⟨rfl, hx⟩; have HXk := Lib.hid hx; clear hx))
        | (go_at_call 144; ((with_reducible refine (HSL.out _ HXk).mono ?_); rintro e w5 ⟨A2, c2, rfl, HBY, HFR, hx⟩; have HXk3 : Hid (Ext V1.drew w5) := Lib.hid (HXk.out.trans hx); clear hx)))
    go_wp2_with fail
    go_ret
    exact ⟨A2, c2, rfl, HBY.out, fun h0 q hq => Nat.le_trans (Ext.trans (Below.drew HX5.out) HXk.out).size (HFR.out (HEQ.out.symm.trans h0) q hq), Ext.trans (Below.drew HX5.out) HXk3.out⟩
end
section
open Go Go.RowKit
def lsOf (L : List Lst) : List (List Nat) := L.map fun a => a.l
end
section
open Go Go.RowKit
theorem wrs_stop {X : Int × DM} {S : Int} {L : List Nat} {n : Nat} : ∀ {W : Nat}, n ≤ W → (wrsE X S L n).1 ≠ 0 → wrsE X S L W = wrsE X S L n
  | 0, h, _ => by
    obtain rfl : n = 0 := by omega
    rfl
  | W + 1, h, he => by
    by_cases hn : n = W + 1
    · rw [hn]
    · have ih := wrs_stop (X := X) (S := S) (L := L) (n := n) (W := W) (by omega) he
      show unE (wrsE X S L W) _ = _
      rw [ih]
      exact if_neg he
theorem wrsY_append (r inc : Int) (s : ShM) : ∀ (l l' : List (List Nat)) (x : Int × DM) (k : Nat), wrsY r inc s x k (l ++ l') = wrsY r inc s (wrsY r inc s x k l) (k + l.length) l'
  | [], l', x, k => rfl
  | c :: l, l', x, k => by
    show wrsY r inc s _ (k + 1) (l ++ l') = _
    rw [wrsY_append r inc s l l' _ (k + 1), List.length_cons, show k + 1 + l.length = k + (l.length + 1) from by omega]
    rfl
theorem wrsY_stop {r inc : Int} {s : ShM} {x : Int × DM} {k j : Nat} {l : List (List Nat)} (h : (wrsY r inc s x k (l.take j)).1 ≠ 0) : wrsY r inc s x k l = wrsY r inc s x k (l.take j) := by
  have e : wrsY r inc s x k l = wrsY r inc s x k (l.take j ++ l.drop j) := by rw [List.take_append_drop]
  rw [e, wrsY_append]
  obtain ⟨X, hX⟩ : ∃ X, wrsY r inc s x k (l.take j) = X := ⟨_, rfl⟩
  rw [hX] at h ⊢
  obtain ⟨E, m'⟩ := X
  exact wrsY_err r inc s h _ _
theorem wrsY_waits {r inc : Int} {s : ShM} : ∀ (l : List (List Nat)) (x : Int × DM) (k : Nat), (wrsY r inc s x k l).2.waits.length ≤ x.2.waits.length + 2 * l.length
  | [], x, k => by show x.2.waits.length ≤ _; omega
  | c :: l, x, k => by
    show (wrsY r inc s _ (k + 1) l).2.waits.length ≤ _
    obtain ⟨E, m⟩ := x
    have h1 := wrsY_waits (r := r) (inc := inc) (s := s) l (wrsE (E, m) (firstS 5 ((8 * s.ar + k : Nat) : Int)) (frmY r inc s k c) 2) (k + 1)
    have h2 := wrs_waits (m := m) (E := E) (S := firstS 5 ((8 * s.ar + k : Nat) : Int)) (L := frmY r inc s k c) 2
    rw [List.length_cons]
    dsimp only
    omega
structure WY (w0 : World) (d : Nat) (F F' : Nat → Prop) (w : World) (m : DM) : Prop where
  disk : PDisk w d F' m
  sub : ∀ k, k < w0.heap.size → F' k → F k
  mod : Mod F w0 w
section
variable {w0 w w' : World} {d : Nat} {F F' : Nat → Prop} {m m' : DM}
theorem WY.start (h : PDisk w d F m) : WY w d F F w m := ⟨h, fun _ _ hf => hf, Mod.refl _ _⟩
theorem WY.ext (h : WY w0 d F F' w m) (hx : Ext w w') : WY w0 d F F' w' m := ⟨h.disk.ext hx, h.sub, h.mod.ext hx⟩
theorem WY.step (h : WY w0 d F F' w m) (hd : PDisk w' d (grow F' w w') m') (hm : Mod F' w w') : WY w0 d F (grow F' w w') w' m' :=
  ⟨hd, fun k hk hf => hf.elim (h.sub k hk) (fun hg => absurd hg.1 (by have := h.mod.size; omega)), h.mod.trans hm fun i hi => by
    by_cases hlt : i < w0.heap.size
    · exact .inl (h.sub i hlt hi)
    · exact .inr (by omega)⟩
theorem WY.base {w1 : World} (h : WY w1 d F F' w m) (hx : Ext w0 w1) : WY w0 d F F' w m :=
  ⟨h.disk, fun k hk hf => h.sub k (Nat.lt_of_lt_of_le hk hx.size) hf, (Mod.of_ext hx).trans h.mod fun _ hi => .inl hi⟩
theorem grow_not {k : Nat} (h : ¬ F' k) (hk : k < w.heap.size) : ¬ grow F' w w' k := fun hg => hg.elim h (fun hh => absurd hh.1 (by omega))
theorem WY.not_ (h : WY w0 d F F' w m) {k : Nat} (hk : k < w0.heap.size) (hF : ¬ F k) : ¬ F' k := fun hf => hF (h.sub k hk hf)
end
theorem By.modN {F : Nat → Prop} {w w' : World} {A : Option Addr} {n cp : Nat} {l : List Nat} (h : By w A n cp l) (k : Mod F w w') (ho : 0 < n → Off F A) : By w' A n cp l := by
  refine ⟨h.len, h.cap, h.most, ⟨h.rd.1, fun hn => ?_⟩, Bs.nil_ h⟩
  obtain ⟨g, o, e, hg, hc⟩ := h.rd.2 hn
  refine ⟨g, o, e, Nat.lt_of_lt_of_le hg k.size, fun j x hx => ?_⟩
  rw [← hc j x hx]
  exact World.cell?_of_block (a := ⟨g, o + j, none⟩) (k.block g hg (ho (by have := h.len; omega) _ e))
theorem Lsts.modY {w w' : World} {F : Nat → Prop} {A : Option Addr} {n c : Nat} {l : List Lst} (h : Lsts w w.heap.size A n c l) (hm : Mod F w w') (hA : Off F A) (hO : ∀ a ∈ l, 0 < a.n → Off F a.A) {j : Nat} (hj : j < n) :
    ∃ g o a, A = some ⟨g, o, none⟩ ∧ l[j]? = some a ∧ By w' a.A a.n a.c a.l ∧ w'.cell? ⟨g, o + j, none⟩ = some (.slice a.A a.n a.c) := by
  obtain ⟨g, o, a, e, hg, ha, hb, hc⟩ := h.at_ hj
  exact ⟨g, o, a, e, ha, By.modN hb hm (hO a (List.mem_of_getElem? ha)), mod_cell hm (hA _ e) hc⟩
end
section
open Go Go.RowKit
theorem lsts_own {w : World} {b b' : Nat} {v v' : Value} {L : List Lst} (hrow : w.ownsRow b 45 1 v L.length (L.map Lst.val)) (hok : LsOk w b' v' L) : ∃ A c, v = .slice A L.length c ∧ Lsts w w.heap.size A L.length c L := by
  obtain ⟨A, c, rfl, h1, h2⟩ := own_form hrow
  refine ⟨A, c, rfl, rfl, h1, h2, fun a ha => (hok a ha).1.1, fun hn => ?_, fun hA => ?_⟩
  · rcases hrow.2 with ⟨_, h0⟩ | ⟨g, cap, cur, hv, hb, hg, _⟩
    · omega
    · injection hv with hA hN hC
      subst hA
      refine ⟨g, 0, rfl, (Array.getElem?_eq_some_iff.1 hg).1, fun j a ha => ?_⟩
      have hj : j < L.length := (List.getElem?_eq_some_iff.1 ha).1
      rw [Nat.zero_add, hrow.cellAt j (by omega), List.getElem?_map, ha]
      rfl
  · rcases hrow.2 with ⟨hv, _⟩ | ⟨g, cap, cur, hv, _⟩
    · injection hv
    · injection hv with hA' _ _
      rw [hA] at hA'
      cases hA'
theorem Lsts.ext {w w' : World} {A : Option Addr} {n c : Nat} {l : List Lst} (h : Lsts w w.heap.size A n c l) (k : Ext w w') : Lsts w' w'.heap.size A n c l := (h.below k).more k.size
end
section
open Go Go.RowKit
theorem lsOf_atY {L : List Lst} {k : Nat} {a : Lst} (h : L[k]? = some a) : (lsOf L)[k]? = some a.l := by
  unfold lsOf
  rw [List.getElem?_map, h]; rfl
theorem keepWr {V W : World} {g b d : Nat} {x0 x1 x2 : Value} (k : Hid (Ext V.drew W)) (h : Hid (V.cell? ⟨g, 1, none⟩ = some (.pointer (some ⟨d, 0, none⟩)) ∧ V.cell? ⟨b, 0, none⟩ = some x0 ∧ V.cell? ⟨b, 1, none⟩ = some x1 ∧ V.cell? ⟨b, 2, none⟩ = some x2)) :
    W.cell? ⟨g, 1, none⟩ = some (.pointer (some ⟨d, 0, none⟩)) ∧ W.cell? ⟨b, 0, none⟩ = some x0 ∧ W.cell? ⟨b, 1, none⟩ = some x1 ∧ W.cell? ⟨b, 2, none⟩ = some x2 :=
  have hx : Ext V W := (Below.drew (Ext.refl V)).trans k.out
  ⟨ext_of_cell hx h.out.1, ext_of_cell hx h.out.2.1, ext_of_cell hx h.out.2.2.1, ext_of_cell hx h.out.2.2.2⟩
theorem keepWrM {V W : World} {F : Nat → Prop} {g b d : Nat} {x0 x1 x2 : Value} (k : Hid (Mod F V W)) (hn : Hid (¬ F g ∧ ¬ F b)) (h : Hid (V.cell? ⟨g, 1, none⟩ = some (.pointer (some ⟨d, 0, none⟩)) ∧ V.cell? ⟨b, 0, none⟩ = some x0 ∧ V.cell? ⟨b, 1, none⟩ = some x1 ∧ V.cell? ⟨b, 2, none⟩ = some x2)) :
    W.cell? ⟨g, 1, none⟩ = some (.pointer (some ⟨d, 0, none⟩)) ∧ W.cell? ⟨b, 0, none⟩ = some x0 ∧ W.cell? ⟨b, 1, none⟩ = some x1 ∧ W.cell? ⟨b, 2, none⟩ = some x2 :=
  ⟨mod_cell k.out hn.out.1 h.out.1, mod_cell k.out hn.out.2 h.out.2.1, mod_cell k.out hn.out.2 h.out.2.2.1, mod_cell k.out hn.out.2 h.out.2.2.2⟩
set_option maxHeartbeats 800000 in
theorem ywrite_ofN {w : World} {g d : Nat} {r inc : Int} {s : ShM} {F : Nat → Prop} {m : DM} (h : ShAt w g d r inc s) (hd : PDisk w d F m) (hg : ¬ F g) (hLM : ∀ V, Mod F w V → LaidY V) (ix ar ct : Nat) (har : ar ≤ 1) (k0 : Nat)
    (A : Option Addr) (n c : Nat) (L : List Lst) (hls : Lsts w w.heap.size A n c L) (hA : Off F A) (hO : ∀ a ∈ L, 0 < a.n → Off F a.A) (hk : k0 + n ≤ 8) (hin : ∀ a ∈ L, a.l.length ≤ 140737488355000)
    (hse : ∀ j a, L[j]? = some a → sealE r 5 ((8 * ar + (k0 + j) : Nat) : Int) (ix : Int) inc (prZL (ct : Int) a.l).length 2 = 0) (hfew : m.waits.length ≤ 999000) :
    Calls Tryz.prog 96 #[.pointer (some ⟨g, 0, none⟩), .agg #[.int .i64 (ix : Int), .int .i64 (ar : Int), .int .i64 (ct : Int)], .int .i64 (k0 : Int), .slice A n c] w fun e w' =>
      e = .returned (.int .i64 (m.wrY r inc ⟨ix, ar, ct⟩ k0 (lsOf L)).1) ∧ ∃ F', WY w d F F' w' (m.wrY r inc ⟨ix, ar, ct⟩ k0 (lsOf L)).2 := by
  have hE := (Ext.refl w).alloc (.cells #[.int .i64 (ix : Int), .int .i64 (ar : Int), .int .i64 (ct : Int)] 158)
  have hz := heap_alloc_new w (.cells #[.int .i64 (ix : Int), .int .i64 (ar : Int), .int .i64 (ct : Int)] 158)
  have hbF : ¬ F w.heap.size := fun hf => by have := hd.lt _ hf; omega
  obtain ⟨wB, hwB⟩ : ∃ wB, w.alloc (.cells #[.int .i64 (ix : Int), .int .i64 (ar : Int), .int .i64 (ct : Int)] 158) = wB := ⟨_, rfl⟩
  rw [hwB] at hE hz
  have hlsB := hls.ext hE
  have hgB := (h.ext hE).lt
  have HE := Lib.hid hE
  have HZ := Lib.hid (And.intro hz (Array.getElem?_eq_some_iff.1 hz).1)
  have HSH := Lib.hid (h.ext hE)
  have HGB := Lib.hid hgB
  have HLS := Lib.hid hlsB
  have HW0 : Hid (WY wB d F F wB m) := Lib.hid (WY.start (hd.ext hE))
  have HLM : Hid (∀ V, Mod F wB V → LaidY V) := Lib.hid fun V hV => hLM V ((Mod.of_ext hE).trans hV fun _ hi => .inl hi)
  have HOFF := Lib.hid (And.intro hA hO)
  have HNF := Lib.hid (And.intro hg hbF)
  have HSE := Lib.hid hse
  have HIN := Lib.hid hin
  have HFW := Lib.hid hfew
  have hlen : (lsOf L).length = n := by unfold lsOf; rw [List.length_map]; exact hls.len
  have HLEN := Lib.hid hlen
  clear h hd hg hLM hls hA hO hin hse hfew hE hz hlsB hgB hbF hlen
  generalize hb0 : w.heap.size = b at *
  go_enter Tryz.func96, Tryz.ntmps96
  go_wp2_with fail
  go_step3
  go_wp2_with fail
  go_step3
  go_wp2_with fail
  have HWB : Hid (w.alloc (.cells #[.int .i64 (ix : Int), .int .i64 (ar : Int), .int .i64 (ct : Int)] 158) = wB) := Lib.hid hwB
  clear hwB
  go_loopw [9, 17] (fun v i wr => ∃ (j : Nat) (F' : Nat → Prop), j ≤ n ∧ v = .int .i64 0 ∧ i = .int .i64 (j : Int) ∧ Hid ((wrsY r inc ⟨ix, ar, ct⟩ (0, m) k0 ((lsOf L).take j)).1 = 0) ∧ Hid (WY wB d F F' wr (wrsY r inc ⟨ix, ar, ct⟩ (0, m) k0 ((lsOf L).take j)).2)) (fun _ i _ => n - (intOf i).toNat)
  case atStart => exact ⟨0, F, by omega, rfl, rfl, Lib.hid rfl, HW0⟩
  case round =>
    obtain ⟨j, F', hj, rfl, rfl, HX0, HW⟩ := hrel
    by_cases hlt : j < n
    · obtain ⟨gl, ol, a, eA, ha, hby, hcell⟩ := Lsts.modY HLS.out HW.out.mod HOFF.out.1 HOFF.out.2 hlt
      have hse := HSE.out j a ha
      have hin := HIN.out a (List.mem_of_getElem? ha)
      have hx1 : wrsY r inc ⟨ix, ar, ct⟩ (0, m) k0 ((lsOf L).take (j + 1)) = wrsE (wrsY r inc ⟨ix, ar, ct⟩ (0, m) k0 ((lsOf L).take j)) (firstS 5 ((8 * ar + (k0 + j) : Nat) : Int)) (frmY r inc ⟨ix, ar, ct⟩ (k0 + j) a.l) 2 := by
        rw [List.take_add_one, lsOf_atY ha, Option.toList_some, wrsY_snoc, List.length_take, HLEN.out, Nat.min_eq_left (by omega)]
      have hwt := wrsY_waits (r := r) (inc := inc) (s := ⟨ix, ar, ct⟩) ((lsOf L).take j) (0, m) k0
      rw [List.length_take] at hwt
      have hstop : (wrsY r inc ⟨ix, ar, ct⟩ (0, m) k0 ((lsOf L).take (j + 1))).1 ≠ 0 → m.wrY r inc ⟨ix, ar, ct⟩ k0 (lsOf L) = wrsY r inc ⟨ix, ar, ct⟩ (0, m) k0 ((lsOf L).take (j + 1)) := fun he => by
        unfold DM.wrY
        rw [wrsY_stop he]
        exact if_neg he
      obtain ⟨p, hp⟩ : ∃ p : Nat, 8 * ar + (k0 + j) = p := ⟨_, rfl⟩
      have hp16 : p < 16 := by omega
      have hfs := first5 hp16
      have hsc := sC_lt hp16
      obtain ⟨S, hS⟩ : ∃ S : Nat, sC p = S := ⟨_, rfl⟩
      rw [hS] at hfs hsc
      have hfl : (frmY r inc ⟨ix, ar, ct⟩ (k0 + j) a.l).length = 128 := by
        have := (sealL_len hse).1
        unfold frmY
        exact this
      have hsl := yseal_of (HSH.out.mod HW.out.mod HNF.out.1) (HLM.out _ HW.out.mod) ix ar ct har (k0 + j) (by omega) a.A a.n a.c a.l hby (by rw [← hby.len]; exact hin)
      have hpl := yplace_of ix ar ct (k0 + j) har (by omega)
      rw [hp] at hx1 hse hpl hsl
      rw [hfs] at hx1
      have hsl2 : Calls Tryz.prog 188 #[.pointer (some ⟨g, 0, none⟩), .agg #[.int .i64 (ix : Int), .int .i64 (ar : Int), .int .i64 (ct : Int)], .int .i64 ((k0 : Int) + (j : Int)), .slice a.A a.n a.c] wr fun e w' => ∃ A' c', e = .returned (.slice A' (frmY r inc ⟨ix, ar, ct⟩ (k0 + j) a.l).length c') ∧ By w' A' (frmY r inc ⟨ix, ar, ct⟩ (k0 + j) a.l).length c' (frmY r inc ⟨ix, ar, ct⟩ (k0 + j) a.l) ∧ (∀ q, A' = some q → wr.heap.size ≤ q.block) ∧ Ext wr w' := by
        rw [← Int.natCast_add]
        exact hsl.mono fun e w' ⟨A', c', h1, h2, h3, h4⟩ => ⟨A', c', h1, h2, h3 hse, h4⟩
      clear hsl
      have hsl := hsl2
      clear hsl2
      rw [Int.natCast_add] at hpl
      obtain ⟨Lf, hLf⟩ : ∃ Lf, frmY r inc ⟨ix, ar, ct⟩ (k0 + j) a.l = Lf := ⟨_, rfl⟩
      rw [hLf] at hx1 hsl hfl
      rw [hfl] at hsl
      rw [hx1] at hstop
      generalize wrsY r inc ⟨ix, ar, ct⟩ (0, m) k0 ((lsOf L).take j) = X at *
      obtain ⟨X0, mj⟩ := X
      obtain rfl : X0 = 0 := HX0.out
      have HX1 := Lib.hid hx1
      have HST := Lib.hid hstop
      have HSL := Lib.hid hsl
      have HPL := Lib.hid hpl
      have HFS := Lib.hid hfs
      have HFL := Lib.hid hfl
      have hmj : mj.waits.length ≤ 999500 := by have := HFW.out; dsimp only at hwt; omega
      have HMJ := Lib.hid hmj
      have hrow := (HW.out.mod.block b HZ.out.2 HNF.out.2).trans HZ.out.1
      have c0 := cell_of_row wr b 0 _ _ _ hrow
      have c1 := cell_of_row wr b 1 _ _ _ hrow
      have c2 := cell_of_row wr b 2 _ _ _ hrow
      subst eA
      clear hx1 hstop hsl hpl hfs hfl hmj hwt hse hin hby ha hrow hS hp hLf HX0 HW0
      go_wp2_with fail
      refine HSL.out.mono ?_
      rintro e w2 ⟨Af, cf, rfl, hby, hfr, hx⟩
      obtain ⟨ga, oa, eAf, hga, _⟩ := hby.rd.2 (by rw [HFL.out]; omega)
      subst eAf
      have hga2 : wr.heap.size ≤ ga := hfr _ rfl
      have hnga : ¬ F' ga := fun hf => by have := HW.out.disk.lt _ hf; omega
      have HW2 := Lib.hid (HW.out.ext hx)
      have HFB := Lib.hid (And.intro hby (And.intro hnga hga))
      clear hby hfr hx hga hga2 hnga HSL c0 c1 c2 hcell
      go_wp2_with fail
      refine (wide_any 5 _ (HLM.out _ HW2.out.mod).f.a.t).mono ?_
      rw [show wid 5 = 2 from rfl]
      rintro e w3 ⟨rfl, hx⟩
      have HW3 := Lib.hid (HW2.out.ext hx)
      have HFB3 : Hid (By w3 (some ⟨ga, oa, none⟩) 128 cf Lf ∧ ¬ F' ga ∧ ga < w3.heap.size) := Lib.hid ⟨HFB.out.1.ext hx, HFB.out.2.1, Nat.lt_of_lt_of_le HFB.out.2.2 hx.size⟩
      clear hx HFB HW2 HW
      go_wp2_with fail
      go_loopw [9, 31] (fun v i wr => ∃ (q : Nat) (F'' : Nat → Prop), q ≤ 2 ∧ v = .int .i64 0 ∧ i = .int .i64 (q : Int) ∧ Hid ((wrsE (0, mj) (S : Int) Lf q).1 = 0) ∧ Hid (WY wB d F F'' wr (wrsE (0, mj) (S : Int) Lf q).2) ∧ Hid (By wr (some ⟨ga, oa, none⟩) 128 cf Lf ∧ ¬ F'' ga ∧ ga < wr.heap.size)) (fun _ i _ => 2 - (intOf i).toNat)
      case atStart => exact ⟨0, F', by omega, rfl, rfl, Lib.hid rfl, HW3, HFB3⟩
      case round =>
        obtain ⟨q, F'', hq, rfl, rfl, HY0, HW, HFB⟩ := hrel
        by_cases hlq : q < 2
        · have hy1 : wrsE (0, mj) (S : Int) Lf (q + 1) = unE (wrsE (0, mj) (S : Int) Lf q) fun m => m.write ((S : Int) + (q : Int)) ((Lf.drop (64 * q)).take 64) := rfl
          have hyw := wrs_waits (m := mj) (E := 0) (S := (S : Int)) (L := Lf) q
          have hys : (wrsE (0, mj) (S : Int) Lf (q + 1)).1 ≠ 0 → wrsE (0, mj) (S : Int) Lf 2 = wrsE (0, mj) (S : Int) Lf (q + 1) := wrs_stop (by omega)
          rw [hy1] at hys
          generalize wrsE (0, mj) (S : Int) Lf q = Y at *
          obtain ⟨Y0, mq⟩ := Y
          obtain rfl : Y0 = 0 := HY0.out
          have hy2 : unE ((0 : Int), mq) (fun m => m.write ((S : Int) + (q : Int)) ((Lf.drop (64 * q)).take 64)) = mq.write ((S : Int) + (q : Int)) ((Lf.drop (64 * q)).take 64) := if_pos rfl
          rw [hy2] at hy1 hys
          have hpc := By.piece HFB.out.1 (64 * q) (by omega)
          have hmq : mq.waits.length ≤ 1000000 := by have := HMJ.out; dsimp only at hyw; omega
          have hrow := (HW.out.mod.block b HZ.out.2 HNF.out.2).trans HZ.out.1
          have hgr := (HSH.out.mod HW.out.mod HNF.out.1).cells.2.1
          have hS0 : wr.drew.cell? ⟨g, 1, none⟩ = some (.pointer (some ⟨d, 0, none⟩)) ∧ wr.drew.cell? ⟨b, 0, none⟩ = some (.int .i64 (ix : Int)) ∧ wr.drew.cell? ⟨b, 1, none⟩ = some (.int .i64 (ar : Int)) ∧ wr.drew.cell? ⟨b, 2, none⟩ = some (.int .i64 (ct : Int)) := ⟨hgr, cell_of_row wr b 0 _ _ _ hrow, cell_of_row wr b 1 _ _ _ hrow, cell_of_row wr b 2 _ _ _ hrow⟩
          have HC0 : Hid (wr.cell? ⟨g, 1, none⟩ = some (.pointer (some ⟨d, 0, none⟩)) ∧ wr.cell? ⟨b, 0, none⟩ = some (.int .i64 (ix : Int)) ∧ wr.cell? ⟨b, 1, none⟩ = some (.int .i64 (ar : Int)) ∧ wr.cell? ⟨b, 2, none⟩ = some (.int .i64 (ct : Int))) := Lib.hid hS0
          have HLW : Hid (∀ V, Hid (Ext wr.drew V) → LaidY V) := Lib.hid fun V hV => HLM.out V (HW.out.mod.ext ((Below.drew (Ext.refl wr)).trans hV.out))
          have HFI : Hid (∀ V, Hid (Ext wr.drew V) → Calls Tryz.prog 52 #[.int .i64 5, .int .i64 (p : Int)] V fun e w' => e = .returned (.int .i64 (S : Int)) ∧ Ext V w') := Lib.hid fun V hV => by rw [← HFS.out]; exact first_any 5 (p : Int) V (HLW.out V hV).f.a.t
          have HNG : Hid (¬ F'' g ∧ ¬ F'' b) := Lib.hid ⟨HW.out.not_ HGB.out HNF.out.1, HW.out.not_ HZ.out.2 HNF.out.2⟩
          have HYS := Lib.hid hys
          have HY1 := Lib.hid hy1
          have hcf := HFB.out.1.cap
          have hcm := HFB.out.1.most
          have h64 : (64 : Int) ≤ (cf : Int) := by omega
          have h128 : (128 : Int) ≤ (cf : Int) := by omega
          obtain ⟨lo, hlo⟩ : ∃ lo : Nat, 64 * q = lo := ⟨_, rfl⟩
          obtain ⟨hi2, hhi⟩ : ∃ hi2 : Nat, lo + 64 = hi2 := ⟨_, rfl⟩
          obtain ⟨q1, hq1⟩ : ∃ q1 : Nat, q + 1 = q1 := ⟨_, rfl⟩
          have hcut := cut_mid ga oa 128 cf lo hi2 (by omega) (by omega) (by omega)
          rw [show hi2 - lo = 64 by omega] at hcut
          have e0 : IntKind.i64.wrap ((q : Int) * 64) = (lo : Int) := by rw [wrap_i64 (by omega) (by omega)]; omega
          have e1 : IntKind.i64.wrap ((q : Int) + 1) = (q1 : Int) := by rw [wrap_i64 (by omega) (by omega)]; omega
          have e2 : IntKind.i64.wrap ((q1 : Int) * 64) = (hi2 : Int) := by rw [wrap_i64 (by omega) (by omega)]; omega
          have e3 : IntKind.i64.wrap (((q : Int) + 1) * 64) = (hi2 : Int) := by rw [wrap_i64 (by omega) (by omega)]; omega
          rw [hlo] at hpc HYS HY1
          have HWT : Hid (∀ V, Hid (Ext wr.drew V) → Calls Tryz.prog 79 #[.pointer (some ⟨d, 0, none⟩), .int .i64 (IntKind.i64.wrap ((S : Int) + (q : Int))), .slice (some ⟨ga, oa + lo, none⟩) 64 (cf - lo)] V (Outc d F'' V (mq.write ((S : Int) + (q : Int)) ((Lf.drop lo).take 64)).1 (mq.write ((S : Int) + (q : Int)) ((Lf.drop lo).take 64)).2)) := Lib.hid fun V hV => by
            have hx : Ext wr V := (Below.drew (Ext.refl wr)).trans hV.out
            rw [wrap_i64 (by omega) (by omega)]
            exact write_pd (HW.out.disk.ext hx) _ _ _ _ _ (hpc.ext hx) (fun z hz => by cases hz; exact HFB.out.2.1) hmq
          have HQ := Lib.hid (And.intro hlq hq1)
          clear hy1 hy2 hys hyw hpc hmq hrow hgr HY0 hlo hhi hq1 h64 h128 hcf hcm
          generalize mq.write ((S : Int) + (q : Int)) ((Lf.drop lo).take 64) = R at *
          obtain ⟨E2, m2⟩ := R
          dsimp only at HWT
          go_wp2_with fail
          go_region_held3 (fun w' => w'.cell? ⟨g, 1, none⟩ = some (.pointer (some ⟨d, 0, none⟩)) ∧ w'.cell? ⟨b, 0, none⟩ = some (.int .i64 (ix : Int)) ∧ w'.cell? ⟨b, 1, none⟩ = some (.int .i64 (ar : Int)) ∧ w'.cell? ⟨b, 2, none⟩ = some (.int .i64 (ct : Int)))
            (first | with_reducible exact hS0 | exact keepWr (by assumption) HC0 | exact hS5)
            (first
              | (go_at_call 189; ((with_reducible refine (HPL.out _).mono ?_); rintro e w4 ⟨rfl, hx⟩; have HXk := Lib.hid hx; clear hx))
              | (go_at_call 52; ((with_reducible refine (HFI.out _ HXk).mono ?_); rintro e w5 ⟨rfl, hx⟩; have HX5 : Hid (Ext wr.drew w5) := Lib.hid (HXk.out.trans hx); clear hx))
              | (go_at_call 79; ((with_reducible refine (HWT.out _ HX5).mono ?_); unfold Outc; rintro e w6 ⟨rfl, hd6, hm6⟩; have HD6 := Lib.hid (And.intro hd6 hm6); have hS5 := keepWrM (Lib.hid hm6) HNG (Lib.hid (keepWr HX5 HC0)); clear hd6 hm6)))
          have hx5 : Ext wr w5 := (Below.drew (Ext.refl wr)).trans HX5.out
          have HW6 := Lib.hid ((HW.out.ext hx5).step HD6.out.1 HD6.out.2)
          have HFB6 : Hid (By w6 (some ⟨ga, oa, none⟩) 128 cf Lf ∧ ¬ grow F'' w5 w6 ga ∧ ga < w6.heap.size) := Lib.hid ⟨By.mod (HFB.out.1.ext hx5) HD6.out.2 (fun z hz => by cases hz; exact HFB.out.2.1), grow_not HFB.out.2.1 (Nat.lt_of_lt_of_le HFB.out.2.2 hx5.size), Nat.lt_of_lt_of_le HFB.out.2.2 (Nat.le_trans hx5.size HD6.out.2.size)⟩
          clear hx5 hS0 hS5 hcut e0 e1 e2 e3
          by_cases h0 : E2 = 0
          · subst h0
            go_wp2_with fail
            go_roundw
            case rel => exact ⟨q + 1, _, by omega, rfl, by go_num, Lib.hid (by rw [HY1.out]), by rw [HY1.out]; exact HW6, HFB6⟩
            case measure => simp [intOf]; omega
          · have hne : (E2 != 0) = true := by simpa using h0
            have hneq : (E2 == 0) = false := by simpa using h0
            have hfin : m.wrY r inc ⟨ix, ar, ct⟩ k0 (lsOf L) = (E2, m2) := by
              have h1 := HYS.out h0
              have h2 := HST.out (by rw [h1]; exact h0)
              rw [h2, h1]
            have HFIN := Lib.hid hfin
            clear hfin h0
            go_wp2_with fail
            rw [Exit.noGoto_ret]
            refine bodyPost_ret (v := .int .i64 E2) (by simp [results, Tryz.results96, go_sem]) rfl ?_
            exact ⟨by rw [HFIN.out], _, by rw [HFIN.out]; exact HW6.out.base HE.out⟩
        · obtain rfl : q = 2 := by omega
          go_wp2_with fail
          go_roundw
          case rel => exact ⟨j + 1, F'', by omega, rfl, by go_num, Lib.hid (by rw [HX1.out]; exact HY0.out), by rw [HX1.out]; exact HW⟩
          case measure => simp [intOf]; omega
    · obtain rfl : j = n := by omega
      have ht : (lsOf L).take (lsOf L).length = lsOf L := List.take_of_length_le (Nat.le_refl _)
      rw [HLEN.out] at ht
      rw [ht] at HX0 HW
      have hfin : m.wrY r inc ⟨ix, ar, ct⟩ k0 (lsOf L) = (wrsY r inc ⟨ix, ar, ct⟩ (0, m) k0 (lsOf L)).2.flush := by
        unfold DM.wrY unE
        rw [if_pos HX0.out]
      have hgr := (HSH.out.mod HW.out.mod HNF.out.1).cells.2.1
      have HFIN := Lib.hid hfin
      clear hfin ht HX0
      generalize (wrsY r inc ⟨ix, ar, ct⟩ (0, m) k0 (lsOf L)).2 = mq at *
      have HFL := Lib.hid (flush_pd HW.out.disk)
      generalize mq.flush = R at *
      obtain ⟨E2, m2⟩ := R
      dsimp only at HFL
      go_wp2_with fail
      refine HFL.out.mono ?_
      unfold Outc
      rintro e w6 ⟨rfl, hd6, hm6⟩
      have HW6 := Lib.hid (HW.out.step hd6 hm6)
      clear hd6 hm6
      go_wp2_with fail
      rw [Exit.noGoto_ret]
      refine bodyPost_ret (v := .int .i64 E2) (by simp [results, Tryz.results96, go_sem]) rfl ?_
      exact ⟨by rw [HFIN.out], _, by rw [HFIN.out]; exact HW6.out.base HE.out⟩
theorem ywrite_of {w : World} {g d : Nat} {r inc : Int} {s : ShM} {F : Nat → Prop} {m : DM} (h : ShAt w g d r inc s) (hd : PDisk w d F m) (hg : ¬ F g) (hLM : ∀ V, Mod F w V → LaidY V) (ix ar ct : Nat) (har : ar ≤ 1) (k0 : Nat)
    (A : Option Addr) (n c : Nat) (L : List Lst) (hls : Lsts w w.heap.size A n c L) (hA : Off F A) (hO : ∀ a ∈ L, Off F a.A) (hk : k0 + n ≤ 8) (hin : ∀ a ∈ L, a.l.length ≤ 140737488355000)
    (hse : ∀ j a, L[j]? = some a → sealE r 5 ((8 * ar + (k0 + j) : Nat) : Int) (ix : Int) inc (prZL (ct : Int) a.l).length 2 = 0) (hfew : m.waits.length ≤ 999000) :
    Calls Tryz.prog 96 #[.pointer (some ⟨g, 0, none⟩), .agg #[.int .i64 (ix : Int), .int .i64 (ar : Int), .int .i64 (ct : Int)], .int .i64 (k0 : Int), .slice A n c] w fun e w' =>
      e = .returned (.int .i64 (m.wrY r inc ⟨ix, ar, ct⟩ k0 (lsOf L)).1) ∧ ∃ F', WY w d F F' w' (m.wrY r inc ⟨ix, ar, ct⟩ k0 (lsOf L)).2 :=
  ywrite_ofN h hd hg hLM ix ar ct har k0 A n c L hls hA (fun a ha _ => hO a ha) hk hin hse hfew
end
end Go.Proofs.YtgcinagkbdcgiaaGreatDoor
