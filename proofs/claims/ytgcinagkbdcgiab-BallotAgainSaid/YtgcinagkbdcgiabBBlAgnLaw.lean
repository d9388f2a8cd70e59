/-
  The walk of BallotAgain: replicas that outbid one another go on behind all that was; each round of bids is one round more at most.
-/
import Derived.Test.YtgcinagkbdcgiabB00
import Derived.Test.YtgcinagkbdcgiabB01
import Derived.Test.YtgcinagkbdcgiabB02
import Derived.Deep.DeepCutAuto
import Derived.Deep.RegionHeld
namespace Go.Proofs.Ytgcinagkbdcgiab
open Go Go.RowKit
theorem wrap_modG (z : Int) (N : Nat) (h0 : 0 < N) (hN : N ≤ 1000) : ∃ q : Nat, q < N ∧ wrap64 ((IntKind.u64.wrap z).tmod (N : Int)) = (q : Int) := by
  have h1 : 0 ≤ IntKind.u64.wrap z := by rw [IntKind.wrap_u64]; omega
  have h2 := Int.emod_nonneg (IntKind.u64.wrap z) (show (N : Int) ≠ 0 by omega)
  have h3 := Int.emod_lt_of_pos (IntKind.u64.wrap z) (show (0 : Int) < N by omega)
  refine ⟨((IntKind.u64.wrap z) % N).toNat, by omega, ?_⟩
  rw [Int.tmod_eq_emod_of_nonneg h1, IntWalk.wrap64_in _ (by omega)]
  omega
theorem next_small {b : Bal} {r n : Int} (h : mayB_ b n = true) (hr : 0 ≤ r ∧ r < n) (hx : b.x ≤ 300) : errB b r n = 0 ∧ (nextB b r n).x ≤ b.x + 1 := by
  have hok : okB b r n = true := by unfold okB; rw [h, Bool.true_and]; exact decide_eq_true hr
  have hm := mayB_iff.1 h
  have hrd : roundB b r ≤ b.x + 1 := by
    unfold roundB
    split
    · omega
    · split <;> omega
  have h2 : roundB b r ≤ 1099511627776 := by omega
  unfold errB nextB
  rw [if_pos hok, if_pos h2, if_pos hok, if_pos h2]
  exact ⟨rfl, hrd⟩
abbrev S3A (w : World) (a : Nat) (x y : Int) (g o : Nat) (z : Nat) : Prop := w.cell? ⟨a, 0, none⟩ = some (.int .i64 x) ∧ w.cell? ⟨a, 1, none⟩ = some (.int .i64 y) ∧ w.cell? ⟨g, o, none⟩ = some (.int .u8 (z : Int))
set_option maxRecDepth 100000 in
set_option maxHeartbeats 3200000 in
theorem ballotAgain_law (A : Option Addr) (n c : Nat) (l : List Nat) (m : Int) (w : World) (h : Bs w w.heap.size A n c l) (_ : (Lit.int .i64 m).wf = true) :
    Calls Try.prog 3 #[.slice A n c, .int .i64 m] w fun e w' => e = .returned (.bool true) ∧ Below w.heap.size w w' := by
  show Calls Try.prog 3 #[.slice A n c, .int .i64 m] w fun e w' => e = .returned (.bool true) ∧ Ext w w'
  have hcap := h.cap
  have hmost := h.most
  have H := Lib.hid h
  obtain ⟨q, hq3, hqe⟩ := wrap_modG m 3 (by omega) (by omega)
  have hqe : wrap64 ((IntKind.u64.wrap m).tmod 3) = (q : Int) := hqe
  clear h
  by_cases hn : 200 < n
  · clear hqe
    go_enter Try.func3, Try.ntmps3
    go_wp2_with fail
    refine (bawake_any _).mono ?_
    rintro e w1 ⟨rfl, hx⟩
    have HX := Lib.hid hx
    clear hx
    go_wp2_with fail
    go_ret
    exact ⟨rfl, HX.out⟩
  go_enter Try.func3, Try.ntmps3
  go_wp2_with fail
  refine (bawake_any _).mono ?_
  rintro e w1 ⟨rfl, hx⟩
  have HX1 := Lib.hid hx
  clear hx
  go_upto_region 6 with (fail)
  rw [hqe]
  obtain ⟨N, hN⟩ : ∃ N : Nat, 3 + 2 * q = N := ⟨_, rfl⟩
  have hNI : (3 : Int) + 2 * (q : Int) = (N : Int) := by omega
  rw [hNI]
  have HN : Hid ((N : Int) = 3 ∨ (N : Int) = 5 ∨ (N : Int) = 7) := Lib.hid (by omega)
  have hN0 : 0 < N := by omega
  have hN7 : N ≤ 7 := by omega
  clear hqe hNI hN hq3
  have HR0 := Lib.hid (heap_alloc_new w1 (.cells #[.int .i64 0, .int .i64 0] 26))
  have HX0 := Lib.hid (HX1.out.alloc (.cells #[.int .i64 0, .int .i64 0] 26))
  go_upto_region 7 with (fail)
  generalize (w1.alloc (Obj.cells #[Value.int .i64 0, Value.int .i64 0] 26)) = W0 at *
  obtain ⟨b5, hb5⟩ : ∃ b5, w1.heap.size = b5 := ⟨_, rfl⟩
  rw [hb5] at HR0 ⊢
  have HB5 : Hid (w.heap.size ≤ b5) := Lib.hid (by rw [← hb5]; exact HX1.out.size)
  clear hb5
  go_wp2_with fail
  go_loopw [6] (fun v wr => ∃ (i : Nat) (x y : Int), i ≤ n ∧ v = .int .i64 (i : Int) ∧ Hid (wr.heap[b5]? = some (.cells #[.int .i64 x, .int .i64 y] 26 (0, 0))) ∧ Hid (mayB_ ⟨x, y⟩ (N : Int) = true) ∧ Hid (0 ≤ x ∧ x ≤ (i : Int)) ∧ Hid (Ext w wr)) (fun v _ => n - (intOf v).toNat)
  case atStart => exact ⟨0, 0, 0, Nat.zero_le _, rfl, HR0, Lib.hid (mayB_iff.2 ⟨HN.out, .inl ⟨rfl, rfl⟩⟩), Lib.hid (by omega), HX0⟩
  case round =>
    obtain ⟨i, x, y, hi, rfl, HR5, HM, HXB, HX⟩ := hrel
    by_cases hlt : i < n
    · obtain ⟨g, o, z, hA, _, hz, hz256, hcz⟩ := H.out.rd.at_ (show i < l.length by rw [H.out.len]; exact hlt)
      subst hA
      obtain ⟨r, hr⟩ : ∃ r, z % N = r := ⟨_, rfl⟩
      have hrN : r < N := by rw [← hr]; exact Nat.mod_lt _ hN0
      have hrI : ((z : Int)).tmod (N : Int) = (r : Int) := by
        rw [Int.tmod_eq_emod_of_nonneg (by omega), ← hr]
        simp
      have hxb := HXB.out
      obtain ⟨e0, hle⟩ := next_small (b := ⟨x, y⟩) (r := (r : Int)) HM.out (by omega) (by dsimp only; omega)
      obtain ⟨f1, f2, f3, f4, f5, _⟩ := next_facts e0
      have hnx := fun V => nextB_of x y (r : Int) (N : Int) V
      rw [e0] at hnx
      obtain ⟨⟨nx, ny⟩, hNb⟩ : ∃ b, nextB ⟨x, y⟩ (r : Int) (N : Int) = b := ⟨_, rfl⟩
      rw [hNb] at hle f1 f2 f3 f4 f5 hnx
      dsimp only at hle f2 f3 f4 hnx
      have HNX := Lib.hid hnx
      have HMN := Lib.hid f1
      have HLT := Lib.hid (fun V => less_lit x y nx ny true f5 V)
      have HNB : Hid (0 ≤ nx ∧ nx ≤ (i : Int) + 1) := Lib.hid (by omega)
      have hxle : x ≤ 200 := by omega
      have hx0 : 0 ≤ x := by omega
      have hnx1 : nx ≤ x + 1 := hle
      have hnx2 : nx ≤ (i : Int) + 1 := by omega
      have hcW : ∀ V, Ext w V → V.cell? ⟨g, o + i, none⟩ = some (.int .u8 (z : Int)) := fun V hV => ext_of_cellB hV hcz
      have HSV : Hid (∀ V, Ext w V → V.heap[b5]? = some (.cells #[.int .i64 x, .int .i64 y] 26 (0, 0)) → S3A V b5 x y g (o + i) z) := Lib.hid (fun V hV hr => ⟨(bal_row hr).1, (bal_row hr).2.1, hcW V hV⟩)
      have HR5d : Hid (wr.drew.heap[b5]? = some (.cells #[.int .i64 x, .int .i64 y] 26 (0, 0))) := Lib.hid (keep_rowB (Ext.refl wr).drew HR5.out)
      clear e0 hle f1 f2 f3 f4 f5 hnx hNb hcW hr hz hcz hxb
      go_wp2_with fail
      refine wp_region_held_drew (S := fun w' => S3A w' b5 x y g (o + i) z) (by kernel_rfl) (HSV.out _ HX.out.drew HR5d.out) (fun hHeld => ?_)
      refine tj (i := 0) (oi := ⟨some 27, .load 26 (.tmp 5), 26, "outright.go:87", #[], none⟩) rfl (by kernel_rfl) ?_
      try simp only [Act.put, sT, s0, s1]
      refine tj (i := 1) (oi := ⟨some 28, .move (.tmp 0), 22, "outright.go:87", #[], none⟩) rfl (by kernel_rfl) ?_
      try simp only [Act.put, sT, s0, s1]
      refine tj (i := 2) (oi := ⟨some 29, .move (.tmp 6), 3, "outright.go:87", #[], none⟩) rfl (by kernel_rfl) ?_
      try simp only [Act.put, sT, s0, s1]
      refine tj (i := 3) (oi := ⟨some 30, .indexAddr 22 (.tmp 28) (.tmp 29), 0, "outright.go:87", #[⟨1, .data⟩, ⟨2, .data⟩], none⟩) rfl (by kernel_rfl) ?_
      try simp only [Act.put, sT, s0, s1]
      refine tj (i := 4) (oi := ⟨some 31, .load 5 (.tmp 30), 5, "outright.go:87", #[⟨3, .data⟩], none⟩) rfl (by kernel_rfl) ?_
      try simp only [Act.put, sT, s0, s1]
      refine tk (i := 5) (oi := ⟨some 32, .convert 5 3 (.tmp 31), 3, "outright.go:87", #[⟨4, .data⟩], none⟩) (v := .int .i64 (z : Int)) rfl (by kernel_rfl) (Or.inl ⟨by rfl, ?_⟩) ?_
      · intro w9 hSw
        try dsimp only at hSw
        go_simp
        try (rw [IntKind.wrap_i64]; omega)
      try simp only [Act.put, sT, s0, s1]
      refine tj (i := 6) (oi := ⟨some 33, .move (.tmp 1), 3, "outright.go:87", #[], none⟩) rfl (by kernel_rfl) ?_
      try simp only [Act.put, sT, s0, s1]
      refine tk (i := 7) (oi := ⟨some 34, .binOp .rem 3 (.tmp 32) (.tmp 33) 3, 3, "outright.go:87", #[⟨5, .data⟩, ⟨6, .data⟩], none⟩) (v := .int .i64 (r : Int)) rfl (by kernel_rfl) (Or.inl ⟨by rfl, ?_⟩) ?_
      · intro w9 hSw
        try dsimp only at hSw
        go_simp
        try omega
      try simp only [Act.put, sT, s0, s1]
      refine tj (i := 8) (oi := ⟨some 35, .move (.tmp 1), 3, "outright.go:87", #[], none⟩) rfl (by kernel_rfl) ?_
      try simp only [Act.put, sT, s0, s1]
      refine wpAnyH_ready (rs := [9, 13]) (by kernel_rfl) (by simp) ?_
      refine (AllReadyH.cons (o := ⟨some 36, .call { callee := .value (.func 5), args := #[.tmp 27, .tmp 34, .tmp 35], argTypes := #[26, 3, 3] }, 28, "outright.go:87", #[⟨0, .data⟩, ⟨7, .data⟩, ⟨8, .data⟩], none⟩) rfl (fun K hK => ?_) (AllReadyH.cons (o := ⟨some 7, .alloc 26, 0, "outright.go:87", #[], none⟩) rfl (fun K hK => ?_) AllReadyH.nil))
      · skip
        have HXv : Hid (Ext w wr.drew) := Lib.hid HX.out.drew
        have HR5v := HR5d
        clear hHeld
        go_simp
        refine (HNX.out _).mono ?_
        rintro e w3 ⟨rfl, hx⟩
        have HXc := Lib.hid (HXv.out.trans hx)
        have HR5c := Lib.hid (keep_rowB hx HR5v.out)
        clear hx
        go_wp2_with fail
        refine hK.out _ _ (HSV.out _ HXc.out HR5c.out) (fun hHeld => ?_)
        clear hK K
        try simp only [Act.put, sT, s0, s1]
        refine tj (i := 10) (oi := ⟨some 26, .move (.tmp 36), 28, "outright.go:87", #[⟨9, .data⟩], none⟩) rfl (by kernel_rfl) ?_
        try simp only [Act.put, sT, s0, s1]
        refine tj (i := 11) (oi := ⟨some 37, .extract (.tmp 26) 0, 26, "outright.go:87", #[⟨10, .data⟩], none⟩) rfl (by kernel_rfl) ?_
        try simp only [Act.put, sT, s0, s1]
        refine tj (i := 12) (oi := ⟨some 38, .extract (.tmp 26) 1, 27, "outright.go:87", #[⟨10, .data⟩, ⟨14, .gcOnly .lateStores⟩], none⟩) rfl (by kernel_rfl) ?_
        try simp only [Act.put, sT, s0, s1]
        have HXv := HXc
        have HR5v := HR5c
        obtain ⟨b7, hb7⟩ : ∃ b7, w3.heap.size = b7 := ⟨_, rfl⟩
        have HB7 : Hid (w.heap.size ≤ b7) := Lib.hid (by rw [← hb7]; exact HXv.out.size)
        have HNE : Hid (b5 ≠ b7) := Lib.hid (by have := (Array.getElem?_eq_some_iff.1 HR5v.out).1; omega)
        refine wpAnyH_ready (rs := [13]) (by kernel_rfl) (by simp) ?_
        refine (AllReadyH.cons (o := ⟨some 7, .alloc 26, 0, "outright.go:87", #[], none⟩) rfl (fun K hK => ?_) AllReadyH.nil)
        clear hHeld
        go_simp
        have HR7 := Lib.hid (heap_alloc_new w3 (.cells #[.int .i64 0, .int .i64 0] 26))
        have HXa := Lib.hid (HXv.out.alloc (.cells #[.int .i64 0, .int .i64 0] 26))
        have HR5a := Lib.hid (keep_rowB ((Ext.refl w3).alloc (.cells #[.int .i64 0, .int .i64 0] 26)) HR5v.out)
        refine hK.out _ _ (HSV.out _ HXa.out HR5a.out) (fun hHeld => ?_)
        clear hK K
        try simp only [Act.put, sT, s0, s1]
        rw [hb7] at HR7
        try rw [hb7]
        refine wpAnyH_ready (rs := [14]) (by kernel_rfl) (by simp) ?_
        refine (AllReadyH.cons (o := ⟨none, .store 26 (.tmp 7) (.tmp 37), 0, "outright.go:87", #[⟨13, .data⟩, ⟨11, .data⟩, ⟨9, .chain⟩, ⟨0, .phase⟩, ⟨1, .phase⟩, ⟨2, .phase⟩, ⟨3, .phase⟩, ⟨4, .phase⟩, ⟨5, .phase⟩, ⟨6, .phase⟩, ⟨7, .phase⟩, ⟨8, .phase⟩, ⟨9, .phase⟩, ⟨10, .phase⟩, ⟨11, .phase⟩, ⟨12, .textOnly .lateStores⟩, ⟨13, .phase⟩], none⟩) rfl (fun K hK => ?_) AllReadyH.nil)
        clear hHeld HR7 HXa HR5a
        go_simp
        have hr7 := heap_alloc_new w3 (.cells #[.int .i64 nx, .int .i64 ny] 26)
        rw [hb7] at hr7
        have HR7s := Lib.hid hr7
        have HXs := Lib.hid (show Ext w _ from HXv.out.alloc (.cells #[.int .i64 nx, .int .i64 ny] 26))
        have HR5s := Lib.hid (keep_rowB ((Ext.refl w3).alloc (.cells #[.int .i64 nx, .int .i64 ny] 26)) HR5v.out)
        clear hr7
        refine hK.out _ _ (HSV.out _ HXs.out HR5s.out) (fun hHeld => ?_)
        clear hK K
        try simp only [Act.put, sT, s0, s1]
        generalize (w3.alloc (Obj.cells #[Value.int .i64 nx, Value.int .i64 ny] 26)) = W7 at *
        refine tj (i := 15) (oi := ⟨some 8, .assign (.tmp 38), 27, "outright.go:87", #[⟨12, .data⟩, ⟨14, .chain⟩, ⟨0, .phase⟩, ⟨1, .phase⟩, ⟨2, .phase⟩, ⟨3, .phase⟩, ⟨4, .phase⟩, ⟨5, .phase⟩, ⟨6, .phase⟩, ⟨7, .phase⟩, ⟨8, .phase⟩, ⟨9, .phase⟩, ⟨10, .phase⟩, ⟨11, .phase⟩, ⟨12, .phase⟩, ⟨13, .phase⟩, ⟨14, .phase⟩], none⟩) rfl (by kernel_rfl) ?_
        try simp only [Act.put, sT, s0, s1]
        refine wpAnyH_done (by kernel_rfl) ?_ _
        clear hHeld
        have HXd := HXs
        clear HXv HR5v
        obtain ⟨s0, s1, s2, s3⟩ := bal_row HR7s.out
        obtain ⟨t0, t1, t2, t3⟩ := bal_row HR5s.out
        have hgt1 : ¬ x + 1 < nx := by omega
        have hgt2 : ¬ (i : Int) + 1 < nx := by omega
        go_wp2_with fail
        refine (HLT.out _).mono ?_
        rintro e w8 ⟨rfl, hx⟩
        have HR7e := Lib.hid (keep_rowB hx HR7s.out)
        have HR5e := Lib.hid (keep_rowB hx HR5s.out)
        have HX8 := Lib.hid (HXs.out.trans hx)
        clear hx s0 s1 s2 s3 t0 t1 t2 t3
        obtain ⟨s0, s1, s2, s3⟩ := bal_row HR7e.out
        obtain ⟨t0, t1, t2, t3⟩ := bal_row HR5e.out
        have HR5n := Lib.hid (bal_store nx ny HR5e.out)
        have HX9 := Lib.hid ((HX8.out.setCell (p := ⟨b5, 0, none⟩) HB5.out (.int .i64 nx)).setCell (p := ⟨b5, 1, none⟩) HB5.out (.int .i64 ny))
        go_wp2_with fail
        generalize (w8.setCell ⟨b5, 0, none⟩ (Value.int .i64 nx)).setCell ⟨b5, 1, none⟩ (Value.int .i64 ny) = W9 at *
        go_roundw
        case rel => exact ⟨i + 1, nx, ny, by omega, by go_num, HR5n, HMN, Lib.hid (by have := HNB.out; omega), HX9⟩
        case measure => simp [intOf]; omega
      · skip
        have HXv : Hid (Ext w wr.drew) := Lib.hid HX.out.drew
        have HR5v := HR5d
        obtain ⟨b7, hb7⟩ : ∃ b7, wr.drew.heap.size = b7 := ⟨_, rfl⟩
        have HB7 : Hid (w.heap.size ≤ b7) := Lib.hid (by rw [← hb7]; exact HXv.out.size)
        have HNE : Hid (b5 ≠ b7) := Lib.hid (by have := (Array.getElem?_eq_some_iff.1 HR5v.out).1; omega)
        clear hHeld
        go_simp
        have HR7 := Lib.hid (heap_alloc_new wr.drew (.cells #[.int .i64 0, .int .i64 0] 26))
        have HXa := Lib.hid (HXv.out.alloc (.cells #[.int .i64 0, .int .i64 0] 26))
        have HR5a := Lib.hid (keep_rowB ((Ext.refl wr.drew).alloc (.cells #[.int .i64 0, .int .i64 0] 26)) HR5v.out)
        refine hK.out _ _ (HSV.out _ HXa.out HR5a.out) (fun hHeld => ?_)
        clear hK K
        try simp only [Act.put, sT, s0, s1]
        have hb7' : wr.heap.size = b7 := hb7
        first | rw [hb7'] at HR7 | rw [hb7] at HR7
        try rw [hb7']
        try rw [hb7]
        have HXv := HXa
        have HR5v := HR5a
        refine wpAnyH_ready (rs := [9]) (by kernel_rfl) (by simp) ?_
        refine (AllReadyH.cons (o := ⟨some 36, .call { callee := .value (.func 5), args := #[.tmp 27, .tmp 34, .tmp 35], argTypes := #[26, 3, 3] }, 28, "outright.go:87", #[⟨0, .data⟩, ⟨7, .data⟩, ⟨8, .data⟩], none⟩) rfl (fun K hK => ?_) AllReadyH.nil)
        clear hHeld
        go_simp
        refine (HNX.out _).mono ?_
        rintro e w3 ⟨rfl, hx⟩
        have HXc := Lib.hid (HXv.out.trans hx)
        have HR5c := Lib.hid (keep_rowB hx HR5v.out)
        have HR7c := Lib.hid (keep_rowB hx HR7.out)
        clear hx
        go_wp2_with fail
        refine hK.out _ _ (HSV.out _ HXc.out HR5c.out) (fun hHeld => ?_)
        clear hK K
        try simp only [Act.put, sT, s0, s1]
        refine tj (i := 10) (oi := ⟨some 26, .move (.tmp 36), 28, "outright.go:87", #[⟨9, .data⟩], none⟩) rfl (by kernel_rfl) ?_
        try simp only [Act.put, sT, s0, s1]
        refine tj (i := 11) (oi := ⟨some 37, .extract (.tmp 26) 0, 26, "outright.go:87", #[⟨10, .data⟩], none⟩) rfl (by kernel_rfl) ?_
        try simp only [Act.put, sT, s0, s1]
        refine tj (i := 12) (oi := ⟨some 38, .extract (.tmp 26) 1, 27, "outright.go:87", #[⟨10, .data⟩, ⟨14, .gcOnly .lateStores⟩], none⟩) rfl (by kernel_rfl) ?_
        try simp only [Act.put, sT, s0, s1]
        refine wpAnyH_ready (rs := [14]) (by kernel_rfl) (by simp) ?_
        refine (AllReadyH.cons (o := ⟨none, .store 26 (.tmp 7) (.tmp 37), 0, "outright.go:87", #[⟨13, .data⟩, ⟨11, .data⟩, ⟨9, .chain⟩, ⟨0, .phase⟩, ⟨1, .phase⟩, ⟨2, .phase⟩, ⟨3, .phase⟩, ⟨4, .phase⟩, ⟨5, .phase⟩, ⟨6, .phase⟩, ⟨7, .phase⟩, ⟨8, .phase⟩, ⟨9, .phase⟩, ⟨10, .phase⟩, ⟨11, .phase⟩, ⟨12, .textOnly .lateStores⟩, ⟨13, .phase⟩], none⟩) rfl (fun K hK => ?_) AllReadyH.nil)
        obtain ⟨s0, s1, s2, s3⟩ := bal_row HR7c.out
        have hlt7 := (Array.getElem?_eq_some_iff.1 HR7c.out).1
        have hb7w := HB7.out
        clear hHeld
        go_simp
        have HR7s := Lib.hid (bal_store nx ny HR7c.out)
        have HR5s := Lib.hid (bal_stored (w := w3) nx ny (show b5 ≠ b7 from HNE.out) HR5c.out)
        have HXs := Lib.hid (show Ext w _ from (HXc.out.setCell (p := ⟨b7, 0, none⟩) HB7.out (.int .i64 nx)).setCell (p := ⟨b7, 1, none⟩) HB7.out (.int .i64 ny))
        clear s0 s1 s2 s3 hlt7 hb7w
        refine hK.out _ _ (HSV.out _ HXs.out HR5s.out) (fun hHeld => ?_)
        clear hK K
        try simp only [Act.put, sT, s0, s1]
        generalize ((w3).setCell ⟨b7, 0, none⟩ (Value.int .i64 nx)).setCell ⟨b7, 1, none⟩ (Value.int .i64 ny) = W7 at *
        refine tj (i := 15) (oi := ⟨some 8, .assign (.tmp 38), 27, "outright.go:87", #[⟨12, .data⟩, ⟨14, .chain⟩, ⟨0, .phase⟩, ⟨1, .phase⟩, ⟨2, .phase⟩, ⟨3, .phase⟩, ⟨4, .phase⟩, ⟨5, .phase⟩, ⟨6, .phase⟩, ⟨7, .phase⟩, ⟨8, .phase⟩, ⟨9, .phase⟩, ⟨10, .phase⟩, ⟨11, .phase⟩, ⟨12, .phase⟩, ⟨13, .phase⟩, ⟨14, .phase⟩], none⟩) rfl (by kernel_rfl) ?_
        try simp only [Act.put, sT, s0, s1]
        refine wpAnyH_done (by kernel_rfl) ?_ _
        clear hHeld
        have HXd := HXs
        clear HXv HR5v
        obtain ⟨s0, s1, s2, s3⟩ := bal_row HR7s.out
        obtain ⟨t0, t1, t2, t3⟩ := bal_row HR5s.out
        have hgt1 : ¬ x + 1 < nx := by omega
        have hgt2 : ¬ (i : Int) + 1 < nx := by omega
        go_wp2_with fail
        refine (HLT.out _).mono ?_
        rintro e w8 ⟨rfl, hx⟩
        have HR7e := Lib.hid (keep_rowB hx HR7s.out)
        have HR5e := Lib.hid (keep_rowB hx HR5s.out)
        have HX8 := Lib.hid (HXs.out.trans hx)
        clear hx s0 s1 s2 s3 t0 t1 t2 t3
        obtain ⟨s0, s1, s2, s3⟩ := bal_row HR7e.out
        obtain ⟨t0, t1, t2, t3⟩ := bal_row HR5e.out
        have HR5n := Lib.hid (bal_store nx ny HR5e.out)
        have HX9 := Lib.hid ((HX8.out.setCell (p := ⟨b5, 0, none⟩) HB5.out (.int .i64 nx)).setCell (p := ⟨b5, 1, none⟩) HB5.out (.int .i64 ny))
        go_wp2_with fail
        generalize (w8.setCell ⟨b5, 0, none⟩ (Value.int .i64 nx)).setCell ⟨b5, 1, none⟩ (Value.int .i64 ny) = W9 at *
        go_roundw
        case rel => exact ⟨i + 1, nx, ny, by omega, by go_num, HR5n, HMN, Lib.hid (by have := HNB.out; omega), HX9⟩
        case measure => simp [intOf]; omega
    · have hin : i = n := by omega
      subst hin
      go_wp2_with fail
      go_ret
      exact ⟨rfl, HX.out⟩
end Go.Proofs.Ytgcinagkbdcgiab
