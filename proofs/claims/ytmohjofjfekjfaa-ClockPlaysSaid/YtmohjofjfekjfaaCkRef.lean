/-
  The document's clock in memory, and its contracts.
-/
import Derived.Test.YtmohjofjfekjfaaCkC
import Derived.Deep.DeepCutAuto
import Derived.Deep.QuietTactic
namespace Go.Proofs.Ytmohjofjfekjfaa
open Go Go.RowKit

/-- The document's clock of replica k: its silence, and how many ticks it led. -/
structure RC (w : World) (q k s l : Nat) : Prop where
  row : w.heap[q]? = some (.cells #[.int .i64 (k : Int), .int .i64 (s : Int), .int .i64 (l : Int)] 35 (0, 0))
section
variable {w w' : World} {q k s l : Nat}
theorem RC.lt (z : RC w q k s l) : q < w.heap.size := (Array.getElem?_eq_some_iff.1 z.row).1
theorem RC.mod {F : Nat → Prop} (z : RC w q k s l) (hm : Mod F w w') (h1 : ¬ F q) : RC w' q k s l := ⟨heap_mod z.row hm h1⟩
theorem RC.ext (z : RC w q k s l) (hx : Ext w w') : RC w' q k s l := ⟨(hx.block _ z.lt).trans z.row⟩
theorem RC.cells (z : RC w q k s l) : w.cell? ⟨q, 0, none⟩ = some (.int .i64 (k : Int)) ∧ w.cell? ⟨q, 1, none⟩ = some (.int .i64 (s : Int)) ∧ w.cell? ⟨q, 2, none⟩ = some (.int .i64 (l : Int)) :=
  ⟨cell_of_row w q 0 _ _ _ z.row, cell_of_row w q 1 _ _ _ z.row, cell_of_row w q 2 _ _ _ z.row⟩
theorem RC.free (z : RC w q k s l) (o : Nat) : w.frozen? ⟨q, o, none⟩ = false := frozen_of_row w q o _ _ z.row
theorem RC.sil (z : RC w q k s l) (s' : Nat) : RC (w.setCell ⟨q, 1, none⟩ (.int .i64 (s' : Int))) q k s' l := ⟨row_setK 1 z.row _ rfl⟩
theorem RC.led (z : RC w q k s l) (l' : Nat) : RC (w.setCell ⟨q, 2, none⟩ (.int .i64 (l' : Int))) q k s l' := ⟨row_setK 2 z.row _ rfl⟩
end
set_option maxRecDepth 100000 in
set_option maxHeartbeats 800000 in
theorem rpat_of (r : Int) (w : World) : Calls Try.prog 11 #[.int .i64 r] w fun e w' => e = .returned (.int .i64 (patC r : Int)) ∧ w = w' := by
  by_cases h0 : r < 0
  · have d0 : decide (r < 0) = true := decide_eq_true h0
    have hp : patC r = 0 := by unfold patC; rw [if_neg (by omega)]
    rw [hp]
    go_enter Try.func11, Try.ntmps11
    go_wp2_with fail
    go_ret
    exact ⟨rfl, rfl⟩
  · by_cases h7 : 6 < r
    · have d0 : decide (r < 0) = false := decide_eq_false h0
      have d7 : decide (6 < r) = true := decide_eq_true h7
      have hp : patC r = 0 := by unfold patC; rw [if_neg (by omega)]
      rw [hp]
      go_enter Try.func11, Try.ntmps11
      go_wp2_with fail
      go_ret
      exact ⟨rfl, rfl⟩
    · have d0 : decide (r < 0) = false := decide_eq_false h0
      have d7 : decide (6 < r) = false := decide_eq_false h7
      obtain ⟨k, rfl⟩ := Int.eq_ofNat_of_zero_le (show 0 ≤ r by omega)
      have hk : k < 7 := by omega
      rw [patC_in hk]
      go_enter Try.func11, Try.ntmps11
      go_wp2_with fail
      go_loopw [3, 4] (fun a v wr => ∃ j : Nat, j ≤ k ∧ v = .int .i64 (j : Int) ∧ a = .int .i64 (10 + 4 * (j : Int)) ∧ w = wr) (fun _ v _ => k - (intOf v).toNat)
      case atStart => exact ⟨0, Nat.zero_le _, rfl, rfl, rfl⟩
      case round =>
        obtain ⟨j, hj, rfl, rfl, rfl⟩ := hrel
        by_cases hlt : j < k
        · have hjk : (j : Int) < (k : Int) := by omega
          go_wp2_with fail
          go_roundw
          case rel => exact ⟨j + 1, by omega, by go_num, by go_num, trivial⟩
          case measure => simp [intOf]; omega
        · obtain rfl : j = k := by omega
          go_wp2_with fail
          go_ret
          exact ⟨rfl, rfl⟩
set_option maxRecDepth 100000 in
set_option maxHeartbeats 800000 in
theorem rnew_of (k : Nat) (hk : k < 7) (w : World) : Calls Try.prog 9 #[.int .i64 (k : Int)] w fun e w' => e = .returned (.tuple #[.pointer (some ⟨w.heap.size, 0, none⟩), .bool true]) ∧ RC w' w.heap.size k 0 0 ∧ Ext w w' := by
  have HC := Lib.hid (fun V => rpat_of (k : Int) V)
  rw [patC_in hk] at HC
  go_enter Try.func9, Try.ntmps9
  go_wp2_with fail
  refine (HC.out _).mono ?_
  rintro e w1 ⟨rfl, rfl⟩
  go_wp2_with fail
  refine bodyPost_ret (v := .tuple #[.pointer (some ⟨w.heap.size, 0, none⟩), .bool true]) (by simp [results, Try.results9, go_sem]; omega) rfl ⟨rfl, ⟨?_⟩, (Ext.refl w).alloc _⟩
  exact heap_alloc_new w (.cells #[.int .i64 (k : Int), .int .i64 0, .int .i64 0] 35)
set_option maxRecDepth 100000 in
set_option maxHeartbeats 800000 in
theorem rnew_no (r : Int) (hr : ¬ (0 ≤ r ∧ r < 7)) (w : World) : Calls Try.prog 9 #[.int .i64 r] w fun e w' => (∃ q, e = .returned (.tuple #[.pointer (some ⟨q, 0, none⟩), .bool false])) ∧ Ext w w' := by
  have HC := Lib.hid (fun V => rpat_of r V)
  rw [patC_out hr] at HC
  clear hr
  go_enter Try.func9, Try.ntmps9
  go_wp2_with fail
  refine (HC.out _).mono ?_
  rintro e w1 ⟨rfl, rfl⟩
  go_wp2_with fail
  refine bodyPost_ret (v := .tuple #[.pointer (some ⟨w.heap.size, 0, none⟩), .bool false]) (by simp [results, Try.results9, go_sem]) rfl ⟨⟨_, rfl⟩, (Ext.refl w).alloc _⟩
section
variable {w : World} {q k s l : Nat}
set_option maxRecDepth 100000 in
set_option maxHeartbeats 800000 in
theorem rhear_of (z : RC w q k s l) : Calls Try.prog 13 #[.pointer (some ⟨q, 0, none⟩)] w fun e w' => e = .returned (.tuple #[]) ∧ RC w' q k 0 l ∧ Mod (fun i => i = q) w w' := by
  obtain ⟨c0, c1, c2⟩ := z.cells
  have f1 := z.free 1
  have HZ := Lib.hid (z.sil 0)
  have HM := Lib.hid (mod_one w q 1 (.int .i64 0))
  clear z
  go_enter Try.func13, Try.ntmps13
  go_wp2_with fail
  go_end0
  exact ⟨rfl, HZ.out, HM.out⟩
set_option maxRecDepth 100000 in
set_option maxHeartbeats 800000 in
theorem rtick_lead (z : RC w q k s l) (hl : l ≤ 5000) : Calls Try.prog 15 #[.pointer (some ⟨q, 0, none⟩), .bool true] w fun e w' => e = .returned (.tuple #[.bool false, .bool (decide ((l + 1) % 3 = 0))]) ∧ RC w' q k 0 (l + 1) ∧ Mod (fun i => i = q) w w' := by
  obtain ⟨c0, c1, c2⟩ := z.cells
  have f1 := z.free 1
  have f2 := z.free 2
  have HR : Hid (RC ((w.setCell ⟨q, 1, none⟩ (.int .i64 0)).setCell ⟨q, 2, none⟩ (.int .i64 ((l : Int) + 1))) q k 0 (l + 1) ∧ Mod (fun i => i = q) w ((w.setCell ⟨q, 1, none⟩ (.int .i64 0)).setCell ⟨q, 2, none⟩ (.int .i64 ((l : Int) + 1)))) :=
    Lib.hid ⟨(z.sil 0).led (l + 1), Mod.setCell (F := fun i => i = q) (mod_one w q 1 (.int .i64 0)) (p := ⟨q, 2, none⟩) (.inl rfl) (.int .i64 ((l + 1 : Nat) : Int))⟩
  have hb : (((l : Int) + 1) % 3 == 0) = decide ((l + 1) % 3 = 0) := by
    rw [Bool.eq_iff_iff]
    simp
    omega
  clear z
  go_enter Try.func15, Try.ntmps15
  go_upto_region 4 with (fail)
  generalize (w.setCell ⟨q, 1, none⟩ (.int .i64 0)).setCell ⟨q, 2, none⟩ (.int .i64 ((l : Int) + 1)) = V at HR ⊢
  have d2 := HR.out.1.cells.2.2
  rw [show ((l + 1 : Nat) : Int) = (l : Int) + 1 by omega] at d2
  clear c0 c1 c2 f1 f2
  go_quiet (fail)
  have HR2 : Hid (RC (V.drewN nq) q k 0 (l + 1) ∧ Mod (fun i => i = q) w (V.drewN nq)) := Lib.hid ⟨HR.out.1.ext ((Ext.refl V).drewN nq), HR.out.2.drewN nq⟩
  go_wp2_with fail
  refine bodyPost_ret (v := .tuple #[.bool false, .bool (decide ((l + 1) % 3 = 0))]) (by simp [results, Try.results15, go_sem]) rfl ⟨rfl, HR2.out⟩
set_option maxRecDepth 100000 in
set_option maxHeartbeats 800000 in
theorem rtick_wait (z : RC w q k s l) (hk : k < 7) (hs : s < 10 + 4 * k) : Calls Try.prog 15 #[.pointer (some ⟨q, 0, none⟩), .bool false] w fun e w' => e = .returned (.tuple #[.bool (decide ((s + 1) % (10 + 4 * k) = 0)), .bool false]) ∧ RC w' q k ((s + 1) % (10 + 4 * k)) 0 ∧ Mod (fun i => i = q) w w' := by
  obtain ⟨c0, c1, c2⟩ := z.cells
  have f1 := z.free 1
  have f2 := z.free 2
  have HR : Hid (RC ((w.setCell ⟨q, 2, none⟩ (.int .i64 0)).setCell ⟨q, 1, none⟩ (.int .i64 ((s : Int) + 1))) q k (s + 1) 0 ∧ Mod (fun i => i = q) w ((w.setCell ⟨q, 2, none⟩ (.int .i64 0)).setCell ⟨q, 1, none⟩ (.int .i64 ((s : Int) + 1)))) :=
    Lib.hid ⟨(z.led 0).sil (s + 1), Mod.setCell (F := fun i => i = q) (mod_one w q 2 (.int .i64 0)) (p := ⟨q, 1, none⟩) (.inl rfl) (.int .i64 ((s + 1 : Nat) : Int))⟩
  have HP := Lib.hid (fun V => rpat_of (k : Int) V)
  rw [patC_in hk] at HP
  have hs40 : s ≤ 40 := by omega
  obtain ⟨P, hP⟩ : ∃ P, 10 + 4 * k = P := ⟨_, rfl⟩
  rw [hP] at HP hs ⊢
  clear z hP
  by_cases hq : s + 1 = P
  · have hsi : (s : Int) + 1 = (P : Int) := by omega
    have hm : (s + 1) % P = 0 := by rw [hq, Nat.mod_self]
    rw [hm, decide_eq_true rfl]
    have HS := Lib.hid hsi
    have hb : ((s : Int) + 1 == (P : Int)) = true := by rw [hsi]; simp
    clear hsi hm hq hs
    go_enter Try.func15, Try.ntmps15
    go_upto_region 7 with (fail)
    generalize (w.setCell ⟨q, 2, none⟩ (.int .i64 0)).setCell ⟨q, 1, none⟩ (.int .i64 ((s : Int) + 1)) = V at HR ⊢
    obtain ⟨d0, d1, d2⟩ := HR.out.1.cells
    rw [show ((s + 1 : Nat) : Int) = (s : Int) + 1 by omega] at d1
    clear c0 c1 c2 f1 f2
    go_quiet ((go_at_call 11; exact Calls.quiet_of_same ((HP.out _).mono fun _ _ h => ⟨h.1, h.2.symm⟩)))
    have f3 := HR.out.1.free 1
    have HR2 : Hid (RC ((V.drewN nq).setCell ⟨q, 1, none⟩ (.int .i64 0)) q k 0 0 ∧ Mod (fun i => i = q) w ((V.drewN nq).setCell ⟨q, 1, none⟩ (.int .i64 0))) :=
      Lib.hid ⟨(HR.out.1.ext ((Ext.refl V).drewN nq)).sil 0, Mod.setCell (F := fun i => i = q) (HR.out.2.drewN nq) (p := ⟨q, 1, none⟩) (.inl rfl) (.int .i64 0)⟩
    go_wp2_with fail
    refine bodyPost_ret (v := .tuple #[.bool true, .bool false]) (by simp [results, Try.results15, go_sem]) rfl ⟨rfl, HR2.out⟩
  · have hsi : (s : Int) + 1 < (P : Int) := by omega
    have hm : (s + 1) % P = s + 1 := Nat.mod_eq_of_lt (by omega)
    rw [hm, decide_eq_false (by omega)]
    have hb : ((s : Int) + 1 == (P : Int)) = false := by simp; omega
    clear hm hq hs
    go_enter Try.func15, Try.ntmps15
    go_upto_region 7 with (fail)
    generalize (w.setCell ⟨q, 2, none⟩ (.int .i64 0)).setCell ⟨q, 1, none⟩ (.int .i64 ((s : Int) + 1)) = V at HR ⊢
    obtain ⟨d0, d1, d2⟩ := HR.out.1.cells
    rw [show ((s + 1 : Nat) : Int) = (s : Int) + 1 by omega] at d1
    clear c0 c1 c2 f1 f2
    go_quiet ((go_at_call 11; exact Calls.quiet_of_same ((HP.out _).mono fun _ _ h => ⟨h.1, h.2.symm⟩)))
    have HR2 : Hid (RC (V.drewN nq) q k (s + 1) 0 ∧ Mod (fun i => i = q) w (V.drewN nq)) := Lib.hid ⟨HR.out.1.ext ((Ext.refl V).drewN nq), HR.out.2.drewN nq⟩
    go_wp2_with fail
    refine bodyPost_ret (v := .tuple #[.bool false, .bool false]) (by simp [results, Try.results15, go_sem]) rfl ⟨rfl, HR2.out⟩
end
end Go.Proofs.Ytmohjofjfekjfaa
