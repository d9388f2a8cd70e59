/-
  Without a word one that doesn't lead stands each time its patience is over, and at no other tick; one that leads beats each third tick: the law's walk.
-/
import Derived.Test.YtmohjofjfekjfaaCkAw
import Derived.Deep.DeepCutAuto
import Derived.Deep.QuietTactic
namespace Go.Proofs.Ytmohjofjfekjfaa
open Go Go.RowKit

theorem wrap_modC (z : Int) (N : Nat) (h0 : 0 < N) (hN : N ≤ 1000) : ∃ q : Nat, q < N ∧ wrap64 ((IntKind.u64.wrap z).tmod (N : Int)) = (q : Int) := by
  have h1 : 0 ≤ IntKind.u64.wrap z := by rw [IntKind.wrap_u64]; omega
  have h2 := Int.emod_nonneg (IntKind.u64.wrap z) (show (N : Int) ≠ 0 by omega)
  have h3 := Int.emod_lt_of_pos (IntKind.u64.wrap z) (show (0 : Int) < N by omega)
  refine ⟨((IntKind.u64.wrap z) % N).toNat, by omega, ?_⟩
  rw [Int.tmod_eq_emod_of_nonneg h1, IntWalk.wrap64_in _ (by omega)]
  omega
set_option maxRecDepth 100000 in
set_option maxHeartbeats 1600000 in
theorem clockOften_law (r n : Int) (ld : Bool) (w : World) (_ : (Lit.int .i64 r).wf = true) (_ : (Lit.int .i64 n).wf = true) :
    Calls Try.prog 5 #[.int .i64 r, .int .i64 n, .bool ld] w fun e w' => e = .returned (.bool true) ∧ Below w.heap.size w w' := by
  show Calls Try.prog 5 #[.int .i64 r, .int .i64 n, .bool ld] w fun e w' => e = .returned (.bool true) ∧ Ext w w'
  go_enter Try.func5, Try.ntmps5
  go_wp2_with fail
  refine (cawake_any _).mono ?_
  rintro r' w1 ⟨rfl, hx⟩
  have HX := Lib.hid hx
  clear hx
  go_upto_region 5 with (fail)
  obtain ⟨k, hk, hke⟩ : ∃ k : Nat, k < 7 ∧ wrap64 ((IntKind.u64.wrap r).tmod 7) = (k : Int) := wrap_modC r 7 (by decide) (by decide)
  obtain ⟨m, hm, hme⟩ : ∃ m : Nat, m < 501 ∧ wrap64 ((IntKind.u64.wrap n).tmod 501) = (m : Int) := wrap_modC n 501 (by decide) (by decide)
  rw [hke, hme]
  clear hke hme
  go_wp2_with fail
  refine (cnew_yes k hk _).mono ?_
  rintro r' w2 ⟨rfl, z, x⟩
  have HZ : Hid (CE w w2 w1.heap.size (10 + 4 * k) 0 0) := Lib.hid ⟨z, HX.out.trans x, Ext.size HX.out⟩
  have hp := z.pat
  have HPC := Lib.hid (fun V => cpat_of (k : Int) V)
  rw [patC_in hk] at HPC
  clear z x
  obtain ⟨g, hg⟩ : ∃ g, w1.heap.size = g := ⟨_, rfl⟩
  obtain ⟨P, hP⟩ : ∃ P, 10 + 4 * k = P := ⟨_, rfl⟩
  rw [hg] at HZ ⊢
  rw [hP] at HZ HPC hp
  clear hg hP
  go_wp2_with fail
  refine (HPC.out _).mono ?_
  rintro r' w3 ⟨rfl, rfl⟩
  cases ld with
  | true =>
    go_wp2_with fail
    go_loopw [10] (fun v wr => ∃ j : Nat, j ≤ m ∧ v = .int .i64 ((j : Int) + 1) ∧ Hid (CE w wr g P 0 (j % 3))) (fun v _ => m + 1 - (intOf v).toNat)
    case atStart => exact ⟨0, by omega, rfl, HZ⟩
    case round =>
      obtain ⟨j, hj, rfl, HE⟩ := hrel
      by_cases hlt : j < m
      · have hjm : (j : Int) + 1 ≤ (m : Int) := by omega
        have hc := ctick_lead HE.out.q
        rw [Nat.mod_add_mod] at hc
        have HC := Lib.hid hc
        have hb : (((j : Int) + 1) % 3 == 0) = decide ((j + 1) % 3 = 0) := by
          rw [Bool.eq_iff_iff]
          simp
          omega
        clear hc
        obtain ⟨b, hbb⟩ : ∃ b, decide ((j + 1) % 3 = 0) = b := ⟨_, rfl⟩
        rw [hbb] at HC hb
        clear hbb
        go_wp2_with fail
        refine HC.out.mono ?_
        rintro r' w4 ⟨rfl, z, q⟩
        have H4 : Hid (CE w w4 g P 0 ((j + 1) % 3)) := Lib.hid (HE.out.mod z q)
        clear z q
        have hbs : (b == b) = true := by simp
        have hbn : (b != b) = false := by simp
        go_wp2_with fail
        go_quiet (fail)
        have H5 : Hid (CE w (w4.drewN nq) g P 0 ((j + 1) % 3)) := Lib.hid ⟨H4.out.q.ext ((Ext.refl w4).drewN nq), H4.out.ext.drewN nq, H4.out.new⟩
        go_wp2_with fail
        go_roundw
        case rel => exact ⟨j + 1, by omega, by go_num, H5⟩
        case measure => simp [intOf]; omega
      · obtain rfl : j = m := by omega
        go_wp2_with fail
        go_ret
        exact ⟨rfl, HE.out.ext⟩
  | false =>
    go_wp2_with fail
    go_loopw [10] (fun v wr => ∃ j : Nat, j ≤ m ∧ v = .int .i64 ((j : Int) + 1) ∧ Hid (CE w wr g P (j % P) 0)) (fun v _ => m + 1 - (intOf v).toNat)
    case atStart => exact ⟨0, by omega, rfl, by rw [Nat.zero_mod]; exact HZ⟩
    case round =>
      obtain ⟨j, hj, rfl, HE⟩ := hrel
      by_cases hlt : j < m
      · have hjm : (j : Int) + 1 ≤ (m : Int) := by omega
        have hc := ctick_wait HE.out.q
        rw [Nat.mod_add_mod] at hc
        have hr : ((j : Int) + 1) % (P : Int) = (((j + 1) % P : Nat) : Int) := by rw [Int.natCast_emod]; rfl
        obtain ⟨q, hq⟩ : ∃ q, (j + 1) % P = q := ⟨_, rfl⟩
        have HQ : Hid ((j + 1) % P = q) := Lib.hid hq
        rw [hq] at hc hr
        have HC := Lib.hid hc
        have hb : ((q : Int) == 0) = decide (q = 0) := by
          rw [Bool.eq_iff_iff]
          simp
        clear hc hq
        obtain ⟨b, hbb⟩ : ∃ b, decide (q = 0) = b := ⟨_, rfl⟩
        rw [hbb] at HC hb
        clear hbb
        go_wp2_with fail
        refine HC.out.mono ?_
        rintro r' w4 ⟨rfl, z, q4⟩
        have H4 : Hid (CE w w4 g P q 0) := Lib.hid (HE.out.mod z q4)
        clear z q4
        have hbs : (b == b) = true := by simp
        have hbn : (b != b) = false := by simp
        have hqn : ((q : Int) != (q : Int)) = false := by simp
        go_wp2_with fail
        go_quiet ((go_at_call 16; exact Calls.quiet_of_same ((csilent_of (H4.out.q.ext ((Ext.refl w4).drewN _))).mono fun _ _ h => ⟨h.1, h.2.symm⟩)))
        have H5 : Hid (CE w (w4.drewN nq) g P q 0) := Lib.hid ⟨H4.out.q.ext ((Ext.refl w4).drewN nq), H4.out.ext.drewN nq, H4.out.new⟩
        go_wp2_with fail
        go_roundw
        case rel => exact ⟨j + 1, by omega, by go_num, by rw [HQ.out]; exact H5⟩
        case measure => simp [intOf]; omega
      · obtain rfl : j = m := by omega
        go_wp2_with fail
        go_ret
        exact ⟨rfl, HE.out.ext⟩
end Go.Proofs.Ytmohjofjfekjfaa
