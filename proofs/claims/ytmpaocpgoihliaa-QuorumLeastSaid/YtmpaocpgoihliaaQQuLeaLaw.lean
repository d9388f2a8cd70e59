/-
  A majority is one with just so many members as Most says, or more; without one of as many it is none: the law's walk.
-/
import Derived.Test.YtmpaocpgoihliaaQ00
import Derived.Test.YtmpaocpgoihliaaQ02
namespace Go.Proofs.Ytmpaocpgoihliaa
open Go Go.RowKit
theorem int_sizeQ (w : World) : (sizeOf (Try.prog.elem 25)).run Try.prog w = .ok 1 w := by
  have ht : Try.prog.elem 25 = 3 := by kernel_rfl
  obtain ⟨i0, hi, _, hz1, _⟩ := info_parts int_infoQ
  rw [ht]
  simp [Go.sizeOf, typeInfo, hi, hz1]
theorem cut_toQ (A : Option Addr) (n cp h : Nat) (hh : h ≤ cp) (w : World) : (Instr.slice 25 (.slice A n cp) none (some (.int .i64 (h : Int))) none).run Try.prog w = .ok (.slice A h cp) w := by
  have ht : Try.prog.elem 25 = 3 := by kernel_rfl
  rw [run_slice_h w 25 A n cp (by rw [ht]; exact Try.underlying25) .i64 (h : Int) (by omega) (by omega), int_sizeQ]
  simp only [Result.andThen, sliced, Int.toNat_natCast, Nat.sub_zero]
  cases A with
  | none => simp
  | some a => simp [Addr.add]
theorem LsI.take {w : World} {A : Option Addr} {n c : Nat} {l : List Int} (h : LsI w A n c l) {k : Nat} (hk : k ≤ n) : LsI w A k c (l.take k) := by
  have hc := h.cap
  have hm := h.most
  refine ⟨by rw [List.length_take, h.len]; omega, by omega, hm, fun hn => ?_, h.nil_⟩
  obtain ⟨g, o, e, hg, hcell⟩ := h.rd (by omega)
  refine ⟨g, o, e, hg, fun j a ha => ?_⟩
  rw [List.getElem?_take] at ha
  split at ha
  · exact hcell j a ha
  · cases ha
set_option maxRecDepth 100000 in
set_option maxHeartbeats 1600000 in
theorem quorumLeast_law (va n : Int) (w : World) (hva : (Lit.int .u8 va).wf = true) (_ : (Lit.int .i64 n).wf = true) :
    Calls Try.prog 6 #[.int .u8 va, .int .i64 n] w fun e w' => e = .returned (.bool true) ∧ Below w.heap.size w w' := by
  show Calls Try.prog 6 #[.int .u8 va, .int .i64 n] w fun e w' => e = .returned (.bool true) ∧ Ext w w'
  obtain ⟨a, rfl, ha⟩ := u8_natM hva
  have hai : (a : Int) < 256 := by omega
  clear hva
  go_enter Try.func6, Try.ntmps6
  go_wp2_with fail
  refine (quawake_any _).mono ?_
  rintro e w1 ⟨rfl, hx⟩
  have HX := Lib.hid hx
  clear hx
  go_wp2_with fail
  refine (ofn_of n _).mono ?_
  rintro e w2 ⟨⟨m, rfl, hm⟩, rfl⟩
  have HMM := Lib.hid (fun V => members_of a ha (m : Int) V)
  have HMO := Lib.hid (fun V => most_of (m : Int) V)
  rw [most_eq hm] at HMO
  have HEN := Lib.hid (fun V => enough_of a ha (m : Int) V)
  have eM := memI_eq hm a
  have eL : (memI a (m : Int)).length = (memQ a m).length := by rw [eM, List.length_map]
  rw [enough_iff hm, ← eL] at HEN
  have hl7 : (memI a (m : Int)).length ≤ 7 := by rw [eL]; have := memQ_len a m; omega
  have hof : ∀ k : Nat, k ≤ (memI a (m : Int)).length → (memQ (ofQ 0 ((memI a (m : Int)).take k)) m).length = k := fun k hk => by
    have h := of_take ⟨a, ha⟩ ⟨k, by omega⟩ ⟨m, by omega⟩ (by dsimp only; omega)
    dsimp only at h
    rw [List.map_take, ← eM] at h
    exact h
  have HOF := Lib.hid hof
  have HEQ := Lib.hid (fun (s : Nat) (hs : s < 256) (V : World) => by
    have h := enough_of s hs (m : Int) V
    rw [enough_iff hm] at h
    exact h)
  obtain ⟨k, hk⟩ : ∃ k, m / 2 = k := ⟨_, rfl⟩
  have hk3 : 1 ≤ k ∧ k ≤ 3 := by omega
  rw [hk] at HMO HEN HEQ
  generalize memI a (m : Int) = M at *
  clear hm eM eL hof
  go_wp2_with fail
  refine (HMM.out _).mono ?_
  rintro e w3 ⟨A, c, rfl, hl, hx⟩
  have HX := Lib.hid (HX.out.trans hx)
  have HL := Lib.hid hl
  have hcap := hl.cap
  have hmost := hl.most
  clear hx hl
  obtain ⟨N, hN⟩ : ∃ N, M.length = N := ⟨_, rfl⟩
  rw [hN] at HL hcap hl7 HEN HOF ⊢
  go_wp2_with fail
  refine (HMO.out _).mono ?_
  rintro e w4 ⟨rfl, rfl⟩
  obtain ⟨q, hq⟩ : ∃ q, decide (k + 1 ≤ N) = q := ⟨_, rfl⟩
  rw [hq] at HEN
  have hk1 : ¬ ((k + 1 : Nat) : Int) < 1 := by omega
  have nq : (q != q) = false := by simp
  by_cases hlt : N < k + 1
  · obtain rfl : q = false := by rw [← hq]; exact decide_eq_false (by omega)
    have hlt' : (N : Int) < ((k + 1 : Nat) : Int) := by omega
    generalize k + 1 = K at *
    clear hq
    go_wp2_with fail
    refine (HEN.out _).mono ?_
    rintro e w5 ⟨rfl, hx⟩
    have HX := Lib.hid (HX.out.trans hx)
    clear hx
    go_wp2_with fail
    go_ret
    exact ⟨rfl, HX.out⟩
  · obtain rfl : q = true := by rw [← hq]; exact decide_eq_true (by omega)
    have hlt' : ((k + 1 : Nat) : Int) ≤ (N : Int) := by omega
    have hc1 := fun V => cut_toQ A N c (k + 1) (by omega) V
    have hc2 := fun V => cut_toQ A N c k (by omega) V
    have e1 : wrap64 (((k + 1 : Nat) : Int) - 1) = (k : Int) := by unfold wrap64; omega
    have e2 : ((k + 1 : Nat) : Int) - 1 = (k : Int) := by omega
    have h1 := HOF.out (k + 1) (by omega)
    have h2 := HOF.out k (by omega)
    have HE1 := Lib.hid (fun V => by have h := HEQ.out (ofQ 0 (M.take (k + 1))) (ofQ_lt (by omega) _) V; rw [h1, decide_eq_true (Nat.le_refl _)] at h; exact h)
    have HE2 := Lib.hid (fun V => by have h := HEQ.out (ofQ 0 (M.take k)) (ofQ_lt (by omega) _) V; rw [h2, decide_eq_false (by omega)] at h; exact h)
    have HT1 := Lib.hid (fun (V : World) (hx : Ext w3 V) => of_of ((HL.out.ext hx).take (k := k + 1) (by omega)))
    have HT2 := Lib.hid (fun (V : World) (hx : Ext w3 V) => of_of ((HL.out.ext hx).take (k := k) (by omega)))
    have HX4 := Lib.hid (Ext.refl w3)
    clear hq h1 h2
    generalize k + 1 = K at *
    go_wp2_with fail
    refine (HEN.out _).mono ?_
    rintro e w5 ⟨rfl, hx⟩
    have HX := Lib.hid (HX.out.trans hx)
    have HX4 := Lib.hid (HX4.out.trans hx)
    clear hx
    go_wp2_with fail
    refine (HT1.out _ HX4.out).mono ?_
    rintro e w6 ⟨rfl, rfl⟩
    go_wp2_with fail
    refine (HE1.out _).mono ?_
    rintro e w7 ⟨rfl, hx⟩
    have HX := Lib.hid (HX.out.trans hx)
    have HX4 := Lib.hid (HX4.out.trans hx)
    clear hx
    go_wp2_with fail
    refine (HT2.out _ HX4.out).mono ?_
    rintro e w8 ⟨rfl, rfl⟩
    go_wp2_with fail
    refine (HE2.out _).mono ?_
    rintro e w9 ⟨rfl, hx⟩
    have HX := Lib.hid (HX.out.trans hx)
    clear hx
    go_wp2_with fail
    go_ret
    exact ⟨rfl, HX.out⟩
end Go.Proofs.Ytmpaocpgoihliaa
