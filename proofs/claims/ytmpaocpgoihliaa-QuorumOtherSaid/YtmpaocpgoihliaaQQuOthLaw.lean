/-
  Of the replicas of a set, and all others, just one are a majority; with one more a majority stays one: the law's walk.
-/
import Derived.Test.YtmpaocpgoihliaaQ00
import Derived.Test.YtmpaocpgoihliaaQ02
namespace Go.Proofs.Ytmpaocpgoihliaa
open Go Go.RowKit
set_option maxRecDepth 100000 in
theorem xor_bits : ∀ a : Fin 256, bits .xor .u8 IntKind.u8.max (a.1 : Int) = ((255 - a.1 : Nat) : Int) := by decide +kernel
set_option maxRecDepth 100000 in
set_option maxHeartbeats 1600000 in
theorem quorumOther_law (va n i : Int) (w : World) (hva : (Lit.int .u8 va).wf = true) (_ : (Lit.int .i64 n).wf = true) (_ : (Lit.int .i64 i).wf = true) :
    Calls Try.prog 5 #[.int .u8 va, .int .i64 n, .int .i64 i] w fun e w' => e = .returned (.bool true) ∧ Below w.heap.size w w' := by
  show Calls Try.prog 5 #[.int .u8 va, .int .i64 n, .int .i64 i] w fun e w' => e = .returned (.bool true) ∧ Ext w w'
  obtain ⟨a, rfl, ha⟩ := u8_natM hva
  have hai : (a : Int) < 256 := by omega
  have hsg : IntKind.u8.signed = false := rfl
  have hxb : bits .xor .u8 IntKind.u8.max (a : Int) = ((255 - a : Nat) : Int) := xor_bits ⟨a, ha⟩
  clear hva
  go_enter Try.func5, Try.ntmps5
  go_wp2_with fail
  refine (quawake_any _).mono ?_
  rintro e w1 ⟨rfl, hx⟩
  have HX := Lib.hid hx
  clear hx
  go_wp2_with fail
  refine (ofn_of n _).mono ?_
  rintro e w2 ⟨⟨m, rfl, hm⟩, rfl⟩
  have HE1 := Lib.hid (fun V => enough_of a ha (m : Int) V)
  have HE2 := Lib.hid (fun V => enough_of (255 - a) (by omega) (m : Int) V)
  obtain ⟨qa, hqa⟩ : ∃ q, enoughQ a (m : Int) = q := ⟨_, rfl⟩
  rw [hqa] at HE1
  have hlen := not_len ⟨a, ha⟩ ⟨m, by omega⟩
  have hnq : enoughQ (255 - a) (m : Int) = !qa := by
    rw [enough_iff hm] at hqa ⊢
    dsimp only at hlen
    cases qa with
    | true => rw [decide_eq_true_iff] at hqa; exact decide_eq_false (by omega)
    | false => rw [decide_eq_false_iff_not] at hqa; exact decide_eq_true (by omega)
  rw [hnq] at HE2
  have HAD := Lib.hid (fun V => add_of a ha i V)
  have HE3 := Lib.hid (fun V => enough_of (addQ a i) (addQ_lt ha i) (m : Int) V)
  have HA3 : Hid (qa = true → enoughQ (addQ a i) (m : Int) = true) := Lib.hid (by
    rintro rfl
    rw [enough_iff hm, decide_eq_true_iff] at hqa ⊢
    refine Nat.le_trans hqa ?_
    unfold addQ
    split
    · exact add_len ⟨a, ha⟩ ⟨i.toNat, by omega⟩ ⟨m, by omega⟩
    · exact Nat.le_refl _)
  have HM1 := Lib.hid (fun V => members_of a ha (m : Int) V)
  have HM2 := Lib.hid (fun V => members_of (255 - a) (by omega) (m : Int) V)
  have hl : (memI a (m : Int)).length + (memI (255 - a) (m : Int)).length = m := by
    rw [memI_eq hm, memI_eq hm, List.length_map, List.length_map]
    exact hlen
  have hm7 : m ≤ 7 := by omega
  generalize memI a (m : Int) = M1 at *
  generalize memI (255 - a) (m : Int) = M2 at *
  generalize M1.length = N1 at *
  generalize M2.length = N2 at *
  clear hm hqa hlen hnq
  generalize 255 - a = y at *
  have HHL := Lib.hid hl
  have step : ∀ q : Bool, True := fun _ => trivial
  cases qa with
  | true =>
    have HE3 := Lib.hid (fun V => by have h := HE3.out V; rw [HA3.out rfl] at h; exact h)
    clear HA3 step
    generalize addQ a i = z at *
    go_wp2_with fail
    refine (HE1.out _).mono ?_
    rintro e w3 ⟨rfl, hx⟩
    have HX := Lib.hid (HX.out.trans hx)
    clear hx
    go_wp2_with fail
    refine (HE2.out _).mono ?_
    rintro e w4 ⟨rfl, hx⟩
    have HX := Lib.hid (HX.out.trans hx)
    clear hx
    go_wp2_with fail
    refine (HE1.out _).mono ?_
    rintro e w5 ⟨rfl, hx⟩
    have HX := Lib.hid (HX.out.trans hx)
    clear hx
    go_wp2_with fail
    refine (HAD.out _).mono ?_
    rintro e w6 ⟨rfl, rfl⟩
    go_wp2_with fail
    refine (HE3.out _).mono ?_
    rintro e w6 ⟨rfl, hx⟩
    have HX := Lib.hid (HX.out.trans hx)
    clear hx
    go_wp2_with fail
    refine (HM1.out _).mono ?_
    rintro e w7 ⟨A, c, rfl, _, hx⟩
    have HX := Lib.hid (HX.out.trans hx)
    clear hx
    go_wp2_with fail
    refine (HM2.out _).mono ?_
    rintro e w8 ⟨A2, c2, rfl, _, hx⟩
    have HX := Lib.hid (HX.out.trans hx)
    have hs : ((N1 : Int) + (N2 : Int) == (m : Int)) = true := by rw [beq_iff_eq]; omega
    clear hx
    go_wp2_with fail
    go_ret
    exact ⟨by first | rfl | simp, HX.out⟩
  | false =>
    clear HA3 step
    go_wp2_with fail
    refine (HE1.out _).mono ?_
    rintro e w3 ⟨rfl, hx⟩
    have HX := Lib.hid (HX.out.trans hx)
    clear hx
    go_wp2_with fail
    refine (HE2.out _).mono ?_
    rintro e w4 ⟨rfl, hx⟩
    have HX := Lib.hid (HX.out.trans hx)
    clear hx
    go_wp2_with fail
    refine (HE1.out _).mono ?_
    rintro e w5 ⟨rfl, hx⟩
    have HX := Lib.hid (HX.out.trans hx)
    clear hx
    go_wp2_with fail
    refine (HM1.out _).mono ?_
    rintro e w7 ⟨A, c, rfl, _, hx⟩
    have HX := Lib.hid (HX.out.trans hx)
    clear hx
    go_wp2_with fail
    refine (HM2.out _).mono ?_
    rintro e w8 ⟨A2, c2, rfl, _, hx⟩
    have HX := Lib.hid (HX.out.trans hx)
    have hs : ((N1 : Int) + (N2 : Int) == (m : Int)) = true := by rw [beq_iff_eq]; omega
    clear hx
    go_wp2_with fail
    go_ret
    exact ⟨by first | rfl | simp, HX.out⟩
end Go.Proofs.Ytmpaocpgoihliaa
