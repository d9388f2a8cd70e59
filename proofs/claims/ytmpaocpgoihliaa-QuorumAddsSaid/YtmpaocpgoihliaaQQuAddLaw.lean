/-
  A number that is added is in the set, and all others as they were: the law's walk.
-/
import Derived.Test.YtmpaocpgoihliaaQ00
import Derived.Test.YtmpaocpgoihliaaQ02
namespace Go.Proofs.Ytmpaocpgoihliaa
open Go Go.RowKit
theorem addQ_in (s : Nat) (x : Nat) (hx : x < 7) : addQ s (x : Int) = s ||| 2 ^ x := by
  unfold addQ
  rw [if_pos ⟨by omega, by omega⟩]
  rfl
theorem hasQ_in (s : Nat) (x : Nat) (hx : x < 7) : hasQ s (x : Int) = s.testBit x := by
  unfold hasQ
  rw [decide_eq_true (show (0 : Int) ≤ (x : Int) ∧ (x : Int) < 7 by omega)]
  rfl
theorem of3_in (x y z : Nat) (hx : x < 7) (hy : y < 7) (hz : z < 7) : ofQ 0 [(x : Int), (y : Int), (z : Int)] = 2 ^ x ||| 2 ^ y ||| 2 ^ z := by
  show addQ (addQ (addQ 0 _) _) _ = _
  rw [addQ_in _ _ hx, addQ_in _ _ hy, addQ_in _ _ hz, Nat.zero_or]
set_option maxRecDepth 100000 in
set_option maxHeartbeats 3200000 in
theorem quorumAdds_law (va vi vk vm : Int) (w : World) (hva : (Lit.int .u8 va).wf = true) (hvi : (Lit.int .u8 vi).wf = true) (hvk : (Lit.int .u8 vk).wf = true) (hvm : (Lit.int .u8 vm).wf = true) :
    Calls Try.prog 7 #[.int .u8 va, .int .u8 vi, .int .u8 vk, .int .u8 vm] w fun e w' => e = .returned (.bool true) ∧ Below w.heap.size w w' := by
  show Calls Try.prog 7 #[.int .u8 va, .int .u8 vi, .int .u8 vk, .int .u8 vm] w fun e w' => e = .returned (.bool true) ∧ Ext w w'
  obtain ⟨a, rfl, ha⟩ := u8_natM hva
  obtain ⟨i, rfl, hi⟩ := u8_natM hvi
  obtain ⟨k, rfl, hk⟩ := u8_natM hvk
  obtain ⟨m, rfl, hm⟩ := u8_natM hvm
  have hai : (a : Int) < 256 := by omega
  have hii : (i : Int) < 256 := by omega
  have hki : (k : Int) < 256 := by omega
  have hmi : (m : Int) < 256 := by omega
  clear hva hvi hvk hvm
  go_enter Try.func7, Try.ntmps7
  go_wp2_with fail
  refine (quawake_any _).mono ?_
  rintro e w1 ⟨rfl, hx⟩
  have HX := Lib.hid hx
  clear hx
  go_wp2_with fail
  obtain ⟨x, ex, hx⟩ : ∃ x : Nat, (i : Int) % 7 = (x : Int) ∧ x < 7 := ⟨i % 7, by omega, by omega⟩
  obtain ⟨y, ey, hy⟩ : ∃ x : Nat, (k : Int) % 7 = (x : Int) ∧ x < 7 := ⟨k % 7, by omega, by omega⟩
  obtain ⟨z, ez, hz⟩ : ∃ x : Nat, (m : Int) % 7 = (x : Int) ∧ x < 7 := ⟨m % 7, by omega, by omega⟩
  rw [ex, ey, ez]
  clear ex ey ez
  have e1 := addQ_in a x hx
  have e2 : addQ (addQ a (x : Int)) (x : Int) = addQ a (x : Int) := by rw [e1, addQ_in _ _ hx, Nat.or_assoc, Nat.or_self]
  have e3 : addQ (addQ a (y : Int)) (x : Int) = addQ (addQ a (x : Int)) (y : Int) := by rw [addQ_in _ _ hx, addQ_in _ _ hy, e1, addQ_in _ _ hy, Nat.or_assoc, Nat.or_comm (2 ^ y), ← Nat.or_assoc]
  have e4 : hasQ (addQ a (x : Int)) (x : Int) = true := by rw [hasQ_in _ _ hx, e1, Nat.testBit_or, Nat.testBit_two_pow_self, Bool.or_true]
  have e5 : z ≠ x → hasQ (addQ a (x : Int)) (z : Int) = hasQ a (z : Int) := fun h => by rw [hasQ_in _ _ hz, hasQ_in _ _ hz, e1, Nat.testBit_or, Nat.testBit_two_pow_of_ne (fun e => h e.symm), Bool.or_false]
  have e6 : ofQ 0 [(z : Int), (y : Int), (x : Int)] = ofQ 0 [(x : Int), (y : Int), (z : Int)] := by rw [of3_in _ _ _ hx hy hz, of3_in _ _ _ hz hy hx, Nat.or_comm (2 ^ z ||| 2 ^ y), Nat.or_comm (2 ^ z), Nat.or_assoc]
  have e7 : hasQ (ofQ 0 [(x : Int), (y : Int), (z : Int)]) (y : Int) = true := by rw [hasQ_in _ _ hy, of3_in _ _ _ hx hy hz, Nat.testBit_or, Nat.testBit_or, Nat.testBit_two_pow_self, Bool.or_true, Bool.true_or]
  have hT := addQ_lt ha (x : Int)
  have hV := addQ_lt ha (y : Int)
  have hO := ofQ_lt (s := 0) (by omega) [(x : Int), (y : Int), (z : Int)]
  have H1 := Lib.hid (fun V => add_of a ha (x : Int) V)
  have H2 := Lib.hid (fun V => add_of _ hT (x : Int) V)
  have H3 := Lib.hid (fun V => add_of _ hT (y : Int) V)
  have H4 := Lib.hid (fun V => add_of a ha (y : Int) V)
  have H5 := Lib.hid (fun V => add_of _ hV (x : Int) V)
  have H6 := Lib.hid (fun V => has_of _ hT (x : Int) V)
  have H7 := Lib.hid (fun V => has_of _ hT (z : Int) V)
  have H8 := Lib.hid (fun V => has_of a ha (z : Int) V)
  have H9 := Lib.hid (fun V => of3_of (x : Int) (y : Int) (z : Int) V _ rfl)
  have HA := Lib.hid (fun V => of3_of (z : Int) (y : Int) (x : Int) V _ e6)
  have HB := Lib.hid (fun V => has_of _ hO (y : Int) V)
  rw [e2] at H2
  rw [e3] at H5
  rw [e4] at H6
  rw [e7] at HB
  have HZ : Hid (z ≠ x → hasQ (addQ a (x : Int)) (z : Int) = hasQ a (z : Int)) := Lib.hid e5
  clear e1 e2 e3 e4 e5 e6 e7
  have hTi : (addQ a (x : Int) : Int) < 256 := by omega
  generalize hasQ (addQ a (x : Int)) (z : Int) = qt at *
  generalize hasQ a (z : Int) = qa at *
  generalize ofQ 0 [(x : Int), (y : Int), (z : Int)] = O at *
  generalize addQ (addQ a (x : Int)) (y : Int) = U at *
  generalize addQ a (x : Int) = T at *
  generalize addQ a (y : Int) = V at *
  have n1 : ((T : Int) != (T : Int)) = false := by simp
  have n2 : ((U : Int) != (U : Int)) = false := by simp
  have n3 : ((O : Int) == (O : Int)) = true := by simp
  refine (H1.out _).mono ?_
  rintro e w2 ⟨rfl, rfl⟩
  go_wp2_with fail
  refine (H6.out _).mono ?_
  rintro e w2 ⟨rfl, rfl⟩
  go_wp2_with fail
  refine (H2.out _).mono ?_
  rintro e w2 ⟨rfl, rfl⟩
  go_wp2_with fail
  refine (H1.out _).mono ?_
  rintro e w2 ⟨rfl, rfl⟩
  go_wp2_with fail
  refine (H3.out _).mono ?_
  rintro e w2 ⟨rfl, rfl⟩
  go_wp2_with fail
  refine (H4.out _).mono ?_
  rintro e w2 ⟨rfl, rfl⟩
  by_cases hzx : z = x
  · subst hzx
    have n4 : ((z : Int) != (z : Int)) = false := by simp
    go_wp2_with fail
    refine (H5.out _).mono ?_
    rintro e w2 ⟨rfl, rfl⟩
    go_wp2_with fail
    refine (H9.out _).mono ?_
    rintro e w3 ⟨rfl, hx⟩
    have HX := Lib.hid (HX.out.trans hx)
    clear hx
    go_wp2_with fail
    refine (HA.out _).mono ?_
    rintro e w4 ⟨rfl, hx⟩
    have HX := Lib.hid (HX.out.trans hx)
    clear hx
    go_wp2_with fail
    refine (H9.out _).mono ?_
    rintro e w5 ⟨rfl, hx⟩
    have HX := Lib.hid (HX.out.trans hx)
    clear hx
    go_wp2_with fail
    refine (HB.out _).mono ?_
    rintro e w6 ⟨rfl, rfl⟩
    go_wp2_with fail
    go_ret
    exact ⟨rfl, HX.out⟩
  · have n4 : ((z : Int) != (x : Int)) = true := by simp; omega
    have hq := HZ.out hzx
    subst hq
    have n5 : (qt != qt) = false := by simp
    go_wp2_with fail
    refine (H5.out _).mono ?_
    rintro e w2 ⟨rfl, rfl⟩
    go_wp2_with fail
    refine (H7.out _).mono ?_
    rintro e w2 ⟨rfl, rfl⟩
    go_wp2_with fail
    refine (H8.out _).mono ?_
    rintro e w2 ⟨rfl, rfl⟩
    go_wp2_with fail
    refine (H9.out _).mono ?_
    rintro e w3 ⟨rfl, hx⟩
    have HX := Lib.hid (HX.out.trans hx)
    clear hx
    go_wp2_with fail
    refine (HA.out _).mono ?_
    rintro e w4 ⟨rfl, hx⟩
    have HX := Lib.hid (HX.out.trans hx)
    clear hx
    go_wp2_with fail
    refine (H9.out _).mono ?_
    rintro e w5 ⟨rfl, hx⟩
    have HX := Lib.hid (HX.out.trans hx)
    clear hx
    go_wp2_with fail
    refine (HB.out _).mono ?_
    rintro e w6 ⟨rfl, rfl⟩
    go_wp2_with fail
    go_ret
    exact ⟨rfl, HX.out⟩
end Go.Proofs.Ytmpaocpgoihliaa
