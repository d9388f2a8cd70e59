/-
  Of any number of replicas a majority, any set's members, and whether they are one, are what the chapter says: the law's walk.
-/
import Derived.Test.YtmpaocpgoihliaaQ00
import Derived.Test.YtmpaocpgoihliaaQ02
import Derived.OpenShut
namespace Go.Proofs.Ytmpaocpgoihliaa
open Go Go.RowKit
theorem u8_natQ {v : Int} (h : (Lit.int .u8 v).wf = true) : ∃ s : Nat, v = (s : Int) ∧ s < 256 := by
  have h2 := bounds_u8 h
  exact ⟨v.toNat, by omega, by omega⟩
set_option maxHeartbeats 1600000 in
theorem quorumMosts_law (v n : Int) (w : World) (hv : (Lit.int .u8 v).wf = true) (_ : (Lit.int .i64 n).wf = true) :
    Calls Try.prog 3 #[.int .u8 v, .int .i64 n] w fun e w' => e = .returned (.bool true) ∧ Below w.heap.size w w' := by
  show Calls Try.prog 3 #[.int .u8 v, .int .i64 n] w fun e w' => e = .returned (.bool true) ∧ Ext w w'
  obtain ⟨s, rfl, hs⟩ := u8_natQ hv
  have H1 := Lib.hid (fun V => most_of n V)
  have H2 := Lib.hid (fun V => rmost_of n V)
  have H3 := Lib.hid (fun V => members_of s hs n V)
  have H4 := Lib.hid (fun V => rmembers_of s hs n V)
  have H5 := Lib.hid (fun V => enough_of s hs n V)
  have H6 := Lib.hid (fun V => renough_of s hs n V)
  have hsi : (s : Int) < 256 := by omega
  clear hv hs
  generalize enoughQ s n = q at *
  generalize mostQ n = m at *
  generalize memI s n = M at *
  go_enter Try.func3, Try.ntmps3
  go_wp2_with fail
  refine (H1.out _).mono ?_
  rintro e w1 ⟨rfl, rfl⟩
  go_wp2_with fail
  refine (H2.out _).mono ?_
  rintro e w1 ⟨rfl, rfl⟩
  go_wp2_with fail
  refine (H3.out _).mono ?_
  rintro e w1 ⟨A, c, rfl, hl, hx⟩
  have HL := Lib.hid hl
  have HX := Lib.hid hx
  clear hl hx
  go_wp2_with fail
  refine (H4.out _).mono ?_
  rintro e w2 ⟨A2, c2, rfl, hl, hx⟩
  have HL := Lib.hid (HL.out.ext hx)
  have HL2 := Lib.hid hl
  have HX := Lib.hid (HX.out.trans hx)
  clear hl hx
  go_wp2_with fail
  refine (rsame_of HL.out HL2.out).mono ?_
  rintro e w3 ⟨rfl, hx⟩
  have HX := Lib.hid (HX.out.trans hx)
  clear hx
  go_wp2_with fail
  refine (H5.out _).mono ?_
  rintro e w4 ⟨rfl, hx⟩
  have HX := Lib.hid (HX.out.trans hx)
  clear hx
  go_wp2_with fail
  refine (H6.out _).mono ?_
  rintro e w5 ⟨rfl, hx⟩
  have HX := Lib.hid (HX.out.trans hx)
  have hqq : (q == q) = true := by simp
  clear hx
  go_wp2_with fail
  go_ret
  exact ⟨by first | rfl | simp, HX.out⟩
end Go.Proofs.Ytmpaocpgoihliaa
