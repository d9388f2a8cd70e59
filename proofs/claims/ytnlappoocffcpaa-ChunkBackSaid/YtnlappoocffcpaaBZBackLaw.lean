/-
  ChunkBack: the chunks of bytes, put together, are they; chunks that can be put together are those of what they make.
-/
import Derived.Test.YtnlappoocffcpaaB00
import Derived.Test.YtnlappoocffcpaaB01
import Derived.Test.YtnlappoocffcpaaB04
namespace Go.Proofs.Ytnlappoocffcpaa
open Go Go.RowKit
set_option maxRecDepth 100000 in
set_option maxHeartbeats 1600000 in
theorem chunkBack_law (A : Option Addr) (n c : Nat) (l : List Nat) (A2 : Option Addr) (n2 c2 : Nat) (l2 : List Lst) (w : World) (h1 : Bs w w.heap.size A n c l) (h2 : Lsts w w.heap.size A2 n2 c2 l2) :
    Calls Try.prog 6 #[.slice A n c, .slice A2 n2 c2] w fun r' w' => r' = .returned (.bool true) ∧ Below w.heap.size w w' := by
  show Calls Try.prog 6 #[.slice A n c, .slice A2 n2 c2] w fun r' w' => r' = .returned (.bool true) ∧ Ext w w'
  have HB1 : Hid (By w A n c l) := Lib.hid h1
  have HB2 := Lib.hid h2
  have hlen : l.length = n := h1.len
  clear h1 h2
  go_enter Try.func6, Try.ntmps6
  go_wp2_with fail
  refine (zawake_any w).mono ?_
  rintro e w1 ⟨rfl, hx⟩
  have HX1 : Hid (Ext w w1) := Lib.hid hx
  clear hx
  by_cases hn : n ≤ 640
  case neg =>
    have hn : (640 : Int) < (n : Int) := by omega
    go_wp2_with fail
    go_ret
    exact ⟨rfl, HX1.out⟩
  have hn' : (n : Int) ≤ 640 := by omega
  have HLE : Hid (l.length ≤ 640) := Lib.hid (by omega)
  go_wp2_with fail
  refine (zgreat_of A2 n2 c2 l2 (HB2.out.ext HX1.out)).mono ?_
  rintro e w2 ⟨b, rfl, rfl⟩
  cases b with
  | true =>
    go_wp2_with fail
    go_ret
    exact ⟨rfl, HX1.out⟩
  | false =>
    go_wp2_with fail
    refine (zsplit_lsts A n c l (HB1.out.ext HX1.out) hn).mono ?_
    rintro e w2 ⟨A3, c3, L, rfl, hL, hl, hx⟩
    have HX2 : Hid (Ext w w2) := Lib.hid (HX1.out.trans hx)
    have hjb : joinB (lsOf L) = true := by rw [hl]; exact split_joinB HLE.out
    have hje : joinE (lsOf L) = 0 := by unfold joinE; rw [if_pos hjb]
    have hjo : joinO (lsOf L) = l := by unfold joinO; rw [if_pos hjb, hl]; exact split_flat HLE.out
    have hLn : L.length = chunkN l.length := by
      have e := congrArg List.length hl
      unfold lsOf at e
      rw [List.length_map, splitL_len] at e
      exact e
    have hch := chunkN_in HLE.out
    have hL1 : (1 : Int) ≤ (L.length : Int) := by omega
    have hL8 : (L.length : Int) ≤ 8 := by omega
    have HJ := zjoin_of A3 L.length c3 L hL
    rw [hje, hjo] at HJ
    have HJ := Lib.hid HJ
    clear hL hl hx hjb hje hjo hch hLn
    generalize L.length = ln at *
    go_wp2_with fail
    refine (HJ.out).mono ?_
    rintro e w3 ⟨A4, n4, c4, rfl, hby, _, hx⟩
    have HX3 : Hid (Ext w w3) := Lib.hid (HX2.out.trans hx)
    have HB4 := Lib.hid hby
    clear hby hx HJ
    go_wp2_with fail
    refine (same_by A4 A l l n4 n c4 c w3 HB4.out (HB1.out.ext HX3.out)).mono ?_
    rw [decide_eq_true rfl]
    rintro e w4 ⟨rfl, hx⟩
    have HX4 : Hid (Ext w w4) := Lib.hid (HX3.out.trans hx)
    clear hx HX3 HX2
    go_wp2_with fail
    refine (zjoin_of A2 n2 c2 l2 (HB2.out.ext HX4.out)).mono ?_
    rintro e w5 ⟨A5, n5, c5, rfl, hby, _, hx⟩
    have HX5 : Hid (Ext w w5) := Lib.hid (HX4.out.trans hx)
    clear hx HX4
    cases hj : joinB (lsOf l2) with
    | false =>
      have hje : joinE (lsOf l2) = 2 := by unfold joinE; rw [hj]; rfl
      have hjo : joinO (lsOf l2) = [] := by unfold joinO; rw [hj]; rfl
      rw [hjo] at hby
      obtain rfl : n5 = 0 := hby.len.symm
      rw [hje]
      clear hby hj hje hjo
      go_wp2_with fail
      go_ret
      exact ⟨rfl, HX5.out⟩
    | true =>
      have hje : joinE (lsOf l2) = 0 := by unfold joinE; rw [if_pos hj]
      have hjo : joinO (lsOf l2) = (lsOf l2).flatten := by unfold joinO; rw [if_pos hj]
      rw [hjo] at hby
      rw [hje]
      have h640 : n5 ≤ 640 := by
        have := (join_len hj).2.2
        have := hby.len
        omega
      have HS := Lib.hid (zsplit_lsts A5 n5 c5 _ hby h640)
      have HJS := Lib.hid (join_split hj)
      clear hby hj hje hjo h640
      go_wp2_with fail
      refine (HS.out).mono ?_
      rintro e w6 ⟨A6, c6, L6, rfl, hL6, hl6, hx⟩
      have HX6 : Hid (Ext w w6) := Lib.hid (HX5.out.trans hx)
      have HLI := Lib.hid (zlists_same A6 L6.length c6 L6 hL6 A2 n2 c2 l2 (HB2.out.ext HX6.out) (by rw [hl6]; exact HJS.out))
      clear hL6 hl6 hx HX5 HS
      go_wp2_with fail
      refine (HLI.out).mono ?_
      rintro e w7 ⟨rfl, hx⟩
      have HX7 : Hid (Ext w w7) := Lib.hid (HX6.out.trans hx)
      clear hx HX6 HLI
      go_wp2_with fail
      go_ret
      exact ⟨rfl, HX7.out⟩
end Go.Proofs.Ytnlappoocffcpaa
