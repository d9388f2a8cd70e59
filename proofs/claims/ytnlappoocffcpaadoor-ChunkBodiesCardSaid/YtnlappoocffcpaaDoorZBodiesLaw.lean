/-
  The walk of ChunkBodies: a chunk's body is what the document says, and so is what bytes are.
-/
import Derived.Test.YtnlappoocffcpaaDoorZRBody
import Derived.Test.YtnlappoocffcpaaDoorOpen
namespace Go.Proofs.YtnlappoocffcpaaDoor
open Go Go.RowKit
set_option maxRecDepth 100000 in
set_option maxHeartbeats 1600000 in
theorem chunkBodies_law (count : Int) (A : Option Addr) (n c : Nat) (l : List Nat) (A2 : Option Addr) (n2 c2 : Nat) (l2 : List Nat) (w : World) (_ : (Lit.int .i64 count).wf = true) (h1 : Bs w w.heap.size A n c l) (h2 : Bs w w.heap.size A2 n2 c2 l2) (hL : Laid w) :
    Calls Tryd.prog 3 #[.int .i64 count, .slice A n c, .slice A2 n2 c2] w fun r w' => r = .returned (.bool true) ∧ Below w.heap.size w w' := by
  show Calls Tryd.prog 3 #[.int .i64 count, .slice A n c, .slice A2 n2 c2] w fun r w' => r = .returned (.bool true) ∧ Ext w w'
  have hcap := h1.cap
  have hmost := h1.most
  have hcap2 := h2.cap
  have hmost2 := h2.most
  have H1 : Hid (By w A n c l) := Lib.hid h1
  have H2 : Hid (By w A2 n2 c2 l2) := Lib.hid h2
  have HL := Lib.hid hL
  clear h1 h2 hL
  by_cases ha : 200 < n
  · go_enter Tryd.func3, Tryd.ntmps3
    go_wp2_with fail
    go_ret
    exact ⟨rfl, Ext.refl _⟩
  by_cases hb : 200 < n2
  · go_enter Tryd.func3, Tryd.ntmps3
    go_wp2_with fail
    go_ret
    exact ⟨rfl, Ext.refl _⟩
  obtain ⟨PE, hPE⟩ : ∃ PE, prZE count l = PE := ⟨_, rfl⟩
  obtain ⟨PL, hPL⟩ : ∃ PL, prZL count l = PL := ⟨_, rfl⟩
  obtain ⟨QN, hQN⟩ : ∃ QN, (paZ l2).1 = QN := ⟨_, rfl⟩
  obtain ⟨QL, hQL⟩ : ∃ QL, (paZ l2).2.1 = QL := ⟨_, rfl⟩
  obtain ⟨QE, hQE⟩ : ∃ QE, (paZ l2).2.2 = QE := ⟨_, rfl⟩
  have c1 := fun V (hV : Ext w V) => zprint_any count A n c l V (HL.out.ext hV) (H1.out.ext hV) (by omega)
  have c2' := fun V (hV : Ext w V) => zrprint_any count A n c l V (H1.out.ext hV) (by omega)
  have c3 := fun (B3 : Option Addr) (k3 : Nat) V (hV : Ext w V) (hb : By V B3 n2 k3 l2) => zparse_any B3 n2 k3 l2 V (HL.out.ext hV) hb (by omega)
  have c4 := fun V (hV : Ext w V) => zrparse_any A2 n2 c2 l2 V (H2.out.ext hV) (by omega)
  rw [hPE, hPL] at c1 c2'
  rw [hQN, hQL, hQE] at c3 c4
  have HC := Lib.hid (And.intro c1 (And.intro c2' (And.intro c3 c4)))
  clear c1 c2' c3 c4 hPE hPL hQN hQL hQE
  go_enter Tryd.func3, Tryd.ntmps3
  go_wp2_with fail
  refine (copy_by A2 l2 n2 c2 _ H2.out (by omega)).mono ?_
  rintro r w1 ⟨A3, c3, rfl, hby, hx, _⟩
  have H3 := Lib.hid hby
  have HX := Lib.hid hx
  clear hby hx
  go_wp2_with fail
  refine (HC.out.1 _ HX.out).mono ?_
  rintro r w2 ⟨B1, N1, k1, rfl, hby, hx⟩
  have H3 := Lib.hid (H3.out.ext hx)
  have HX := Lib.hid (HX.out.trans hx)
  have H4 := Lib.hid hby
  clear hby hx
  go_wp2_with fail
  refine (HC.out.2.1 _ HX.out).mono ?_
  rintro r w3 ⟨B2, N2, k2, rfl, hby, hx⟩
  have H3 := Lib.hid (H3.out.ext hx)
  have HX := Lib.hid (HX.out.trans hx)
  have H4 := Lib.hid (H4.out.ext hx)
  have H5 := Lib.hid hby
  clear hby hx
  go_wp2_with fail
  refine (HC.out.2.2.1 _ _ _ HX.out H3.out).mono ?_
  rintro r w4 ⟨B4, N4, k4, rfl, hby, hx⟩
  have H3 := Lib.hid (H3.out.ext hx)
  have HX := Lib.hid (HX.out.trans hx)
  have H4 := Lib.hid (H4.out.ext hx)
  have H5 := Lib.hid (H5.out.ext hx)
  have H6 := Lib.hid hby
  clear hby hx
  go_wp2_with fail
  refine (HC.out.2.2.2 _ HX.out).mono ?_
  rintro r w5 ⟨B5, N5, k5, rfl, hby, hx⟩
  have H3 := Lib.hid (H3.out.ext hx)
  have HX := Lib.hid (HX.out.trans hx)
  have H4 := Lib.hid (H4.out.ext hx)
  have H5 := Lib.hid (H5.out.ext hx)
  have H6 := Lib.hid (H6.out.ext hx)
  have H7 := Lib.hid hby
  clear hby hx
  go_wp2_with fail
  refine (same_by _ _ _ _ _ _ _ _ _ H4.out H5.out).mono ?_
  rw [decide_eq_true (rfl : PL = PL)]
  rintro r w6 ⟨rfl, hx⟩
  have H3 := Lib.hid (H3.out.ext hx)
  have HX := Lib.hid (HX.out.trans hx)
  have H6 := Lib.hid (H6.out.ext hx)
  have H7 := Lib.hid (H7.out.ext hx)
  clear hx
  go_wp2_with fail
  refine (same_by _ _ _ _ _ _ _ _ _ H6.out H7.out).mono ?_
  rw [decide_eq_true (rfl : QL = QL)]
  rintro r w7 ⟨rfl, hx⟩
  have H3 := Lib.hid (H3.out.ext hx)
  have HX := Lib.hid (HX.out.trans hx)
  clear hx
  go_wp2_with fail
  refine (same_by _ _ _ _ _ _ _ _ _ H3.out (H2.out.ext HX.out)).mono ?_
  rw [decide_eq_true (rfl : l2 = l2)]
  rintro r w8 ⟨rfl, hx⟩
  have HX := Lib.hid (HX.out.trans hx)
  clear hx
  go_wp2_with fail
  go_ret
  exact ⟨rfl, HX.out⟩
end Go.Proofs.YtnlappoocffcpaaDoor
