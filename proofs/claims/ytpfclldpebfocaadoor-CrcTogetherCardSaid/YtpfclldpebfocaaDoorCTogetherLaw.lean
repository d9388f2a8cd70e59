/-
  The walk of the statement on four rows, the last one the others turned one by the other.
-/
import Derived.Test.YtpfclldpebfocaaDoorCAwake
import Derived.Test.YtpfclldpebfocaaDoorPat
import Derived.Test.YtpfclldpebfocaaDoorOpen
import Derived.StillTailTactics
namespace Go.Proofs.YtpfclldpebfocaaDoor
open Go Go.RowKit Go.Joins

set_option maxHeartbeats 4000000 in
set_option maxRecDepth 100000 in
theorem together_yes (A B C : Option Addr) (n c d e' : Nat) (la lb lc : List Nat) (w : World) (ha : By w A n c la) (hb : By w B n d lb) (hc : By w C n e' lc) (hL : LaidH w) (hn : n ≤ 1000) :
    Calls Tryd.prog 9 #[.slice A n c, .slice B n d, .slice C n e'] w fun e w' => e = .returned (.bool true) ∧ Ext w w' := by
  have HL := Lib.hid hL
  have HA := Lib.hid ha
  have HB := Lib.hid hb
  have HC := Lib.hid hc
  clear hL ha hb hc
  have hnn : (((n : Nat) : Int) != ((n : Nat) : Int)) = false := by simp
  obtain ⟨X, hX⟩ : ∃ X, X = xorL (xorL la lb) lc := ⟨_, rfl⟩
  have hXl : X.length = n := by rw [hX]; exact xorL_length (xorL_length HA.out.len HB.out.len) HC.out.len
  have HXlt : Hid (∀ x ∈ X, x < 256) := Lib.hid (by rw [hX]; exact xorL_lt (xorL_lt HA.out.rd.lt HB.out.rd.lt) HC.out.rd.lt)
  have K : Hid (crcS X = crcS la ^^^ crcS lb ^^^ crcS lc) := Lib.hid (by rw [hX]; exact crcS_xor3 HA.out.len HB.out.len HC.out.len HA.out.rd.lt HB.out.rd.lt HC.out.rd.lt)
  have HXe := Lib.hid hX
  have HXl := Lib.hid hXl
  clear hX hXl
  have s1 : crcS la < 4294967296 := crcE_lt _ _
  have s2 : crcS lb < 4294967296 := crcE_lt _ _
  have s3 : crcS lc < 4294967296 := crcE_lt _ _
  have x1 := u32_xor_nat _ _ s1 s2
  have x2 := u32_xor_nat _ _ (xor_lt32 s1 s2) s3
  go_enter Tryd.func9, Tryd.ntmps9
  go_wp2_with fail
  refine (cawake_any _ HL.out).mono ?_
  rintro e w1 ⟨rfl, hx⟩
  have HE := Lib.hid hx
  clear hx
  go_wp2_with fail
  refine (copy_by A la n c _ (HA.out.ext HE.out) (by omega)).mono ?_
  rintro e w2 ⟨A1, c1, rfl, hb1, hx, hown⟩
  have HO : Hid (w2.ownsRow w1.heap.size 5 1 (.slice A1 n c1) n (vb (pat X la 0))) := by rw [pat_zero]; exact Lib.hid hown
  have hz0 := Ext.size HE.out
  have HE := Lib.hid (HE.out.trans hx)
  clear hx hown hb1
  go_wp2_with fail
  go_loopw [8] (fun i wr => ∃ k : Nat, k ≤ n ∧ i = .int .i64 k ∧ Hid (wr.ownsRow w1.heap.size 5 1 (.slice A1 n c1) n (vb (pat X la k))) ∧ Hid (Ext w wr)) (fun i _ => n - (intOf i).toNat)
  case atStart => exact ⟨0, Nat.zero_le _, rfl, HO, HE⟩
  case round =>
    obtain ⟨k, hk, rfl, HOk, HEk⟩ := hrel
    clear HO HE
    by_cases hlt : k < n
    · obtain ⟨g, cap, hv⟩ := ownsRow_form HOk.out (by omega)
      injection hv with hv _ hcap
      subst hv; subst hcap
      have hg := (HOk.out.lt g rfl).1
      obtain ⟨ga, oa, x, hA, _, hx, hx2, hcx⟩ := (HA.out.ext HEk.out).rd.at_ (k := k) (by rw [HA.out.len]; exact hlt)
      obtain ⟨gb, ob, y, hB, _, hy, hy2, hcy⟩ := (HB.out.ext HEk.out).rd.at_ (k := k) (by rw [HB.out.len]; exact hlt)
      obtain ⟨gc, oc, z, hC, _, hz, hz2, hcz⟩ := (HC.out.ext HEk.out).rd.at_ (k := k) (by rw [HC.out.len]; exact hlt)
      subst hA; subst hB; subst hC
      have HXk : Hid (X[k]? = some (x ^^^ y ^^^ z)) := Lib.hid (by rw [HXe.out]; exact xorL_get (xorL_get hx hy) hz)
      have hxy := u8_xor_nat x y hx2 hy2
      have hxy2 : x ^^^ y < 256 := Nat.xor_lt_two_pow (n := 8) hx2 hy2
      have hxyz := u8_xor_nat (x ^^^ y) z hxy2 hz2
      have hcell : ∃ v, wr.cell? ⟨g, k, none⟩ = some v := by
        rw [HOk.out.cellAt k (by omega)]
        exact ⟨_, List.getElem?_eq_getElem (by rw [vb_length, pat_length HXl.out HA.out.len hk]; exact hlt)⟩
      obtain ⟨v0, hv0⟩ := hcell
      have hfz := HOk.out.frozenAt k
      clear hx hy hz
      go_wp2_with fail
      go_still_tail 17, (by kernel_rfl)
      go_wp2_with fail
      go_roundw
      case rel =>
        refine ⟨k + 1, by omega, by go_num, Lib.hid ?_, Lib.hid (Below.setCell (Ext.drew HEk.out) (Nat.le_trans hz0 hg) _)⟩
        have hd : (wr.drew).ownsRow w1.heap.size 5 1 (.slice (some ⟨g, 0, none⟩) n c1) n (vb (pat X la k)) := HOk.out
        have hs := (hd.stored k (.int .u8 ((x ^^^ y ^^^ z : Nat) : Int))).1
        rw [vb_set, pat_set HXl.out HA.out.len hlt HXk.out] at hs
        exact hs
      case measure => simp [intOf]; omega
    · obtain rfl : k = n := by omega
      have hb1 : By wr A1 k c1 X := by
        have h := HOk.out
        rw [pat_full HXl.out HA.out.len] at h
        exact Bs.of_own h HXlt.out
      have HT := Lib.hid hb1
      have HE := Lib.hid HEk.out
      clear hb1 HOk HEk
      go_wp2_with fail
      refine (sum_by _ X _ _ _ (HL.out.ext HE.out) HT.out).mono ?_
      rw [K.out]
      rintro e w3 ⟨rfl, hx⟩
      have HE := Lib.hid (HE.out.trans hx)
      clear hx HT
      go_wp2_with fail
      refine (sum_by _ la _ _ _ (HL.out.ext HE.out) (HA.out.ext HE.out)).mono ?_
      rintro e w4 ⟨rfl, hx⟩
      have HE := Lib.hid (HE.out.trans hx)
      clear hx
      go_wp2_with fail
      refine (sum_by _ lb _ _ _ (HL.out.ext HE.out) (HB.out.ext HE.out)).mono ?_
      rintro e w5 ⟨rfl, hx⟩
      have HE := Lib.hid (HE.out.trans hx)
      clear hx
      go_wp2_with fail
      refine (sum_by _ lc _ _ _ (HL.out.ext HE.out) (HC.out.ext HE.out)).mono ?_
      rintro e w6 ⟨rfl, hx⟩
      have HE := Lib.hid (HE.out.trans hx)
      clear hx
      go_wp2_with fail
      go_ret
      exact ⟨rfl, HE.out⟩
theorem together_no (A B C : Option Addr) (n c m d k e' : Nat) (w : World) (hL : LaidH w) (h : 1000 < n ∨ n ≠ m ∨ n ≠ k) :
    Calls Tryd.prog 9 #[.slice A n c, .slice B m d, .slice C k e'] w fun e w' => e = .returned (.bool true) ∧ Ext w w' := by
  have HL := Lib.hid hL
  clear hL
  by_cases h1 : 1000 < n
  · clear h
    go_enter Tryd.func9, Tryd.ntmps9
    go_wp2_with fail
    refine (cawake_any _ HL.out).mono ?_
    rintro e w1 ⟨rfl, hx⟩
    have HE := Lib.hid hx
    clear hx
    go_wp2_with fail
    go_ret
    exact ⟨rfl, HE.out⟩
  by_cases h2 : n = m
  · have hz : (((n : Nat) : Int) != ((m : Nat) : Int)) = false := by simp; omega
    have hy : (((n : Nat) : Int) != ((k : Nat) : Int)) = true := by rw [bne_iff_ne]; omega
    clear h h2
    go_enter Tryd.func9, Tryd.ntmps9
    go_wp2_with fail
    refine (cawake_any _ HL.out).mono ?_
    rintro e w1 ⟨rfl, hx⟩
    have HE := Lib.hid hx
    clear hx
    go_wp2_with fail
    go_ret
    exact ⟨rfl, HE.out⟩
  · have hz : (((n : Nat) : Int) != ((m : Nat) : Int)) = true := by rw [bne_iff_ne]; omega
    clear h h2
    go_enter Tryd.func9, Tryd.ntmps9
    go_wp2_with fail
    refine (cawake_any _ HL.out).mono ?_
    rintro e w1 ⟨rfl, hx⟩
    have HE := Lib.hid hx
    clear hx
    go_wp2_with fail
    go_ret
    exact ⟨rfl, HE.out⟩
theorem crcTogether_law (A : Option Addr) (n c : Nat) (la : List Nat) (B : Option Addr) (m d : Nat) (lb : List Nat) (C : Option Addr) (k e' : Nat) (lc : List Nat) (w : World) (ha : Bs w w.heap.size A n c la) (hb : Bs w w.heap.size B m d lb) (hc : Bs w w.heap.size C k e' lc) (hL : LaidH w) :
    Calls Tryd.prog 9 #[.slice A n c, .slice B m d, .slice C k e'] w fun e w' => e = .returned (.bool true) ∧ Below w.heap.size w w' := by
  by_cases h : 1000 < n ∨ n ≠ m ∨ n ≠ k
  · exact together_no A B C n c m d k e' w hL h
  · obtain ⟨h1, rfl, rfl⟩ : n ≤ 1000 ∧ n = m ∧ n = k := by omega
    exact together_yes A B C n c d e' la lb lc w ha hb hc hL h1
end Go.Proofs.YtpfclldpebfocaaDoor
