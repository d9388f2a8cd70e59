/-
  The walk of the statement on the sum of three rows, one behind the other.
-/
import Derived.Test.YtpfclldpebfocaaDoorCAwake
import Derived.Test.YtpfclldpebfocaaDoorApp
import Derived.Test.YtpfclldpebfocaaDoorOpen
namespace Go.Proofs.YtpfclldpebfocaaDoor
open Go Go.RowKit

theorem comb_parts {a b : List Nat} {n : Nat} (hn : b.length = n) (ha : ∀ x ∈ a, x < 256) (hb : ∀ x ∈ b, x < 256) : comb (crcS a) (crcS b) n = crcS (a ++ b) := by
  subst hn
  exact comb_crc rfl ha hb
theorem mem_lt2 {a b : List Nat} (ha : ∀ x ∈ a, x < 256) (hb : ∀ x ∈ b, x < 256) : ∀ x ∈ a ++ b, x < 256 := by
  intro x hx
  rcases List.mem_append.1 hx with h | h
  · exact ha x h
  · exact hb x h

set_option maxHeartbeats 4000000 in
set_option maxRecDepth 100000 in
theorem parts_walk (A B C : Option Addr) (n c m d k e' : Nat) (la lb lc : List Nat) (w : World) (ha : By w A n c la) (hb : By w B m d lb) (hc : By w C k e' lc) (hL : LaidH w) :
    Calls Tryd.prog 4 #[.slice A n c, .slice B m d, .slice C k e'] w fun e w' => e = .returned (.bool true) ∧ Ext w w' := by
  have HL := Lib.hid hL
  have HA := Lib.hid ha
  have HB := Lib.hid hb
  have HC := Lib.hid hc
  clear hL ha hb hc
  by_cases h1 : 700 < n
  · go_enter Tryd.func4, Tryd.ntmps4
    go_wp2_with fail
    refine (cawake_any _ HL.out).mono ?_
    rintro e w1 ⟨rfl, hx⟩
    have HE := Lib.hid hx
    clear hx
    go_wp2_with fail
    go_ret
    exact ⟨rfl, HE.out⟩
  by_cases h2 : 700 < m
  · go_enter Tryd.func4, Tryd.ntmps4
    go_wp2_with fail
    refine (cawake_any _ HL.out).mono ?_
    rintro e w1 ⟨rfl, hx⟩
    have HE := Lib.hid hx
    clear hx
    go_wp2_with fail
    go_ret
    exact ⟨rfl, HE.out⟩
  by_cases h3 : 700 < k
  · go_enter Tryd.func4, Tryd.ntmps4
    go_wp2_with fail
    refine (cawake_any _ HL.out).mono ?_
    rintro e w1 ⟨rfl, hx⟩
    have HE := Lib.hid hx
    clear hx
    go_wp2_with fail
    go_ret
    exact ⟨rfl, HE.out⟩
  have hn : n ≤ 700 := by omega
  have hm : m ≤ 700 := by omega
  have hk : k ≤ 700 := by omega
  clear h1 h2 h3
  obtain ⟨i0, hi, hz0, hz1, hz2⟩ := info_parts byte_info
  have ga := HA.out.rd.lt
  have gb := HB.out.rd.lt
  have gc := HC.out.rd.lt
  have K1 := Lib.hid (comb_parts HB.out.len ga gb)
  have K2 := Lib.hid (comb_parts HC.out.len (mem_lt2 ga gb) gc)
  have K3 := Lib.hid (comb_parts HC.out.len gb gc)
  have K4 : Hid (comb (crcS la) (crcS (lb ++ lc)) (m + k) = crcS (la ++ lb ++ lc)) := Lib.hid (by rw [List.append_assoc]; exact comb_parts (by rw [List.length_append, HB.out.len, HC.out.len]) ga (mem_lt2 gb gc))
  have K5 : Hid (crcE (crcS la) lb = crcS (la ++ lb)) := Lib.hid (crcS_append ga).symm
  have K6 : Hid (crcE (crcS (la ++ lb)) lc = crcS (la ++ lb ++ lc)) := Lib.hid (crcS_append (mem_lt2 ga gb)).symm
  have s1 : crcS la < 4294967296 := crcE_lt _ _
  have s2 : crcS lb < 4294967296 := crcE_lt _ _
  have s3 : crcS lc < 4294967296 := crcE_lt _ _
  have s4 : crcS (la ++ lb) < 4294967296 := crcE_lt _ _
  have s5 : crcS (lb ++ lc) < 4294967296 := crcE_lt _ _
  have GA := Lib.hid ga
  have GB := Lib.hid gb
  have GC := Lib.hid gc
  clear ga gb gc
  go_enter Tryd.func4, Tryd.ntmps4
  go_wp2_with fail
  refine (cawake_any _ HL.out).mono ?_
  rintro e w1 ⟨rfl, hx⟩
  have HE := Lib.hid hx
  clear hx
  go_wp2_with fail
  refine (copy_by A la n c _ (HA.out.ext HE.out) (by omega)).mono ?_
  rintro e w2 ⟨A1, c1, rfl, hb1, hx, hown⟩
  have HO := Lib.hid hown
  have HX := Lib.hid hx
  have HB2 := Lib.hid (HB.out.ext (HE.out.trans hx))
  have hsz := Ext.size hx
  clear hx hown hb1
  go_wp2_with (at_builtin; refine wpList_append_by rfl _ _ 22 rfl w1.heap.size 5 i0 Tryd.underlying22 hi hz0 hz1 hz2 _ n (vb la) rfl HO.out B m d lb rfl HB2.out (by omega) hsz ?_)
  intro v2 w3 h2 hg
  obtain ⟨hx3, A2, c2, rfl, hb3, _⟩ := app_step HX.out HO.out hg h2 GA.out GB.out
  have HE := Lib.hid (HE.out.trans hx3)
  have HT := Lib.hid hb3
  clear h2 hg hx3 hb3 hsz HO HX HB2
  go_wp2_with fail
  refine (copy_by A2 (la ++ lb) (n + m) c2 _ HT.out (by omega)).mono ?_
  rintro e w4 ⟨A3, c3, rfl, hb4, hx, hown⟩
  have HO := Lib.hid hown
  have HX := Lib.hid hx
  have HC2 := Lib.hid (HC.out.ext (HE.out.trans hx))
  have hsz := Ext.size hx
  clear hx hown hb4
  go_wp2_with (at_builtin; refine wpList_append_by rfl _ _ 22 rfl w3.heap.size 5 i0 Tryd.underlying22 hi hz0 hz1 hz2 _ (n + m) (vb (la ++ lb)) rfl HO.out C k e' lc rfl HC2.out (by omega) hsz ?_)
  intro v4 w5 h4 hg
  obtain ⟨hx5, A4, c4, rfl, hb5, _⟩ := app_step HX.out HO.out hg h4 (mem_lt2 GA.out GB.out) GC.out
  have HT := Lib.hid (HT.out.ext hx5)
  have HE := Lib.hid (HE.out.trans hx5)
  have HU := Lib.hid hb5
  clear h4 hg hx5 hb5 hsz HO HX HC2
  go_wp2_with fail
  refine (sum_by _ (la ++ lb ++ lc) _ _ _ (HL.out.ext HE.out) HU.out).mono ?_
  rintro e w6 ⟨rfl, hx⟩
  have HT := Lib.hid (HT.out.ext hx)
  have HE := Lib.hid (HE.out.trans hx)
  clear hx HU
  go_wp2_with fail
  refine (sum_by _ la _ _ _ (HL.out.ext HE.out) (HA.out.ext HE.out)).mono ?_
  rintro e w7 ⟨rfl, hx⟩
  have HT := Lib.hid (HT.out.ext hx)
  have HE := Lib.hid (HE.out.trans hx)
  clear hx
  go_wp2_with fail
  refine (sum_by _ lb _ _ _ (HL.out.ext HE.out) (HB.out.ext HE.out)).mono ?_
  rintro e w8 ⟨rfl, hx⟩
  have HT := Lib.hid (HT.out.ext hx)
  have HE := Lib.hid (HE.out.trans hx)
  clear hx
  go_wp2_with fail
  refine (combine_yes (crcS la) (crcS lb) m _ s1 s2 (by omega)).mono ?_
  rw [K1.out]
  rintro e w' ⟨rfl, rfl⟩
  go_wp2_with fail
  refine (sum_by _ lc _ _ _ (HL.out.ext HE.out) (HC.out.ext HE.out)).mono ?_
  rintro e w9 ⟨rfl, hx⟩
  have HT := Lib.hid (HT.out.ext hx)
  have HE := Lib.hid (HE.out.trans hx)
  clear hx
  go_wp2_with fail
  refine (combine_yes (crcS (la ++ lb)) (crcS lc) k _ s4 s3 (by omega)).mono ?_
  rw [K2.out]
  rintro e w' ⟨rfl, rfl⟩
  go_wp2_with fail
  refine (sum_by _ lb _ _ _ (HL.out.ext HE.out) (HB.out.ext HE.out)).mono ?_
  rintro e w10 ⟨rfl, hx⟩
  have HT := Lib.hid (HT.out.ext hx)
  have HE := Lib.hid (HE.out.trans hx)
  clear hx
  go_wp2_with fail
  refine (sum_by _ lc _ _ _ (HL.out.ext HE.out) (HC.out.ext HE.out)).mono ?_
  rintro e w11 ⟨rfl, hx⟩
  have HT := Lib.hid (HT.out.ext hx)
  have HE := Lib.hid (HE.out.trans hx)
  clear hx
  go_wp2_with fail
  refine (combine_yes (crcS lb) (crcS lc) k _ s2 s3 (by omega)).mono ?_
  rw [K3.out]
  rintro e w' ⟨rfl, rfl⟩
  go_wp2_with fail
  refine (sum_by _ la _ _ _ (HL.out.ext HE.out) (HA.out.ext HE.out)).mono ?_
  rintro e w12 ⟨rfl, hx⟩
  have HT := Lib.hid (HT.out.ext hx)
  have HE := Lib.hid (HE.out.trans hx)
  clear hx
  go_wp2_with fail
  refine (combine_yes (crcS la) (crcS (lb ++ lc)) (m + k) _ s1 s5 (by omega)).mono ?_
  rw [K4.out]
  rintro e w' ⟨rfl, rfl⟩
  go_wp2_with fail
  refine (sum_by _ (la ++ lb) _ _ _ (HL.out.ext HE.out) HT.out).mono ?_
  rintro e w13 ⟨rfl, hx⟩
  have HE := Lib.hid (HE.out.trans hx)
  clear hx HT
  go_wp2_with fail
  refine (sum_by _ la _ _ _ (HL.out.ext HE.out) (HA.out.ext HE.out)).mono ?_
  rintro e w14 ⟨rfl, hx⟩
  have HE := Lib.hid (HE.out.trans hx)
  clear hx
  go_wp2_with fail
  refine (ext_by _ lb _ _ (crcS la) _ (HL.out.ext HE.out) (HB.out.ext HE.out) s1).mono ?_
  rw [K5.out]
  rintro e w15 ⟨rfl, hx⟩
  have HE := Lib.hid (HE.out.trans hx)
  clear hx
  go_wp2_with fail
  refine (ext_by _ lc _ _ (crcS (la ++ lb)) _ (HL.out.ext HE.out) (HC.out.ext HE.out) s4).mono ?_
  rw [K6.out]
  rintro e w16 ⟨rfl, hx⟩
  have HE := Lib.hid (HE.out.trans hx)
  clear hx
  go_wp2_with fail
  go_ret
  exact ⟨rfl, HE.out⟩
theorem crcParts_law (A : Option Addr) (n c : Nat) (la : List Nat) (B : Option Addr) (m d : Nat) (lb : List Nat) (C : Option Addr) (k e' : Nat) (lc : List Nat) (w : World) (ha : Bs w w.heap.size A n c la) (hb : Bs w w.heap.size B m d lb) (hc : Bs w w.heap.size C k e' lc) (hL : LaidH w) :
    Calls Tryd.prog 4 #[.slice A n c, .slice B m d, .slice C k e'] w fun e w' => e = .returned (.bool true) ∧ Below w.heap.size w w' := parts_walk A B C n c m d k e' la lb lc w ha hb hc hL
end Go.Proofs.YtpfclldpebfocaaDoor
