/-
  The contracts of the document's own Ballot, May, Print and Parse of metadata.
-/
import Derived.Test.YtlikhmhomkiadaaDoorUParse
import Derived.Test.YtlikhmhomkiadaaDoorTRPrint
import Derived.Test.YtlikhmhomkiadaaDoorGet
namespace Go.Proofs.YtlikhmhomkiadaaDoor
open Go Go.RowKit

/-- May a ballot be that isn't none? -/
def balU (x y : Int) : Bool := decide (1 ≤ x) && (decide (x ≤ 1099511627776) && (decide (0 ≤ y) && decide (y ≤ 6)))
theorem mayU_split (a b c : Int) : mayU a b c = ((a == 0 && b == 0 || balU a b) && (decide (1 ≤ c) && decide (c ≤ 1099511627776))) := by
  rw [Bool.eq_iff_iff, mayU_iff]
  unfold balU
  simp
set_option maxRecDepth 100000 in
theorem rballotU (x y : Int) (w : World) :
    Calls Tryd.prog 31 #[.agg #[.int .i64 x, .int .i64 y]] w fun r w' => r = .returned (.bool (balU x y)) ∧ Ext w w' := by
  have HE := Lib.hid ((Ext.refl w).alloc (.cells #[.int .i64 x, .int .i64 y] 23))
  unfold balU
  cases h1 : decide (1 ≤ x) <;> cases h2 : decide (x ≤ 1099511627776) <;> cases h3 : decide (0 ≤ y) <;> cases h4 : decide (y ≤ 6)
  all_goals
    go_enter Tryd.func31, Tryd.ntmps31
    go_wp2_with fail
    go_ret
    exact ⟨rfl, HE.out⟩
set_option maxRecDepth 100000 in
set_option maxHeartbeats 1600000 in
theorem rmayU (a b c : Int) (w : World) :
    Calls Tryd.prog 13 #[.agg #[.int .i64 a, .int .i64 b, .int .i64 c]] w fun r w' => r = .returned (.bool (mayU a b c)) ∧ Ext w w' := by
  have HE := Lib.hid ((Ext.refl w).alloc (.cells #[.int .i64 a, .int .i64 b, .int .i64 c] 25))
  have HT := Lib.hid (heap_alloc_new w (.cells #[.int .i64 a, .int .i64 b, .int .i64 c] 25))
  have HB := Lib.hid (rballotU a b)
  rw [mayU_split]
  generalize balU a b = q at *
  by_cases hz : (a == 0 && b == 0) = true
  · rw [hz]
    rw [Bool.and_eq_true] at hz
    obtain ⟨z1, z2⟩ := hz
    cases h1 : decide (1 ≤ c) <;> cases h2 : decide (c ≤ 1099511627776)
    all_goals
      go_enter Tryd.func13, Tryd.ntmps13
      go_wp2_with fail
      go_ret
      exact ⟨rfl, HE.out⟩
  · have hz : (a == 0 && b == 0) = false := by simpa using hz
    rw [hz]
    cases q <;> cases h1 : decide (1 ≤ c) <;> cases h2 : decide (c ≤ 1099511627776) <;> cases z1 : (a == 0)
    all_goals
      first
        | (have z2 : (b == 0) = false := by rw [z1] at hz; simpa using hz)
        | skip
      clear hz
      go_enter Tryd.func13, Tryd.ntmps13
      go_wp2_with fail
      refine (HB.out _).mono ?_
      rintro r w1 ⟨rfl, hx⟩
      have HE := Lib.hid (HE.out.trans hx)
      have ht := (hx.block _ (Array.getElem?_eq_some_iff.1 HT.out).1).trans HT.out
      obtain ⟨⟨c0, c1, c2⟩, _⟩ := three_cells ht
      clear hx ht
      go_wp2_with fail
      go_ret
      exact ⟨rfl, HE.out⟩

set_option maxRecDepth 100000 in
set_option maxHeartbeats 1600000 in
theorem rprintU_no (a b c : Int) (w : World) (hm : mayU a b c = false) :
    Calls Tryd.prog 9 #[.agg #[.int .i64 a, .int .i64 b, .int .i64 c]] w fun r w' => r = .returned (.tuple #[.slice none 0 0, .int .i64 2]) ∧ Ext w w' := by
  have hE := (Ext.refl w).alloc (.cells #[.int .i64 a, .int .i64 b, .int .i64 c] 25)
  have HE := Lib.hid hE
  have HM := Lib.hid hm
  clear hE hm
  go_enter Tryd.func9, Tryd.ntmps9
  go_wp2_with fail
  refine (rmayU _ _ _ _).mono ?_
  rw [HM.out]
  rintro r w1 ⟨rfl, hx⟩
  have HE := Lib.hid (HE.out.trans hx)
  clear hx
  go_wp2_with fail
  go_ret2
  exact ⟨rfl, HE.out⟩
set_option maxRecDepth 100000 in
set_option maxHeartbeats 1600000 in
theorem rprintU_yes (a b c : Nat) (w : World) (hm : mayU a b c = true) :
    Calls Tryd.prog 9 #[.agg #[.int .i64 a, .int .i64 b, .int .i64 c]] w fun r w' => ∃ A cp, r = .returned (.tuple #[.slice A 13 cp, .int .i64 0]) ∧ By w' A 13 cp (uBytes a b c) ∧ Fresh w.heap.size A ∧ Ext w w' := by
  obtain ⟨i0, hi, hz0, hz1, hz2⟩ := info_parts byte_info
  have hE := (Ext.refl w).alloc (.cells #[.int .i64 a, .int .i64 b, .int .i64 c] 25)
  have HT := Lib.hid (heap_alloc_new w (.cells #[.int .i64 a, .int .i64 b, .int .i64 c] 25))
  have HE := Lib.hid hE
  have HM := Lib.hid hm
  rw [mayU_iff] at hm
  have hb : b < 256 := by omega
  have HUB := Lib.hid (uBytes_eq (a := a) (c := c) hb)
  generalize uBytes a b c = T at *
  clear hE hm
  go_enter Tryd.func9, Tryd.ntmps9
  go_wp2_with fail
  refine (rmayU _ _ _ _).mono ?_
  rw [HM.out]
  rintro r w1 ⟨rfl, hx⟩
  have HT := Lib.hid ((hx.block _ (Array.getElem?_eq_some_iff.1 HT.out).1).trans HT.out)
  have HE := Lib.hid (HE.out.trans hx)
  clear hx
  obtain ⟨⟨c0, c1, c2⟩, _⟩ := three_cells HT.out
  go_wp2_with fail
  refine (rput_yes 6 a _ (uFld_fits HM.out 0)).mono ?_
  rintro r w2 ⟨A2, k2, rfl, hown, hx⟩
  have HX2 : Hid (Ext w1 (w2.alloc (.cells #[.int .u8 b] 5))) := Lib.hid ((show Ext w1 w2 from hx).trans ((Ext.refl w2).alloc _))
  have HO := Lib.hid (own_ext hown ((Ext.refl w2).alloc (.cells #[.int .u8 b] 5)))
  have HLIT := Lib.hid (By.lit w2 [b] 5 (by simp; omega) (by simp) (#[.int .u8 b]) rfl)
  have d1 := Ext.cell hx c1
  have hsz := Ext.size HX2.out
  clear hown hx c0 c1 c2
  go_wp2_with (at_builtin; refine wpList_append_by rfl _ _ 26 rfl w1.heap.size 5 i0 Tryd.underlying26 hi hz0 hz1 hz2 _ 6 (vb (digs 6 a)) rfl HO.out _ 1 _ [b] rfl HLIT.out (by omega) hsz ?_)
  intro v4 w4 hown hg
  obtain ⟨hx, A4, k4, rfl, hb4, hown⟩ := app_step HX2.out HO.out hg hown (digs_lt 6 a) (by intro x hx; simp at hx; omega)
  have HO4 := Lib.hid hown
  have HX4 := Lib.hid hx
  obtain ⟨⟨c0, c1, c2⟩, _⟩ := three_cells ((hx.block _ (Array.getElem?_eq_some_iff.1 HT.out).1).trans HT.out)
  clear hown hg hx hb4 d1 hsz
  go_wp2_with fail
  refine (rput_yes 6 c _ (uFld_fits HM.out 2)).mono ?_
  rintro r w5 ⟨A5, k5, rfl, hown, hx⟩
  have HB5 : Hid (By w5 A5 6 k5 (digs 6 c)) := Lib.hid (Bs.of_own hown (digs_lt 6 c))
  have HO5 := Lib.hid (own_ext HO4.out hx)
  have HX5 := Lib.hid (HX4.out.trans hx)
  have hsz := Ext.size HX5.out
  clear hown hx c0 c1 c2
  go_wp2_with (at_builtin; refine wpList_append_by rfl _ _ 26 rfl w1.heap.size 5 i0 Tryd.underlying26 hi hz0 hz1 hz2 _ 7 (vb (digs 6 a ++ [b])) rfl HO5.out _ 6 _ (digs 6 c) rfl HB5.out (by omega) hsz ?_)
  intro v6 w6 hown hg
  obtain ⟨hx, A6, k6, rfl, hb6, hown⟩ := app_step HX5.out HO5.out hg hown (by
    intro x hx
    rcases List.mem_append.1 (show x ∈ digs 6 a ++ [b] from hx) with h | h
    · exact digs_lt 6 a x h
    · simp at h; omega) (digs_lt 6 c)
  have HB6 := Lib.hid hb6
  have HF6 : Hid (Fresh w.heap.size A6) := Lib.hid fun g o e => by
    subst e
    exact Nat.le_trans (Ext.size HE.out) (hown.lt g rfl).1
  have HX6 := Lib.hid (HE.out.trans hx)
  clear hown hg hx hb6 hsz
  go_wp2_with fail
  go_ret2
  exact ⟨A6, k6, rfl, by rw [HUB.out]; exact HB6.out, HF6.out, HX6.out⟩
theorem rprintU_any (a b c : Int) (w : World) :
    Calls Tryd.prog 9 #[.agg #[.int .i64 a, .int .i64 b, .int .i64 c]] w fun r w' => ∃ A cp, r = .returned (.tuple #[.slice A (uL a b c).length cp, .int .i64 (uR a b c)]) ∧ By w' A (uL a b c).length cp (uL a b c) ∧ Fresh w.heap.size A ∧ Ext w w' := by
  by_cases h : mayU a b c = true
  · obtain ⟨a, b, c, rfl, rfl, rfl⟩ := mayU_nat h
    rw [uL_yes h, uR_yes h]
    simp only [Int.toNat_natCast, uBytes_len]
    exact rprintU_yes a b c w h
  · have h' : mayU a b c = false := by simpa using h
    rw [uL_no h', uR_no h']
    exact (rprintU_no a b c w h').mono fun _ w' ⟨h1, h2⟩ => ⟨none, 0, h1, By.nil_ w', Fresh.none_ _, h2⟩
end Go.Proofs.YtlikhmhomkiadaaDoor
