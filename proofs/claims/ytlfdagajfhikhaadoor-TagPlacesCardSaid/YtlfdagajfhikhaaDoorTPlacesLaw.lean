/-
  The walk of TagPlaces: how many places any region has, where any of them begins, and what any sector is of, is what the chapter says.
-/
import Derived.Test.YtlfdagajfhikhaaDoorTRef
import Derived.Test.YtlfdagajfhikhaaDoorTWhere
import Derived.OpenShut
namespace Go.Proofs.YtlfdagajfhikhaaDoor
open Go Go.RowKit

set_option maxHeartbeats 1600000 in
theorem tagPlaces_law (r p s : Int) (w : World) (_ : (Lit.int .i64 r).wf = true) (_ : (Lit.int .i64 p).wf = true) (hs : (Lit.int .i64 s).wf = true) (hL : LaidT w) :
    Calls Tryd.prog 4 #[.int .i64 r, .int .i64 p, .int .i64 s] w fun e w' => e = .returned (.bool true) ∧ Below w.heap.size w w' := by
  show Calls Tryd.prog 4 #[.int .i64 r, .int .i64 p, .int .i64 s] w fun e w' => e = .returned (.bool true) ∧ Ext w w'
  have HL := Lib.hid hL
  have hs2 : s ≤ 9223372036854775807 := by
    have := bounds_i64 hs
    omega
  clear hL hs
  go_enter Tryd.func4, Tryd.ntmps4
  go_wp2_with fail
  refine (owhere_any s _ HL.out hs2).mono ?_
  rintro e w1 ⟨rfl, hx⟩
  have HE := Lib.hid hx
  have HL := Lib.hid (HL.out.ext hx)
  clear hx
  go_wp2_with fail
  refine (rwhere_any s _).mono ?_
  rintro e w2 ⟨rfl, rfl⟩
  go_wp2_with fail
  refine (places_any r _ HL.out).mono ?_
  rintro e w2 ⟨rfl, hx⟩
  have HE := Lib.hid (HE.out.trans hx)
  have HL := Lib.hid (HL.out.ext hx)
  clear hx
  go_wp2_with fail
  refine (rplaces_any r _).mono ?_
  rintro e w3 ⟨rfl, rfl⟩
  go_wp2_with fail
  refine (wide_any r _ HL.out).mono ?_
  rintro e w3 ⟨rfl, hx⟩
  have HE := Lib.hid (HE.out.trans hx)
  have HL := Lib.hid (HL.out.ext hx)
  clear hx
  go_wp2_with fail
  refine (rwide_any r _).mono ?_
  rintro e w4 ⟨rfl, rfl⟩
  go_wp2_with fail
  refine (first_any r p _ HL.out).mono ?_
  rintro e w4 ⟨rfl, hx⟩
  have HE := Lib.hid (HE.out.trans hx)
  have HL := Lib.hid (HL.out.ext hx)
  clear hx
  go_wp2_with fail
  refine (rfirst_any r p _).mono ?_
  rintro e w5 ⟨rfl, rfl⟩
  go_wp2_with fail
  refine (all_any _ HL.out).mono ?_
  rintro e w5 ⟨rfl, hx⟩
  have HE := Lib.hid (HE.out.trans hx)
  clear hx
  go_wp2_with fail
  go_ret
  exact ⟨rfl, HE.out⟩
end Go.Proofs.YtlfdagajfhikhaaDoor
