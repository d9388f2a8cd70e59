/-
  The contract of the document's own shifting of a bit.
-/
import Derived.Test.YtgcjilifmcianaaDoorProg
import Derived.Test.YtgcjilifmcianaaDoorPoly
import Derived.WalkKit
import Derived.WalkSpells
import Derived.BigQuiet
import Derived.Lib.Hide
import Derived.Laws.BitsAllLaws
namespace Go.Proofs.YtgcjilifmcianaaDoor
open Go Go.RowKit

theorem in_any (r b : Nat) (w : World) (hr : r < 4294967296) (hb : b < 2) :
    Calls Tryd.prog 55 #[.int .u32 r, .int .u32 b] w fun e w' => e = .returned (.int .u32 ((stp (r ^^^ b) : Nat) : Int)) ∧ w = w' := by
  by_cases h : r % 2 = b
  · have HS := Lib.hid (in_no hb h)
    have ht : (((r : Int) % 2) != (b : Int)) = false := by simp; omega
    clear h
    go_enter Tryd.func55, Tryd.ntmps55
    go_wp2_with fail
    go_ret
    exact ⟨by rw [HS.out]; rfl, rfl⟩
  · have HS := Lib.hid (in_yes hb h)
    have ht : (((r : Int) % 2) != (b : Int)) = true := by simp; omega
    have hx : bits .xor .u32 ((r : Int) / 2) 2197175160 = ((r / 2 ^^^ 2197175160 : Nat) : Int) := u32_xor_nat (r / 2) 2197175160 (by omega) (by omega)
    clear h
    go_enter Tryd.func55, Tryd.ntmps55
    go_wp2_with fail
    go_ret
    exact ⟨by rw [HS.out]; rfl, rfl⟩
end Go.Proofs.YtgcjilifmcianaaDoor
