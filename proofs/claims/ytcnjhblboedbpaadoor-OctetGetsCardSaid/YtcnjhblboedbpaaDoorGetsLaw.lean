/-
  The walk of the statement on Get and Read: at any place of any bytes both answers are the same, and nothing that was there is written.
-/
import Derived.Test.YtcnjhblboedbpaaDoorLaid
import Derived.Test.YtcnjhblboedbpaaDoorRead
import Derived.Test.YtcnjhblboedbpaaDoorCopy
import Derived.Test.YtcnjhblboedbpaaDoorSame
import Derived.Test.YtcnjhblboedbpaaDoorOpen
namespace Go.Proofs.YtcnjhblboedbpaaDoor
open Go Go.RowKit

set_option maxHeartbeats 1000000 in
theorem gets_walk (A : Option Addr) (l : List Nat) (n c : Nat) (a x : Int) (w : World) (hL : Laid w) (hb : Bs w w.heap.size A n c l) :
    Calls Tryd.prog 4 #[.slice A n c, .int .i64 a, .int .i64 x] w fun e w' => e = .returned (.bool true) ∧ Below w.heap.size w w' := by
  have HL := Lib.hid hL
  have HB := Lib.hid hb
  have hc0 : n ≤ c := hb.cap
  have hc1 : c ≤ 9223372036854775807 := hb.most
  clear hL hb
  by_cases hbig : 1000 < n
  · go_enter Tryd.func4, Tryd.ntmps4
    go_wp2_with fail
    go_ret
    exact ⟨rfl, Below.refl _ _⟩
  · go_enter Tryd.func4, Tryd.ntmps4
    go_wp2_with fail
    refine (copy_any A l n c _ _ HB.out.len HB.out.rd HB.out.nil_ (by omega)).mono ?_
    rintro e w1 ⟨A', c', rfl, h1, h2, hown, hbel⟩
    have HBm := Lib.hid (Bs.of_own hown HB.out.rd.lt)
    have HBa := Lib.hid (HB.out.below hbel)
    have HL1 := Lib.hid (HL.out.below hbel)
    have HBel := Lib.hid hbel
    clear hown hbel
    go_wp2_with fail
    refine (oget_any _ _ _ _ _ _ _ _ HL1.out HBm.out.len HBm.out.rd (by omega)).mono ?_
    rintro e w2 ⟨rfl, rfl⟩
    go_wp2_with fail
    refine (rget_any _ _ _ _ _ _ _ _ HBa.out.len HBa.out.rd (by omega)).mono ?_
    rintro e w2 ⟨rfl, rfl⟩
    generalize getS l a x = r
    go_wp2_with fail
    refine (oread_any _ _ _ _ _ _ _ HL1.out HBm.out.len h1 HBm.out.rd (by omega)).mono ?_
    rintro e w2 ⟨rfl, rfl⟩
    go_wp2_with fail
    refine (rread_any _ _ _ _ _ _ _ HBa.out.len hc0 HBa.out.rd (by omega)).mono ?_
    rintro e w2 ⟨rfl, rfl⟩
    generalize readS l a = q
    go_wp2_with fail
    refine (same_any _ _ _ _ _ _ _ _ _ _ HBm.out.len HBa.out.len HBm.out.rd (HBa.out.rd.more HBel.out.size) (by unfold maxLen; omega)).mono ?_
    rintro e w2 ⟨rfl, k, rfl⟩
    go_wp2_with fail
    go_ret
    exact ⟨by simp, below_drewN HBel.out k⟩

theorem octetGets_law (A : Option Addr) (n c : Nat) (l : List Nat) (a x : Int) (w : World) (hb : Bs w w.heap.size A n c l) (_ : (Lit.int .i64 a).wf = true) (_ : (Lit.int .i64 x).wf = true) (hL : Laid w) :
    Calls Tryd.prog 4 #[.slice A n c, .int .i64 a, .int .i64 x] w fun e w' => e = .returned (.bool true) ∧ Below w.heap.size w w' := gets_walk A l n c a x w hL hb
end Go.Proofs.YtcnjhblboedbpaaDoor
