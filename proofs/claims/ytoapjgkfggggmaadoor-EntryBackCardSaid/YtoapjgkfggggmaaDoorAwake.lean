/-
  The contract of the statements' own first look at the chapter's examples: it answers true and writes nothing that was there.
-/
import Derived.Test.YtoapjgkfggggmaaDoorBy
import Derived.Test.YtoapjgkfggggmaaDoorLaid
import Derived.Test.YtoapjgkfggggmaaDoorRead
import Derived.Test.YtoapjgkfggggmaaDoorOBy
namespace Go.Proofs.YtoapjgkfggggmaaDoor
set_option maxRecDepth 100000
open Go Go.RowKit

theorem read_by (A : Option Addr) (l : List Nat) (n c : Nat) (a : Int) (w : World) (hL : Laid w) (hb : By w A n c l) (hm : n ≤ 9000000000000000000) :
    Calls Tryd.prog 55 #[.slice A n c, .int .i64 a] w fun e w' => e = .returned (.tuple #[.string (str (readS l a).1), .int .i64 (readS l a).2.1, .int .i64 (readS l a).2.2]) ∧ Ext w w' :=
  (oread_any A l n c _ a w hL hb.len hb.cap hb.rd hm).mono fun _ _ ⟨h, hw⟩ => ⟨h, by subst hw; exact Ext.refl _⟩
end Go.Proofs.YtoapjgkfggggmaaDoor
