/-
  The contracts of Text and Join, in the words 'By' (a slice that reads as bytes) and 'Ext' (nothing that was there is written).
-/
import Derived.Test.YtoapjgkfggggmaaDoorText
import Derived.Test.YtoapjgkfggggmaaDoorJBy
import Derived.Test.YtoapjgkfggggmaaDoorSC
namespace Go.Proofs.YtoapjgkfggggmaaDoor
set_option maxRecDepth 100000
open Go Go.RowKit

theorem text_by (s : ByteArray) (w : World) (hs : s.size ≤ 255) :
    Calls Tryd.prog 41 #[.string s] w fun e w' => ∃ A' c', e = .returned (.tuple #[.slice A' (s.size + 1) c', .int .i64 0]) ∧ By w' A' (s.size + 1) c' (s.size :: bl s) ∧ Ext w w' :=
  (otext_yes s w hs).mono fun _ _ ⟨A', c', h1, h2, h3⟩ => ⟨A', c', h1, Bs.of_own h2 (by
    intro b hb
    simp only [List.mem_cons] at hb
    rcases hb with rfl | hb
    · omega
    · exact bl_lt s b hb), h3⟩
theorem text_no_by (s : ByteArray) (w : World) (hs : 255 < s.size) (hm : s.size ≤ 9223372036854775807) :
    Calls Tryd.prog 41 #[.string s] w fun e w' => e = .returned (.tuple #[.slice none 0 0, .int .i64 3]) ∧ Ext w w' :=
  (otext_no s w hs hm).mono fun _ _ ⟨h, hw⟩ => ⟨h, by subst hw; exact Ext.refl _⟩
end Go.Proofs.YtoapjgkfggggmaaDoor
