/-
  The contracts of the tag functions that look a region up: find, sectors, Places, Wide; and within.
-/
import Derived.Test.YtlikhmhomkiadaaDoorProg
import Derived.Test.YtlikhmhomkiadaaDoorTSpec
import Derived.Test.YtlikhmhomkiadaaDoorMem
import Derived.WalkKit
import Derived.WalkSpells
import Derived.WalkLawsBesides
import Derived.BigQuiet
import Derived.Lib.Hide
import Derived.Outline
namespace Go.Proofs.YtlikhmhomkiadaaDoor
set_option maxRecDepth 100000
open Go Go.RowKit

/-- What the table of regions holds. -/
def LaidT (w : World) : Prop := ∀ r : Nat, r < 6 → w.cell? ⟨2, r * 2, none⟩ = some (.int .i64 (plc r)) ∧ w.cell? ⟨2, r * 2 + 1, none⟩ = some (.int .i64 (wid r))
theorem LaidT.ext {a b : World} (h : LaidT a) (k : Ext a b) : LaidT b := by
  have hlt : 2 < a.heap.size := World.block_lt_of_cell? a _ (h 0 (by omega)).1
  exact fun r hr => ⟨(Below.cell k (p := ⟨_, _, none⟩) hlt).trans (h r hr).1, (Below.cell k (p := ⟨_, _, none⟩) hlt).trans (h r hr).2⟩

theorem within_any (a n b : Int) (w : World) :
    Calls Tryd.prog 88 #[.int .i64 a, .int .i64 n, .int .i64 b] w fun e w' => e = .returned (.int .i64 (max a (min n b))) ∧ w = w' := by
  have fin : ∀ x y : Int, x = y → Ending.returned (Value.int .i64 x) = .returned (.int .i64 y) := fun x y h => by rw [h]
  go_enter Tryd.func88, Tryd.ntmps88
  go_wp2
  all_goals (go_ret; refine ⟨fin _ _ ?_, rfl⟩; omega)

theorem find_case (r : Int) (k p q : Nat) (w : World) (hr : r = k) (hk : k < 6) (hp : p = plc r) (hq : q = wid r) (h0 : w.cell? ⟨2, k * 2, none⟩ = some (.int .i64 p)) (h1 : w.cell? ⟨2, k * 2 + 1, none⟩ = some (.int .i64 q)) :
    Calls Tryd.prog 76 #[.int .i64 r] w fun e w' => e = .returned (.agg #[.int .i64 p, .int .i64 q]) ∧ Ext w w' := by
  subst hr
  have HP := Lib.hid hp
  have HQ := Lib.hid hq
  have hb := World.block_lt_of_cell? w _ h0
  have g0 := (Below.cell ((Ext.refl w).alloc (.cells #[.int .i64 0, .int .i64 0] 123)) hb).trans h0
  have g1 := (Below.cell ((Ext.refl w).alloc (.cells #[.int .i64 0, .int .i64 0] 123)) (p := ⟨2, k * 2 + 1, none⟩) hb).trans h1
  clear hb h0 h1 hp hq
  go_enter Tryd.func76, Tryd.ntmps76
  go_wp2
  exact bodyPost_ret (v := .agg #[.int .i64 p, .int .i64 q]) (by simp [results, Tryd.results76, go_sem]) rfl ⟨rfl, (Ext.refl w).alloc _⟩

set_option maxHeartbeats 800000 in
theorem find_any (r : Int) (w : World) (hL : LaidT w) :
    Calls Tryd.prog 76 #[.int .i64 r] w fun e w' => e = .returned (.agg #[.int .i64 (plc r), .int .i64 (wid r)]) ∧ Ext w w' := by
  by_cases hn : r < 0
  · have H1 := Lib.hid (plc_out (r := r) (.inl (by omega)))
    have H2 := Lib.hid (wid_out (r := r) (.inl (by omega)))
    go_enter Tryd.func76, Tryd.ntmps76
    go_wp2
    exact bodyPost_ret (v := .agg #[.int .i64 0, .int .i64 0]) (by simp [results, Tryd.results76, go_sem]) rfl ⟨by rw [H1.out, H2.out]; rfl, (Ext.refl w).alloc _⟩
  by_cases hg : 6 ≤ r
  · have H1 := Lib.hid (plc_out (r := r) (.inr (by omega)))
    have H2 := Lib.hid (wid_out (r := r) (.inr (by omega)))
    go_enter Tryd.func76, Tryd.ntmps76
    go_wp2
    exact bodyPost_ret (v := .agg #[.int .i64 0, .int .i64 0]) (by simp [results, Tryd.results76, go_sem]) rfl ⟨by rw [H1.out, H2.out]; rfl, (Ext.refl w).alloc _⟩
  obtain ⟨r, rfl⟩ := Int.eq_ofNat_of_zero_le (show 0 ≤ r by omega)
  exact find_case r r _ _ w rfl (by omega) rfl rfl (hL r (by omega)).1 (hL r (by omega)).2

theorem area_field0 (x y : Value) (w : World) : (Instr.field 123 (.agg #[x, y]) 0).run Tryd.prog w = .ok x w := by kernel_rfl
theorem area_field1 (x y : Value) (w : World) : (Instr.field 123 (.agg #[x, y]) 1).run Tryd.prog w = .ok y w := by kernel_rfl
theorem places_any (r : Int) (w : World) (hL : LaidT w) :
    Calls Tryd.prog 74 #[.int .i64 r] w fun e w' => e = .returned (.int .i64 (plc r)) ∧ Ext w w' := by
  have HL := Lib.hid hL
  have hf := area_field0
  clear hL
  go_enter Tryd.func74, Tryd.ntmps74
  go_wp2_with fail
  refine (find_any r _ HL.out).mono ?_
  rintro e w1 ⟨rfl, hx⟩
  have HX := Lib.hid hx
  clear hx
  go_wp2_with fail
  go_ret
  exact ⟨rfl, HX.out⟩
end Go.Proofs.YtlikhmhomkiadaaDoor
