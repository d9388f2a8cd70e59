/-
  The contract of the document's own copy of bytes: new memory that holds the same bytes; nothing that was there is written.
-/
import Derived.Test.YtnlappoocffcpaaDoorProg
import Derived.Test.YtnlappoocffcpaaDoorBytes
import Derived.WalkSpells
import Derived.OwnWalk
import Derived.Laws.AppendOwnNone
import Derived.Lib.Hide
namespace Go.Proofs.YtnlappoocffcpaaDoor
set_option maxRecDepth 100000
open Go Go.RowKit

theorem byte_info : (Tryd.prog.info? 5).map (fun i => (i.zero, i.size, i.bytes)) = some (some (.int .u8 0), 1, 1) := by kernel_rfl

set_option maxHeartbeats 400000 in
theorem copy_any (A : Option Addr) (l : List Nat) (n c B : Nat) (w : World) (hl : l.length = n) (hr : Rd w B A l) (hnil : A = none → c = 0) (hm : n ≤ 140737488355328) :
    Calls Tryd.prog 5 #[.slice A n c] w fun e w' => ∃ A' c', e = .returned (.slice A' n c') ∧ n ≤ c' ∧ c' ≤ 9223372036854775807 ∧ w'.ownsRow w.heap.size 5 1 (.slice A' n c') n (vb l) ∧ Below w.heap.size w w' := by
  obtain ⟨i0, hi, hz0, hz1, hz2⟩ := info_parts byte_info
  have HL := Lib.hid hl
  clear hl
  have fin : ∀ (v' : Value) (w1 : World), w1.ownsRow w.heap.size 5 1 v' n (vb l) → w.grownBy w1 none → ∃ A' c', Ending.returned v' = .returned (.slice A' n c') ∧ n ≤ c' ∧ c' ≤ 9223372036854775807 ∧ w1.ownsRow w.heap.size 5 1 (.slice A' n c') n (vb l) ∧ Below w.heap.size w w1 := by
    intro v' w1 hown hg
    obtain ⟨A', c', rfl, h1, h2⟩ := own_form hown
    exact ⟨A', c', rfl, h1, h2, hown, (Below.refl _ _).grown hg (Nat.le_refl _) (by simp)⟩
  have HFIN := Lib.hid fin
  clear fin
  rcases A with _ | ad
  · have hn0 : n = 0 := by
      rcases Nat.eq_zero_or_pos n with h | h
      · exact h
      · obtain ⟨g, o, hA, _⟩ := hr.2 (by rw [HL.out]; exact h)
        cases hA
    subst hn0
    obtain rfl := hnil rfl
    clear hnil
    have hl0 : l = [] := List.eq_nil_of_length_eq_zero HL.out
    subst hl0
    go_enter Tryd.func5, Tryd.ntmps5
    go_wp2_with (at_builtin; refine wpList_append_own_none rfl _ _ 22 rfl w.heap.size 5 i0 1 Tryd.underlying22 hi _ 0 [] rfl (World.ownsRow_nil _ _ _ _) rfl ?_)
    go_ret
    exact HFIN.out _ _ (World.ownsRow_nil _ _ _ _) (World.grownBy.refl _ _)
  · clear hnil
    go_enter Tryd.func5, Tryd.ntmps5
    go_wp2_with (at_builtin; refine wpList_append_own _ rfl _ _ 22 rfl w.heap.size 5 i0 (.int .u8 0) 1 1 Tryd.underlying22 hi hz0 hz1 hz2 rfl (by decide) _ 0 [] rfl (World.ownsRow_nil _ _ _ _) ad n c (vb l) rfl ?c1 ?c2 ?c3 ?c4 ?c5 ?c6 ?_)
    case c1 => rw [vb_length, HL.out]; omega
    case c2 =>
      intro j u hj
      rw [vb_get] at hj
      obtain ⟨x, hx, rfl⟩ := Option.map_eq_some_iff.1 hj
      have hjl : j < l.length := (List.getElem?_eq_some_iff.1 hx).1
      obtain ⟨g, o, y, hA, _, hy, _, hc⟩ := hr.at_ hjl
      injection hA with hA
      subst hA
      rw [hx] at hy
      injection hy with hy
      subst hy
      rw [Addr.add_lit, hc]
    case c3 => exact vb_one l
    case c4 => unfold maxLen; omega
    case c5 => omega
    case c6 => exact Nat.le_refl _
    intro v' w1 hown hg _
    have HO := Lib.hid hown
    have HG := Lib.hid hg
    clear hown hg
    go_wp2_with fail
    go_ret
    exact HFIN.out _ _ HO.out HG.out
end Go.Proofs.YtnlappoocffcpaaDoor
