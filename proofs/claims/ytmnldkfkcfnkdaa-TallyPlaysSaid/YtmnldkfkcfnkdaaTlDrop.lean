/-
  The contract of a tally's Drop: DeleteFunc over its map, with the closure that says which slots go, whatever the order.
-/
import Derived.Test.YtmnldkfkcfnkdaaTlUp
import Derived.Lib.SlMapFilter
import Derived.WalkKit
import Derived.Maps.Ext
import Derived.Maps.RangeWalk
import Derived.Laws.IdiomRangeMap
import Derived.Deep.LoopGhost
import Derived.Maps.AppendAt
namespace Go.Proofs.Ytmnldkfkcfnkdaa
open Go Go.RowKit Go.Maps

set_option maxHeartbeats 400000 in
theorem tdel_of (k : Int) (v i : Int) (bx : Nat) (w : World) (hx : w.cell? ⟨bx, 0, none⟩ = some (.int .i64 i)) :
    Calls Try.prog 33 #[.int .i64 k, .int .u8 v, .pointer (some ⟨bx, 0, none⟩)] w fun e w' => e = .returned (.bool (decide (k ≤ i))) ∧ w = w' := by
  go_enter Try.func33, Try.ntmps33
  go_wp2
  go_ret
  exact ⟨rfl, rfl⟩
set_option maxHeartbeats 4000000 in
set_option maxRecDepth 100000 in
theorem tdelf_of (bm bx : Nat) (i : Int) (es0 : List (Lit × DataW Value)) (w : World) (hown : w.ownsMap Try.prog 3 (plainElem Try.prog 45) bm 64 (.map es0)) (hx : w.cell? ⟨bx, 0, none⟩ = some (.int .i64 i)) (hne : bx ≠ bm) :
    Calls Try.prog 32 #[.map (some bm), .func (.func 33) #[] #[.pointer (some ⟨bx, 0, none⟩)]] w fun e w' => e = .returned (.tuple #[]) ∧ w'.ownsMap Try.prog 3 (plainElem Try.prog 45) bm 64 (.map (es0.filter fun p => !pdT i p.1 p.2)) ∧ w.grownBy w' (some bm) := by
  obtain ⟨es1, e1, hap, hkeys⟩ := hown.entries lawT
  injection e1 with e1
  subst e1
  have HCell := Lib.hid hx
  have HNe := Lib.hid hne
  have HBx := Lib.hid (World.block_lt_of_cell? w _ hx)
  clear hx hne
  go_enter Try.func32, Try.ntmps32
  go_wp2_with (first
    | (at_range; refine wpList_range_own _ rfl _ 36 rfl 3 45 lawT Try.underlying36 (plainElem Try.prog 45) bm 64 _ rfl hown ?_; intro w0 hrg0 hg0 hs0)
    | go_in)
  try go_frame
  go_loopw [8] (fun _ wr => ∃ (left : Lit → Bool) (cnt : Nat), wr.ranges Try.prog 3 (plainElem Try.prog 45) bm w.heap.size 64 (Fk (pdT i) es0 left) left cnt ∧ w.grownBy wr (some bm))
    (fun _ wr => wr.rangeLeft bm w.heap.size)
  case atStart => exact ⟨_, _, by rw [Fk_start hkeys]; exact hrg0, hg0.but _⟩
  case round =>
    obtain ⟨left, cnt, hrg, hgw⟩ := hrel
    go_wp2_with (first
      | (at_next; refine wpList_next_ranges_ii _ rfl _ rfl 3 45 .i64 .u8 lawT Try.underlying3 Try.underlying45 bm w.heap.size 64 _ _ _ rfl hrg ?_ ?_)
      | go_in)
    · intro _ hl0
      go_wp2
      go_end0
      exact ⟨rfl, by have h := hrg.owns; rw [Fk_end hl0] at h; exact h, hgw⟩
    · intro x c w1 cnt1 hwx hwc hlx hat hrg1 hlt hg1 hs1 hen
      have hgw1 := hgw.andThen hg1 (fun j hj => by cases hj; exact Or.inl (Nat.le_refl _))
      have hcell : w1.cell? ⟨bx, 0, none⟩ = some (.int .i64 i) := hgw1.cell HCell.out (fun e => HNe.out (by injection e))
      have HD := Lib.hid (tdel_of x c i bx w1 hcell)
      have HP : Hid (pdT i (.int .i64 x) (.lit (.int .u8 c)) = decide (x ≤ i)) := Lib.hid rfl
      obtain ⟨q, hq⟩ : ∃ q, decide (x ≤ i) = q := ⟨_, rfl⟩
      rw [hq] at HD HP
      clear hq hcell
      cases q with
      | false =>
        go_wp2_with (first
          | (go_at_call 33; refine HD.out.mono ?_; rintro e w2 ⟨rfl, rfl⟩)
          | go_in)
        go_roundw
        case rel => exact ⟨_, cnt1, by rw [← Fk_stays hap (kl := .int .i64 x) (keyT_is x) hlx HP.out hat]; exact hrg1, hgw1⟩
        case measure => rw [hrg1.left_eq, hrg.left_eq]; exact hlt
      | true =>
        go_wp2_with (first
          | (go_at_call 33; refine HD.out.mono ?_; rintro e w2 ⟨rfl, rfl⟩)
          | (at_delete; refine wpList_delete_ranges _ rfl _ _ 36 3 rfl 45 lawT Try.underlying36 _ bm w.heap.size 64 _ _ _ rfl hrg1 _ _ rfl (keyOf_int_mk Try.underlying3 hwx) ?_; intro w3 cnt3 hrg3 hle hturn; try go_frame)
          | go_in)
        rw [strike_twice] at hrg3
        go_roundw
        case rel => exact ⟨_, cnt3, by rw [← Fk_struck hap (kl := .int .i64 x) (keyT_is x) hlx HP.out hat]; exact hrg3, hgw1.andThen hturn.grown (fun j hj => by cases hj; exact Or.inr rfl)⟩
        case measure => rw [hrg3.left_eq, hrg.left_eq]; omega
theorem grown_modT {w w' : World} {b : Nat} (hg : w.grownBy w' (some b)) : Mod (fun k => k = b) w w' := ⟨hg.os, hg.tape, hg.output, hg.size, fun k hk hf => hg.block k hk (fun e => hf (by injection e))⟩
set_option maxRecDepth 100000 in
set_option maxHeartbeats 1600000 in
theorem tdrop_of {w : World} {h n bm : Nat} {L : List (Int × Nat)} (z : TQ w h n bm L) (i : Int) :
    Calls Try.prog 13 #[.pointer (some ⟨h, 0, none⟩), .int .i64 i] w fun e w' => e = .returned (.tuple #[]) ∧ TQ w' h n bm (dropT L i) ∧ Mod (fun k => k = bm) w w' := by
  obtain ⟨W, hW⟩ : ∃ W, w.alloc (.cells #[.int .i64 i] 3) = W := ⟨_, rfl⟩
  have hx : Ext w W := by rw [← hW]; exact (Ext.refl w).alloc _
  have z1 := z.ext hx
  have HM := Lib.hid (tmade_yes h W z1.cells.1)
  obtain ⟨c0, c1, c2⟩ := z1.cells
  have hbx : W.cell? ⟨w.heap.size, 0, none⟩ = some (.int .i64 i) := by rw [← hW, World.cell?_alloc_at _ _ _ _ (by simp)]; rfl
  obtain ⟨es, ho, hd⟩ := z1.map.own
  have HDel := Lib.hid (tdelf_of bm w.heap.size i es W ho hbx (by have := z.map.lt; omega))
  have HZ := Lib.hid z1
  have HX := Lib.hid hx
  have HD := Lib.hid hd
  clear z z1 hx ho hd
  go_enter Try.func13, Try.ntmps13
  go_upto_region 1 with (fail)
  clear hW
  go_wp2_with fail
  refine HM.out.mono ?_
  rintro e w1 ⟨rfl, rfl⟩
  go_wp2_with fail
  refine HDel.out.mono ?_
  rintro e w2 ⟨rfl, ho2, hg⟩
  have hm := grown_modT hg
  have HR := Lib.hid (And.intro (TQ.mk (heap_mod HZ.out.row hm HZ.out.ne) ⟨_, ho2, holds_drop HD.out i⟩ (HZ.out.ok.drop i) HZ.out.cnt) ((Mod.of_ext HX.out).trans hm fun _ hi => .inl hi))
  clear ho2 hg hm
  go_wp2_with fail
  go_end0
  exact ⟨rfl, HR.out⟩
end Go.Proofs.Ytmnldkfkcfnkdaa
