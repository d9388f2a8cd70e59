/-
  The contract of the document's own Mine.
  The contract of hurtSectors, as an iterator: those that are hurt come in order.
  The contracts of slices.Collect over the iterator of hurt sectors, and of Hurt.
-/
import Derived.Test.YtlikhmhomkiadaaGreatDoorQ09
import Derived.Test.YtlikhmhomkiadaaGreatDoorQ23
import Derived.Test.YtlikhmhomkiadaaGreatDoorQ35
import Derived.RangeFuncNested
import Derived.RangeFuncBound
import Derived.RangeFuncCalls
import Derived.RangeFuncLeaves
import Derived.Shelf.Abstract
import Derived.Shelf.RegionOpen
import Derived.WalkKit
import Derived.OwnWalkIn
import Derived.TacticsInMore
import Derived.LoopNIn
import Derived.LoopIn
import Derived.RangeFuncBox
import Derived.Maps.AppendAt
namespace Go.Proofs.YtlikhmhomkiadaaGreatDoor
set_option maxRecDepth 100000
open Go Go.RowKit

set_option maxRecDepth 100000 in
set_option maxHeartbeats 6400000 in
theorem rmine_any (A : Option Addr) (n cp : Nat) (l : List Nat) (x y z : Int) (w : World) (hb : By w A n cp l) :
    Calls Tryz.prog 55 #[.slice A n cp, .int .i64 x, .int .i64 y, .int .i64 z] w fun r w' => ∃ A' N c', r = .returned (.tuple #[.int .u8 (stM l x y z), .agg #[.int .i64 (mfl l x y z 0), .int .i64 (mfl l x y z 1), .int .i64 (mfl l x y z 2), .int .i64 (mfl l x y z 3), .int .i64 (mfl l x y z 4)], .slice A' N c']) ∧ By w' A' N c' (mbl l x y z) ∧ (∀ g o, A' = some ⟨g, o, none⟩ → 0 < N → w.heap.size ≤ g) ∧ Ext w w' := by
  have hz := heap_alloc_new w (.cells #[.int .i64 0, .int .i64 0, .int .i64 0, .int .i64 0, .int .i64 0] 33)
  have hE := (Ext.refl w).alloc (.cells #[.int .i64 0, .int .i64 0, .int .i64 0, .int .i64 0, .int .i64 0] 33)
  have HB := Lib.hid hb
  have HE := Lib.hid hE
  have HZ := Lib.hid hz
  clear hb hE hz
  go_enter Tryz.func55, Tryz.ntmps55
  go_wp2_with fail
  refine (ropen_any A n cp l _ (HB.out.ext HE.out)).mono ?_
  rintro r w1 ⟨A1, N, c', rfl, hb1, hge, hx⟩
  have hxa := hx.alloc (.cells #[.int .i64 (ofl l 0), .int .i64 (ofl l 1), .int .i64 (ofl l 2), .int .i64 (ofl l 3), .int .i64 (ofl l 4)] 33)
  have hz1 := (hxa.block _ (Array.getElem?_eq_some_iff.1 HZ.out).1).trans HZ.out
  have hlt1 := (Array.getElem?_eq_some_iff.1 HZ.out).1
  have hsz1 := Ext.size hx
  have hr1 := heap_alloc_new w1 (.cells #[.int .i64 (ofl l 0), .int .i64 (ofl l 1), .int .i64 (ofl l 2), .int .i64 (ofl l 3), .int .i64 (ofl l 4)] 33)
  have HNE : Hid (∀ g o, A1 = some ⟨g, o, none⟩ → 0 < N → w.heap.size ≠ g) := Lib.hid fun g o hA hN => by
    have h1 := hge g o hA hN
    simp at h1
    omega
  have HGE : Hid (∀ g o, A1 = some ⟨g, o, none⟩ → 0 < N → w.heap.size ≤ g) := Lib.hid fun g o hA hN => Nat.le_trans (by simp) (hge g o hA hN)
  have HB1 := Lib.hid (hb1.ext ((Ext.refl w1).alloc (.cells #[.int .i64 (ofl l 0), .int .i64 (ofl l 1), .int .i64 (ofl l 2), .int .i64 (ofl l 3), .int .i64 (ofl l 4)] 33)))
  have HE := Lib.hid (HE.out.trans hxa)
  have HZ := Lib.hid hz1
  have hne : w.heap.size ≠ w1.heap.size := by omega
  obtain ⟨⟨c0, c1, c2, c3, c4⟩, f0, f1, f2, f3, f4⟩ := five_cells hz1
  obtain ⟨⟨d0, d1, d2, d3, d4⟩, _⟩ := five_cells hr1
  clear hx hxa hz1 hr1 hb1 hge hlt1 hsz1
  by_cases hg : goodB l = true
  · have HST : Hid (stN l = 1) := Lib.hid (stN_good hg)
    rw [HST.out]
    by_cases hm : mineB l x y z = true
    · obtain ⟨e1, e2, e3⟩ := mine_yes hg hm
      have HR : Hid (stM l x y z = 1 ∧ (∀ k, mfl l x y z k = ofl l k) ∧ mbl l x y z = obl l) := Lib.hid ⟨e1, e2, e3⟩
      obtain ⟨rfl, rfl, rfl⟩ := (mineB_iff hg).1 hm
      clear e1 e2 e3 hg hm
      go_wp2_with fail
      generalize hW : (w1.alloc (.cells #[.int .i64 (ofl l 0), .int .i64 (ofl l 1), .int .i64 (ofl l 2), .int .i64 (ofl l 3), .int .i64 (ofl l 4)] 33)) = W at *
      generalize hh2 : w1.heap.size = h2 at *
      generalize hh0 : w.heap.size = h0 at *
      have HN0 := Lib.hid hh0
      clear hh0 hh2 hW
      go_region_held3 (fun w' => w'.cell? ⟨h2, 0, none⟩ = some (.int .i64 (ofl l 0)) ∧ w'.cell? ⟨h2, 1, none⟩ = some (.int .i64 (ofl l 1)) ∧ w'.cell? ⟨h2, 2, none⟩ = some (.int .i64 (ofl l 2)) ∧ w'.cell? ⟨h2, 3, none⟩ = some (.int .i64 (ofl l 3)) ∧ w'.cell? ⟨h2, 4, none⟩ = some (.int .i64 (ofl l 4)))
        (first | with_reducible exact ⟨d0, d1, d2, d3, d4⟩ | with_reducible exact ⟨five_far_drew hne d0 _ _ _ _ _, five_far_drew hne d1 _ _ _ _ _, five_far_drew hne d2 _ _ _ _ _, five_far_drew hne d3 _ _ _ _ _, five_far_drew hne d4 _ _ _ _ _⟩ | go_keep)
        (first | (go_at_call 0; fail))
      have hrow := five_row HZ.out (.int .i64 (ofl l 0)) (.int .i64 (ofl l 1)) (.int .i64 (ofl l 2)) (.int .i64 (ofl l 3)) (.int .i64 (ofl l 4))
      have hx := five_ext HE.out (g := h0) (Nat.le_of_eq HN0.out) (.int .i64 (ofl l 0)) (.int .i64 (ofl l 1)) (.int .i64 (ofl l 2)) (.int .i64 (ofl l 3)) (.int .i64 (ofl l 4))
      have hby := HB1.out.five HNE.out (.int .i64 (ofl l 0)) (.int .i64 (ofl l 1)) (.int .i64 (ofl l 2)) (.int .i64 (ofl l 3)) (.int .i64 (ofl l 4))
      clear c0 c1 c2 c3 c4 f0 f1 f2 f3 f4 d0 d1 d2 d3 d4
      generalize (((((W.setCell ⟨h0, 0, none⟩ (.int .i64 (ofl l 0))).setCell ⟨h0, 1, none⟩ (.int .i64 (ofl l 1))).setCell ⟨h0, 2, none⟩ (.int .i64 (ofl l 2))).setCell ⟨h0, 3, none⟩ (.int .i64 (ofl l 3))).setCell ⟨h0, 4, none⟩ (.int .i64 (ofl l 4))) = V at hrow hx hby ⊢
      obtain ⟨⟨e0, e1, e2, e3, e4⟩, _⟩ := five_cells hrow
      have HB1 := Lib.hid (hby.ext ((Ext.refl V).drew))
      have HX := Lib.hid hx.drew
      clear hrow hx hby
      go_wp2_with fail
      refine bodyPost_ret (v := .tuple #[.int .u8 1, .agg #[.int .i64 (ofl l 0), .int .i64 (ofl l 1), .int .i64 (ofl l 2), .int .i64 (ofl l 3), .int .i64 (ofl l 4)], .slice A1 N c']) ?_ rfl ?_
      · simp [results, Tryz.results55, go_sem, e0, e1, e2, e3, e4]
      · exact ⟨A1, N, c', by rw [HR.out.1, HR.out.2.1, HR.out.2.1, HR.out.2.1, HR.out.2.1, HR.out.2.1]; rfl, by rw [HR.out.2.2]; exact HB1.out, by rw [HN0.out]; exact HGE.out, HX.out⟩
    · have hm' : mineB l x y z = false := by simpa using hm
      obtain ⟨e1, e2, e3⟩ := mine_no hg hm'
      have HR : Hid (stM l x y z = 2 ∧ (∀ k, mfl l x y z k = 0) ∧ mbl l x y z = []) := Lib.hid ⟨e1, e2, e3⟩
      rw [mineB_iff hg] at hm
      clear e1 e2 e3 hm'
      have hx0 := Lib.hid hm
      by_cases h0' : (ofl l 0 : Int) = x
      · by_cases h1 : (ofl l 1 : Int) = y
        · have h2' : ¬ (ofl l 2 : Int) = z := fun h => hm ⟨h0', h1, h⟩
          subst h0'; subst h1
          have g2 : ((ofl l 2 : Int) != z) = true := by simpa using h2'
          clear hm hg h2' hx0
          go_wp2_with fail
          refine bodyPost_ret (v := .tuple #[.int .u8 2, .agg #[.int .i64 0, .int .i64 0, .int .i64 0, .int .i64 0, .int .i64 0], .slice none 0 0]) ?_ rfl ?_
          · simp [results, Tryz.results55, go_sem, c0, c1, c2, c3, c4]
          · exact ⟨none, 0, 0, by rw [HR.out.1, HR.out.2.1, HR.out.2.1, HR.out.2.1, HR.out.2.1, HR.out.2.1]; rfl, by rw [HR.out.2.2]; exact By.nil_ _, fun g o hA hN => absurd hN (by omega), five_ext HE.out (Nat.le_refl _) _ _ _ _ _⟩
        · subst h0'
          have g1 : ((ofl l 1 : Int) != y) = true := by simpa using h1
          clear hm hg h1 hx0
          go_wp2_with fail
          refine bodyPost_ret (v := .tuple #[.int .u8 2, .agg #[.int .i64 0, .int .i64 0, .int .i64 0, .int .i64 0, .int .i64 0], .slice none 0 0]) ?_ rfl ?_
          · simp [results, Tryz.results55, go_sem, c0, c1, c2, c3, c4]
          · exact ⟨none, 0, 0, by rw [HR.out.1, HR.out.2.1, HR.out.2.1, HR.out.2.1, HR.out.2.1, HR.out.2.1]; rfl, by rw [HR.out.2.2]; exact By.nil_ _, fun g o hA hN => absurd hN (by omega), five_ext HE.out (Nat.le_refl _) _ _ _ _ _⟩
      · have g0 : ((ofl l 0 : Int) != x) = true := by simpa using h0'
        clear hm hg h0' hx0
        go_wp2_with fail
        refine bodyPost_ret (v := .tuple #[.int .u8 2, .agg #[.int .i64 0, .int .i64 0, .int .i64 0, .int .i64 0, .int .i64 0], .slice none 0 0]) ?_ rfl ?_
        · simp [results, Tryz.results55, go_sem, c0, c1, c2, c3, c4]
        · exact ⟨none, 0, 0, by rw [HR.out.1, HR.out.2.1, HR.out.2.1, HR.out.2.1, HR.out.2.1, HR.out.2.1]; rfl, by rw [HR.out.2.2]; exact By.nil_ _, fun g o hA hN => absurd hN (by omega), five_ext HE.out (Nat.le_refl _) _ _ _ _ _⟩
  · have hg' : goodB l = false := by simpa using hg
    obtain ⟨e1, e2, e3⟩ := mine_bad (x := x) (y := y) (z := z) hg'
    have HR : Hid (stM l x y z = stN l ∧ (∀ k, mfl l x y z k = ofl l k) ∧ mbl l x y z = obl l) := Lib.hid ⟨e1, e2, e3⟩
    have hst : ¬ stN l = 1 := fun h => hg (stN_one.1 h)
    have g0 : ((stN l : Int) == 1) = false := by simp; omega
    clear e1 e2 e3 hg hg' hst
    generalize stN l = st at *
    go_wp2_with fail
    generalize hW : (w1.alloc (.cells #[.int .i64 (ofl l 0), .int .i64 (ofl l 1), .int .i64 (ofl l 2), .int .i64 (ofl l 3), .int .i64 (ofl l 4)] 33)) = W at *
    generalize hh2 : w1.heap.size = h2 at *
    generalize hh0 : w.heap.size = h0 at *
    have HN0 := Lib.hid hh0
    clear hh0 hh2 hW
    go_region_held3 (fun w' => w'.cell? ⟨h2, 0, none⟩ = some (.int .i64 (ofl l 0)) ∧ w'.cell? ⟨h2, 1, none⟩ = some (.int .i64 (ofl l 1)) ∧ w'.cell? ⟨h2, 2, none⟩ = some (.int .i64 (ofl l 2)) ∧ w'.cell? ⟨h2, 3, none⟩ = some (.int .i64 (ofl l 3)) ∧ w'.cell? ⟨h2, 4, none⟩ = some (.int .i64 (ofl l 4)))
      (first | with_reducible exact ⟨d0, d1, d2, d3, d4⟩ | with_reducible exact ⟨five_far_drew hne d0 _ _ _ _ _, five_far_drew hne d1 _ _ _ _ _, five_far_drew hne d2 _ _ _ _ _, five_far_drew hne d3 _ _ _ _ _, five_far_drew hne d4 _ _ _ _ _⟩ | go_keep)
      (first | (go_at_call 0; fail))
    have hrow := five_row HZ.out (.int .i64 (ofl l 0)) (.int .i64 (ofl l 1)) (.int .i64 (ofl l 2)) (.int .i64 (ofl l 3)) (.int .i64 (ofl l 4))
    have hx := five_ext HE.out (g := h0) (Nat.le_of_eq HN0.out) (.int .i64 (ofl l 0)) (.int .i64 (ofl l 1)) (.int .i64 (ofl l 2)) (.int .i64 (ofl l 3)) (.int .i64 (ofl l 4))
    have hby := HB1.out.five HNE.out (.int .i64 (ofl l 0)) (.int .i64 (ofl l 1)) (.int .i64 (ofl l 2)) (.int .i64 (ofl l 3)) (.int .i64 (ofl l 4))
    clear c0 c1 c2 c3 c4 f0 f1 f2 f3 f4 d0 d1 d2 d3 d4
    generalize (((((W.setCell ⟨h0, 0, none⟩ (.int .i64 (ofl l 0))).setCell ⟨h0, 1, none⟩ (.int .i64 (ofl l 1))).setCell ⟨h0, 2, none⟩ (.int .i64 (ofl l 2))).setCell ⟨h0, 3, none⟩ (.int .i64 (ofl l 3))).setCell ⟨h0, 4, none⟩ (.int .i64 (ofl l 4))) = V at hrow hx hby ⊢
    obtain ⟨⟨e0, e1, e2, e3, e4⟩, _⟩ := five_cells hrow
    have HB1 := Lib.hid (hby.ext ((Ext.refl V).drew))
    have HX := Lib.hid hx.drew
    clear hrow hx hby
    go_wp2_with fail
    refine bodyPost_ret (v := .tuple #[.int .u8 st, .agg #[.int .i64 (ofl l 0), .int .i64 (ofl l 1), .int .i64 (ofl l 2), .int .i64 (ofl l 3), .int .i64 (ofl l 4)], .slice A1 N c']) ?_ rfl ?_
    · simp [results, Tryz.results55, go_sem, e0, e1, e2, e3, e4]
    · exact ⟨A1, N, c', by rw [HR.out.1, HR.out.2.1, HR.out.2.1, HR.out.2.1, HR.out.2.1, HR.out.2.1], by rw [HR.out.2.2]; exact HB1.out, by rw [HN0.out]; exact HGE.out, HX.out⟩
end Go.Proofs.YtlikhmhomkiadaaGreatDoor

namespace Go.Proofs.YtlikhmhomkiadaaGreatDoor
set_option maxRecDepth 100000
open Go Go.RowKit Go.Shelf
attribute [local go_sem] Oper.semAt_some

/-- A sector among k from a on. -/
abbrev SecIn (a : Int) (k : Nat) := { x : Int // a ≤ x ∧ x < a + k }
def encS (a : Int) (k : Nat) (x : SecIn a k) : Array Value := #[.int .i64 x.1]
theorem grown_of_ext {w w' : World} (h : Ext w w') : w.grownBy w' none := ⟨h.os, h.tape, h.output, h.size, fun k hk _ => h.block k hk⟩
theorem mod_cell {G : Nat → Prop} {w w' : World} (k : Mod G w w') {g i : Nat} {v : Value} (hg : ¬ G g) (h : w.cell? ⟨g, i, none⟩ = some v) : w'.cell? ⟨g, i, none⟩ = some v :=
  (World.cell?_of_block (a := ⟨g, i, none⟩) (k.block g (World.block_lt_of_cell? w _ h) hg)).trans h
theorem ext_of_cell {w w' : World} {g i : Nat} {v : Value} (h : Ext w w') (hc : w.cell? ⟨g, i, none⟩ = some v) : w'.cell? ⟨g, i, none⟩ = some v := (Below.cell h (p := ⟨g, i, none⟩) (World.block_lt_of_cell? w _ hc)).trans hc
theorem mod_put {G : Nat → Prop} {w W : World} (l : Nat) (o o' : Obj) (hG : ∀ k, w.heap.size ≤ k → G k) (hl : w.heap.size ≤ l) (_ : W.heap[l]? = some o) : Mod G W (W.putObj l o') :=
  (Mod.refl G W).grown (grownBy_putObj' W l o') (fun k e => by cases e; exact .inl (hG l hl))
theorem own_mod_from {β : Type} {G : Nat → Prop} {B : Nat} {w : World} (hG : ∀ k, B ≤ k → G k) : OwnFrom B (fun (_ : β) W => Mod G w W) :=
  fun _ _ _ _ hs hg hr => hs.grown hg (fun k e => .inl (hG k (hr k e).1))

/-- What the iterator stands on: that the sectors' answers abide where the blocks of G alone are written. -/
def HurtsOn (G : Nat → Prop) (W0 : World) (p : Option Addr) (a : Int) (k : Nat) (h : Int → Bool) : Prop :=
  ∀ x : Int, a ≤ x → x < a + k → ∀ W, Mod G W0 W → Calls Tryz.prog 112 #[.pointer p, .int .i64 x] W fun e W' => e = .returned (.bool (h x)) ∧ Ext W W'
theorem HurtsOn.of {G : Nat → Prop} {W0 : World} {d : Nat} {F : Nat → Prop} {m : DM} (hd : PDisk W0 d F m) (hG : ∀ i, F i → ¬ G i) (a : Int) (k : Nat) : HurtsOn G W0 (some ⟨d, 0, none⟩) a k m.hurt :=
  fun x _ _ _ hm => isHurt_of (hd.mod hm hG) x
theorem HurtsOn.none (G : Nat → Prop) (W0 : World) (p : Option Addr) (a : Int) (h : Int → Bool) : HurtsOn G W0 p a 0 h := fun x h1 h2 => by omega

set_option maxHeartbeats 600000 in
theorem sectors_in (p : Option Addr) (a : Int) (k : Nat) (w : World) :
    Calls Tryz.prog 46 #[.pointer p, .int .i64 a, .int .i64 (k : Int)] w fun e w' => e = .returned (.func (.func 111) #[] #[.pointer (some ⟨w.heap.size + 1, 0, none⟩), .pointer (some ⟨w.heap.size + 1 + 1, 0, none⟩), .pointer (some ⟨w.heap.size, 0, none⟩)]) ∧
      w' = ((w.alloc (.cells #[.pointer p] 24)).alloc (.cells #[.int .i64 a] 3)).alloc (.cells #[.int .i64 (k : Int)] 3) := by
  go_enter Tryz.func46, Tryz.ntmps46
  go_wp2
  go_ret
  exact ⟨rfl, rfl⟩

set_option maxRecDepth 100000 in
set_option maxHeartbeats 1600000 in
theorem hurt1_in (n : Nat) (hn : 1 ≤ n) (l Bf Bs Bd : Nat) (G : Nat → Prop) (p : Option Addr) (a : Int) (k : Nat) (ha : 0 ≤ a ∧ a ≤ 2000) (hk : k ≤ 2000) (h : Int → Bool) (J Jx : List (SecIn a k) → World → Prop) (W0 V : World) (hV : Mod G W0 V)
    (hAb : ∀ s W W', J s W → Ext W W' → J s W') (hI : HurtsOn G W0 p a k h) (hGf : ¬ G Bf ∧ ¬ G Bs ∧ ¬ G Bd)
    (hf : V.cell? ⟨Bf, 0, none⟩ = some (.int .i64 a)) (hs : V.cell? ⟨Bs, 0, none⟩ = some (.int .i64 (k : Int))) (hd : V.cell? ⟨Bd, 0, none⟩ = some (.pointer p))
    (hY : ∀ pre x W, J pre W → pre.length < k → YieldAt Fence.wide (n - 1) Tryz.prog l (encS a k x) W fun e W' =>
      (e = .returned (.bool true) ∧ J (pre ++ [x]) W' ∧ Mod G W W') ∨ (e = .returned (.bool false) ∧ Jx (pre ++ [x]) W')) (h0 : J [] V) :
    CallsIn Fence.wide n Tryz.prog 111 #[.func (.yield l) #[] #[], .pointer (some ⟨Bf, 0, none⟩), .pointer (some ⟨Bs, 0, none⟩), .pointer (some ⟨Bd, 0, none⟩)] V fun e W' => (∃ v, e = .returned v) ∧
      ((∃ ys : List (SecIn a k), ys.map (fun x => x.1) = hurtsIn h a k ∧ J ys W') ∨ (∃ pre : List (SecIn a k), pre.map (fun x => x.1) <+: hurtsIn h a k ∧ Jx pre W')) := by
  have HI := Lib.hid hI
  have HG := Lib.hid hGf
  have HF := Lib.hid hf
  have HS := Lib.hid hs
  have HD := Lib.hid hd
  have HAB := Lib.hid hAb
  have HV := Lib.hid hV
  obtain ⟨ha0, ha1⟩ := ha
  clear hI hGf hs hd hAb hV
  refine callsIn_of_wp Tryz.func111 rfl trivial ?_ rfl
  simp only [Tryz.ntmps111, List.size_toArray, List.length_cons, List.length_nil, Nat.reduceAdd, Nat.reduceSub, Array.replicate_succ, Array.replicate_zero, List.push_toArray, List.append_toArray, List.nil_append, List.cons_append]
  gi_wp2
  gi_loopw [5] (fun i wr => ∃ (j : Nat) (pre : List (SecIn a k)), j ≤ k ∧ i = .int .i64 (a + (j : Int)) ∧ Hid (pre.map (fun x => x.1) = hurtsIn h a j) ∧ Hid (pre.length ≤ j) ∧ Hid (J pre wr) ∧ Hid (Mod G V wr)) (fun i _ => (a + (k : Int) - intOf i).toNat)
  case atStart => exact ⟨0, [], Nat.zero_le _, by rw [Int.natCast_zero, Int.add_zero], Lib.hid rfl, Lib.hid (Nat.le_refl _), Lib.hid h0, Lib.hid (Mod.refl _ _)⟩
  case round =>
    obtain ⟨j, pre, hj, rfl, HP, HLE, HJ, HM⟩ := hrel
    have cf := mod_cell HM.out HG.out.1 HF.out
    have cs := mod_cell HM.out HG.out.2.1 HS.out
    have cd := mod_cell HM.out HG.out.2.2 HD.out
    clear hf
    by_cases hlt : j < k
    · have hlt2 : a + (j : Int) < a + (k : Int) := by omega
      have hc := HI.out (a + (j : Int)) (by omega) hlt2 wr (HV.out.trans HM.out fun _ hi => .inl hi)
      have hsucc := hurtsIn_succ h a j
      cases hh : h (a + (j : Int)) with
      | true =>
        rw [hh] at hc
        rw [if_pos hh] at hsucc
        have hc2 : Calls Tryz.prog 112 #[.pointer p, .int .i64 (a + (j : Int))] wr fun e W' => e = .returned (.bool true) ∧ (∃ fn tmps assign body, (Instr.yield l #[.int .i64 (a + (j : Int))]).run Tryz.prog W' = .ok (.round l fn tmps assign body) W' ∧ Hid (RoundIn Fence.wide (n - 1) Tryz.prog l fn tmps assign body W' fun e W' => (e = .returned (.bool true) ∧ Hid (J (pre ++ [⟨a + (j : Int), by omega, hlt2⟩]) W') ∧ Hid (Mod G V W')) ∨ (e = .returned (.bool false) ∧ Hid (Jx (pre ++ [⟨a + (j : Int), by omega, hlt2⟩]) W'))) ) :=
          hc.mono fun e W' ⟨he, hx⟩ => by
            obtain ⟨fn, tmps, assign, body, hy, hR⟩ := hY pre ⟨a + (j : Int), by omega, hlt2⟩ W' (HAB.out _ _ _ HJ.out hx) (Nat.lt_of_le_of_lt HLE.out hlt)
            exact ⟨he, fn, tmps, assign, body, hy, Lib.hid (hR.mono fun e W3 hh => hh.imp (fun ⟨a1, a2, a3⟩ => ⟨a1, Lib.hid a2, Lib.hid ((HM.out.ext hx).trans a3 fun _ hi => .inl hi)⟩) (fun ⟨a1, a2⟩ => ⟨a1, Lib.hid a2⟩))⟩
        have HC := Lib.hid hc2
        have HSU := Lib.hid hsucc
        clear hc hc2 hsucc hh
        gi_wp2_with (refine ⟨trivial, ?_⟩; gi_at_call 112; refine (callsIn_wide.2 HC.out).mono ?_; rintro e W3 ⟨rfl, fn, tmps, assign, body, hy, HR⟩)
        refine HR.out.mono ?_
        rintro e W4 (⟨rfl, HJ4, HM4⟩ | ⟨rfl, HJ4⟩)
        · gi_wp2
          go_roundw
          case rel => exact ⟨j + 1, _, by omega, by go_num, Lib.hid (by rw [List.map_append, HP.out, HSU.out]; rfl), Lib.hid (by have := HLE.out; simp; omega), HJ4, HM4⟩
          case measure => simp [intOf]; omega
        · gi_wp2
          refine bodyPost_ret (results_none rfl _ _ _) rfl ?_
          refine ⟨⟨_, rfl⟩, .inr ⟨_, ?_, HJ4.out⟩⟩
          rw [List.map_append, HP.out, List.map_cons, List.map_nil, ← HSU.out]
          have : ∀ q, hurtsIn h a (j + 1) <+: hurtsIn h a (j + 1 + q) := fun q => by
            induction q with
            | zero => exact List.prefix_refl _
            | succ q ih =>
              refine ih.trans ?_
              rw [show j + 1 + (q + 1) = (j + 1 + q) + 1 by omega, hurtsIn_succ h a (j + 1 + q)]
              split
              · exact List.prefix_append _ _
              · exact List.prefix_refl _
          have h2 := this (k - (j + 1))
          rwa [show j + 1 + (k - (j + 1)) = k by omega] at h2
      | false =>
        rw [hh] at hc
        rw [if_neg (by rw [hh]; simp)] at hsucc
        have hc2 : Calls Tryz.prog 112 #[.pointer p, .int .i64 (a + (j : Int))] wr fun e W' => e = .returned (.bool false) ∧ Hid (J pre W') ∧ Hid (Mod G V W') :=
          hc.mono fun e W' ⟨he, hx⟩ => ⟨he, Lib.hid (HAB.out _ _ _ HJ.out hx), Lib.hid (HM.out.ext hx)⟩
        have HC := Lib.hid hc2
        have HSU := Lib.hid hsucc
        clear hc hc2 hsucc hh
        gi_wp2_with (refine ⟨trivial, ?_⟩; gi_at_call 112; refine (callsIn_wide.2 HC.out).mono ?_; rintro e W3 ⟨rfl, HJ3, HM3⟩)
        refine ⟨fun _ h => (by cases h), ?_⟩
        gi_wp2
        go_roundw
        case rel => exact ⟨j + 1, pre, by omega, by go_num, Lib.hid (by rw [HP.out, HSU.out]), Lib.hid (by have := HLE.out; omega), HJ3, HM3⟩
        case measure => simp [intOf]; omega
    · obtain rfl : j = k := by omega
      gi_wp2
      go_end0
      exact ⟨⟨_, rfl⟩, .inl ⟨pre, HP.out, HJ.out⟩⟩

theorem hurt_stops (n : Nat) (hn : 1 ≤ n) (Bf Bs Bd : Nat) (G : Nat → Prop) (p : Option Addr) (a : Int) (k : Nat) (ha : 0 ≤ a ∧ a ≤ 2000) (hk : k ≤ 2000) (h : Int → Bool) (W0 : World) (hI : HurtsOn G W0 p a k h) (hGf : ¬ G Bf ∧ ¬ G Bs ∧ ¬ G Bd)
    (hf : W0.cell? ⟨Bf, 0, none⟩ = some (.int .i64 a)) (hs : W0.cell? ⟨Bs, 0, none⟩ = some (.int .i64 (k : Int))) (hd : W0.cell? ⟨Bd, 0, none⟩ = some (.pointer p)) :
    SeqStopsK Fence.wide n Tryz.prog 111 #[.pointer (some ⟨Bf, 0, none⟩), .pointer (some ⟨Bs, 0, none⟩), .pointer (some ⟨Bd, 0, none⟩)] (encS a k) (Mod G)
      (fun ys => ys.map (fun x => x.1) = hurtsIn h a k) (fun pre => pre.map (fun x => x.1) <+: hurtsIn h a k) k W0 := fun l J Jx V hV hJ _ hY h0 => by
  have hx : Ext W0 V := hV
  have hm : Mod G W0 V := Mod.of_ext hx
  exact hurt1_in n hn l Bf Bs Bd G p a k ha hk h J Jx W0 V hm (fun s W W' hs hx => hJ s W W' none hs (grown_of_ext hx) (fun r e => by cases e)) hI hGf (mod_cell hm hGf.1 hf) (mod_cell hm hGf.2.1 hs) (mod_cell hm hGf.2.2 hd) hY h0
end Go.Proofs.YtlikhmhomkiadaaGreatDoor

namespace Go.Proofs.YtlikhmhomkiadaaGreatDoor
set_option maxRecDepth 100000
open Go Go.RowKit Go.Shelf
attribute [local go_sem] Oper.semAt_some

theorem mod_of_below {n : Nat} {W W' : World} (h : Below n W W') : Mod (fun k => n ≤ k) W W' := ⟨h.os, h.tape, h.output, Below.size h, fun k _ hg => h.block k (by omega)⟩
theorem int_info : (Tryz.prog.info? 3).map (fun i => (i.zero, i.size, i.bytes)) = some (some (.int .i64 0), 1, 8) := by kernel_rfl

set_option maxRecDepth 100000 in
set_option maxHeartbeats 1600000 in
theorem appendSeq_of (p : Option Addr) (a : Int) (k : Nat) (ha : 0 ≤ a ∧ a ≤ 2000) (hk : k ≤ 2000) (h : Int → Bool) (w : World) (Bf Bs Bd : Nat) (hI : HurtsOn (fun i => w.heap.size ≤ i) w p a k h) (hlt : Bf < w.heap.size ∧ Bs < w.heap.size ∧ Bd < w.heap.size)
    (hf : w.cell? ⟨Bf, 0, none⟩ = some (.int .i64 a)) (hs : w.cell? ⟨Bs, 0, none⟩ = some (.int .i64 (k : Int))) (hd : w.cell? ⟨Bd, 0, none⟩ = some (.pointer p)) :
    Calls Tryz.prog 110 #[.slice none 0 0, .func (.func 111) #[] #[.pointer (some ⟨Bf, 0, none⟩), .pointer (some ⟨Bs, 0, none⟩), .pointer (some ⟨Bd, 0, none⟩)]] w fun e w' =>
      ∃ v, e = .returned v ∧ w'.ownsRow w.heap.size 3 1 v (hurtsIn h a k).length ((hurtsIn h a k).map (Value.int .i64)) ∧ Ext w w' := by
  obtain ⟨i0, hi, hz0, hz1, hz2⟩ := info_parts int_info
  have bO := Boxed.new w 41 (.slice none 0 0)
  have hE : Ext w (w.alloc (.cells #[.slice none 0 0] 41)) := (Ext.refl w).alloc _
  have hI1 : HurtsOn (fun i => w.heap.size ≤ i) (w.alloc (.cells #[.slice none 0 0] 41)) p a k h := fun x h1 h2 W hm => hI x h1 h2 W ((Mod.of_ext hE).trans hm fun _ hi => .inl hi)
  have hst := hurt_stops 8 (by omega) Bf Bs Bd (fun i => w.heap.size ≤ i) p a k ha hk h _ hI1 ⟨by omega, by omega, by omega⟩ (ext_of_cell hE hf) (ext_of_cell hE hs) (ext_of_cell hE hd)
  have HST := Lib.hid hst
  have HE := Lib.hid hE
  clear hI hI1 hst hf hs hd hE ha hlt
  refine calls_marks Tryz.func110 rfl ?_
  simp only [Tryz.ntmps110, List.size_toArray, List.length_cons, List.length_nil, Nat.reduceAdd, Nat.reduceSub, Array.replicate_succ, Array.replicate_zero, List.push_toArray, List.append_toArray, List.nil_append, List.cons_append]
  go_wp2_with fail
  refine (wpIn_wide (n := 9)).1 ?_
  refine wpIn_rangeFunc_ownG (F := Fence.wide) (n := 9) rfl (by omega) (gf := 111) (lb := #[.pointer (some ⟨Bf, 0, none⟩), .pointer (some ⟨Bs, 0, none⟩), .pointer (some ⟨Bd, 0, none⟩)]) rfl trivial (enters_of Tryz.func111 (by kernel_rfl) rfl)
    HST.out (fun h k => h.trans k fun _ hi => .inl hi) (fun W l o o' hl ho _ _ => mod_put (w := w) l o o' (fun k hk => hk) (Nat.le_trans HE.out.size hl) ho) (Below.refl _ _) (fun _ => rfl)
    (fun pre W => (∃ v, Boxed W w.heap.size 41 v ∧ W.ownsRow w.heap.size 3 1 v pre.length (pre.map fun x => Value.int .i64 x.1) ∧ (v = .slice none 0 0 ↔ pre = [])) ∧ Below w.heap.size w W)
    (fun _ _ _ => False)
    (OwnFrom.and (Own.from (holdsRow_own w.heap.size w.heap.size 41 3 1 (fun pre : List (SecIn a k) => pre.length) (fun pre : List (SecIn a k) => pre.map fun x => Value.int .i64 x.1) (fun pre v => v = .slice none 0 0 ↔ pre = [])) _) (ownFrom_below (Nat.le_refl _) HE.out.size))
    (fun _ _ _ _ _ hs _ _ => hs)
    ⟨⟨_, bO, World.ownsRow_nil _ _ _ _, by simp⟩, HE.out⟩
    (fun x => { tmps := #[.slice none 0 0, .func (.func 111) #[] #[.pointer (some ⟨Bf, 0, none⟩), .pointer (some ⟨Bs, 0, none⟩), .pointer (some ⟨Bd, 0, none⟩)], .pointer (some ⟨w.heap.size, 0, none⟩), undef, .slice none 0 0, .int .i64 x.1, .func (.func 111) #[] #[.pointer (some ⟨Bf, 0, none⟩), .pointer (some ⟨Bs, 0, none⟩), .pointer (some ⟨Bd, 0, none⟩)], .int .i64 x.1, undef, undef, undef, undef, undef], defers := [] }) ?assign ?body ?done ?stop
  case assign =>
    intro l x W K hK
    dsimp only [encS]
    gi_wp2
    exact hK
  case body =>
    rintro l pre x W ⟨⟨v, hv, hrow, hnil⟩, hB⟩ hlt
    have hc := hv.cell
    gi_wp2_with (gi_at_builtin; refine wpListIn_append_own _ rfl _ _ 41 rfl w.heap.size 3 i0 (.int .i64 0) 1 8 Tryz.underlying41 hi hz0 hz1 hz2 rfl (by decide) _ _ _ rfl (hrow.alloc _) ⟨W.heap.size, 0, none⟩ 1 1 [.int .i64 x.1] rfl rfl (cell_one_new _ _ _) (by simp [Value.oneCell']) (by unfold maxLen; omega) (by omega) (by have := hB.size; simp; omega) ?_; intro v' w1 hown' hgrow _; obtain ⟨g', cap', rfl⟩ := ownsRow_succ hown'; obtain ⟨hv1, hv2, hr2, hk2, hb2⟩ := hv.appended (by decide) hrow hB.size (Nat.le_refl _) hown' hgrow; have hc1 := hv1.cell; have hf1 := hv1.frozen)
    exact ⟨hk2.from _, mod_of_below hb2, ⟨_, hv2, by simpa using hr2, by simp⟩, hB.trans hb2⟩
  case done =>
    rintro D ys W hD hys ⟨⟨v, hv, hrow, hnil⟩, hB⟩ hK
    have hc := hv.cell
    have hmap : ys.map (fun x => Value.int .i64 x.1) = (hurtsIn h a k).map (Value.int .i64) := by rw [← hys, List.map_map]; rfl
    have hlen : ys.length = (hurtsIn h a k).length := by rw [← hys, List.length_map]
    rw [hmap, hlen] at hrow
    have HRW := Lib.hid hrow
    have HBB := Lib.hid hB
    clear hrow hys hmap hlen hB hnil
    go_wp2_with fail
    refine retM1 rfl hK (v := v) ?_ ?_
    · simp [results, Tryz.results110, go_sem]
    · exact ⟨v, rfl, ownsRow_putObj HRW.out _ hK rfl, HBB.out.trans (belowK_b (w := w) (Nat.le_refl _) W D _ _ (Nat.le_trans HE.out.size hD) hK rfl rfl)⟩
  case stop =>
    rintro D c pre W _ _ h _
    exact h.elim

set_option maxHeartbeats 800000 in
theorem collect_of (p : Option Addr) (a : Int) (k : Nat) (ha : 0 ≤ a ∧ a ≤ 2000) (hk : k ≤ 2000) (h : Int → Bool) (w : World) (Bf Bs Bd : Nat) (hI : HurtsOn (fun i => w.heap.size ≤ i) w p a k h) (hlt : Bf < w.heap.size ∧ Bs < w.heap.size ∧ Bd < w.heap.size)
    (hf : w.cell? ⟨Bf, 0, none⟩ = some (.int .i64 a)) (hs : w.cell? ⟨Bs, 0, none⟩ = some (.int .i64 (k : Int))) (hd : w.cell? ⟨Bd, 0, none⟩ = some (.pointer p)) :
    Calls Tryz.prog 45 #[.func (.func 111) #[] #[.pointer (some ⟨Bf, 0, none⟩), .pointer (some ⟨Bs, 0, none⟩), .pointer (some ⟨Bd, 0, none⟩)]] w fun e w' =>
      ∃ v, e = .returned v ∧ w'.ownsRow w.heap.size 3 1 v (hurtsIn h a k).length ((hurtsIn h a k).map (Value.int .i64)) ∧ Ext w w' := by
  have HA := Lib.hid (appendSeq_of p a k ha hk h w Bf Bs Bd hI hlt hf hs hd)
  clear hI hlt hf hs hd ha hk
  go_enter Tryz.func45, Tryz.ntmps45
  go_wp2_with fail
  refine HA.out.mono ?_
  rintro e w1 ⟨v, rfl, hrow, hx⟩
  have HR := Lib.hid hrow
  have HX := Lib.hid hx
  clear hrow hx
  go_wp2_with fail
  go_ret
  exact ⟨v, rfl, HR.out, HX.out⟩

/-- What Hurt answers of a pointer of whose sectors h tells. -/
theorem hurt_any {w : World} {p : Option Addr} {sz : Nat} (hS : Sized w p sz) (hsz : sz ≤ 1024) (h : Int → Bool) (hI : HurtsOn (fun i => w.heap.size ≤ i) w p 0 sz h) :
    Calls Tryz.prog 11 #[.pointer p] w fun e w' => ∃ v, e = .returned v ∧ w'.ownsRow w.heap.size 3 1 v (hurtsIn h 0 sz).length ((hurtsIn h 0 sz).map (Value.int .i64)) ∧ Ext w w' := by
  have HS := Lib.hid (hS w (Ext.refl w))
  have hE : Ext w (((w.alloc (.cells #[.pointer p] 24)).alloc (.cells #[.int .i64 0] 3)).alloc (.cells #[.int .i64 (sz : Int)] 3)) := (((Ext.refl w).alloc _).alloc _).alloc _
  have hc := collect_of p 0 sz ⟨by omega, by omega⟩ (by omega) h (((w.alloc (.cells #[.pointer p] 24)).alloc (.cells #[.int .i64 0] 3)).alloc (.cells #[.int .i64 (sz : Int)] 3)) (w.heap.size + 1) (w.heap.size + 1 + 1) w.heap.size
    (fun x h1 h2 W hm => hI x h1 h2 W ((Mod.of_ext hE).trans hm fun _ hi => .inl (Nat.le_trans hE.size hi))) (by simp; omega)
    (by simp [go_sem]) (by simp [go_sem]) (by simp [go_sem])
  have HC := Lib.hid hc
  have HE := Lib.hid hE
  clear hS hI hc hE hsz
  go_enter Tryz.func11, Tryz.ntmps11
  go_wp2_with fail
  refine HS.out.mono ?_
  rintro e w1 ⟨rfl, rfl⟩
  go_wp2_with fail
  refine (sectors_in p 0 sz _).mono ?_
  rintro e w2 ⟨rfl, rfl⟩
  go_wp2_with fail
  refine HC.out.mono ?_
  rintro e w3 ⟨v, rfl, hrow, hx⟩
  have HR := Lib.hid (own_base hrow HE.out.size)
  have HX := Lib.hid (HE.out.trans hx)
  clear hrow hx
  go_wp2_with fail
  go_ret
  exact ⟨v, rfl, HR.out, HX.out⟩
theorem hurt_pd {w : World} {d : Nat} {F : Nat → Prop} {m : DM} (h : PDisk w d F m) (hsz : m.size ≤ 1024) :
    Calls Tryz.prog 11 #[.pointer (some ⟨d, 0, none⟩)] w fun e w' => ∃ v, e = .returned v ∧ w'.ownsRow w.heap.size 3 1 v (hurtsIn m.hurt 0 m.size).length ((hurtsIn m.hurt 0 m.size).map (Value.int .i64)) ∧ Ext w w' :=
  hurt_any (Sized.of h) hsz m.hurt (HurtsOn.of h (fun i hi hg => absurd (h.lt i hi) (by omega)) 0 m.size)
end Go.Proofs.YtlikhmhomkiadaaGreatDoor
