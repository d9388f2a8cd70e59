/-
  The contract of hurtSectors, as an iterator: those that are hurt come in order.
  The contracts of slices.Collect over the iterator of hurt sectors, and of Hurt.
  The contract of Place.
  The document's cell over the document's disk: what a place holds; which copy is loaded.
-/
import Derived.Test.YtlikhmhomkiadaaGreatDoorR06
import Derived.Test.YtlikhmhomkiadaaGreatDoorR17
import Derived.Test.YtlikhmhomkiadaaGreatDoorR19
import Derived.Test.YtlikhmhomkiadaaGreatDoorR24
import Derived.Test.YtlikhmhomkiadaaGreatDoorR25
import Derived.Test.YtlikhmhomkiadaaGreatDoorR26
import Derived.Test.YtlikhmhomkiadaaGreatDoorR27
import Derived.RangeFuncNested
import Derived.RangeFuncBound
import Derived.RangeFuncCalls
import Derived.RangeFuncLeaves
import Derived.Shelf.Abstract
import Derived.Shelf.RegionOpen
import Derived.WalkKit
import Derived.OwnWalkIn
import Derived.TacticsInMore
import Derived.LoopNIn
import Derived.LoopIn
import Derived.RangeFuncBox
import Derived.Maps.AppendAt
import Derived.Deep.RegionHeld3
namespace Go.Proofs.YtlikhmhomkiadaaGreatDoor
set_option maxRecDepth 100000
open Go Go.RowKit Go.Shelf
attribute [local go_sem] Oper.semAt_some

/-- A sector among k from a on. -/
abbrev SecIn (a : Int) (k : Nat) := { x : Int // a ≤ x ∧ x < a + k }
def encS (a : Int) (k : Nat) (x : SecIn a k) : Array Value := #[.int .i64 x.1]
theorem grown_of_ext {w w' : World} (h : Ext w w') : w.grownBy w' none := ⟨h.os, h.tape, h.output, h.size, fun k hk _ => h.block k hk⟩
theorem mod_cell {G : Nat → Prop} {w w' : World} (k : Mod G w w') {g i : Nat} {v : Value} (hg : ¬ G g) (h : w.cell? ⟨g, i, none⟩ = some v) : w'.cell? ⟨g, i, none⟩ = some v :=
  (World.cell?_of_block (a := ⟨g, i, none⟩) (k.block g (World.block_lt_of_cell? w _ h) hg)).trans h
theorem ext_of_cell {w w' : World} {g i : Nat} {v : Value} (h : Ext w w') (hc : w.cell? ⟨g, i, none⟩ = some v) : w'.cell? ⟨g, i, none⟩ = some v := (Below.cell h (p := ⟨g, i, none⟩) (World.block_lt_of_cell? w _ hc)).trans hc
theorem mod_put {G : Nat → Prop} {w W : World} (l : Nat) (o o' : Obj) (hG : ∀ k, w.heap.size ≤ k → G k) (hl : w.heap.size ≤ l) (_ : W.heap[l]? = some o) : Mod G W (W.putObj l o') :=
  (Mod.refl G W).grown (grownBy_putObj' W l o') (fun k e => by cases e; exact .inl (hG l hl))
theorem own_mod_from {β : Type} {G : Nat → Prop} {B : Nat} {w : World} (hG : ∀ k, B ≤ k → G k) : OwnFrom B (fun (_ : β) W => Mod G w W) :=
  fun _ _ _ _ hs hg hr => hs.grown hg (fun k e => .inl (hG k (hr k e).1))

/-- What the iterator stands on: that the sectors' answers abide where the blocks of G alone are written. -/
def HurtsOn (G : Nat → Prop) (W0 : World) (p : Option Addr) (a : Int) (k : Nat) (h : Int → Bool) : Prop :=
  ∀ x : Int, a ≤ x → x < a + k → ∀ W, Mod G W0 W → Calls Tryz.prog 112 #[.pointer p, .int .i64 x] W fun e W' => e = .returned (.bool (h x)) ∧ Ext W W'
theorem HurtsOn.of {G : Nat → Prop} {W0 : World} {d : Nat} {F : Nat → Prop} {m : DM} (hd : PDisk W0 d F m) (hG : ∀ i, F i → ¬ G i) (a : Int) (k : Nat) : HurtsOn G W0 (some ⟨d, 0, none⟩) a k m.hurt :=
  fun x _ _ _ hm => isHurt_of (hd.mod hm hG) x
theorem HurtsOn.none (G : Nat → Prop) (W0 : World) (p : Option Addr) (a : Int) (h : Int → Bool) : HurtsOn G W0 p a 0 h := fun x h1 h2 => by omega

set_option maxHeartbeats 600000 in
theorem sectors_in (p : Option Addr) (a : Int) (k : Nat) (w : World) :
    Calls Tryz.prog 46 #[.pointer p, .int .i64 a, .int .i64 (k : Int)] w fun e w' => e = .returned (.func (.func 111) #[] #[.pointer (some ⟨w.heap.size + 1, 0, none⟩), .pointer (some ⟨w.heap.size + 1 + 1, 0, none⟩), .pointer (some ⟨w.heap.size, 0, none⟩)]) ∧
      w' = ((w.alloc (.cells #[.pointer p] 24)).alloc (.cells #[.int .i64 a] 3)).alloc (.cells #[.int .i64 (k : Int)] 3) := by
  go_enter Tryz.func46, Tryz.ntmps46
  go_wp2
  go_ret
  exact ⟨rfl, rfl⟩

set_option maxRecDepth 100000 in
set_option maxHeartbeats 1600000 in
theorem hurt1_in (n : Nat) (hn : 1 ≤ n) (l Bf Bs Bd : Nat) (G : Nat → Prop) (p : Option Addr) (a : Int) (k : Nat) (ha : 0 ≤ a ∧ a ≤ 2000) (hk : k ≤ 2000) (h : Int → Bool) (J Jx : List (SecIn a k) → World → Prop) (W0 V : World) (hV : Mod G W0 V)
    (hAb : ∀ s W W', J s W → Ext W W' → J s W') (hI : HurtsOn G W0 p a k h) (hGf : ¬ G Bf ∧ ¬ G Bs ∧ ¬ G Bd)
    (hf : V.cell? ⟨Bf, 0, none⟩ = some (.int .i64 a)) (hs : V.cell? ⟨Bs, 0, none⟩ = some (.int .i64 (k : Int))) (hd : V.cell? ⟨Bd, 0, none⟩ = some (.pointer p))
    (hY : ∀ pre x W, J pre W → pre.length < k → YieldAt Fence.wide (n - 1) Tryz.prog l (encS a k x) W fun e W' =>
      (e = .returned (.bool true) ∧ J (pre ++ [x]) W' ∧ Mod G W W') ∨ (e = .returned (.bool false) ∧ Jx (pre ++ [x]) W')) (h0 : J [] V) :
    CallsIn Fence.wide n Tryz.prog 111 #[.func (.yield l) #[] #[], .pointer (some ⟨Bf, 0, none⟩), .pointer (some ⟨Bs, 0, none⟩), .pointer (some ⟨Bd, 0, none⟩)] V fun e W' => (∃ v, e = .returned v) ∧
      ((∃ ys : List (SecIn a k), ys.map (fun x => x.1) = hurtsIn h a k ∧ J ys W') ∨ (∃ pre : List (SecIn a k), pre.map (fun x => x.1) <+: hurtsIn h a k ∧ Jx pre W')) := by
  have HI := Lib.hid hI
  have HG := Lib.hid hGf
  have HF := Lib.hid hf
  have HS := Lib.hid hs
  have HD := Lib.hid hd
  have HAB := Lib.hid hAb
  have HV := Lib.hid hV
  obtain ⟨ha0, ha1⟩ := ha
  clear hI hGf hs hd hAb hV
  refine callsIn_of_wp Tryz.func111 rfl trivial ?_ rfl
  simp only [Tryz.ntmps111, List.size_toArray, List.length_cons, List.length_nil, Nat.reduceAdd, Nat.reduceSub, Array.replicate_succ, Array.replicate_zero, List.push_toArray, List.append_toArray, List.nil_append, List.cons_append]
  gi_wp2
  gi_loopw [5] (fun i wr => ∃ (j : Nat) (pre : List (SecIn a k)), j ≤ k ∧ i = .int .i64 (a + (j : Int)) ∧ Hid (pre.map (fun x => x.1) = hurtsIn h a j) ∧ Hid (pre.length ≤ j) ∧ Hid (J pre wr) ∧ Hid (Mod G V wr)) (fun i _ => (a + (k : Int) - intOf i).toNat)
  case atStart => exact ⟨0, [], Nat.zero_le _, by rw [Int.natCast_zero, Int.add_zero], Lib.hid rfl, Lib.hid (Nat.le_refl _), Lib.hid h0, Lib.hid (Mod.refl _ _)⟩
  case round =>
    obtain ⟨j, pre, hj, rfl, HP, HLE, HJ, HM⟩ := hrel
    have cf := mod_cell HM.out HG.out.1 HF.out
    have cs := mod_cell HM.out HG.out.2.1 HS.out
    have cd := mod_cell HM.out HG.out.2.2 HD.out
    clear hf
    by_cases hlt : j < k
    · have hlt2 : a + (j : Int) < a + (k : Int) := by omega
      have hc := HI.out (a + (j : Int)) (by omega) hlt2 wr (HV.out.trans HM.out fun _ hi => .inl hi)
      have hsucc := hurtsIn_succ h a j
      cases hh : h (a + (j : Int)) with
      | true =>
        rw [hh] at hc
        rw [if_pos hh] at hsucc
        have hc2 : Calls Tryz.prog 112 #[.pointer p, .int .i64 (a + (j : Int))] wr fun e W' => e = .returned (.bool true) ∧ (∃ fn tmps assign body, (Instr.yield l #[.int .i64 (a + (j : Int))]).run Tryz.prog W' = .ok (.round l fn tmps assign body) W' ∧ Hid (RoundIn Fence.wide (n - 1) Tryz.prog l fn tmps assign body W' fun e W' => (e = .returned (.bool true) ∧ Hid (J (pre ++ [⟨a + (j : Int), by omega, hlt2⟩]) W') ∧ Hid (Mod G V W')) ∨ (e = .returned (.bool false) ∧ Hid (Jx (pre ++ [⟨a + (j : Int), by omega, hlt2⟩]) W'))) ) :=
          hc.mono fun e W' ⟨he, hx⟩ => by
            obtain ⟨fn, tmps, assign, body, hy, hR⟩ := hY pre ⟨a + (j : Int), by omega, hlt2⟩ W' (HAB.out _ _ _ HJ.out hx) (Nat.lt_of_le_of_lt HLE.out hlt)
            exact ⟨he, fn, tmps, assign, body, hy, Lib.hid (hR.mono fun e W3 hh => hh.imp (fun ⟨a1, a2, a3⟩ => ⟨a1, Lib.hid a2, Lib.hid ((HM.out.ext hx).trans a3 fun _ hi => .inl hi)⟩) (fun ⟨a1, a2⟩ => ⟨a1, Lib.hid a2⟩))⟩
        have HC := Lib.hid hc2
        have HSU := Lib.hid hsucc
        clear hc hc2 hsucc hh
        gi_wp2_with (refine ⟨trivial, ?_⟩; gi_at_call 112; refine (callsIn_wide.2 HC.out).mono ?_; rintro e W3 ⟨rfl, fn, tmps, assign, body, hy, HR⟩)
        refine HR.out.mono ?_
        rintro e W4 (⟨rfl, HJ4, HM4⟩ | ⟨rfl, HJ4⟩)
        · gi_wp2
          go_roundw
          case rel => exact ⟨j + 1, _, by omega, by go_num, Lib.hid (by rw [List.map_append, HP.out, HSU.out]; rfl), Lib.hid (by have := HLE.out; simp; omega), HJ4, HM4⟩
          case measure => simp [intOf]; omega
        · gi_wp2
          refine bodyPost_ret (results_none rfl _ _ _) rfl ?_
          refine ⟨⟨_, rfl⟩, .inr ⟨_, ?_, HJ4.out⟩⟩
          rw [List.map_append, HP.out, List.map_cons, List.map_nil, ← HSU.out]
          have : ∀ q, hurtsIn h a (j + 1) <+: hurtsIn h a (j + 1 + q) := fun q => by
            induction q with
            | zero => exact List.prefix_refl _
            | succ q ih =>
              refine ih.trans ?_
              rw [show j + 1 + (q + 1) = (j + 1 + q) + 1 by omega, hurtsIn_succ h a (j + 1 + q)]
              split
              · exact List.prefix_append _ _
              · exact List.prefix_refl _
          have h2 := this (k - (j + 1))
          rwa [show j + 1 + (k - (j + 1)) = k by omega] at h2
      | false =>
        rw [hh] at hc
        rw [if_neg (by rw [hh]; simp)] at hsucc
        have hc2 : Calls Tryz.prog 112 #[.pointer p, .int .i64 (a + (j : Int))] wr fun e W' => e = .returned (.bool false) ∧ Hid (J pre W') ∧ Hid (Mod G V W') :=
          hc.mono fun e W' ⟨he, hx⟩ => ⟨he, Lib.hid (HAB.out _ _ _ HJ.out hx), Lib.hid (HM.out.ext hx)⟩
        have HC := Lib.hid hc2
        have HSU := Lib.hid hsucc
        clear hc hc2 hsucc hh
        gi_wp2_with (refine ⟨trivial, ?_⟩; gi_at_call 112; refine (callsIn_wide.2 HC.out).mono ?_; rintro e W3 ⟨rfl, HJ3, HM3⟩)
        refine ⟨fun _ h => (by cases h), ?_⟩
        gi_wp2
        go_roundw
        case rel => exact ⟨j + 1, pre, by omega, by go_num, Lib.hid (by rw [HP.out, HSU.out]), Lib.hid (by have := HLE.out; omega), HJ3, HM3⟩
        case measure => simp [intOf]; omega
    · obtain rfl : j = k := by omega
      gi_wp2
      go_end0
      exact ⟨⟨_, rfl⟩, .inl ⟨pre, HP.out, HJ.out⟩⟩

theorem hurt_stops (n : Nat) (hn : 1 ≤ n) (Bf Bs Bd : Nat) (G : Nat → Prop) (p : Option Addr) (a : Int) (k : Nat) (ha : 0 ≤ a ∧ a ≤ 2000) (hk : k ≤ 2000) (h : Int → Bool) (W0 : World) (hI : HurtsOn G W0 p a k h) (hGf : ¬ G Bf ∧ ¬ G Bs ∧ ¬ G Bd)
    (hf : W0.cell? ⟨Bf, 0, none⟩ = some (.int .i64 a)) (hs : W0.cell? ⟨Bs, 0, none⟩ = some (.int .i64 (k : Int))) (hd : W0.cell? ⟨Bd, 0, none⟩ = some (.pointer p)) :
    SeqStopsK Fence.wide n Tryz.prog 111 #[.pointer (some ⟨Bf, 0, none⟩), .pointer (some ⟨Bs, 0, none⟩), .pointer (some ⟨Bd, 0, none⟩)] (encS a k) (Mod G)
      (fun ys => ys.map (fun x => x.1) = hurtsIn h a k) (fun pre => pre.map (fun x => x.1) <+: hurtsIn h a k) k W0 := fun l J Jx V hV hJ _ hY h0 => by
  have hx : Ext W0 V := hV
  have hm : Mod G W0 V := Mod.of_ext hx
  exact hurt1_in n hn l Bf Bs Bd G p a k ha hk h J Jx W0 V hm (fun s W W' hs hx => hJ s W W' none hs (grown_of_ext hx) (fun r e => by cases e)) hI hGf (mod_cell hm hGf.1 hf) (mod_cell hm hGf.2.1 hs) (mod_cell hm hGf.2.2 hd) hY h0
end Go.Proofs.YtlikhmhomkiadaaGreatDoor

namespace Go.Proofs.YtlikhmhomkiadaaGreatDoor
set_option maxRecDepth 100000
open Go Go.RowKit Go.Shelf
attribute [local go_sem] Oper.semAt_some

theorem mod_of_below {n : Nat} {W W' : World} (h : Below n W W') : Mod (fun k => n ≤ k) W W' := ⟨h.os, h.tape, h.output, Below.size h, fun k _ hg => h.block k (by omega)⟩
theorem int_info : (Tryz.prog.info? 3).map (fun i => (i.zero, i.size, i.bytes)) = some (some (.int .i64 0), 1, 8) := by kernel_rfl

set_option maxRecDepth 100000 in
set_option maxHeartbeats 1600000 in
theorem appendSeq_of (p : Option Addr) (a : Int) (k : Nat) (ha : 0 ≤ a ∧ a ≤ 2000) (hk : k ≤ 2000) (h : Int → Bool) (w : World) (Bf Bs Bd : Nat) (hI : HurtsOn (fun i => w.heap.size ≤ i) w p a k h) (hlt : Bf < w.heap.size ∧ Bs < w.heap.size ∧ Bd < w.heap.size)
    (hf : w.cell? ⟨Bf, 0, none⟩ = some (.int .i64 a)) (hs : w.cell? ⟨Bs, 0, none⟩ = some (.int .i64 (k : Int))) (hd : w.cell? ⟨Bd, 0, none⟩ = some (.pointer p)) :
    Calls Tryz.prog 110 #[.slice none 0 0, .func (.func 111) #[] #[.pointer (some ⟨Bf, 0, none⟩), .pointer (some ⟨Bs, 0, none⟩), .pointer (some ⟨Bd, 0, none⟩)]] w fun e w' =>
      ∃ v, e = .returned v ∧ w'.ownsRow w.heap.size 3 1 v (hurtsIn h a k).length ((hurtsIn h a k).map (Value.int .i64)) ∧ Ext w w' := by
  obtain ⟨i0, hi, hz0, hz1, hz2⟩ := info_parts int_info
  have bO := Boxed.new w 41 (.slice none 0 0)
  have hE : Ext w (w.alloc (.cells #[.slice none 0 0] 41)) := (Ext.refl w).alloc _
  have hI1 : HurtsOn (fun i => w.heap.size ≤ i) (w.alloc (.cells #[.slice none 0 0] 41)) p a k h := fun x h1 h2 W hm => hI x h1 h2 W ((Mod.of_ext hE).trans hm fun _ hi => .inl hi)
  have hst := hurt_stops 8 (by omega) Bf Bs Bd (fun i => w.heap.size ≤ i) p a k ha hk h _ hI1 ⟨by omega, by omega, by omega⟩ (ext_of_cell hE hf) (ext_of_cell hE hs) (ext_of_cell hE hd)
  have HST := Lib.hid hst
  have HE := Lib.hid hE
  clear hI hI1 hst hf hs hd hE ha hlt
  refine calls_marks Tryz.func110 rfl ?_
  simp only [Tryz.ntmps110, List.size_toArray, List.length_cons, List.length_nil, Nat.reduceAdd, Nat.reduceSub, Array.replicate_succ, Array.replicate_zero, List.push_toArray, List.append_toArray, List.nil_append, List.cons_append]
  go_wp2_with fail
  refine (wpIn_wide (n := 9)).1 ?_
  refine wpIn_rangeFunc_ownG (F := Fence.wide) (n := 9) rfl (by omega) (gf := 111) (lb := #[.pointer (some ⟨Bf, 0, none⟩), .pointer (some ⟨Bs, 0, none⟩), .pointer (some ⟨Bd, 0, none⟩)]) rfl trivial (enters_of Tryz.func111 (by kernel_rfl) rfl)
    HST.out (fun h k => h.trans k fun _ hi => .inl hi) (fun W l o o' hl ho _ _ => mod_put (w := w) l o o' (fun k hk => hk) (Nat.le_trans HE.out.size hl) ho) (Below.refl _ _) (fun _ => rfl)
    (fun pre W => (∃ v, Boxed W w.heap.size 41 v ∧ W.ownsRow w.heap.size 3 1 v pre.length (pre.map fun x => Value.int .i64 x.1) ∧ (v = .slice none 0 0 ↔ pre = [])) ∧ Below w.heap.size w W)
    (fun _ _ _ => False)
    (OwnFrom.and (Own.from (holdsRow_own w.heap.size w.heap.size 41 3 1 (fun pre : List (SecIn a k) => pre.length) (fun pre : List (SecIn a k) => pre.map fun x => Value.int .i64 x.1) (fun pre v => v = .slice none 0 0 ↔ pre = [])) _) (ownFrom_below (Nat.le_refl _) HE.out.size))
    (fun _ _ _ _ _ hs _ _ => hs)
    ⟨⟨_, bO, World.ownsRow_nil _ _ _ _, by simp⟩, HE.out⟩
    (fun x => { tmps := #[.slice none 0 0, .func (.func 111) #[] #[.pointer (some ⟨Bf, 0, none⟩), .pointer (some ⟨Bs, 0, none⟩), .pointer (some ⟨Bd, 0, none⟩)], .pointer (some ⟨w.heap.size, 0, none⟩), undef, .slice none 0 0, .int .i64 x.1, .func (.func 111) #[] #[.pointer (some ⟨Bf, 0, none⟩), .pointer (some ⟨Bs, 0, none⟩), .pointer (some ⟨Bd, 0, none⟩)], .int .i64 x.1, undef, undef, undef, undef, undef], defers := [] }) ?assign ?body ?done ?stop
  case assign =>
    intro l x W K hK
    dsimp only [encS]
    gi_wp2
    exact hK
  case body =>
    rintro l pre x W ⟨⟨v, hv, hrow, hnil⟩, hB⟩ hlt
    have hc := hv.cell
    gi_wp2_with (gi_at_builtin; refine wpListIn_append_own _ rfl _ _ 41 rfl w.heap.size 3 i0 (.int .i64 0) 1 8 Tryz.underlying41 hi hz0 hz1 hz2 rfl (by decide) _ _ _ rfl (hrow.alloc _) ⟨W.heap.size, 0, none⟩ 1 1 [.int .i64 x.1] rfl rfl (cell_one_new _ _ _) (by simp [Value.oneCell']) (by unfold maxLen; omega) (by omega) (by have := hB.size; simp; omega) ?_; intro v' w1 hown' hgrow _; obtain ⟨g', cap', rfl⟩ := ownsRow_succ hown'; obtain ⟨hv1, hv2, hr2, hk2, hb2⟩ := hv.appended (by decide) hrow hB.size (Nat.le_refl _) hown' hgrow; have hc1 := hv1.cell; have hf1 := hv1.frozen)
    exact ⟨hk2.from _, mod_of_below hb2, ⟨_, hv2, by simpa using hr2, by simp⟩, hB.trans hb2⟩
  case done =>
    rintro D ys W hD hys ⟨⟨v, hv, hrow, hnil⟩, hB⟩ hK
    have hc := hv.cell
    have hmap : ys.map (fun x => Value.int .i64 x.1) = (hurtsIn h a k).map (Value.int .i64) := by rw [← hys, List.map_map]; rfl
    have hlen : ys.length = (hurtsIn h a k).length := by rw [← hys, List.length_map]
    rw [hmap, hlen] at hrow
    have HRW := Lib.hid hrow
    have HBB := Lib.hid hB
    clear hrow hys hmap hlen hB hnil
    go_wp2_with fail
    refine retM1 rfl hK (v := v) ?_ ?_
    · simp [results, Tryz.results110, go_sem]
    · exact ⟨v, rfl, ownsRow_putObj HRW.out _ hK rfl, HBB.out.trans (belowK_b (w := w) (Nat.le_refl _) W D _ _ (Nat.le_trans HE.out.size hD) hK rfl rfl)⟩
  case stop =>
    rintro D c pre W _ _ h _
    exact h.elim

set_option maxHeartbeats 800000 in
theorem collect_of (p : Option Addr) (a : Int) (k : Nat) (ha : 0 ≤ a ∧ a ≤ 2000) (hk : k ≤ 2000) (h : Int → Bool) (w : World) (Bf Bs Bd : Nat) (hI : HurtsOn (fun i => w.heap.size ≤ i) w p a k h) (hlt : Bf < w.heap.size ∧ Bs < w.heap.size ∧ Bd < w.heap.size)
    (hf : w.cell? ⟨Bf, 0, none⟩ = some (.int .i64 a)) (hs : w.cell? ⟨Bs, 0, none⟩ = some (.int .i64 (k : Int))) (hd : w.cell? ⟨Bd, 0, none⟩ = some (.pointer p)) :
    Calls Tryz.prog 45 #[.func (.func 111) #[] #[.pointer (some ⟨Bf, 0, none⟩), .pointer (some ⟨Bs, 0, none⟩), .pointer (some ⟨Bd, 0, none⟩)]] w fun e w' =>
      ∃ v, e = .returned v ∧ w'.ownsRow w.heap.size 3 1 v (hurtsIn h a k).length ((hurtsIn h a k).map (Value.int .i64)) ∧ Ext w w' := by
  have HA := Lib.hid (appendSeq_of p a k ha hk h w Bf Bs Bd hI hlt hf hs hd)
  clear hI hlt hf hs hd ha hk
  go_enter Tryz.func45, Tryz.ntmps45
  go_wp2_with fail
  refine HA.out.mono ?_
  rintro e w1 ⟨v, rfl, hrow, hx⟩
  have HR := Lib.hid hrow
  have HX := Lib.hid hx
  clear hrow hx
  go_wp2_with fail
  go_ret
  exact ⟨v, rfl, HR.out, HX.out⟩

/-- What Hurt answers of a pointer of whose sectors h tells. -/
theorem hurt_any {w : World} {p : Option Addr} {sz : Nat} (hS : Sized w p sz) (hsz : sz ≤ 1024) (h : Int → Bool) (hI : HurtsOn (fun i => w.heap.size ≤ i) w p 0 sz h) :
    Calls Tryz.prog 11 #[.pointer p] w fun e w' => ∃ v, e = .returned v ∧ w'.ownsRow w.heap.size 3 1 v (hurtsIn h 0 sz).length ((hurtsIn h 0 sz).map (Value.int .i64)) ∧ Ext w w' := by
  have HS := Lib.hid (hS w (Ext.refl w))
  have hE : Ext w (((w.alloc (.cells #[.pointer p] 24)).alloc (.cells #[.int .i64 0] 3)).alloc (.cells #[.int .i64 (sz : Int)] 3)) := (((Ext.refl w).alloc _).alloc _).alloc _
  have hc := collect_of p 0 sz ⟨by omega, by omega⟩ (by omega) h (((w.alloc (.cells #[.pointer p] 24)).alloc (.cells #[.int .i64 0] 3)).alloc (.cells #[.int .i64 (sz : Int)] 3)) (w.heap.size + 1) (w.heap.size + 1 + 1) w.heap.size
    (fun x h1 h2 W hm => hI x h1 h2 W ((Mod.of_ext hE).trans hm fun _ hi => .inl (Nat.le_trans hE.size hi))) (by simp; omega)
    (by simp [go_sem]) (by simp [go_sem]) (by simp [go_sem])
  have HC := Lib.hid hc
  have HE := Lib.hid hE
  clear hS hI hc hE hsz
  go_enter Tryz.func11, Tryz.ntmps11
  go_wp2_with fail
  refine HS.out.mono ?_
  rintro e w1 ⟨rfl, rfl⟩
  go_wp2_with fail
  refine (sectors_in p 0 sz _).mono ?_
  rintro e w2 ⟨rfl, rfl⟩
  go_wp2_with fail
  refine HC.out.mono ?_
  rintro e w3 ⟨v, rfl, hrow, hx⟩
  have HR := Lib.hid (own_base hrow HE.out.size)
  have HX := Lib.hid (HE.out.trans hx)
  clear hrow hx
  go_wp2_with fail
  go_ret
  exact ⟨v, rfl, HR.out, HX.out⟩
theorem hurt_pd {w : World} {d : Nat} {F : Nat → Prop} {m : DM} (h : PDisk w d F m) (hsz : m.size ≤ 1024) :
    Calls Tryz.prog 11 #[.pointer (some ⟨d, 0, none⟩)] w fun e w' => ∃ v, e = .returned v ∧ w'.ownsRow w.heap.size 3 1 v (hurtsIn m.hurt 0 m.size).length ((hurtsIn m.hurt 0 m.size).map (Value.int .i64)) ∧ Ext w w' :=
  hurt_any (Sized.of h) hsz m.hurt (HurtsOn.of h (fun i hi hg => absurd (h.lt i hi) (by omega)) 0 m.size)
end Go.Proofs.YtlikhmhomkiadaaGreatDoor

namespace Go.Proofs.YtlikhmhomkiadaaGreatDoor
set_option maxRecDepth 100000
open Go Go.RowKit Go.Shelf
attribute [local go_sem] Oper.semAt_some

theorem ownF_block {β : Type} (B g : Nat) (cs : β → Array Value) (t : TypeId) : OwnFrom B (fun (s : β) W => W.heap[g]? = some (.cells (cs s) t (0, 0))) := fun s W W' row hs hg hr => by
  refine (hg.block g (Array.getElem?_eq_some_iff.1 hs).1 (fun e => ?_)).trans hs
  obtain ⟨_, o, ho, hoc⟩ := hr g e.symm
  rw [hs] at ho
  injection ho with ho
  subst ho
  cases hoc
theorem keepF {V w' : World} {g : Nat} {v : Value} {t : TypeId} (k : Hid (Ext V.drew w')) (h1 : Hid (V.heap[g]? = some (.cells #[v] t (0, 0)))) : w'.cell? ⟨g, 0, none⟩ = some v ∧ w'.frozen? ⟨g, 0, none⟩ = false := by
  have h := (k.out.block g (Array.getElem?_eq_some_iff.1 h1.out).1).trans h1.out
  exact ⟨cell_of_row _ _ 0 _ _ _ h, frozen_of_row _ _ 0 _ _ h⟩
theorem keepG {V w' : World} {g : Nat} {v : Value} {t : TypeId} (k : Hid (Ext V.drew w')) (h1 : Hid (V.heap[g]? = some (.cells #[v] t (0, 0)))) : (w'.setCell ⟨g, 0, none⟩ v).cell? ⟨g, 0, none⟩ = some v ∧ (w'.setCell ⟨g, 0, none⟩ v).frozen? ⟨g, 0, none⟩ = false := by
  have h := row_set 0 ((k.out.block g (Array.getElem?_eq_some_iff.1 h1.out).1).trans h1.out) v rfl
  exact ⟨cell_of_row _ _ 0 _ _ _ h, frozen_of_row _ _ 0 _ _ h⟩
theorem keepD {V w' : World} {g i : Nat} {v : Value} (k : Hid (Ext V.drew w')) (h1 : Hid (V.cell? ⟨g, i, none⟩ = some v)) : w'.cell? ⟨g, i, none⟩ = some v := ext_of_cell k.out h1.out
theorem empty_map {α β : Type} {f : α → β} {l : List α} {l2 : List β} (h : l.map f = l2) : l.isEmpty = l2.isEmpty := by subst h; cases l <;> rfl
theorem pl_ret {b : Nat} {W : World} {a : Act} {D : Nat} {h bd : Bool} {E : Int} {R : Ending → World → Prop} (h8 : a.tmps.getD 8 undef = .pointer (some ⟨b, 0, none⟩)) (h9 : a.tmps.getD 9 undef = .bool bd) (h10 : a.tmps.getD 10 undef = .int .i64 E)
    (hd : a.defers = [{ target := .collected D, args := #[] }]) (hK : W.heap[D]? = some (.deferred (some []))) (c1 : W.cell? ⟨b, 0, none⟩ = some (.bool h))
    (hR : R (.returned (.tuple #[.bool h, .bool bd, .int .i64 E])) (W.putObj D (.deferred none))) : bodyPostM Fence.wide 9 Tryz.prog Tryz.f13 R .ret a W := by
  refine retM1 (v := .tuple #[.bool h, .bool bd, .int .i64 E]) hd hK ?_ hR
  have k1 := cell_kept c1 (grownBy_putObj' _ D (.deferred none)) (fun r e => by cases e; exact ⟨_, hK, rfl⟩)
  have h8' : a.tmps[8]?.getD undef = .pointer (some ⟨b, 0, none⟩) := by simpa using h8
  have h9' : a.tmps[9]?.getD undef = .bool bd := by simpa using h9
  have h10' : a.tmps[10]?.getD undef = .int .i64 E := by simpa using h10
  simp [results, Tryz.results13, go_sem, h8', h9', h10', k1]
theorem firstS_le (g p : Int) : firstS g p ≤ 156 := by
  have h1 := beg_le g
  have h2 := wid_le g
  by_cases hh : 0 ≤ p ∧ p < plc g
  · rw [firstS_yes hh]
    have hr := plc_some (r := g) (by omega)
    rcases region_cases hr with rfl | rfl | rfl | rfl | rfl <;> simp [beg, plc, wid] at hh ⊢ <;> omega
  · rw [firstS_no hh]; omega

set_option maxHeartbeats 800000 in
theorem place_err {w : World} {p : Option Addr} {sz : Nat} (hS : Sized w p sz) (hL : LaidT w) (r g pl : Int) (hE : placeG sz r g pl ≠ 0) :
    Calls Tryz.prog 13 #[.pointer p, .int .i64 r, .int .i64 g, .int .i64 pl] w fun e w' => e = .returned (.tuple #[.bool false, .bool false, .int .i64 (placeG sz r g pl)]) ∧ Ext w w' := by
  have hE0 : Ext w (w.alloc (.cells #[.bool false] 4)) := (Ext.refl w).alloc _
  have hk := gplace_of (hS.ext hE0) (hL.ext hE0) r g pl
  obtain ⟨E, hEE⟩ : ∃ E, placeG sz r g pl = E := ⟨_, rfl⟩
  rw [hEE] at hk hE ⊢
  have HK := Lib.hid hk
  have HE0 := Lib.hid hE0
  have hne : (E != 0) = true := by simpa using hE
  have hlt : w.heap.size < (w.alloc (.cells #[.bool false] 4)).heap.size := by simp
  have hz := heap_alloc_new w (.cells #[.bool false] 4)
  have HZ := Lib.hid hz
  clear hS hL hk hE hEE hE0 hz
  refine calls_marks Tryz.func13 rfl ?_
  simp only [Tryz.ntmps13, List.size_toArray, List.length_cons, List.length_nil, Nat.reduceAdd, Nat.reduceSub, Array.replicate_succ, Array.replicate_zero, List.push_toArray, List.append_toArray, List.nil_append, List.cons_append]
  go_wp2_with fail
  refine HK.out.mono ?_
  rintro e w1 ⟨rfl, hx⟩
  have hz1 := (hx.block _ hlt).trans HZ.out
  have hc := cell_of_row _ _ 0 _ _ _ hz1
  have hf := frozen_of_row _ _ 0 _ _ hz1
  have hl1 := Nat.lt_of_lt_of_le hlt hx.size
  have HX := Lib.hid (HE0.out.trans hx)
  clear hx
  go_wp2_with fail
  refine retM0 (v := .tuple #[.bool false, .bool false, .int .i64 E]) rfl ?_ ?_
  · have hz2 := row_set 0 hz1 (.bool false) rfl
    have hc2 := cell_of_row _ _ 0 _ _ _ hz2
    simp at hc2
    simp [results, Tryz.results13, go_sem, hc2]
  · exact ⟨rfl, HX.out.setCell (p := ⟨w.heap.size, 0, none⟩) (Nat.le_refl _) _⟩

set_option maxRecDepth 100000 in
set_option maxHeartbeats 1600000 in
theorem place_yes {w : World} {d : Nat} {F : Nat → Prop} {m : DM} (h : PDisk w d F m) (hL : LaidF w) (r g pl : Int) (hE : placeG m.size r g pl = 0) :
    Calls Tryz.prog 13 #[.pointer (some ⟨d, 0, none⟩), .int .i64 r, .int .i64 g, .int .i64 pl] w fun e w' => e = .returned (.tuple #[.bool (anyIn m.hurt (firstS g pl) (wid g)), .bool (anyIn m.hurt (firstS g pl) (wid g) && m.badB r g pl), .int .i64 0]) ∧ Ext w w' := by
  have hE0 : Ext w (w.alloc (.cells #[.bool false] 4)) := (Ext.refl w).alloc _
  have hk := gplace_of (Sized.of (h.ext hE0)) (hL.ext hE0).a.t r g pl
  rw [hE] at hk
  have hf0 := (placeG_ok hE).2
  have hfl := firstS_le g pl
  have hwl := wid_le g
  have hlt : w.heap.size < (w.alloc (.cells #[.bool false] 4)).heap.size := by simp
  have hz := heap_alloc_new w (.cells #[.bool false] 4)
  have HZ := Lib.hid hz
  have HK := Lib.hid hk
  have HE0 := Lib.hid hE0
  have H := Lib.hid h
  have HL := Lib.hid hL
  have HF0 := Lib.hid hf0
  obtain ⟨S, hS⟩ : ∃ S, firstS g pl = S := ⟨_, rfl⟩
  obtain ⟨W, hW⟩ : ∃ W, wid g = W := ⟨_, rfl⟩
  have HS := Lib.hid hS
  have HW := Lib.hid hW
  rw [hS] at hf0 hfl
  rw [hW] at hwl
  rw [hS, hW]
  clear h hL hk hE hE0 hz hS hW
  refine calls_marks Tryz.func13 rfl ?_
  simp only [Tryz.ntmps13, List.size_toArray, List.length_cons, List.length_nil, Nat.reduceAdd, Nat.reduceSub, Array.replicate_succ, Array.replicate_zero, List.push_toArray, List.append_toArray, List.nil_append, List.cons_append]
  go_wp2_with fail
  refine HK.out.mono ?_
  rintro e w1 ⟨rfl, hx⟩
  have HZ := Lib.hid ((hx.block _ hlt).trans HZ.out)
  have HX := Lib.hid (HE0.out.trans hx)
  clear hx
  go_wp2_with fail
  refine (first_any g pl _ (HL.out.ext HX.out).a.t).mono ?_
  rw [HS.out]
  rintro e w2 ⟨rfl, hx⟩
  have HZ := Lib.hid ((hx.block _ (Array.getElem?_eq_some_iff.1 HZ.out).1).trans HZ.out)
  have HX := Lib.hid (HX.out.trans hx)
  clear hx
  go_wp2_with fail
  refine (wide_any g _ (HL.out.ext HX.out).a.t).mono ?_
  rw [HW.out]
  rintro e w3 ⟨rfl, hx⟩
  have HZ := Lib.hid ((hx.block _ (Array.getElem?_eq_some_iff.1 HZ.out).1).trans HZ.out)
  have HX := Lib.hid (HX.out.trans hx)
  clear hx
  go_wp2_with fail
  refine (sectors_in _ S W _).mono ?_
  rintro e w4 ⟨rfl, hw4⟩
  have hE4 : Ext w3 w4 := by rw [hw4]; exact (((Ext.refl w3).alloc _).alloc _).alloc _
  have hlt0 : w.heap.size < w3.heap.size := (Array.getElem?_eq_some_iff.1 HZ.out).1
  have hsz : w4.heap.size = w3.heap.size + 3 := by rw [hw4]; simp
  have hz4 := (hE4.block _ hlt0).trans HZ.out
  have HZ := Lib.hid hz4
  have HX := Lib.hid (HX.out.trans hE4)
  have hst := hurt_stops 8 (by omega) (w3.heap.size + 1) (w3.heap.size + 1 + 1) w3.heap.size (fun i => i = w.heap.size ∨ w4.heap.size ≤ i) (some ⟨d, 0, none⟩) S W ⟨hf0, by omega⟩ (by omega) m.hurt w4
    (HurtsOn.of (H.out.ext HX.out) (fun i hi hg => hg.elim (fun e => absurd (H.out.lt i hi) (by omega)) (fun e => absurd ((H.out.ext HX.out).lt i hi) (by omega))) S W)
    ⟨by omega, by omega, by omega⟩ (by rw [hw4]; simp [go_sem]) (by rw [hw4]; simp [go_sem]) (by rw [hw4]; simp [go_sem])
  have HST := Lib.hid hst
  have h48 : w.heap.size ≤ w4.heap.size := by omega
  clear hst hE4 hz4 hw4 HE0 HK
  go_wp2_with fail
  refine (wpIn_wide (n := 9)).1 ?_
  refine wpIn_rangeFunc_ownG (F := Fence.wide) (n := 9) rfl (by omega) (gf := 111) (lb := #[.pointer (some ⟨w3.heap.size + 1, 0, none⟩), .pointer (some ⟨w3.heap.size + 1 + 1, 0, none⟩), .pointer (some ⟨w3.heap.size, 0, none⟩)]) rfl trivial (enters_of Tryz.func111 (by kernel_rfl) rfl)
    HST.out (fun h k => h.trans k fun _ hi => .inl hi) (fun W l o o' hl ho _ _ => mod_put (w := w4) l o o' (fun k hk => .inr hk) hl ho) (Below.refl _ _) (fun _ => rfl)
    (fun pre V => V.heap[w.heap.size]? = some (.cells #[.bool (!pre.isEmpty)] 4 (0, 0)) ∧ Below w.heap.size w V)
    (fun _ _ _ => False)
    (OwnFrom.and (ownF_block _ _ (fun pre : List (SecIn S W) => #[.bool (!pre.isEmpty)]) _) (ownFrom_below (Nat.le_refl _) h48))
    (fun _ _ _ _ _ hs _ _ => hs)
    ⟨HZ.out, HX.out⟩
    (fun x => { tmps := #[.pointer (some ⟨d, 0, none⟩), .int .i64 r, .int .i64 g, .int .i64 pl, undef, undef, undef, undef, .pointer (some ⟨w.heap.size, 0, none⟩), .bool false, .int .i64 0, .int .i64 0, .pointer (some ⟨d, 0, none⟩), .int .i64 r, .int .i64 g, .int .i64 pl, .int .i64 0, .int .i64 0, .bool false, undef, .pointer (some ⟨d, 0, none⟩), .int .i64 g, .int .i64 pl, .int .i64 S, .int .i64 g, .int .i64 W, .func (.func 111) #[] #[.pointer (some ⟨w3.heap.size + 1, 0, none⟩), .pointer (some ⟨w3.heap.size + 1 + 1, 0, none⟩), .pointer (some ⟨w3.heap.size, 0, none⟩)], .int .i64 x.1, undef, undef, undef, undef, undef, undef, undef, undef, undef], defers := [] }) ?assign ?body ?done ?stop
  case assign =>
    intro l x W K hK
    dsimp only [encS]
    gi_wp2
    exact hK
  case body =>
    rintro l pre x V ⟨hz, hB⟩ hlt
    have hc := cell_of_row V _ 0 _ _ _ hz
    have hf := frozen_of_row V _ 0 _ _ hz
    have hl1 := (Array.getElem?_eq_some_iff.1 hz).1
    gi_wp2
    exact ⟨(KeepsOthers.setCell _ _ _).from _, (Mod.refl _ _).setCell (p := ⟨w.heap.size, 0, none⟩) (.inl (.inl rfl)) _, by rw [show (!(pre ++ [x]).isEmpty) = true by simp]; exact row_set 0 hz (.bool true) rfl, hB.setCell (p := ⟨w.heap.size, 0, none⟩) (Nat.le_refl _) _⟩
  case done =>
    rintro D ys V hD hys ⟨hz, hB⟩ hK
    have hem : (!ys.isEmpty) = anyIn m.hurt S W := by rw [anyIn_nil, empty_map hys]
    rw [hem] at hz
    clear hys hem
    have hbad := fun (V' : World) (hx : Ext w V') => isBad_of (H.out.ext hx) (HL.out.ext hx) r g pl (by rw [HS.out]; exact hf0)
    have HBAD := Lib.hid hbad
    clear hbad
    obtain ⟨hu, hhu⟩ : ∃ hu, anyIn m.hurt S W = hu := ⟨_, rfl⟩
    rw [hhu] at hz
    have HHU := Lib.hid hhu
    clear hhu
    cases hu with
    | true =>
      have hc := cell_of_row V _ 0 _ _ _ hz
      have hf := frozen_of_row V _ 0 _ _ hz
      have hl1 := (Array.getElem?_eq_some_iff.1 hz).1
      go_wp2_with fail
      have HC := Lib.hid hz
      have HXd : Hid (Ext w V.drew) := Lib.hid (Below.drew hB)
      go_region_held3 (fun w' => w'.cell? ⟨w.heap.size, 0, none⟩ = some (.bool true) ∧ w'.frozen? ⟨w.heap.size, 0, none⟩ = false)
        (first | with_reducible exact ⟨hc, hf⟩ | exact keepF (by assumption) HC | exact keepG (by assumption) HC | go_keep)
        (first
          | (go_at_call 51; ((with_reducible refine (HBAD.out _ HXd.out).mono ?_); rintro e w5 ⟨rfl, hx⟩; have HXk := Lib.hid hx; clear hx)))
      have hDV := (Array.getElem?_eq_some_iff.1 hK).1
      have hK5 : w5.heap[D]? = some (.deferred (some [])) := (HXk.out.block D hDV).trans hK
      have hz5 : w5.heap[w.heap.size]? = some (.cells #[.bool true] 4 (0, 0)) := (HXk.out.block _ hl1).trans hz
      have hx5 : Ext w w5 := HXd.out.trans HXk.out
      have hKs := heap_set (k := 0) (x := .bool true) (show D ≠ w.heap.size by omega) hK5
      have hzs := cell_of_row _ _ 0 _ _ _ (row_set 0 hz5 (.bool true) rfl)
      have hxs : Ext w (w5.setCell ⟨w.heap.size, 0, none⟩ (.bool true)) := hx5.setCell (p := ⟨w.heap.size, 0, none⟩) (Nat.le_refl _) _
      clear HXk hc hf hz hK hB
      go_wp2_with fail
      refine pl_ret rfl rfl rfl rfl hKs hzs ?_
      exact ⟨by rw [HHU.out]; rfl, ext_put hxs (by omega) hKs⟩
    | false =>
      have hc := cell_of_row V _ 0 _ _ _ hz
      have hf := frozen_of_row V _ 0 _ _ hz
      have hl1 := (Array.getElem?_eq_some_iff.1 hz).1
      go_wp2_with fail
      go_region
      have hKs := heap_set (k := 0) (x := .bool false) (show D ≠ w.heap.size by omega) hK
      have hzs := cell_of_row _ _ 0 _ _ _ (row_set 0 hz (.bool false) rfl)
      have hxs : Ext w (V.setCell ⟨w.heap.size, 0, none⟩ (.bool false)) := hB.setCell (p := ⟨w.heap.size, 0, none⟩) (Nat.le_refl _) _
      clear hc hf hz hK hB
      go_wp2_with fail
      refine pl_ret (W := (V.setCell ⟨w.heap.size, 0, none⟩ (.bool false)).drew) rfl rfl rfl rfl hKs hzs ?_
      exact ⟨by rw [HHU.out]; rfl, ext_put (Below.drew hxs) (by omega) hKs⟩
  case stop =>
    rintro D c pre W _ _ h _
    exact h.elim
end Go.Proofs.YtlikhmhomkiadaaGreatDoor

namespace Go.Proofs.YtlikhmhomkiadaaGreatDoor
open Go Go.RowKit

theorem read_fail {m : DM} {s : Int} (h : (m.read s).2 ≠ 0) : (m.read s).1 = [] := by
  unfold DM.read at h ⊢
  by_cases h1 : m.up = false
  · rw [if_pos h1]
  · rw [if_neg h1] at h ⊢
    by_cases h2 : m.has s = false
    · rw [if_pos h2]
    · rw [if_neg h2] at h ⊢
      cases hl : lastW m.waits s.toNat with
      | some b => rw [hl] at h; exact absurd rfl h
      | none =>
        rw [hl] at h
        dsimp only at h ⊢
        by_cases h3 : m.lost.getD s.toNat false = true
        · rw [if_pos h3]
        · rw [if_neg h3] at h; exact absurd rfl h
theorem nil_mfl (r g p : Int) (k : Nat) : mfl [] r g p k = 0 := no_copy (by rw [nil_bad]; omega) k
theorem nil_mbl (r g p : Int) : mbl [] r g p = [] := by
  have h : mineB [] r g p = false := mineB_bad (size_bad (by decide))
  unfold mbl
  rw [if_neg (by rw [h]; simp)]
/-- Where a place begins is a number of the machine. -/
theorem first_le (g p : Int) : firstS g p ≤ 9223372036854775807 := by
  have := firstS_le g p
  omega

set_option maxRecDepth 100000 in
set_option maxHeartbeats 800000 in
theorem rcmine_of {w : World} {d : Nat} {p : Nat → Nat} {m : DM} (h : RD w d p m) (r g pl : Int) (hfew : m.waits.length ≤ 1000000) :
    Calls Tryz.prog 71 #[.pointer (some ⟨d, 0, none⟩), .int .i64 r, .int .i64 g, .int .i64 pl] w fun e w' => ∃ A N c, e = .returned (.tuple #[.int .u8 (stM (m.cb g pl) r g pl : Nat), .agg #[.int .i64 (mfl (m.cb g pl) r g pl 0 : Nat), .int .i64 (mfl (m.cb g pl) r g pl 1 : Nat), .int .i64 (mfl (m.cb g pl) r g pl 2 : Nat), .int .i64 (mfl (m.cb g pl) r g pl 3 : Nat), .int .i64 (mfl (m.cb g pl) r g pl 4 : Nat)], .slice A N c]) ∧ By w' A N c (mbl (m.cb g pl) r g pl) ∧ Ext w w' := by
  have hrd := fun V (hx : Ext w V) => rread_out (h.ext hx) (firstS g pl) (first_le g pl) hfew
  have HRD := Lib.hid hrd
  unfold DM.cb
  have HER : Hid ((m.read (firstS g pl)).2 ≠ 0 → (m.read (firstS g pl)).1 = []) := Lib.hid read_fail
  obtain ⟨S, hS⟩ : ∃ S, firstS g pl = S := ⟨_, rfl⟩
  have HS := Lib.hid hS
  rw [hS] at HRD HER ⊢
  obtain ⟨x, hx⟩ : ∃ x, (m.read S).1 = x := ⟨_, rfl⟩
  obtain ⟨E, hE⟩ : ∃ E, (m.read S).2 = E := ⟨_, rfl⟩
  rw [hx, hE] at HRD HER
  rw [hx]
  clear h hrd hS hx hE hfew
  have HX := Lib.hid ((Ext.refl w).alloc (.cells #[.int .i64 0, .int .i64 0, .int .i64 0, .int .i64 0, .int .i64 0] 33))
  have HT := Lib.hid (heap_alloc_new w (.cells #[.int .i64 0, .int .i64 0, .int .i64 0, .int .i64 0, .int .i64 0] 33))
  by_cases h0 : E = 0
  · subst h0
    go_enter Tryz.func71, Tryz.ntmps71
    go_wp2_with fail
    refine (rfirst_any g pl _).mono ?_
    rw [HS.out]
    rintro e w1 ⟨rfl, rfl⟩
    go_wp2_with fail
    refine (HRD.out _ HX.out).mono ?_
    rintro e w2 ⟨A, n, c, rfl, hb, hx⟩
    have HB := Lib.hid hb
    have HT := Lib.hid ((hx.block _ (Array.getElem?_eq_some_iff.1 HT.out).1).trans HT.out)
    have HX := Lib.hid (HX.out.trans hx)
    clear hb hx
    go_wp2_with fail
    refine (rmine_any A n c x r g pl _ HB.out).mono ?_
    rintro e w3 ⟨A2, N, c2, rfl, hb, hf, hx⟩
    have HB2 := Lib.hid hb
    have HF2 : Hid (∀ g o, A2 = some ⟨g, o, none⟩ → 0 < N → w.heap.size ≠ g) := Lib.hid fun g o hA hN => by have h1 := hf g o hA hN; have h2 := (Array.getElem?_eq_some_iff.1 HT.out).1; omega
    have HT := Lib.hid ((hx.block _ (Array.getElem?_eq_some_iff.1 HT.out).1).trans HT.out)
    have HX := Lib.hid (HX.out.trans hx)
    clear hb hf hx
    obtain ⟨⟨d0, d1, d2, d3, d4⟩, f0, f1, f2, f3, f4⟩ := five_cells HT.out
    go_wp2_with fail
    refine bodyPost_ret (v := .tuple #[.int .u8 (stM x r g pl : Nat), .agg #[.int .i64 (mfl x r g pl 0 : Nat), .int .i64 (mfl x r g pl 1 : Nat), .int .i64 (mfl x r g pl 2 : Nat), .int .i64 (mfl x r g pl 3 : Nat), .int .i64 (mfl x r g pl 4 : Nat)], .slice A2 N c2]) ?_ rfl ?_
    · simp [results, Tryz.results71, go_sem, d0, d1, d2, d3, d4]
    · exact ⟨_, _, _, rfl, HB2.out.five HF2.out _ _ _ _ _, five_ext HX.out (Nat.le_refl _) _ _ _ _ _⟩
  · have hne : (E != 0) = true := by simpa using h0
    have HXE := Lib.hid (HER.out h0)
    clear h0
    go_enter Tryz.func71, Tryz.ntmps71
    go_wp2_with fail
    refine (rfirst_any g pl _).mono ?_
    rw [HS.out]
    rintro e w1 ⟨rfl, rfl⟩
    go_wp2_with fail
    refine (HRD.out _ HX.out).mono ?_
    rintro e w2 ⟨A, n, c, rfl, hb, hx⟩
    have HB := Lib.hid hb
    have HT := Lib.hid ((hx.block _ (Array.getElem?_eq_some_iff.1 HT.out).1).trans HT.out)
    have HX := Lib.hid (HX.out.trans hx)
    clear hb hx
    obtain ⟨⟨d0, d1, d2, d3, d4⟩, f0, f1, f2, f3, f4⟩ := five_cells HT.out
    go_wp2_with fail
    refine bodyPost_ret (v := .tuple #[.int .u8 2, .agg #[.int .i64 0, .int .i64 0, .int .i64 0, .int .i64 0, .int .i64 0], .slice none 0 0]) ?_ rfl ?_
    · simp [results, Tryz.results71, go_sem, d0, d1, d2, d3, d4]
    · exact ⟨_, _, _, by rw [HXE.out, nil_bad, nil_mfl, nil_mfl, nil_mfl, nil_mfl, nil_mfl]; rfl, by rw [HXE.out, nil_mbl]; exact By.nil_ _, five_ext HX.out (Nat.le_refl _) _ _ _ _ _⟩
end Go.Proofs.YtlikhmhomkiadaaGreatDoor
