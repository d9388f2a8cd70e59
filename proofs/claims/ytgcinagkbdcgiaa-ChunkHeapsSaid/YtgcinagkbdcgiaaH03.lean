/-
  A heap of chunks in memory; the contracts of New and made.
-/
import Derived.Test.YtgcinagkbdcgiaaH00
import Derived.Test.YtgcinagkbdcgiaaH01
import Derived.Test.YtgcinagkbdcgiaaH02
import Derived.Maps.AppendAt
import Derived.Deep.DeepCutAuto
import Derived.RangeFuncNested
import Derived.RangeFuncBound
import Derived.RangeFuncCalls
import Derived.RangeFuncLeaves
import Derived.Shelf.Abstract
import Derived.Shelf.RegionOpen
import Derived.WalkKit
import Derived.OwnWalkIn
import Derived.TacticsInMore
import Derived.LoopNIn
import Derived.LoopIn
import Derived.Deep.RegionHeld3
import Derived.Deep.RegionHeld
import Derived.StillTail
namespace Go.Proofs.Ytgcinagkbdcgiaa
set_option maxRecDepth 100000
section
open Go Go.RowKit Go.Maps
structure ZH (w : World) (h count bm nb : Nat) (f : Int → Option Lst) : Prop where
  row : w.heap[h]? = some (.cells #[.pointer (some ⟨h, 0, none⟩), .int .i64 (count : Int), .map (some bm)] 71 (0, 0))
  map : MapZ w bm nb f
  rng : ∀ k, (f k).isSome = true → 0 ≤ k ∧ k < (count : Int)
  each : ∀ k a, f k = some a → By w a.A a.n a.c a.l ∧ a.n ≤ 80 ∧ ∀ p, a.A = some p → p.block ≠ bm
  cnt : 1 ≤ count ∧ count ≤ 8
section
variable {w w' : World} {h count bm nb : Nat} {f : Int → Option Lst}
theorem ZH.lt (z : ZH w h count bm nb f) : h < w.heap.size := (Array.getElem?_eq_some_iff.1 z.row).1
theorem ZH.ne (z : ZH w h count bm nb f) : h ≠ bm := fun e => by
  obtain ⟨D, ⟨es, clock, hb, _⟩, _⟩ := z.map.own
  have := z.row
  rw [e, hb] at this
  cases this
theorem ZH.ext (z : ZH w h count bm nb f) (hx : Ext w w') : ZH w' h count bm nb f :=
  ⟨(hx.block _ z.lt).trans z.row, z.map.ext hx, z.rng, fun k a ha => ⟨(z.each k a ha).1.ext hx, (z.each k a ha).2⟩, z.cnt⟩
theorem ZH.cells (z : ZH w h count bm nb f) : w.cell? ⟨h, 0, none⟩ = some (.pointer (some ⟨h, 0, none⟩)) ∧ w.cell? ⟨h, 1, none⟩ = some (.int .i64 (count : Int)) ∧ w.cell? ⟨h, 2, none⟩ = some (.map (some bm)) :=
  ⟨cell_of_row w h 0 _ _ _ z.row, cell_of_row w h 1 _ _ _ z.row, cell_of_row w h 2 _ _ _ z.row⟩
end
theorem eqlH_self (a : Addr) (w : World) : (binOp .eql 23 (.pointer (some a)) (.pointer (some a))).run Try.prog w = .ok (.bool true) w := by
  have hi : (Try.prog.info? 71).isSome = true := by kernel_rfl
  obtain ⟨j, hj⟩ := Option.isSome_iff_exists.1 hi
  exact run_eql_ptr_same w a Try.underlying23 hj
set_option maxHeartbeats 400000 in
theorem zmade_yes (g : Nat) (w : World) (h : w.cell? ⟨g, 0, none⟩ = some (.pointer (some ⟨g, 0, none⟩))) :
    Calls Try.prog 35 #[.pointer (some ⟨g, 0, none⟩)] w fun e w' => e = .returned (.bool true) ∧ w = w' := by
  have he := eqlH_self
  go_enter Try.func35, Try.ntmps35
  go_wp2
  go_ret
  exact ⟨rfl, rfl⟩
set_option maxHeartbeats 600000 in
theorem znew_no (count : Int) (hc : inZ 1 count 8 = false) (w : World) :
    Calls Try.prog 9 #[.int .i64 count] w fun e w' => e = .returned (.tuple #[.pointer none, .int .i64 2]) ∧ w = w' := by
  have HC := Lib.hid hc
  clear hc
  go_enter Try.func9, Try.ntmps9
  go_wp2_with fail
  refine (zcount_of _ _).mono ?_
  rw [HC.out]
  rintro e w1 ⟨rfl, rfl⟩
  go_wp2_with fail
  refine bodyPost_ret (v := .tuple #[.pointer none, .int .i64 2]) (by simp [results, Try.results9, go_sem]) rfl ⟨rfl, rfl⟩
set_option maxHeartbeats 600000 in
theorem znew_yes (count : Nat) (hc : 1 ≤ count ∧ count ≤ 8) (w : World) :
    Calls Try.prog 9 #[.int .i64 (count : Int)] w fun e w' => ∃ h bm, e = .returned (.tuple #[.pointer (some ⟨h, 0, none⟩), .int .i64 0]) ∧ ZH w' h count bm 0 (fun _ => none) ∧ Ext w w' ∧ w.heap.size ≤ h ∧ w.heap.size ≤ bm := by
  have hin : inZ 1 (count : Int) 8 = true := inZ_iff.2 (by omega)
  have HIN := Lib.hid hin
  have HC := Lib.hid hc
  have hmm := @run_makeMap Try.prog
  clear hin hc
  go_enter Try.func9, Try.ntmps9
  go_wp2_with fail
  refine (zcount_of _ _).mono ?_
  rw [HIN.out]
  rintro e w1 ⟨rfl, rfl⟩
  go_wp2_with fail
  refine bodyPost_ret (v := .tuple #[.pointer (some ⟨w.heap.size + 1, 0, none⟩), .int .i64 0]) (by simp [results, Try.results9, go_sem]) rfl ?_
  have hx : Ext w ((w.alloc (.map #[] 0)).alloc (.cells #[.pointer (some ⟨w.heap.size + 1, 0, none⟩), .int .i64 (count : Int), .map (some w.heap.size)] 71)) := ((Ext.refl w).alloc _).alloc _
  refine ⟨w.heap.size + 1, w.heap.size, rfl, ⟨?_, (MapZ.new w).ext ((Ext.refl _).alloc _), (fun k hk => by cases hk), (fun k a ha => by cases ha), HC.out⟩, hx, by omega, by omega⟩
  have h1 := heap_alloc_new (w.alloc (.map #[] 0)) (.cells #[.pointer (some ⟨w.heap.size + 1, 0, none⟩), .int .i64 (count : Int), .map (some w.heap.size)] 71)
  rw [World.size_alloc] at h1
  exact h1
end
section
open Go Go.RowKit Go.Shelf
attribute [local go_sem] Oper.semAt_some
def missZ (f : Int → Option Lst) (n : Nat) : List Nat := (List.range n).filter fun k => (f (k : Int)).isNone
theorem missZ_succ (f : Int → Option Lst) (n : Nat) : missZ f (n + 1) = if (f (n : Int)).isNone = true then missZ f n ++ [n] else missZ f n := by
  unfold missZ
  rw [List.range_succ, List.filter_append]
  split
  · rename_i h; simp [h]
  · rename_i h; simp [h]
theorem missZ_len (f : Int → Option Lst) (n : Nat) : (missZ f n).length ≤ n := by
  unfold missZ
  refine Nat.le_trans (List.length_filter_le _ _) ?_
  simp
theorem int_infoZ : (Try.prog.info? 3).map (fun i => (i.zero, i.size, i.bytes)) = some (some (.int .i64 0), 1, 8) := by kernel_rfl
def encN (k : Nat) : Array Value := #[.int .i64 (k : Int)]
set_option maxHeartbeats 400000 in
theorem zmissing_of (p : Option Addr) (w : World) :
    Calls Try.prog 41 #[.pointer p] w fun e w' => e = .returned (.func (.func 50) #[] #[.pointer (some ⟨w.heap.size, 0, none⟩)]) ∧ w' = w.alloc (.cells #[.pointer p] 23) := by
  go_enter Try.func41, Try.ntmps41
  go_wp2
  go_ret
  exact ⟨rfl, rfl⟩
theorem ZH.mod {w w' : World} {h count bm nb : Nat} {f : Int → Option Lst} {F : Nat → Prop} (z : ZH w h count bm nb f) (hm : Mod F w w') (h1 : ¬ F h) (h2 : ¬ F bm) (h3 : ∀ k a, f k = some a → Off F a.A) : ZH w' h count bm nb f :=
  ⟨heap_mod z.row hm h1, z.map.mod hm h2, z.rng, fun k a ha => ⟨By.mod (z.each k a ha).1 hm (h3 k a ha), (z.each k a ha).2⟩, z.cnt⟩
set_option maxHeartbeats 1600000 in
theorem zmiss1_in (n0 : Nat) (hn0 : 1 ≤ n0) (l bl : Nat) (G : Nat → Prop) (h count bm nb : Nat) (f : Int → Option Lst) (hc8 : count ≤ 8) (J Jx : List Nat → World → Prop) (W0 V : World) (hV : Mod G W0 V)
    (hAb : ∀ s W W', J s W → Ext W W' → J s W') (hGf : ¬ G bl ∧ ¬ G h ∧ ¬ G bm) (hcl : V.cell? ⟨bl, 0, none⟩ = some (.pointer (some ⟨h, 0, none⟩)))
    (hz1 : V.cell? ⟨h, 1, none⟩ = some (.int .i64 (count : Int))) (hz2 : V.cell? ⟨h, 2, none⟩ = some (.map (some bm))) (hm : MapZ V bm nb f)
    (hY : ∀ pre x W, J pre W → pre.length < 8 → YieldAt Fence.wide (n0 - 1) Try.prog l (encN x) W fun e W' =>
      (e = .returned (.bool true) ∧ J (pre ++ [x]) W' ∧ Mod G W W') ∨ (e = .returned (.bool false) ∧ Jx (pre ++ [x]) W')) (h0 : J [] V) :
    CallsIn Fence.wide n0 Try.prog 50 #[.func (.yield l) #[] #[], .pointer (some ⟨bl, 0, none⟩)] V fun e W' => (∃ v, e = .returned v) ∧
      ((∃ ys : List Nat, ys = missZ f count ∧ J ys W') ∨ (∃ pre : List Nat, True ∧ Jx pre W')) := by
  have HC := Lib.hid (And.intro hcl (And.intro hz1 (And.intro hz2 hm)))
  have HG := Lib.hid hGf
  have HV := Lib.hid hV
  have HY := Lib.hid hY
  have HAB := Lib.hid hAb
  clear hV hY hGf hAb hm
  refine callsIn_of_wp Try.func50 rfl trivial ?_ rfl
  simp only [Try.ntmps50, List.size_toArray, List.length_cons, List.length_nil, Nat.reduceAdd, Nat.reduceSub, Array.replicate_succ, Array.replicate_zero, List.push_toArray, List.append_toArray, List.nil_append, List.cons_append]
  gi_wp2
  gi_loopw [10] (fun i wr => ∃ (j : Nat), j ≤ count ∧ i = .int .i64 (j : Int) ∧ Hid (J (missZ f j) wr) ∧ Hid (Mod G V wr)) (fun i _ => 100 - (intOf i).toNat)
  case atStart => exact ⟨0, by omega, rfl, Lib.hid h0, Lib.hid (Mod.refl _ _)⟩
  case round =>
    obtain ⟨j, hj, rfl, HJ, HM⟩ := hrel
    have k0 : wr.cell? ⟨bl, 0, none⟩ = some (.pointer (some ⟨h, 0, none⟩)) := mod_cell HM.out HG.out.1 HC.out.1
    have k1 : wr.cell? ⟨h, 1, none⟩ = some (.int .i64 (count : Int)) := mod_cell HM.out HG.out.2.1 HC.out.2.1
    have k2 : wr.cell? ⟨h, 2, none⟩ = some (.map (some bm)) := mod_cell HM.out HG.out.2.1 HC.out.2.2.1
    clear hcl hz1 hz2
    by_cases hlt : j < count
    · have hlk := (HC.out.2.2.2.mod HM.out HG.out.2.2).look (k := (j : Int)) (WalkArith.wf_i64 (by omega))
      have HS := Lib.hid (missZ_succ f j)
      cases hf : f (j : Int) with
      | none =>
        rw [hf] at hlk
        have hlk2 : (Instr.lookup 69 (.map (some bm)) (.int .i64 (j : Int)) true).run Try.prog wr = .ok (.tuple #[.slice none 0 0, .bool false]) wr := hlk
        obtain ⟨fn, tmps, assign, body, hy, hR⟩ := HY.out (missZ f j) j wr HJ.out (by have := missZ_len f j; omega)
        have HR := Lib.hid hR
        have HF := Lib.hid hf
        have hy2 : (Instr.yield l #[.int .i64 (j : Int)]).run Try.prog wr = .ok (.round l fn tmps assign body) wr := hy
        clear hR hy hf hlk
        gi_wp2
        refine HR.out.mono ?_
        rintro e W4 (⟨rfl, hJ4, hM4⟩ | ⟨rfl, hJ4⟩)
        · have HJ4 := Lib.hid hJ4
          have HM4 : Hid (Mod G V W4) := Lib.hid (HM.out.trans hM4 fun _ hi => .inl hi)
          clear hJ4 hM4 hy2 hlk2 k0 k1 k2
          gi_wp2
          go_roundw
          case rel => exact ⟨j + 1, by omega, by go_num, Lib.hid (by rw [HS.out, HF.out]; exact HJ4.out), HM4⟩
          case measure => simp [intOf]; omega
        · have HJ4 := Lib.hid hJ4
          clear hJ4 hy2 hlk2 k0 k1 k2
          gi_wp2
          refine bodyPost_ret (results_none rfl _ _ _) rfl ?_
          exact ⟨⟨_, rfl⟩, .inr ⟨_, trivial, HJ4.out⟩⟩
      | some a =>
        rw [hf] at hlk
        have HF := Lib.hid hf
        obtain ⟨vv, hvv⟩ : ∃ vv, optV (some a) = vv := ⟨_, rfl⟩
        rw [hvv] at hlk
        have hlk2 : (Instr.lookup 69 (.map (some bm)) (.int .i64 (j : Int)) true).run Try.prog wr = .ok (.tuple #[vv, .bool true]) wr := hlk
        clear hf hlk hvv
        gi_wp2
        refine ⟨fun _ h => (by cases h), ?_⟩
        gi_wp2
        go_roundw
        case rel => exact ⟨j + 1, by omega, by go_num, Lib.hid (by rw [HS.out, HF.out]; exact HJ.out), HM⟩
        case measure => simp [intOf]; omega
    · obtain rfl : j = count := by omega
      gi_wp2
      go_end0
      exact ⟨⟨_, rfl⟩, .inl ⟨_, rfl, HJ.out⟩⟩
theorem zmiss_stops (n0 : Nat) (hn0 : 1 ≤ n0) (bl : Nat) (G : Nat → Prop) (h count bm nb : Nat) (f : Int → Option Lst) (hc8 : count ≤ 8) (W0 : World) (hGf : ¬ G bl ∧ ¬ G h ∧ ¬ G bm) (hcl : W0.cell? ⟨bl, 0, none⟩ = some (.pointer (some ⟨h, 0, none⟩)))
    (hz1 : W0.cell? ⟨h, 1, none⟩ = some (.int .i64 (count : Int))) (hz2 : W0.cell? ⟨h, 2, none⟩ = some (.map (some bm))) (hm : MapZ W0 bm nb f) :
    SeqStopsK Fence.wide n0 Try.prog 50 #[.pointer (some ⟨bl, 0, none⟩)] encN (Mod G) (fun ys => ys = missZ f count) (fun _ => True) 8 W0 := fun l J Jx V hV hJ _ hY h0 => by
  have hx : Ext W0 V := hV
  have hmo : Mod G W0 V := Mod.of_ext hx
  exact zmiss1_in n0 hn0 l bl G h count bm nb f hc8 J Jx W0 V hmo (fun s W W' hs hx => hJ s W W' none hs (grown_of_ext hx) (fun r e => by cases e)) hGf (mod_cell hmo hGf.1 hcl) (mod_cell hmo hGf.2.1 hz1) (mod_cell hmo hGf.2.1 hz2) (hm.ext hx) hY h0
end
section
open Go Go.RowKit Go.Shelf
attribute [local go_sem] Oper.semAt_some
theorem mod_of_belowZ {b : Nat} {W W' : World} (h : Below b W W') : Mod (fun k => b ≤ k) W W' := ⟨h.os, h.tape, h.output, Below.size h, fun k _ hg => h.block k (by omega)⟩
set_option maxHeartbeats 1600000 in
theorem zappendSeq_of (bl h count bm nb : Nat) (f : Int → Option Lst) (hc8 : count ≤ 8) (w : World) (hlt : bl < w.heap.size ∧ h < w.heap.size ∧ bm < w.heap.size) (hcl : w.cell? ⟨bl, 0, none⟩ = some (.pointer (some ⟨h, 0, none⟩)))
    (hz1 : w.cell? ⟨h, 1, none⟩ = some (.int .i64 (count : Int))) (hz2 : w.cell? ⟨h, 2, none⟩ = some (.map (some bm))) (hm : MapZ w bm nb f) :
    Calls Try.prog 49 #[.slice none 0 0, .func (.func 50) #[] #[.pointer (some ⟨bl, 0, none⟩)]] w fun e w' =>
      ∃ v, e = .returned v ∧ w'.ownsRow w.heap.size 3 1 v (missZ f count).length ((missZ f count).map fun k : Nat => Value.int .i64 (k : Int)) ∧ Ext w w' := by
  obtain ⟨i0, hi, hz0', hz1', hz2'⟩ := info_parts int_infoZ
  have bO := Boxed.new w 46 (.slice none 0 0)
  have hE : Ext w (w.alloc (.cells #[.slice none 0 0] 46)) := (Ext.refl w).alloc _
  have hst := zmiss_stops 8 (by omega) bl (fun i => w.heap.size ≤ i) h count bm nb f hc8 (w.alloc (.cells #[.slice none 0 0] 46)) ⟨by omega, by omega, by omega⟩ (ext_of_cell hE hcl) (ext_of_cell hE hz1) (ext_of_cell hE hz2) (hm.ext hE)
  have HST := Lib.hid hst
  have HE := Lib.hid hE
  clear hst hcl hz1 hz2 hm hE hlt
  refine calls_marks Try.func49 rfl ?_
  simp only [Try.ntmps49, List.size_toArray, List.length_cons, List.length_nil, Nat.reduceAdd, Nat.reduceSub, Array.replicate_succ, Array.replicate_zero, List.push_toArray, List.append_toArray, List.nil_append, List.cons_append]
  go_wp2_with fail
  refine (wpIn_wide (n := 9)).1 ?_
  refine wpIn_rangeFunc_ownG (F := Fence.wide) (n := 9) rfl (by omega) (gf := 50) (lb := #[.pointer (some ⟨bl, 0, none⟩)]) rfl trivial (enters_of Try.func50 (by kernel_rfl) rfl)
    HST.out (fun h k => h.trans k fun _ hi => .inl hi) (fun W l o o' hl ho _ _ => mod_put (w := w) l o o' (fun k hk => hk) (Nat.le_trans HE.out.size hl) ho) (Below.refl _ _) (fun _ => rfl)
    (fun pre W => (∃ v, Boxed W w.heap.size 46 v ∧ W.ownsRow w.heap.size 3 1 v pre.length (pre.map fun x : Nat => Value.int .i64 (x : Int)) ∧ True) ∧ Below w.heap.size w W)
    (fun _ _ _ => False)
    (OwnFrom.and (Own.from (holdsRow_own w.heap.size w.heap.size 46 3 1 (fun pre : List Nat => pre.length) (fun pre : List Nat => pre.map fun x : Nat => Value.int .i64 (x : Int)) (fun _ _ => True)) _) (ownFrom_below (Nat.le_refl _) HE.out.size))
    (fun _ _ _ _ _ hs _ _ => hs)
    ⟨⟨_, bO, World.ownsRow_nil _ _ _ _, trivial⟩, HE.out⟩
    (fun x => { tmps := #[.slice none 0 0, .func (.func 50) #[] #[.pointer (some ⟨bl, 0, none⟩)], .pointer (some ⟨w.heap.size, 0, none⟩), undef, .slice none 0 0, .int .i64 (x : Int), .func (.func 50) #[] #[.pointer (some ⟨bl, 0, none⟩)], .int .i64 (x : Int), undef, undef, undef, undef, undef], defers := [] }) ?assign ?body ?done ?stop
  case assign =>
    intro l x W K hK
    dsimp only [encN]
    gi_wp2
    exact hK
  case body =>
    rintro l pre x W ⟨⟨v, hv, hrow, _⟩, hB⟩ hlt
    have hc := hv.cell
    gi_wp2_with (gi_at_builtin; refine wpListIn_append_own _ rfl _ _ 46 rfl w.heap.size 3 i0 (.int .i64 0) 1 8 Try.underlying46 hi hz0' hz1' hz2' rfl (by decide) _ _ _ rfl (hrow.alloc _) ⟨W.heap.size, 0, none⟩ 1 1 [.int .i64 (x : Int)] rfl rfl (cell_one_new _ _ _) (by simp [Value.oneCell']) (by unfold maxLen; omega) (by omega) (by have := hB.size; simp; omega) ?_; intro v' w1 hown' hgrow _; obtain ⟨g', cap', rfl⟩ := ownsRow_succ hown'; obtain ⟨hv1, hv2, hr2, hk2, hb2⟩ := hv.appended (by decide) hrow hB.size (Nat.le_refl _) hown' hgrow; have hc1 := hv1.cell; have hf1 := hv1.frozen)
    exact ⟨hk2.from _, mod_of_belowZ hb2, ⟨_, hv2, by simpa using hr2, trivial⟩, hB.trans hb2⟩
  case done =>
    rintro D ys W hD hys ⟨⟨v, hv, hrow, _⟩, hB⟩ hK
    have hc := hv.cell
    subst hys
    have HRW := Lib.hid hrow
    have HBB := Lib.hid hB
    clear hrow hB
    go_wp2_with fail
    refine retM1 rfl hK (v := v) ?_ ?_
    · simp [results, Try.results49, go_sem]
    · exact ⟨v, rfl, ownsRow_putObj HRW.out _ hK rfl, HBB.out.trans (belowK_b (w := w) (Nat.le_refl _) W D _ _ (Nat.le_trans HE.out.size hD) hK rfl rfl)⟩
  case stop =>
    rintro D c pre W _ _ h _
    exact h.elim
set_option maxHeartbeats 800000 in
theorem zcollect_of (bl h count bm nb : Nat) (f : Int → Option Lst) (hc8 : count ≤ 8) (w : World) (hlt : bl < w.heap.size ∧ h < w.heap.size ∧ bm < w.heap.size) (hcl : w.cell? ⟨bl, 0, none⟩ = some (.pointer (some ⟨h, 0, none⟩)))
    (hz1 : w.cell? ⟨h, 1, none⟩ = some (.int .i64 (count : Int))) (hz2 : w.cell? ⟨h, 2, none⟩ = some (.map (some bm))) (hm : MapZ w bm nb f) :
    Calls Try.prog 40 #[.func (.func 50) #[] #[.pointer (some ⟨bl, 0, none⟩)]] w fun e w' =>
      ∃ v, e = .returned v ∧ w'.ownsRow w.heap.size 3 1 v (missZ f count).length ((missZ f count).map fun k : Nat => Value.int .i64 (k : Int)) ∧ Ext w w' := by
  have HA := Lib.hid (zappendSeq_of bl h count bm nb f hc8 w hlt hcl hz1 hz2 hm)
  clear hlt hcl hz1 hz2 hm
  go_enter Try.func40, Try.ntmps40
  go_wp2_with fail
  refine HA.out.mono ?_
  rintro e w1 ⟨v, rfl, hrow, hx⟩
  have HR := Lib.hid hrow
  have HX := Lib.hid hx
  clear hrow hx
  go_wp2_with fail
  go_ret
  exact ⟨v, rfl, HR.out, HX.out⟩
set_option maxHeartbeats 800000 in
theorem zmissing_yes {w : World} {h count bm nb : Nat} {f : Int → Option Lst} (z : ZH w h count bm nb f) :
    Calls Try.prog 22 #[.pointer (some ⟨h, 0, none⟩)] w fun e w' => ∃ A c, e = .returned (.slice A (missZ f count).length c) ∧ w'.ownsRow w.heap.size 3 1 (.slice A (missZ f count).length c) (missZ f count).length ((missZ f count).map fun k : Nat => Value.int .i64 (k : Int)) ∧ Ext w w' := by
  have HM := Lib.hid (zmade_yes h w z.cells.1)
  have hE : Ext w (w.alloc (.cells #[.pointer (some ⟨h, 0, none⟩)] 23)) := (Ext.refl w).alloc _
  have z2 := z.ext hE
  have hlt : w.heap.size < (w.alloc (.cells #[.pointer (some ⟨h, 0, none⟩)] 23)).heap.size := by simp
  have hs := zcollect_of w.heap.size h count bm nb f z.cnt.2 _ ⟨hlt, z2.lt, z2.map.lt⟩ (cell_of_row _ w.heap.size 0 _ _ _ (heap_alloc_new w _)) z2.cells.2.1 z2.cells.2.2 z2.map
  have HS := Lib.hid hs
  have HE := Lib.hid hE
  clear hs hE hlt z2 z
  go_enter Try.func22, Try.ntmps22
  go_wp2_with fail
  refine HM.out.mono ?_
  rintro e w1 ⟨rfl, rfl⟩
  go_wp2_with fail
  refine (zmissing_of (some ⟨h, 0, none⟩) _).mono ?_
  rintro e w1 ⟨rfl, rfl⟩
  go_wp2_with fail
  refine HS.out.mono ?_
  rintro e w2 ⟨v, rfl, hrow, hx⟩
  obtain ⟨A, c, rfl, hn, hc⟩ := own_form hrow
  have HR := Lib.hid hrow
  have HX := Lib.hid (HE.out.trans hx)
  clear hrow hx
  go_wp2_with fail
  go_ret
  refine ⟨A, c, rfl, ⟨HR.out.1, ?_⟩, HX.out⟩
  rcases HR.out.2 with h0 | ⟨g, cap, cur, h1, h2, h3⟩
  · exact .inl h0
  · exact .inr ⟨g, cap, cur, h1, Nat.le_trans HE.out.size h2, h3⟩
end
section
open Go Go.RowKit Go.Maps
def optL : Option Lst → List Nat
  | none => []
  | some a => a.l
theorem ext_cellZ2 {w w' : World} {a : Addr} {v : Value} (h : Ext w w') (hc : w.cell? a = some v) : w'.cell? a = some v := (Below.cell h (p := a) (World.block_lt_of_cell? w _ hc)).trans hc
theorem mod_cellZ {F : Nat → Prop} {w w' : World} (k : Mod F w w') {g i : Nat} {v : Value} (hg : ¬ F g) (h : w.cell? ⟨g, i, none⟩ = some v) : w'.cell? ⟨g, i, none⟩ = some v := mod_cell k hg h
section
variable {w w' : World} {h count bm nb : Nat} {f : Int → Option Lst}
theorem ZH.put (z : ZH w h count bm nb f) {w1 w2 : World} {k : Int} {a : Lst} (hk : 0 ≤ k ∧ k < (count : Int)) (hx : Ext w w1) (hb : By w1 a.A a.n a.c a.l) (hn : a.n ≤ 80) (hfr : ∀ p, a.A = some p → w.heap.size ≤ p.block) (hm : MapZ w2 bm (nb + 1) (updZ f k (some a))) (ht : w1.mapTurned w2 bm) :
    ZH w2 h count bm (nb + 1) (updZ f k (some a)) := by
  have hmo := turned_mod ht
  have hbm := z.map.lt
  refine ⟨heap_mod ((z.ext hx).row) hmo z.ne, hm, fun j hj => ?_, fun j b hjb => ?_, z.cnt⟩
  · unfold updZ at hj
    split at hj
    · rename_i e; rw [e]; exact hk
    · exact z.rng j hj
  · unfold updZ at hjb
    split at hjb
    · injection hjb with hjb
      subst hjb
      have hne : ∀ p, a.A = some p → p.block ≠ bm := fun p hp => by have := hfr p hp; omega
      exact ⟨By.mod hb hmo fun p hp e => hne p hp e, hn, hne⟩
    · obtain ⟨h1, h2, h3⟩ := z.each j b hjb
      exact ⟨By.mod (h1.ext hx) hmo fun p hp e => h3 p hp e, h2, h3⟩
theorem ZH.drop (z : ZH w h count bm nb f) {w2 : World} {k : Int} (hm : MapZ w2 bm nb (updZ f k none)) (ht : w.mapTurned w2 bm) : ZH w2 h count bm nb (updZ f k none) := by
  have hmo := turned_mod ht
  refine ⟨heap_mod z.row hmo z.ne, hm, fun j hj => ?_, fun j b hjb => ?_, z.cnt⟩
  · unfold updZ at hj
    split at hj
    · cases hj
    · exact z.rng j hj
  · unfold updZ at hjb
    split at hjb
    · cases hjb
    · obtain ⟨h1, h2, h3⟩ := z.each j b hjb
      exact ⟨By.mod h1 hmo fun p hp e => h3 p hp e, h2, h3⟩
end
set_option maxHeartbeats 800000 in
theorem zput_no {w : World} {h count bm nb : Nat} {f : Int → Option Lst} (z : ZH w h count bm nb f) (k : Int) (A : Option Addr) (n c : Nat) (hf : fitsZ k count n = false) :
    Calls Try.prog 14 #[.pointer (some ⟨h, 0, none⟩), .int .i64 k, .slice A n c] w fun e w' => e = .returned (.int .i64 2) ∧ w = w' := by
  have HM := Lib.hid (zmade_yes h w z.cells.1)
  have hy := zmay_of count z.cnt k A n c w
  rw [hf] at hy
  have HY := Lib.hid hy
  obtain ⟨c0, c1, c2⟩ := z.cells
  clear hf hy z
  go_enter Try.func14, Try.ntmps14
  go_wp2_with fail
  refine HM.out.mono ?_
  rintro e w1 ⟨rfl, rfl⟩
  go_wp2_with fail
  refine HY.out.mono ?_
  rintro e w1 ⟨rfl, rfl⟩
  go_wp2_with fail
  go_ret
  exact ⟨rfl, rfl⟩
set_option maxHeartbeats 800000 in
theorem zlose_no {w : World} {h count bm nb : Nat} {f : Int → Option Lst} (z : ZH w h count bm nb f) (k : Int) (hf : inZ 0 k ((count : Int) - 1) = false) :
    Calls Try.prog 11 #[.pointer (some ⟨h, 0, none⟩), .int .i64 k] w fun e w' => e = .returned (.int .i64 2) ∧ w = w' := by
  have HM := Lib.hid (zmade_yes h w z.cells.1)
  have hy := zwithin_of 0 k ((count : Int) - 1) w
  rw [hf] at hy
  have HY := Lib.hid hy
  obtain ⟨c0, c1, c2⟩ := z.cells
  have hcn := z.cnt
  clear hf hy z
  go_enter Try.func11, Try.ntmps11
  go_wp2_with fail
  refine HM.out.mono ?_
  rintro e w1 ⟨rfl, rfl⟩
  go_wp2_with fail
  refine HY.out.mono ?_
  rintro e w1 ⟨rfl, rfl⟩
  go_wp2_with fail
  go_ret
  exact ⟨rfl, rfl⟩
set_option maxHeartbeats 800000 in
theorem zlose_yes {w : World} {h count bm nb : Nat} {f : Int → Option Lst} (z : ZH w h count bm nb f) (k : Int) (hf : inZ 0 k ((count : Int) - 1) = true) :
    Calls Try.prog 11 #[.pointer (some ⟨h, 0, none⟩), .int .i64 k] w fun e w' => e = .returned (.int .i64 0) ∧ ZH w' h count bm nb (updZ f k none) ∧ Mod (fun i => i = bm) w w' := by
  have HM := Lib.hid (zmade_yes h w z.cells.1)
  have hy := zwithin_of 0 k ((count : Int) - 1) w
  rw [hf] at hy
  have HY := Lib.hid hy
  obtain ⟨c0, c1, c2⟩ := z.cells
  have hcn := z.cnt
  have hkk := inZ_iff.1 hf
  have hwf : (Lit.int .i64 k).wf = true := WalkArith.wf_i64 (by omega)
  obtain ⟨w4, hrun, hmz, htn⟩ := z.map.drop hwf 0
  have HMZ := Lib.hid hmz
  have HTN := Lib.hid htn
  have HZ := Lib.hid z
  clear hf hy z hmz htn hkk
  go_enter Try.func11, Try.ntmps11
  go_wp2_with fail
  refine HM.out.mono ?_
  rintro e w1 ⟨rfl, rfl⟩
  go_wp2_with fail
  refine HY.out.mono ?_
  rintro e w1 ⟨rfl, rfl⟩
  go_wp2_with fail
  go_ret
  exact ⟨rfl, HZ.out.drop HMZ.out HTN.out, turned_mod HTN.out⟩
set_option maxHeartbeats 800000 in
theorem zget_own {w : World} {h count bm nb : Nat} {f : Int → Option Lst} (z : ZH w h count bm nb f) (k : Int) (hwf : (Lit.int .i64 k).wf = true) :
    Calls Try.prog 16 #[.pointer (some ⟨h, 0, none⟩), .int .i64 k] w fun e w' => ∃ A' N' c', e = .returned (.tuple #[.slice A' N' c', .bool (f k).isSome]) ∧ By w' A' N' c' (optL (f k)) ∧ (∀ p, A' = some p → w.heap.size ≤ p.block) ∧ Ext w w' ∧ w'.ownsRow w.heap.size 5 1 (.slice A' N' c') N' (vb (optL (f k))) := by
  have HM := Lib.hid (zmade_yes h w z.cells.1)
  obtain ⟨c0, c1, c2⟩ := z.cells
  have hlk := z.map.look hwf
  have hbn : ∃ A N C, optV (f k) = .slice A N C ∧ By w A N C (optL (f k)) ∧ N ≤ 80 := by
    cases hf : f k with
    | none => exact ⟨none, 0, 0, rfl, By.nil_ _, by omega⟩
    | some a => exact ⟨a.A, a.n, a.c, rfl, (z.each k a hf).1, (z.each k a hf).2.1⟩
  obtain ⟨A, N, C, hv, hby, hn⟩ := hbn
  rw [hv] at hlk
  obtain ⟨b, hbb⟩ : ∃ b, (f k).isSome = b := ⟨_, rfl⟩
  rw [hbb] at hlk ⊢
  have HCL := Lib.hid (sclone_by A (optL (f k)) N C w hby (by omega))
  clear z hv hby hbb hwf
  go_enter Try.func16, Try.ntmps16
  go_wp2_with fail
  refine HM.out.mono ?_
  rintro e w1 ⟨rfl, rfl⟩
  go_wp2_with fail
  refine HCL.out.mono ?_
  rintro e w1 ⟨A', c', rfl, hby, hx, hown⟩
  have HB := Lib.hid hby
  have HX := Lib.hid hx
  have HO := Lib.hid (own_fresh hown)
  have HOW := Lib.hid hown
  clear hby hx hown
  go_wp2_with fail
  refine bodyPost_ret (v := .tuple #[.slice A' N c', .bool b]) (by simp [results, Try.results16, go_sem]) rfl ?_
  exact ⟨A', N, c', rfl, HB.out, fun p hp => (HO.out p hp).1, HX.out, HOW.out⟩
end
section
open Go Go.RowKit
theorem fitsZ_iff {k : Int} {count n : Nat} : fitsZ k count n = true ↔ 1 ≤ count ∧ count ≤ 8 ∧ 0 ≤ k ∧ k < (count : Int) ∧ n ≤ 80 ∧ (k + 1 < (count : Int) → n = 80) ∧ (1 ≤ n ∨ count = 1) := by
  unfold fitsZ
  rw [Bool.and_eq_true, decide_eq_true_iff, fitsC_iff]
  constructor
  · rintro ⟨a, b, c, d, e, f, g⟩
    exact ⟨b, c, a, by omega, e, fun h => f (by omega), g⟩
  · rintro ⟨b, c, a, d, e, f, g⟩
    exact ⟨a, b, c, by omega, e, fun h => f (by omega), g⟩
theorem fitsZ_not {k : Int} {count n : Nat} (h : ¬ (1 ≤ count ∧ count ≤ 8 ∧ 0 ≤ k ∧ k < (count : Int) ∧ n ≤ 80 ∧ (k + 1 < (count : Int) → n = 80) ∧ (1 ≤ n ∨ count = 1))) : fitsZ k count n = false := by
  cases e : fitsZ k count n with
  | false => rfl
  | true => exact absurd (fitsZ_iff.1 e) h
set_option maxHeartbeats 1600000 in
theorem zrfits_of (k : Int) (count n : Nat) (w : World) :
    Calls Try.prog 39 #[.int .i64 k, .int .i64 (count : Int), .int .i64 (n : Int)] w fun e w' => e = .returned (.bool (fitsZ k count n)) ∧ w = w' := by
  by_cases h1 : 1 ≤ count
  case neg =>
    have hF := fitsZ_not (k := k) (count := count) (n := n) (by omega)
    have h1 : (count : Int) < 1 := by omega
    rw [hF]
    go_enter Try.func39, Try.ntmps39
    go_wp2_with fail
    go_ret
    exact ⟨rfl, rfl⟩
  have h1' : (1 : Int) ≤ (count : Int) := by omega
  by_cases h2 : count ≤ 8
  case neg =>
    have hF := fitsZ_not (k := k) (count := count) (n := n) (by omega)
    have h2 : (8 : Int) < (count : Int) := by omega
    rw [hF]
    go_enter Try.func39, Try.ntmps39
    go_wp2_with fail
    go_ret
    exact ⟨rfl, rfl⟩
  have h2' : (count : Int) ≤ 8 := by omega
  by_cases h3 : 0 ≤ k
  case neg =>
    have hF := fitsZ_not (k := k) (count := count) (n := n) (by omega)
    have h3 : k < 0 := by omega
    rw [hF]
    go_enter Try.func39, Try.ntmps39
    go_wp2_with fail
    go_ret
    exact ⟨rfl, rfl⟩
  by_cases h4 : k < (count : Int)
  case neg =>
    have hF := fitsZ_not (k := k) (count := count) (n := n) (by omega)
    have h4 : (count : Int) ≤ k := by omega
    rw [hF]
    go_enter Try.func39, Try.ntmps39
    go_wp2_with fail
    go_ret
    exact ⟨rfl, rfl⟩
  by_cases h5 : n ≤ 80
  case neg =>
    have hF := fitsZ_not (k := k) (count := count) (n := n) (by omega)
    have h5 : (80 : Int) < (n : Int) := by omega
    rw [hF]
    go_enter Try.func39, Try.ntmps39
    go_wp2_with fail
    go_ret
    exact ⟨rfl, rfl⟩
  have h5' : (n : Int) ≤ 80 := by omega
  by_cases h6 : k < (count : Int) - 1
  case pos =>
    by_cases h7 : n = 80
    · have hF := fitsZ_iff (k := k) (count := count) (n := n) |>.2 ⟨h1, h2, h3, h4, h5, fun _ => h7, by omega⟩
      have h7' : (n : Int) = 80 := by omega
      rw [hF]
      go_enter Try.func39, Try.ntmps39
      go_wp2_with fail
      go_ret
      exact ⟨by first | rfl | simp, rfl⟩
    · have hF := fitsZ_not (k := k) (count := count) (n := n) (by omega)
      have h7' : ¬ (n : Int) = 80 := by omega
      rw [hF]
      go_enter Try.func39, Try.ntmps39
      go_wp2_with fail
      go_ret
      exact ⟨by simp [h7'], rfl⟩
  have h6' : (count : Int) - 1 ≤ k := by omega
  by_cases h7 : 1 ≤ n
  case pos =>
    have hF := fitsZ_iff (k := k) (count := count) (n := n) |>.2 ⟨h1, h2, h3, h4, h5, fun _ => by omega, .inl h7⟩
    have h7' : (1 : Int) ≤ (n : Int) := by omega
    rw [hF]
    go_enter Try.func39, Try.ntmps39
    go_wp2_with fail
    go_ret
    exact ⟨by first | rfl | simp [h7'], rfl⟩
  have h7' : (n : Int) < 1 := by omega
  by_cases h8 : count = 1
  · have hF := fitsZ_iff (k := k) (count := count) (n := n) |>.2 ⟨h1, h2, h3, h4, h5, fun _ => by omega, .inr h8⟩
    have h8' : (count : Int) = 1 := by omega
    rw [hF]
    go_enter Try.func39, Try.ntmps39
    go_wp2_with fail
    go_ret
    exact ⟨by first | rfl | simp [h8'], rfl⟩
  · have hF := fitsZ_not (k := k) (count := count) (n := n) (by omega)
    have h8' : ¬ (count : Int) = 1 := by omega
    rw [hF]
    go_enter Try.func39, Try.ntmps39
    go_wp2_with fail
    go_ret
    exact ⟨by first | rfl | (simp [h8', h7']; done) | (simp [h8']; omega), rfl⟩
end
section
open Go Go.RowKit Go.Maps
def catZ (f : Int → Option Lst) (n : Nat) : List Nat := ((List.range n).map fun k : Nat => optL (f (k : Int))).flatten
theorem catZ_succ (f : Int → Option Lst) (n : Nat) : catZ f (n + 1) = catZ f n ++ optL (f (n : Int)) := by
  unfold catZ
  rw [List.range_succ, List.map_append, List.flatten_append]
  simp
theorem missZ_nil {f : Int → Option Lst} {n : Nat} : missZ f n = [] ↔ ∀ k : Nat, k < n → (f (k : Int)).isSome = true := by
  unfold missZ
  rw [List.filter_eq_nil_iff]
  constructor
  · intro h k hk
    have := h k (List.mem_range.2 hk)
    cases hm : f (k : Int) with
    | none => rw [hm] at this; simp at this
    | some x => rfl
  · intro h k hk
    have := h k (List.mem_range.1 hk)
    cases hm : f (k : Int) with
    | none => rw [hm] at this; cases this
    | some x => simp
def whE (f : Int → Option Lst) (n : Nat) : Int := if missZ f n = [] then 0 else 120
def whL (f : Int → Option Lst) (n : Nat) : List Nat := if missZ f n = [] then catZ f n else []
set_option maxHeartbeats 1600000 in
theorem zwhole_own {w : World} {h count bm nb : Nat} {f : Int → Option Lst} (z : ZH w h count bm nb f) :
    Calls Try.prog 18 #[.pointer (some ⟨h, 0, none⟩)] w fun e w' => ∃ A' N' c', e = .returned (.tuple #[.slice A' N' c', .int .i64 (whE f count)]) ∧ By w' A' N' c' (whL f count) ∧ (∀ p, A' = some p → w.heap.size ≤ p.block) ∧ Ext w w' ∧ w'.ownsRow w.heap.size 5 1 (.slice A' N' c') N' (vb (whL f count)) := by
  obtain ⟨i0, hi, hz0, hz1, hz2⟩ := info_parts byte_info
  have HM := Lib.hid (zmade_yes h w z.cells.1)
  obtain ⟨c0, c1, c2⟩ := z.cells
  have HC := Lib.hid (And.intro c1 c2)
  have hcn := z.cnt.2
  have hcn1 := z.cnt.1
  have HZ := Lib.hid z
  clear z c0
  go_enter Try.func18, Try.ntmps18
  go_wp2_with fail
  refine HM.out.mono ?_
  rintro e w1 ⟨rfl, rfl⟩
  go_wp2_with fail
  go_loopw [4, 15] (fun v i wr => ∃ (j na : Nat) (Aa : Option Addr) (ca : Nat), j ≤ count ∧ na ≤ 80 * j ∧ i = .int .i64 (j : Int) ∧ v = .slice Aa na ca ∧ Hid (wr.ownsRow w.heap.size 5 1 (.slice Aa na ca) na (vb (catZ f j))) ∧ Hid (Ext w wr) ∧ Hid (∀ b ∈ catZ f j, b < 256) ∧ Hid (∀ i : Nat, i < j → (f (i : Int)).isSome = true)) (fun _ i _ => count - (intOf i).toNat)
  case atStart => exact ⟨0, 0, none, 0, by omega, by omega, by simp, rfl, Lib.hid (World.ownsRow_nil _ _ _ _), Lib.hid (Ext.refl _), Lib.hid (fun b hb => by simp [catZ] at hb), Lib.hid fun i hi => by omega⟩
  case round =>
    obtain ⟨j, na, Aa, ca, hj, hna, rfl, rfl, HO, HX, HB, HF⟩ := hrel
    by_cases hlt : j < count
    · have k1 := ext_cellZ2 HX.out HC.out.1
      have k2 := ext_cellZ2 HX.out HC.out.2
      have hlk := (HZ.out.map.ext HX.out).look (k := (j : Int)) (WalkArith.wf_i64 (by omega))
      cases hf : f (j : Int) with
      | none =>
        rw [hf] at hlk
        have hlk2 : (Instr.lookup 69 (.map (some bm)) (.int .i64 (j : Int)) true).run Try.prog wr = .ok (.tuple #[.slice none 0 0, .bool false]) wr := hlk
        have hm : missZ f count ≠ [] := fun e => by
          have := missZ_nil.1 e j hlt
          rw [hf] at this
          cases this
        have HMS := Lib.hid hm
        clear hlk hf hm
        go_wp2_with fail
        refine bodyPost_ret (v := .tuple #[.slice none 0 0, .int .i64 120]) (by simp [results, Try.results18, go_sem]) rfl ?_
        exact ⟨none, 0, 0, by unfold whE; rw [if_neg HMS.out], by unfold whL; rw [if_neg HMS.out]; exact By.nil_ _, (fun p hp => by cases hp), HX.out, by unfold whL; rw [if_neg HMS.out]; exact World.ownsRow_nil _ _ _ _⟩
      | some a =>
        obtain ⟨hby, hn, _⟩ := HZ.out.each _ a hf
        have HBY := Lib.hid (hby.ext HX.out)
        obtain ⟨aA, an, ac, al⟩ := a
        rw [hf] at hlk
        have hlk2 : (Instr.lookup 69 (.map (some bm)) (.int .i64 (j : Int)) true).run Try.prog wr = .ok (.tuple #[.slice aA an ac, .bool true]) wr := hlk
        have hsucc := catZ_succ f j
        rw [hf] at hsucc
        have HSU : Hid (catZ f (j + 1) = catZ f j ++ al) := Lib.hid hsucc
        have HFS : Hid ((f (j : Int)).isSome = true) := Lib.hid (by rw [hf]; rfl)
        dsimp only at hn
        clear hlk hby hf hsucc
        go_wp2_with (at_builtin; refine wpList_append_by rfl _ _ 30 rfl w.heap.size 5 i0 Try.underlying30 hi hz0 hz1 hz2 _ na (vb (catZ f j)) rfl HO.out aA an ac al rfl HBY.out (by omega) (Ext.size HX.out) ?_)
        intro v2 w2 hown hg
        obtain ⟨hx, A2, c2', rfl, hb2, ho2⟩ := app_step HX.out HO.out hg hown HB.out HBY.out.rd.lt
        have HX2 := Lib.hid hx
        have HO2 := Lib.hid ho2
        have HLT := Lib.hid (Bs.rd hb2).lt
        clear hx hb2 ho2 hown hg
        go_wp2_with fail
        go_roundw
        case rel => exact ⟨j + 1, na + an, A2, c2', by omega, by omega, by go_num, rfl, Lib.hid (by rw [HSU.out]; exact HO2.out), HX2, Lib.hid (by rw [HSU.out]; exact HLT.out), Lib.hid fun i hi => by
          by_cases hij : i = j
          · subst hij; exact HFS.out
          · exact HF.out i (by omega)⟩
        case measure => simp [intOf]; omega
    · obtain rfl : j = count := by omega
      go_wp2_with fail
      refine bodyPost_ret (v := .tuple #[.slice Aa na ca, .int .i64 0]) (by simp [results, Try.results18, go_sem]) rfl ?_
      have hm : missZ f j = [] := missZ_nil.2 HF.out
      exact ⟨Aa, na, ca, by unfold whE; rw [if_pos hm], by unfold whL; rw [if_pos hm]; exact Bs.of_own HO.out HB.out, (fun p hp => by subst hp; exact (HO.out.lt p.block rfl).1), HX.out, by unfold whL; rw [if_pos hm]; exact HO.out⟩
section
variable {w : World} {p : Option Addr}
end
end
section
open Go Go.RowKit
theorem Lsts.ext {w w' : World} {A : Option Addr} {n c : Nat} {l : List Lst} (h : Lsts w w.heap.size A n c l) (k : Ext w w') : Lsts w' w'.heap.size A n c l := (h.below k).more k.size
end
section
open Go Go.RowKit
def PutR (w : World) (g : Nat) (P : List Bool) : Prop := w.heap[g]? = some (.cells (P.map Value.bool).toArray 4 (0, 0))
theorem PutR.cell {w : World} {g k : Nat} {P : List Bool} (h : PutR w g P) (hk : k < P.length) : w.cell? ⟨g, k, none⟩ = some (.bool (P.getD k false)) := by
  rw [cell_of_row w g k _ _ _ h]
  simp [List.getD_eq_getElem?_getD, List.getElem?_eq_getElem hk]
theorem PutR.keep {w w' : World} {g : Nat} {P : List Bool} (h : PutR w g P) (e : w'.heap[g]? = w.heap[g]?) : PutR w' g P := e.trans h
theorem below_of_modZ {B bm : Nat} {a b : World} (h : Mod (fun i => i = bm) a b) (hB : B ≤ bm) (hs : B ≤ a.heap.size) : Below B a b := ⟨h.os, h.tape, h.output, h.size, fun k hk => h.block k (by omega) (by omega)⟩
theorem mod_cellP (w : World) (g k : Nat) (v : Value) : Mod (fun i => i = g) w (w.setCell ⟨g, k, none⟩ v) := Mod.setCell (F := fun i => i = g) (Mod.refl _ _) (p := ⟨g, k, none⟩) (.inl rfl) v
end
section
open Go
section
variable {P : Program} {md : Region.Mode} {ops : Array Oper} {Q : Exit → Act → World → Prop} {S : World → Prop} {c : Nat}
end
end
section
open Go Go.RowKit
def thereC (f : Int → Option Lst) (n : Nat) : Array Value := ((List.range n).map fun k : Nat => Value.bool (f (k : Int)).isSome).toArray
def listC (f : Int → Option Lst) (n : Nat) : Array Value := ((List.range n).map fun k : Nat => optV (f (k : Int))).toArray
theorem mapC_get {n k : Nat} (g : Nat → Value) (h : k < n) : (((List.range n).map g).toArray)[k]? = some (g k) := by
  rw [List.getElem?_toArray, List.getElem?_map, List.getElem?_range h]
  rfl
theorem mapC_set {n k : Nat} (g g' : Nat → Value) (v : Value) (h : ∀ j, j < n → g' j = if j = k then v else g j) : (((List.range n).map g).toArray).setIfInBounds k v = ((List.range n).map g').toArray := by
  rw [List.setIfInBounds_toArray]
  congr 1
  apply List.ext_getElem?
  intro j
  rw [List.getElem?_set, List.getElem?_map, List.getElem?_map, List.length_map, List.length_range]
  by_cases hj : j < n
  · rw [List.getElem?_range hj]
    have := h j hj
    by_cases hk : k = j
    · subst hk
      simp [hj, this]
    · rw [if_neg hk]
      have hk' : ¬ j = k := fun e => hk e.symm
      simp [this, hk']
  · rw [List.getElem?_eq_none (by simp; omega)]
    split <;> simp <;> omega
theorem thereC_get {f : Int → Option Lst} {n k : Nat} (h : k < n) : (thereC f n)[k]? = some (.bool (f (k : Int)).isSome) := mapC_get _ h
theorem listC_get {f : Int → Option Lst} {n k : Nat} (h : k < n) : (listC f n)[k]? = some (optV (f (k : Int))) := mapC_get _ h
theorem upd_at (f : Int → Option Lst) (k : Nat) (o : Option Lst) (j : Nat) : updZ f (k : Int) o (j : Int) = if j = k then o else f (j : Int) := by
  unfold updZ
  by_cases h : j = k
  · rw [if_pos h, if_pos (by omega)]
  · rw [if_neg h, if_neg (by omega)]
theorem thereC_set (f : Int → Option Lst) (n k : Nat) (o : Option Lst) : (thereC f n).setIfInBounds k (.bool o.isSome) = thereC (updZ f (k : Int) o) n := mapC_set _ _ _ fun j _ => by
  rw [upd_at]
  split <;> rfl
theorem listC_set (f : Int → Option Lst) (n k : Nat) (o : Option Lst) : (listC f n).setIfInBounds k (optV o) = listC (updZ f (k : Int) o) n := mapC_set _ _ _ fun j _ => by
  rw [upd_at]
  split <;> rfl
structure RZ (w : World) (y gt gl count : Nat) (f : Int → Option Lst) : Prop where
  box : w.heap[y]? = some (.cells #[.slice (some ⟨gt, 0, none⟩) count count, .slice (some ⟨gl, 0, none⟩) count count] 75 (0, 0))
  there : w.heap[gt]? = some (.cells (thereC f count) 4 (0, 0))
  lst : w.heap[gl]? = some (.cells (listC f count) 30 (0, 0))
  rng : ∀ k, (f k).isSome = true → 0 ≤ k ∧ k < (count : Int)
  each : ∀ k a, f k = some a → By w a.A a.n a.c a.l ∧ a.n ≤ 80 ∧ ∀ p, a.A = some p → p.block ≠ y ∧ p.block ≠ gt ∧ p.block ≠ gl
  ne : y ≠ gt ∧ y ≠ gl ∧ gt ≠ gl
  cnt : 1 ≤ count ∧ count ≤ 8
section
variable {w w' : World} {y gt gl count : Nat} {f : Int → Option Lst}
theorem RZ.lt (z : RZ w y gt gl count f) : y < w.heap.size ∧ gt < w.heap.size ∧ gl < w.heap.size := ⟨(Array.getElem?_eq_some_iff.1 z.box).1, (Array.getElem?_eq_some_iff.1 z.there).1, (Array.getElem?_eq_some_iff.1 z.lst).1⟩
theorem RZ.ext (z : RZ w y gt gl count f) (hx : Ext w w') : RZ w' y gt gl count f :=
  ⟨(hx.block _ z.lt.1).trans z.box, (hx.block _ z.lt.2.1).trans z.there, (hx.block _ z.lt.2.2).trans z.lst, z.rng, fun k a ha => ⟨(z.each k a ha).1.ext hx, (z.each k a ha).2⟩, z.ne, z.cnt⟩
theorem RZ.mod {F : Nat → Prop} (z : RZ w y gt gl count f) (hm : Mod F w w') (h1 : ¬ F y) (h2 : ¬ F gt) (h3 : ¬ F gl) (h4 : ∀ k a, f k = some a → ∀ p, a.A = some p → ¬ F p.block) : RZ w' y gt gl count f :=
  ⟨heap_mod z.box hm h1, heap_mod z.there hm h2, heap_mod z.lst hm h3, z.rng, fun k a ha => ⟨By.mod (z.each k a ha).1 hm (h4 k a ha), (z.each k a ha).2⟩, z.ne, z.cnt⟩
theorem RZ.cells (z : RZ w y gt gl count f) : w.cell? ⟨y, 0, none⟩ = some (.slice (some ⟨gt, 0, none⟩) count count) ∧ w.cell? ⟨y, 1, none⟩ = some (.slice (some ⟨gl, 0, none⟩) count count) :=
  ⟨cell_of_row w y 0 _ _ _ z.box, cell_of_row w y 1 _ _ _ z.box⟩
theorem RZ.at_ (z : RZ w y gt gl count f) {k : Nat} (hk : k < count) : w.cell? ⟨gt, k, none⟩ = some (.bool (f (k : Int)).isSome) ∧ w.frozen? ⟨gt, k, none⟩ = false ∧ w.cell? ⟨gl, k, none⟩ = some (optV (f (k : Int))) ∧ w.frozen? ⟨gl, k, none⟩ = false :=
  ⟨(cell_of_row w gt k _ _ _ z.there).trans (thereC_get hk), frozen_of_row w gt k _ _ z.there, (cell_of_row w gl k _ _ _ z.lst).trans (listC_get hk), frozen_of_row w gl k _ _ z.lst⟩
theorem RZ.set (z : RZ w y gt gl count f) {k : Nat} (hk : k < count) (o : Option Lst) {w1 : World} (hx : Ext (w.setCell ⟨gt, k, none⟩ (.bool o.isSome)) w1) (ho : ∀ a, o = some a → By w1 a.A a.n a.c a.l ∧ a.n ≤ 80 ∧ ∀ p, a.A = some p → w.heap.size ≤ p.block) :
    RZ (w1.setCell ⟨gl, k, none⟩ (optV o)) y gt gl count (updZ f (k : Int) o) := by
  have hs : (w.setCell ⟨gt, k, none⟩ (.bool o.isSome)).heap.size = w.heap.size := by simp [World.setCell]
  have m1 : Mod (fun i => i = gt) w (w.setCell ⟨gt, k, none⟩ (.bool o.isSome)) := mod_cellP w gt k _
  have m2 : Mod (fun i => i = gl) w1 (w1.setCell ⟨gl, k, none⟩ (optV o)) := mod_cellP w1 gl k _
  have t1 : (w.setCell ⟨gt, k, none⟩ (.bool o.isSome)).heap[gt]? = some (.cells (thereC (updZ f (k : Int) o) count) 4 (0, 0)) := by
    rw [← thereC_set]
    exact row_set k z.there _ rfl
  have hlt := z.lt
  have l1 : w1.heap[gl]? = some (.cells (listC f count) 30 (0, 0)) := (hx.block gl (by omega)).trans (heap_mod z.lst m1 fun e => z.ne.2.2 e.symm)
  refine ⟨heap_mod ((hx.block y (by omega)).trans (heap_mod z.box m1 z.ne.1)) m2 z.ne.2.1, heap_mod ((hx.block gt (by omega)).trans t1) m2 z.ne.2.2, ?_, fun j hj => ?_, fun j a ha => ?_, z.ne, z.cnt⟩
  · rw [← listC_set]
    exact row_set k l1 _ (by cases o <;> rfl)
  · unfold updZ at hj
    split at hj
    · omega
    · exact z.rng j hj
  · unfold updZ at ha
    split at ha
    · obtain ⟨h1, h2, h3⟩ := ho a ha
      exact ⟨By.mod h1 m2 fun p hp e => (by have := h3 p hp; have e : p.block = gl := e; omega), h2, fun p hp => by have := h3 p hp; omega⟩
    · obtain ⟨h1, h2, h3⟩ := z.each j a ha
      exact ⟨By.mod ((By.mod h1 m1 fun p hp => (h3 p hp).2.1).ext hx) m2 fun p hp => (h3 p hp).2.2, h2, h3⟩
end
end
end Go.Proofs.Ytgcinagkbdcgiaa
