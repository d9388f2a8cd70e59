/-
  The contract of a heap's Missing: the numbers of the chunks that it does not hold, rising.
-/
import Derived.Test.YtnlappoocffcpaaO00
import Derived.Test.YtnlappoocffcpaaO01
import Derived.Test.YtnlappoocffcpaaO02
import Derived.Test.YtnlappoocffcpaaO03
import Derived.Maps.AppendAt
import Derived.Deep.DeepCutAuto
import Derived.RangeFuncNested
import Derived.RangeFuncBound
import Derived.RangeFuncCalls
import Derived.RangeFuncLeaves
import Derived.Shelf.Abstract
import Derived.Shelf.RegionOpen
import Derived.WalkKit
import Derived.OwnWalkIn
import Derived.TacticsInMore
import Derived.LoopNIn
import Derived.LoopIn
import Derived.Deep.RegionHeld3
namespace Go.Proofs.Ytnlappoocffcpaa
set_option maxRecDepth 100000
section
open Go Go.RowKit Go.Shelf
attribute [local go_sem] Oper.semAt_some
def missZ (f : Int → Option Lst) (n : Nat) : List Nat := (List.range n).filter fun k => (f (k : Int)).isNone
theorem missZ_succ (f : Int → Option Lst) (n : Nat) : missZ f (n + 1) = if (f (n : Int)).isNone = true then missZ f n ++ [n] else missZ f n := by
  unfold missZ
  rw [List.range_succ, List.filter_append]
  split
  · rename_i h; simp [h]
  · rename_i h; simp [h]
theorem missZ_len (f : Int → Option Lst) (n : Nat) : (missZ f n).length ≤ n := by
  unfold missZ
  refine Nat.le_trans (List.length_filter_le _ _) ?_
  simp
theorem int_infoZ : (Try.prog.info? 3).map (fun i => (i.zero, i.size, i.bytes)) = some (some (.int .i64 0), 1, 8) := by kernel_rfl
def encN (k : Nat) : Array Value := #[.int .i64 (k : Int)]
set_option maxHeartbeats 400000 in
theorem zmissing_of (p : Option Addr) (w : World) :
    Calls Try.prog 39 #[.pointer p] w fun e w' => e = .returned (.func (.func 43) #[] #[.pointer (some ⟨w.heap.size, 0, none⟩)]) ∧ w' = w.alloc (.cells #[.pointer p] 39) := by
  go_enter Try.func39, Try.ntmps39
  go_wp2
  go_ret
  exact ⟨rfl, rfl⟩
set_option maxHeartbeats 1600000 in
theorem zmiss1_in (n0 : Nat) (hn0 : 1 ≤ n0) (l bl : Nat) (G : Nat → Prop) (h count bm nb : Nat) (f : Int → Option Lst) (hc8 : count ≤ 8) (J Jx : List Nat → World → Prop) (W0 V : World) (hV : Mod G W0 V)
    (hAb : ∀ s W W', J s W → Ext W W' → J s W') (hGf : ¬ G bl ∧ ¬ G h ∧ ¬ G bm) (hcl : V.cell? ⟨bl, 0, none⟩ = some (.pointer (some ⟨h, 0, none⟩)))
    (hz1 : V.cell? ⟨h, 1, none⟩ = some (.int .i64 (count : Int))) (hz2 : V.cell? ⟨h, 2, none⟩ = some (.map (some bm))) (hm : MapZ V bm nb f)
    (hY : ∀ pre x W, J pre W → pre.length < 8 → YieldAt Fence.wide (n0 - 1) Try.prog l (encN x) W fun e W' =>
      (e = .returned (.bool true) ∧ J (pre ++ [x]) W' ∧ Mod G W W') ∨ (e = .returned (.bool false) ∧ Jx (pre ++ [x]) W')) (h0 : J [] V) :
    CallsIn Fence.wide n0 Try.prog 43 #[.func (.yield l) #[] #[], .pointer (some ⟨bl, 0, none⟩)] V fun e W' => (∃ v, e = .returned v) ∧
      ((∃ ys : List Nat, ys = missZ f count ∧ J ys W') ∨ (∃ pre : List Nat, True ∧ Jx pre W')) := by
  have HC := Lib.hid (And.intro hcl (And.intro hz1 (And.intro hz2 hm)))
  have HG := Lib.hid hGf
  have HV := Lib.hid hV
  have HY := Lib.hid hY
  have HAB := Lib.hid hAb
  clear hV hY hGf hAb hm
  refine callsIn_of_wp Try.func43 rfl trivial ?_ rfl
  simp only [Try.ntmps43, List.size_toArray, List.length_cons, List.length_nil, Nat.reduceAdd, Nat.reduceSub, Array.replicate_succ, Array.replicate_zero, List.push_toArray, List.append_toArray, List.nil_append, List.cons_append]
  gi_wp2
  gi_loopw [10] (fun i wr => ∃ (j : Nat), j ≤ count ∧ i = .int .i64 (j : Int) ∧ Hid (J (missZ f j) wr) ∧ Hid (Mod G V wr)) (fun i _ => 100 - (intOf i).toNat)
  case atStart => exact ⟨0, by omega, rfl, Lib.hid h0, Lib.hid (Mod.refl _ _)⟩
  case round =>
    obtain ⟨j, hj, rfl, HJ, HM⟩ := hrel
    have k0 : wr.cell? ⟨bl, 0, none⟩ = some (.pointer (some ⟨h, 0, none⟩)) := mod_cell HM.out HG.out.1 HC.out.1
    have k1 : wr.cell? ⟨h, 1, none⟩ = some (.int .i64 (count : Int)) := mod_cell HM.out HG.out.2.1 HC.out.2.1
    have k2 : wr.cell? ⟨h, 2, none⟩ = some (.map (some bm)) := mod_cell HM.out HG.out.2.1 HC.out.2.2.1
    clear hcl hz1 hz2
    by_cases hlt : j < count
    · have hlk := (HC.out.2.2.2.mod HM.out HG.out.2.2).look (k := (j : Int)) (WalkArith.wf_i64 (by omega))
      have HS := Lib.hid (missZ_succ f j)
      cases hf : f (j : Int) with
      | none =>
        rw [hf] at hlk
        have hlk2 : (Instr.lookup 59 (.map (some bm)) (.int .i64 (j : Int)) true).run Try.prog wr = .ok (.tuple #[.slice none 0 0, .bool false]) wr := hlk
        obtain ⟨fn, tmps, assign, body, hy, hR⟩ := HY.out (missZ f j) j wr HJ.out (by have := missZ_len f j; omega)
        have HR := Lib.hid hR
        have HF := Lib.hid hf
        have hy2 : (Instr.yield l #[.int .i64 (j : Int)]).run Try.prog wr = .ok (.round l fn tmps assign body) wr := hy
        clear hR hy hf hlk
        gi_wp2
        refine HR.out.mono ?_
        rintro e W4 (⟨rfl, hJ4, hM4⟩ | ⟨rfl, hJ4⟩)
        · have HJ4 := Lib.hid hJ4
          have HM4 : Hid (Mod G V W4) := Lib.hid (HM.out.trans hM4 fun _ hi => .inl hi)
          clear hJ4 hM4 hy2 hlk2 k0 k1 k2
          gi_wp2
          go_roundw
          case rel => exact ⟨j + 1, by omega, by go_num, Lib.hid (by rw [HS.out, HF.out]; exact HJ4.out), HM4⟩
          case measure => simp [intOf]; omega
        · have HJ4 := Lib.hid hJ4
          clear hJ4 hy2 hlk2 k0 k1 k2
          gi_wp2
          refine bodyPost_ret (results_none rfl _ _ _) rfl ?_
          exact ⟨⟨_, rfl⟩, .inr ⟨_, trivial, HJ4.out⟩⟩
      | some a =>
        rw [hf] at hlk
        have HF := Lib.hid hf
        obtain ⟨vv, hvv⟩ : ∃ vv, optV (some a) = vv := ⟨_, rfl⟩
        rw [hvv] at hlk
        have hlk2 : (Instr.lookup 59 (.map (some bm)) (.int .i64 (j : Int)) true).run Try.prog wr = .ok (.tuple #[vv, .bool true]) wr := hlk
        clear hf hlk hvv
        gi_wp2
        refine ⟨fun _ h => (by cases h), ?_⟩
        gi_wp2
        go_roundw
        case rel => exact ⟨j + 1, by omega, by go_num, Lib.hid (by rw [HS.out, HF.out]; exact HJ.out), HM⟩
        case measure => simp [intOf]; omega
    · obtain rfl : j = count := by omega
      gi_wp2
      go_end0
      exact ⟨⟨_, rfl⟩, .inl ⟨_, rfl, HJ.out⟩⟩
theorem zmiss_stops (n0 : Nat) (hn0 : 1 ≤ n0) (bl : Nat) (G : Nat → Prop) (h count bm nb : Nat) (f : Int → Option Lst) (hc8 : count ≤ 8) (W0 : World) (hGf : ¬ G bl ∧ ¬ G h ∧ ¬ G bm) (hcl : W0.cell? ⟨bl, 0, none⟩ = some (.pointer (some ⟨h, 0, none⟩)))
    (hz1 : W0.cell? ⟨h, 1, none⟩ = some (.int .i64 (count : Int))) (hz2 : W0.cell? ⟨h, 2, none⟩ = some (.map (some bm))) (hm : MapZ W0 bm nb f) :
    SeqStopsK Fence.wide n0 Try.prog 43 #[.pointer (some ⟨bl, 0, none⟩)] encN (Mod G) (fun ys => ys = missZ f count) (fun _ => True) 8 W0 := fun l J Jx V hV hJ _ hY h0 => by
  have hx : Ext W0 V := hV
  have hmo : Mod G W0 V := Mod.of_ext hx
  exact zmiss1_in n0 hn0 l bl G h count bm nb f hc8 J Jx W0 V hmo (fun s W W' hs hx => hJ s W W' none hs (grown_of_ext hx) (fun r e => by cases e)) hGf (mod_cell hmo hGf.1 hcl) (mod_cell hmo hGf.2.1 hz1) (mod_cell hmo hGf.2.1 hz2) (hm.ext hx) hY h0
end
section
open Go Go.RowKit Go.Shelf
attribute [local go_sem] Oper.semAt_some
theorem mod_of_belowZ {b : Nat} {W W' : World} (h : Below b W W') : Mod (fun k => b ≤ k) W W' := ⟨h.os, h.tape, h.output, Below.size h, fun k _ hg => h.block k (by omega)⟩
set_option maxHeartbeats 1600000 in
theorem zappendSeq_of (bl h count bm nb : Nat) (f : Int → Option Lst) (hc8 : count ≤ 8) (w : World) (hlt : bl < w.heap.size ∧ h < w.heap.size ∧ bm < w.heap.size) (hcl : w.cell? ⟨bl, 0, none⟩ = some (.pointer (some ⟨h, 0, none⟩)))
    (hz1 : w.cell? ⟨h, 1, none⟩ = some (.int .i64 (count : Int))) (hz2 : w.cell? ⟨h, 2, none⟩ = some (.map (some bm))) (hm : MapZ w bm nb f) :
    Calls Try.prog 42 #[.slice none 0 0, .func (.func 43) #[] #[.pointer (some ⟨bl, 0, none⟩)]] w fun e w' =>
      ∃ v, e = .returned v ∧ w'.ownsRow w.heap.size 3 1 v (missZ f count).length ((missZ f count).map fun k : Nat => Value.int .i64 (k : Int)) ∧ Ext w w' := by
  obtain ⟨i0, hi, hz0', hz1', hz2'⟩ := info_parts int_infoZ
  have bO := Boxed.new w 56 (.slice none 0 0)
  have hE : Ext w (w.alloc (.cells #[.slice none 0 0] 56)) := (Ext.refl w).alloc _
  have hst := zmiss_stops 8 (by omega) bl (fun i => w.heap.size ≤ i) h count bm nb f hc8 (w.alloc (.cells #[.slice none 0 0] 56)) ⟨by omega, by omega, by omega⟩ (ext_of_cell hE hcl) (ext_of_cell hE hz1) (ext_of_cell hE hz2) (hm.ext hE)
  have HST := Lib.hid hst
  have HE := Lib.hid hE
  clear hst hcl hz1 hz2 hm hE hlt
  refine calls_marks Try.func42 rfl ?_
  simp only [Try.ntmps42, List.size_toArray, List.length_cons, List.length_nil, Nat.reduceAdd, Nat.reduceSub, Array.replicate_succ, Array.replicate_zero, List.push_toArray, List.append_toArray, List.nil_append, List.cons_append]
  go_wp2_with fail
  refine (wpIn_wide (n := 9)).1 ?_
  refine wpIn_rangeFunc_ownG (F := Fence.wide) (n := 9) rfl (by omega) (gf := 43) (lb := #[.pointer (some ⟨bl, 0, none⟩)]) rfl trivial (enters_of Try.func43 (by kernel_rfl) rfl)
    HST.out (fun h k => h.trans k fun _ hi => .inl hi) (fun W l o o' hl ho _ _ => mod_put (w := w) l o o' (fun k hk => hk) (Nat.le_trans HE.out.size hl) ho) (Below.refl _ _) (fun _ => rfl)
    (fun pre W => (∃ v, Boxed W w.heap.size 56 v ∧ W.ownsRow w.heap.size 3 1 v pre.length (pre.map fun x : Nat => Value.int .i64 (x : Int)) ∧ True) ∧ Below w.heap.size w W)
    (fun _ _ _ => False)
    (OwnFrom.and (Own.from (holdsRow_own w.heap.size w.heap.size 56 3 1 (fun pre : List Nat => pre.length) (fun pre : List Nat => pre.map fun x : Nat => Value.int .i64 (x : Int)) (fun _ _ => True)) _) (ownFrom_below (Nat.le_refl _) HE.out.size))
    (fun _ _ _ _ _ hs _ _ => hs)
    ⟨⟨_, bO, World.ownsRow_nil _ _ _ _, trivial⟩, HE.out⟩
    (fun x => { tmps := #[.slice none 0 0, .func (.func 43) #[] #[.pointer (some ⟨bl, 0, none⟩)], .pointer (some ⟨w.heap.size, 0, none⟩), undef, .slice none 0 0, .int .i64 (x : Int), .func (.func 43) #[] #[.pointer (some ⟨bl, 0, none⟩)], .int .i64 (x : Int), undef, undef, undef, undef, undef], defers := [] }) ?assign ?body ?done ?stop
  case assign =>
    intro l x W K hK
    dsimp only [encN]
    gi_wp2
    exact hK
  case body =>
    rintro l pre x W ⟨⟨v, hv, hrow, _⟩, hB⟩ hlt
    have hc := hv.cell
    gi_wp2_with (gi_at_builtin; refine wpListIn_append_own _ rfl _ _ 56 rfl w.heap.size 3 i0 (.int .i64 0) 1 8 Try.underlying56 hi hz0' hz1' hz2' rfl (by decide) _ _ _ rfl (hrow.alloc _) ⟨W.heap.size, 0, none⟩ 1 1 [.int .i64 (x : Int)] rfl rfl (cell_one_new _ _ _) (by simp [Value.oneCell']) (by unfold maxLen; omega) (by omega) (by have := hB.size; simp; omega) ?_; intro v' w1 hown' hgrow _; obtain ⟨g', cap', rfl⟩ := ownsRow_succ hown'; obtain ⟨hv1, hv2, hr2, hk2, hb2⟩ := hv.appended (by decide) hrow hB.size (Nat.le_refl _) hown' hgrow; have hc1 := hv1.cell; have hf1 := hv1.frozen)
    exact ⟨hk2.from _, mod_of_belowZ hb2, ⟨_, hv2, by simpa using hr2, trivial⟩, hB.trans hb2⟩
  case done =>
    rintro D ys W hD hys ⟨⟨v, hv, hrow, _⟩, hB⟩ hK
    have hc := hv.cell
    subst hys
    have HRW := Lib.hid hrow
    have HBB := Lib.hid hB
    clear hrow hB
    go_wp2_with fail
    refine retM1 rfl hK (v := v) ?_ ?_
    · simp [results, Try.results42, go_sem]
    · exact ⟨v, rfl, ownsRow_putObj HRW.out _ hK rfl, HBB.out.trans (belowK_b (w := w) (Nat.le_refl _) W D _ _ (Nat.le_trans HE.out.size hD) hK rfl rfl)⟩
  case stop =>
    rintro D c pre W _ _ h _
    exact h.elim
set_option maxHeartbeats 800000 in
theorem zcollect_of (bl h count bm nb : Nat) (f : Int → Option Lst) (hc8 : count ≤ 8) (w : World) (hlt : bl < w.heap.size ∧ h < w.heap.size ∧ bm < w.heap.size) (hcl : w.cell? ⟨bl, 0, none⟩ = some (.pointer (some ⟨h, 0, none⟩)))
    (hz1 : w.cell? ⟨h, 1, none⟩ = some (.int .i64 (count : Int))) (hz2 : w.cell? ⟨h, 2, none⟩ = some (.map (some bm))) (hm : MapZ w bm nb f) :
    Calls Try.prog 38 #[.func (.func 43) #[] #[.pointer (some ⟨bl, 0, none⟩)]] w fun e w' =>
      ∃ v, e = .returned v ∧ w'.ownsRow w.heap.size 3 1 v (missZ f count).length ((missZ f count).map fun k : Nat => Value.int .i64 (k : Int)) ∧ Ext w w' := by
  have HA := Lib.hid (zappendSeq_of bl h count bm nb f hc8 w hlt hcl hz1 hz2 hm)
  clear hlt hcl hz1 hz2 hm
  go_enter Try.func38, Try.ntmps38
  go_wp2_with fail
  refine HA.out.mono ?_
  rintro e w1 ⟨v, rfl, hrow, hx⟩
  have HR := Lib.hid hrow
  have HX := Lib.hid hx
  clear hrow hx
  go_wp2_with fail
  go_ret
  exact ⟨v, rfl, HR.out, HX.out⟩
set_option maxHeartbeats 800000 in
theorem zmissing_yes {w : World} {h count bm nb : Nat} {f : Int → Option Lst} (z : ZH w h count bm nb f) :
    Calls Try.prog 27 #[.pointer (some ⟨h, 0, none⟩)] w fun e w' => ∃ A c, e = .returned (.slice A (missZ f count).length c) ∧ w'.ownsRow w.heap.size 3 1 (.slice A (missZ f count).length c) (missZ f count).length ((missZ f count).map fun k : Nat => Value.int .i64 (k : Int)) ∧ Ext w w' := by
  have HM := Lib.hid (zmade_yes h w z.cells.1)
  have hE : Ext w (w.alloc (.cells #[.pointer (some ⟨h, 0, none⟩)] 39)) := (Ext.refl w).alloc _
  have z2 := z.ext hE
  have hlt : w.heap.size < (w.alloc (.cells #[.pointer (some ⟨h, 0, none⟩)] 39)).heap.size := by simp
  have hs := zcollect_of w.heap.size h count bm nb f z.cnt.2 _ ⟨hlt, z2.lt, z2.map.lt⟩ (cell_of_row _ w.heap.size 0 _ _ _ (heap_alloc_new w _)) z2.cells.2.1 z2.cells.2.2 z2.map
  have HS := Lib.hid hs
  have HE := Lib.hid hE
  clear hs hE hlt z2 z
  go_enter Try.func27, Try.ntmps27
  go_wp2_with fail
  refine HM.out.mono ?_
  rintro e w1 ⟨rfl, rfl⟩
  go_wp2_with fail
  refine (zmissing_of (some ⟨h, 0, none⟩) _).mono ?_
  rintro e w1 ⟨rfl, rfl⟩
  go_wp2_with fail
  refine HS.out.mono ?_
  rintro e w2 ⟨v, rfl, hrow, hx⟩
  obtain ⟨A, c, rfl, hn, hc⟩ := own_form hrow
  have HR := Lib.hid hrow
  have HX := Lib.hid (HE.out.trans hx)
  clear hrow hx
  go_wp2_with fail
  go_ret
  refine ⟨A, c, rfl, ⟨HR.out.1, ?_⟩, HX.out⟩
  rcases HR.out.2 with h0 | ⟨g, cap, cur, h1, h2, h3⟩
  · exact .inl h0
  · exact .inr ⟨g, cap, cur, h1, Nat.le_trans HE.out.size h2, h3⟩
end
section
open Go Go.RowKit Go.Maps
def optL : Option Lst → List Nat
  | none => []
  | some a => a.l
theorem ext_cellZ2 {w w' : World} {a : Addr} {v : Value} (h : Ext w w') (hc : w.cell? a = some v) : w'.cell? a = some v := (Below.cell h (p := a) (World.block_lt_of_cell? w _ hc)).trans hc
theorem mod_cellZ {F : Nat → Prop} {w w' : World} (k : Mod F w w') {g i : Nat} {v : Value} (hg : ¬ F g) (h : w.cell? ⟨g, i, none⟩ = some v) : w'.cell? ⟨g, i, none⟩ = some v := mod_cell k hg h
section
variable {w w' : World} {h count bm nb : Nat} {f : Int → Option Lst}
theorem ZH.put (z : ZH w h count bm nb f) {w1 w2 : World} {k : Int} {a : Lst} (hk : 0 ≤ k ∧ k < (count : Int)) (hx : Ext w w1) (hb : By w1 a.A a.n a.c a.l) (hn : a.n ≤ 80) (hfr : ∀ p, a.A = some p → w.heap.size ≤ p.block) (hm : MapZ w2 bm (nb + 1) (updZ f k (some a))) (ht : w1.mapTurned w2 bm) :
    ZH w2 h count bm (nb + 1) (updZ f k (some a)) := by
  have hmo := turned_mod ht
  have hbm := z.map.lt
  refine ⟨heap_mod ((z.ext hx).row) hmo z.ne, hm, fun j hj => ?_, fun j b hjb => ?_, z.cnt⟩
  · unfold updZ at hj
    split at hj
    · rename_i e; rw [e]; exact hk
    · exact z.rng j hj
  · unfold updZ at hjb
    split at hjb
    · injection hjb with hjb
      subst hjb
      have hne : ∀ p, a.A = some p → p.block ≠ bm := fun p hp => by have := hfr p hp; omega
      exact ⟨By.mod hb hmo fun p hp e => hne p hp e, hn, hne⟩
    · obtain ⟨h1, h2, h3⟩ := z.each j b hjb
      exact ⟨By.mod (h1.ext hx) hmo fun p hp e => h3 p hp e, h2, h3⟩
theorem ZH.drop (z : ZH w h count bm nb f) {w2 : World} {k : Int} (hm : MapZ w2 bm nb (updZ f k none)) (ht : w.mapTurned w2 bm) : ZH w2 h count bm nb (updZ f k none) := by
  have hmo := turned_mod ht
  refine ⟨heap_mod z.row hmo z.ne, hm, fun j hj => ?_, fun j b hjb => ?_, z.cnt⟩
  · unfold updZ at hj
    split at hj
    · cases hj
    · exact z.rng j hj
  · unfold updZ at hjb
    split at hjb
    · cases hjb
    · obtain ⟨h1, h2, h3⟩ := z.each j b hjb
      exact ⟨By.mod h1 hmo fun p hp e => h3 p hp e, h2, h3⟩
end
set_option maxHeartbeats 800000 in
theorem zput_yes {w : World} {h count bm nb : Nat} {f : Int → Option Lst} (z : ZH w h count bm nb f) (hnb : nb ≤ 1000) (k : Int) (A : Option Addr) (n c : Nat) (l : List Nat) (hb : By w A n c l) (hf : fitsZ k count n = true) :
    Calls Try.prog 20 #[.pointer (some ⟨h, 0, none⟩), .int .i64 k, .slice A n c] w fun e w' => e = .returned (.int .i64 0) ∧ ∃ a : Lst, a.l = l ∧ ZH w' h count bm (nb + 1) (updZ f k (some a)) ∧ Mod (fun i => i = bm) w w' := by
  have HM := Lib.hid (zmade_yes h w z.cells.1)
  have hy := zmay_of count z.cnt k A n c w
  rw [hf] at hy
  have HY := Lib.hid hy
  have hk : 0 ≤ k ∧ k < (count : Int) ∧ n ≤ 80 := by
    rw [fitsZ_eq z.cnt, Bool.and_eq_true, inZ_iff, inZ_iff] at hf
    omega
  obtain ⟨hk0, hkc, hn80⟩ := hk
  have hwf : (Lit.int .i64 k).wf = true := WalkArith.wf_i64 (by have := z.cnt; omega)
  have HCL := Lib.hid (sclone_by A l n c w.drew (hb.ext (Ext.refl w).drew) (by omega))
  have HST := Lib.hid (fun (V : World) (hV : MapZ V bm nb f) (a : Lst) => hV.store hwf (by unfold maxLen; omega) a)
  obtain ⟨c0, c1, c2⟩ := z.cells
  have HZ := Lib.hid z
  have hS0 : w.drew.cell? ⟨h, 2, none⟩ = some (.map (some bm)) := c2
  clear hf hy z hb
  go_enter Try.func20, Try.ntmps20
  go_wp2_with fail
  refine HM.out.mono ?_
  rintro e w1 ⟨rfl, rfl⟩
  go_wp2_with fail
  refine HY.out.mono ?_
  rintro e w1 ⟨rfl, rfl⟩
  go_wp2_with fail
  go_region_held3 (fun w' => w'.cell? ⟨h, 2, none⟩ = some (.map (some bm)))
    (first | with_reducible exact hS0 | with_reducible exact hS1 | with_reducible exact hS2 | with_reducible assumption)
    (first
      | (go_at_call 31; ((with_reducible refine HCL.out.mono ?_); rintro e' w3 ⟨A', c', rfl, hby, hx, hown⟩; have HX := Lib.hid (Ext.trans (Ext.refl w).drew hx); have HBY := Lib.hid hby; have HFR := Lib.hid (own_fresh hown); have hS1 := ext_cellZ2 hx hS0; obtain ⟨w4, hrun, hmz, htn⟩ := HST.out w3 (HZ.out.map.ext HX.out) ⟨A', n, c', l⟩; have hS2 := mod_cellZ (turned_mod htn) HZ.out.ne hS1; have HMZ := Lib.hid hmz; have HTN := Lib.hid htn; clear hby hx hown hmz htn)))
  go_wp2_with fail
  go_ret
  refine ⟨rfl, ⟨A', n, c', l⟩, rfl, HZ.out.put ⟨hk0, hkc⟩ HX.out HBY.out hn80 (fun p hp => (HFR.out p hp).1) HMZ.out HTN.out, ?_⟩
  exact (Mod.of_ext HX.out).trans (turned_mod HTN.out) fun i hi => .inl hi
set_option maxHeartbeats 800000 in
theorem zlose_no {w : World} {h count bm nb : Nat} {f : Int → Option Lst} (z : ZH w h count bm nb f) (k : Int) (hf : inZ 0 k ((count : Int) - 1) = false) :
    Calls Try.prog 18 #[.pointer (some ⟨h, 0, none⟩), .int .i64 k] w fun e w' => e = .returned (.int .i64 2) ∧ w = w' := by
  have HM := Lib.hid (zmade_yes h w z.cells.1)
  have hy := zwithin_of 0 k ((count : Int) - 1) w
  rw [hf] at hy
  have HY := Lib.hid hy
  obtain ⟨c0, c1, c2⟩ := z.cells
  have hcn := z.cnt
  clear hf hy z
  go_enter Try.func18, Try.ntmps18
  go_wp2_with fail
  refine HM.out.mono ?_
  rintro e w1 ⟨rfl, rfl⟩
  go_wp2_with fail
  refine HY.out.mono ?_
  rintro e w1 ⟨rfl, rfl⟩
  go_wp2_with fail
  go_ret
  exact ⟨rfl, rfl⟩
set_option maxHeartbeats 800000 in
theorem zlose_yes {w : World} {h count bm nb : Nat} {f : Int → Option Lst} (z : ZH w h count bm nb f) (k : Int) (hf : inZ 0 k ((count : Int) - 1) = true) :
    Calls Try.prog 18 #[.pointer (some ⟨h, 0, none⟩), .int .i64 k] w fun e w' => e = .returned (.int .i64 0) ∧ ZH w' h count bm nb (updZ f k none) ∧ Mod (fun i => i = bm) w w' := by
  have HM := Lib.hid (zmade_yes h w z.cells.1)
  have hy := zwithin_of 0 k ((count : Int) - 1) w
  rw [hf] at hy
  have HY := Lib.hid hy
  obtain ⟨c0, c1, c2⟩ := z.cells
  have hcn := z.cnt
  have hkk := inZ_iff.1 hf
  have hwf : (Lit.int .i64 k).wf = true := WalkArith.wf_i64 (by omega)
  obtain ⟨w4, hrun, hmz, htn⟩ := z.map.drop hwf 0
  have HMZ := Lib.hid hmz
  have HTN := Lib.hid htn
  have HZ := Lib.hid z
  clear hf hy z hmz htn hkk
  go_enter Try.func18, Try.ntmps18
  go_wp2_with fail
  refine HM.out.mono ?_
  rintro e w1 ⟨rfl, rfl⟩
  go_wp2_with fail
  refine HY.out.mono ?_
  rintro e w1 ⟨rfl, rfl⟩
  go_wp2_with fail
  go_ret
  exact ⟨rfl, HZ.out.drop HMZ.out HTN.out, turned_mod HTN.out⟩
end
section
open Go Go.RowKit Go.Maps
def catZ (f : Int → Option Lst) (n : Nat) : List Nat := ((List.range n).map fun k : Nat => optL (f (k : Int))).flatten
theorem catZ_succ (f : Int → Option Lst) (n : Nat) : catZ f (n + 1) = catZ f n ++ optL (f (n : Int)) := by
  unfold catZ
  rw [List.range_succ, List.map_append, List.flatten_append]
  simp
theorem missZ_nil {f : Int → Option Lst} {n : Nat} : missZ f n = [] ↔ ∀ k : Nat, k < n → (f (k : Int)).isSome = true := by
  unfold missZ
  rw [List.filter_eq_nil_iff]
  constructor
  · intro h k hk
    have := h k (List.mem_range.2 hk)
    cases hm : f (k : Int) with
    | none => rw [hm] at this; simp at this
    | some x => rfl
  · intro h k hk
    have := h k (List.mem_range.1 hk)
    cases hm : f (k : Int) with
    | none => rw [hm] at this; cases this
    | some x => simp
def whE (f : Int → Option Lst) (n : Nat) : Int := if missZ f n = [] then 0 else 120
def whL (f : Int → Option Lst) (n : Nat) : List Nat := if missZ f n = [] then catZ f n else []
set_option maxHeartbeats 1600000 in
theorem zwhole_of {w : World} {h count bm nb : Nat} {f : Int → Option Lst} (z : ZH w h count bm nb f) :
    Calls Try.prog 24 #[.pointer (some ⟨h, 0, none⟩)] w fun e w' => ∃ A' N' c', e = .returned (.tuple #[.slice A' N' c', .int .i64 (whE f count)]) ∧ By w' A' N' c' (whL f count) ∧ (∀ p, A' = some p → w.heap.size ≤ p.block) ∧ Ext w w' := by
  obtain ⟨i0, hi, hz0, hz1, hz2⟩ := info_parts byte_info
  have HM := Lib.hid (zmade_yes h w z.cells.1)
  obtain ⟨c0, c1, c2⟩ := z.cells
  have HC := Lib.hid (And.intro c1 c2)
  have hcn := z.cnt.2
  have hcn1 := z.cnt.1
  have HZ := Lib.hid z
  clear z c0
  go_enter Try.func24, Try.ntmps24
  go_wp2_with fail
  refine HM.out.mono ?_
  rintro e w1 ⟨rfl, rfl⟩
  go_wp2_with fail
  go_loopw [4, 15] (fun v i wr => ∃ (j na : Nat) (Aa : Option Addr) (ca : Nat), j ≤ count ∧ na ≤ 80 * j ∧ i = .int .i64 (j : Int) ∧ v = .slice Aa na ca ∧ Hid (wr.ownsRow w.heap.size 5 1 (.slice Aa na ca) na (vb (catZ f j))) ∧ Hid (Ext w wr) ∧ Hid (∀ b ∈ catZ f j, b < 256) ∧ Hid (∀ i : Nat, i < j → (f (i : Int)).isSome = true)) (fun _ i _ => count - (intOf i).toNat)
  case atStart => exact ⟨0, 0, none, 0, by omega, by omega, by simp, rfl, Lib.hid (World.ownsRow_nil _ _ _ _), Lib.hid (Ext.refl _), Lib.hid (fun b hb => by simp [catZ] at hb), Lib.hid fun i hi => by omega⟩
  case round =>
    obtain ⟨j, na, Aa, ca, hj, hna, rfl, rfl, HO, HX, HB, HF⟩ := hrel
    by_cases hlt : j < count
    · have k1 := ext_cellZ2 HX.out HC.out.1
      have k2 := ext_cellZ2 HX.out HC.out.2
      have hlk := (HZ.out.map.ext HX.out).look (k := (j : Int)) (WalkArith.wf_i64 (by omega))
      cases hf : f (j : Int) with
      | none =>
        rw [hf] at hlk
        have hlk2 : (Instr.lookup 59 (.map (some bm)) (.int .i64 (j : Int)) true).run Try.prog wr = .ok (.tuple #[.slice none 0 0, .bool false]) wr := hlk
        have hm : missZ f count ≠ [] := fun e => by
          have := missZ_nil.1 e j hlt
          rw [hf] at this
          cases this
        have HMS := Lib.hid hm
        clear hlk hf hm
        go_wp2_with fail
        refine bodyPost_ret (v := .tuple #[.slice none 0 0, .int .i64 120]) (by simp [results, Try.results24, go_sem]) rfl ?_
        exact ⟨none, 0, 0, by unfold whE; rw [if_neg HMS.out], by unfold whL; rw [if_neg HMS.out]; exact By.nil_ _, (fun p hp => by cases hp), HX.out⟩
      | some a =>
        obtain ⟨hby, hn, _⟩ := HZ.out.each _ a hf
        have HBY := Lib.hid (hby.ext HX.out)
        obtain ⟨aA, an, ac, al⟩ := a
        rw [hf] at hlk
        have hlk2 : (Instr.lookup 59 (.map (some bm)) (.int .i64 (j : Int)) true).run Try.prog wr = .ok (.tuple #[.slice aA an ac, .bool true]) wr := hlk
        have hsucc := catZ_succ f j
        rw [hf] at hsucc
        have HSU : Hid (catZ f (j + 1) = catZ f j ++ al) := Lib.hid hsucc
        have HFS : Hid ((f (j : Int)).isSome = true) := Lib.hid (by rw [hf]; rfl)
        dsimp only at hn
        clear hlk hby hf hsucc
        go_wp2_with (at_builtin; refine wpList_append_by rfl _ _ 22 rfl w.heap.size 5 i0 Try.underlying22 hi hz0 hz1 hz2 _ na (vb (catZ f j)) rfl HO.out aA an ac al rfl HBY.out (by omega) (Ext.size HX.out) ?_)
        intro v2 w2 hown hg
        obtain ⟨hx, A2, c2', rfl, hb2, ho2⟩ := app_step HX.out HO.out hg hown HB.out HBY.out.rd.lt
        have HX2 := Lib.hid hx
        have HO2 := Lib.hid ho2
        have HLT := Lib.hid (Bs.rd hb2).lt
        clear hx hb2 ho2 hown hg
        go_wp2_with fail
        go_roundw
        case rel => exact ⟨j + 1, na + an, A2, c2', by omega, by omega, by go_num, rfl, Lib.hid (by rw [HSU.out]; exact HO2.out), HX2, Lib.hid (by rw [HSU.out]; exact HLT.out), Lib.hid fun i hi => by
          by_cases hij : i = j
          · subst hij; exact HFS.out
          · exact HF.out i (by omega)⟩
        case measure => simp [intOf]; omega
    · obtain rfl : j = count := by omega
      go_wp2_with fail
      refine bodyPost_ret (v := .tuple #[.slice Aa na ca, .int .i64 0]) (by simp [results, Try.results24, go_sem]) rfl ?_
      have hm : missZ f j = [] := missZ_nil.2 HF.out
      exact ⟨Aa, na, ca, by unfold whE; rw [if_pos hm], by unfold whL; rw [if_pos hm]; exact Bs.of_own HO.out HB.out, (fun p hp => by subst hp; exact (HO.out.lt p.block rfl).1), HX.out⟩
section
variable {w : World} {p : Option Addr}
end
end
section
open Go Go.RowKit
def lsOf (L : List Lst) : List (List Nat) := L.map fun a => a.l
def joinE (l : List (List Nat)) : Int := if joinB l = true then 0 else 2
def joinO (l : List (List Nat)) : List Nat := if joinB l = true then l.flatten else []
theorem joinB_no {l : List (List Nat)} {k : Nat} (hk : k < l.length) (h : fitsC k l.length (l.getD k []).length = false) : joinB l = false := by
  cases hj : joinB l with
  | false => rfl
  | true =>
    have := (joinB_iff.1 hj).2 k hk
    rw [h] at this
    cases this
theorem joinB_len {l : List (List Nat)} (h : ¬ (1 ≤ l.length ∧ l.length ≤ 8)) : joinB l = false := by
  cases hj : joinB l with
  | false => rfl
  | true =>
    have h1 := (joinB_iff.1 hj).1
    have := (join_len hj).1
    omega
theorem lsts_parts {w : World} {B : Nat} {A : Option Addr} {n c : Nat} {L : List Lst} (h : Lsts w B A n c L) : Parts w B A n (L.map fun a => (Lst.val a, a.l)) := by
  refine ⟨by rw [List.length_map]; exact h.len, fun hn => ?_, fun p hp => ?_⟩
  · obtain ⟨g, o, e, hg, hc⟩ := h.rd hn
    refine ⟨g, o, e, hg, fun j p hp => ?_⟩
    rw [List.getElem?_map] at hp
    obtain ⟨a, ha, rfl⟩ := Option.map_eq_some_iff.1 hp
    exact hc j a ha
  · obtain ⟨a, ha, rfl⟩ := List.mem_map.1 hp
    exact ⟨a.A, a.n, a.c, rfl, h.each a ha⟩
theorem cat_parts (L : List Lst) : cat (L.map fun a => (Lst.val a, a.l)) = (lsOf L).flatten := by
  unfold cat lsOf
  rw [List.flatMap_def, List.map_map]
  rfl
theorem lsOf_get {L : List Lst} {k : Nat} {a : Lst} (h : L[k]? = some a) : (lsOf L).getD k [] = a.l := by
  unfold lsOf
  rw [List.getD_eq_getElem?_getD, List.getElem?_map, h]; rfl
set_option maxHeartbeats 1000000 in
theorem zjoin_of {w : World} (A : Option Addr) (n c : Nat) (L : List Lst) (h : Lsts w w.heap.size A n c L) :
    Calls Try.prog 13 #[.slice A n c] w fun e w' => ∃ A' N' c', e = .returned (.tuple #[.slice A' N' c', .int .i64 (joinE (lsOf L))]) ∧ By w' A' N' c' (joinO (lsOf L)) ∧ (∀ p, A' = some p → w.heap.size ≤ p.block) ∧ Ext w w' := by
  have HL := Lib.hid h
  have hcap := h.cap
  have hmost := h.most
  have hlen : (lsOf L).length = n := by unfold lsOf; rw [List.length_map]; exact h.len
  have HLEN := Lib.hid hlen
  clear h hlen
  by_cases hc : 1 ≤ n ∧ n ≤ 8
  · obtain ⟨hc1, hc8⟩ := hc
    have hin : inZ 1 (n : Int) 8 = true := inZ_iff.2 (by omega)
    have HIN := Lib.hid hin
    clear hin
    go_enter Try.func13, Try.ntmps13
    go_wp2_with fail
    refine (zcount_of _ _).mono ?_
    rw [HIN.out]
    rintro e w1 ⟨rfl, rfl⟩
    go_wp2_with fail
    go_loopw [12] (fun i wr => ∃ k : Nat, k ≤ n ∧ i = .int .i64 (k : Int) ∧ wr = w ∧ Hid (∀ j, j < k → fitsC j n ((lsOf L).getD j []).length = true)) (fun i _ => n - (intOf i).toNat)
    case atStart => exact ⟨0, by omega, by simp, rfl, Lib.hid fun j hj => by omega⟩
    case round =>
      obtain ⟨k, hk, rfl, rfl, HF⟩ := hrel
      by_cases hlt : k < n
      · obtain ⟨g, o, a, hA, hg, ha, hby, hcell⟩ := HL.out.at_ hlt
        subst hA
        have HGD := Lib.hid (lsOf_get ha)
        have HBL : Hid (a.l.length = a.n) := Lib.hid hby.len
        obtain ⟨aA, an, ac, al⟩ := a
        clear ha hby
        dsimp only at hcell
        cases hf : fitsC k n an with
        | true =>
          have HM := Lib.hid (zmay_of n ⟨hc1, hc8⟩ (k : Int) aA an ac wr)
          rw [fitsZ_nat, hf] at HM
          have HFK := Lib.hid hf
          clear hf
          go_wp2_with fail
          refine HM.out.mono ?_
          rintro e w1 ⟨rfl, rfl⟩
          go_wp2_with fail
          go_roundw
          case rel => exact ⟨k + 1, by omega, by go_num, (by first | rfl | trivial), Lib.hid fun j hj => by
            by_cases hjk : j = k
            · subst hjk
              rw [HGD.out, HBL.out]
              exact HFK.out
            · exact HF.out j (by omega)⟩
          case measure => simp [intOf]; omega
        | false =>
          have HM := Lib.hid (zmay_of n ⟨hc1, hc8⟩ (k : Int) aA an ac wr)
          rw [fitsZ_nat, hf] at HM
          have hno : joinB (lsOf L) = false := joinB_no (k := k) (by rw [HLEN.out]; exact hlt) (by rw [HLEN.out, HGD.out, HBL.out]; exact hf)
          have HNO := Lib.hid hno
          clear hf hno
          go_wp2_with fail
          refine HM.out.mono ?_
          rintro e w1 ⟨rfl, rfl⟩
          go_wp2_with fail
          refine bodyPost_ret (v := .tuple #[.slice none 0 0, .int .i64 2]) (by simp [results, Try.results13, go_sem]) rfl ?_
          refine ⟨none, 0, 0, by unfold joinE; rw [HNO.out]; rfl, by unfold joinO; rw [HNO.out]; exact By.nil_ _, (fun p hp => by cases hp), Ext.refl _⟩
      · obtain rfl : k = n := by omega
        have hyes : joinB (lsOf L) = true := joinB_iff.2 ⟨by rw [HLEN.out]; exact hc1, fun j hj => by rw [HLEN.out] at hj ⊢; exact HF.out j hj⟩
        have hfl := (join_len hyes).2.2
        have hj := join_any A k c (L.map fun a => (Lst.val a, a.l)) wr (lsts_parts HL.out) (by omega) (by rw [cat_parts]; omega)
        rw [cat_parts] at hj
        have HJ := Lib.hid hj
        have HY := Lib.hid hyes
        have hbt : ∀ b ∈ (lsOf L).flatten, b < 256 := fun b hb => by
          obtain ⟨x, hx, hbx⟩ := List.mem_flatten.1 hb
          obtain ⟨a, ha, rfl⟩ := List.mem_map.1 hx
          exact (HL.out.each a ha).rd.lt b hbx
        have HBT := Lib.hid hbt
        clear hyes hfl hj hbt
        go_wp2_with fail
        refine HJ.out.mono ?_
        rintro e w1 ⟨A', c', rfl, hown, hx⟩
        have HO := Lib.hid hown
        have HX : Hid (Ext wr w1) := Lib.hid hx
        clear hown hx
        go_wp2_with fail
        refine bodyPost_ret (v := .tuple #[.slice A' (lsOf L).flatten.length c', .int .i64 0]) (by simp [results, Try.results13, go_sem]) rfl ?_
        refine ⟨A', _, c', by unfold joinE; rw [HY.out]; rfl, by unfold joinO; rw [HY.out]; exact Bs.of_own HO.out HBT.out, (fun p hp => (own_fresh HO.out p hp).1), HX.out⟩
  · have hin : inZ 1 (n : Int) 8 = false := by unfold inZ; exact decide_eq_false (by omega)
    have HIN := Lib.hid hin
    have hno : joinB (lsOf L) = false := joinB_len (by rw [HLEN.out]; exact hc)
    have HNO := Lib.hid hno
    clear hin hno hc
    go_enter Try.func13, Try.ntmps13
    go_wp2_with fail
    refine (zcount_of _ _).mono ?_
    rw [HIN.out]
    rintro e w1 ⟨rfl, rfl⟩
    go_wp2_with fail
    refine bodyPost_ret (v := .tuple #[.slice none 0 0, .int .i64 2]) (by simp [results, Try.results13, go_sem]) rfl ?_
    refine ⟨none, 0, 0, by unfold joinE; rw [HNO.out]; rfl, by unfold joinO; rw [HNO.out]; exact By.nil_ _, (fun p hp => by cases hp), Ext.refl _⟩
end
section
open Go Go.RowKit
theorem lsts_own {w : World} {b b' : Nat} {v v' : Value} {L : List Lst} (hrow : w.ownsRow b 22 1 v L.length (L.map Lst.val)) (hok : LsOk w b' v' L) : ∃ A c, v = .slice A L.length c ∧ Lsts w w.heap.size A L.length c L := by
  obtain ⟨A, c, rfl, h1, h2⟩ := own_form hrow
  refine ⟨A, c, rfl, rfl, h1, h2, fun a ha => (hok a ha).1, fun hn => ?_, fun hA => ?_⟩
  · rcases hrow.2 with ⟨_, h0⟩ | ⟨g, cap, cur, hv, hb, hg, _⟩
    · omega
    · injection hv with hA hN hC
      subst hA
      refine ⟨g, 0, rfl, (Array.getElem?_eq_some_iff.1 hg).1, fun j a ha => ?_⟩
      have hj : j < L.length := (List.getElem?_eq_some_iff.1 ha).1
      rw [Nat.zero_add, hrow.cellAt j (by omega), List.getElem?_map, ha]
      rfl
  · rcases hrow.2 with ⟨hv, _⟩ | ⟨g, cap, cur, hv, _⟩
    · injection hv
    · injection hv with hA' _ _
      rw [hA] at hA'
      cases hA'
theorem zsplit_lsts {w : World} (A : Option Addr) (n c : Nat) (bs : List Nat) (hb : By w A n c bs) (hn : n ≤ 640) :
    Calls Try.prog 10 #[.slice A n c] w fun e w' => ∃ A' c' L, e = .returned (.tuple #[.slice A' L.length c', .int .i64 0]) ∧ Lsts w' w'.heap.size A' L.length c' L ∧ lsOf L = splitL bs ∧ Ext w w' :=
  (zsplit_yes A n c bs hb hn).mono fun e w' ⟨v, L, he, hrow, hok, hl, hx⟩ => by
    obtain ⟨A', c', rfl, hL⟩ := lsts_own hrow hok
    exact ⟨A', c', L, he, hL, hl, hx⟩
end
section
open Go Go.RowKit
theorem wrap_modZ (z : Int) (N : Nat) (h0 : 0 < N) (hN : N ≤ 1000) : ∃ q : Nat, q < N ∧ wrap64 ((IntKind.u64.wrap z).tmod (N : Int)) = (q : Int) := by
  have h1 : 0 ≤ IntKind.u64.wrap z := by rw [IntKind.wrap_u64]; omega
  have h2 := Int.emod_nonneg (IntKind.u64.wrap z) (show (N : Int) ≠ 0 by omega)
  have h3 := Int.emod_lt_of_pos (IntKind.u64.wrap z) (show (0 : Int) < N by omega)
  refine ⟨((IntKind.u64.wrap z) % N).toNat, by omega, ?_⟩
  rw [Int.tmod_eq_emod_of_nonneg h1, IntWalk.wrap64_in _ (by omega)]
  omega
structure HoldZ (f : Int → Option Lst) (P : List Bool) (b : List Nat) (n : Nat) : Prop where
  len : P.length = n
  some_ : ∀ k : Nat, k < n → (f (k : Int)).isSome = P.getD k false
  is_ : ∀ (k : Nat) (a : Lst), f (k : Int) = some a → a.l = chunkL b k
theorem HoldZ.new (b : List Nat) (n : Nat) : HoldZ (fun _ => none) (List.replicate n false) b n := by
  refine ⟨by simp, fun k hk => ?_, fun k a h => by cases h⟩
  rw [List.getD_eq_getElem?_getD, List.getElem?_replicate]
  split <;> rfl
theorem HoldZ.put {f : Int → Option Lst} {P : List Bool} {b : List Nat} {n : Nat} (h : HoldZ f P b n) (k : Nat) (a : Lst) (hk : k < n) (ha : a.l = chunkL b k) : HoldZ (updZ f (k : Int) (some a)) (P.set k true) b n := by
  have hl := h.len
  refine ⟨by rw [List.length_set]; exact h.len, fun j hj => ?_, fun j c hc => ?_⟩
  · unfold updZ
    rw [List.getD_eq_getElem?_getD, List.getElem?_set]
    by_cases e : j = k
    · subst e
      rw [if_pos rfl, if_pos rfl, if_pos (by omega)]
      rfl
    · rw [if_neg (by omega), if_neg (by omega), ← List.getD_eq_getElem?_getD]
      exact h.some_ j hj
  · unfold updZ at hc
    by_cases e : j = k
    · subst e
      rw [if_pos rfl] at hc
      injection hc with hc
      subst hc
      exact ha
    · rw [if_neg (by omega)] at hc
      exact h.is_ j c hc
theorem HoldZ.full {f : Int → Option Lst} {P : List Bool} {b : List Nat} {n : Nat} (h : HoldZ f P b n) (hP : ∀ k, k < n → P.getD k false = true) : missZ f n = [] := missZ_nil.2 fun k hk => by rw [h.some_ k hk]; exact hP k hk
theorem HoldZ.cat {f : Int → Option Lst} {P : List Bool} {b : List Nat} (h : HoldZ f P b (chunkN b.length)) (hb : b.length ≤ 640) (hP : ∀ k, k < chunkN b.length → P.getD k false = true) : catZ f (chunkN b.length) = b := by
  have e := split_flat hb
  unfold splitL at e
  conv => rhs; rw [← e]
  unfold catZ
  congr 1
  apply List.map_congr_left
  intro k hk
  have hk := List.mem_range.1 hk
  have h1 := h.some_ k hk
  rw [hP k hk] at h1
  cases hf : f (k : Int) with
  | none => rw [hf] at h1; cases h1
  | some a => exact h.is_ k a hf
theorem miss_one {f : Int → Option Lst} {n k : Nat} (hk : k < n) (hf : ∀ j : Nat, j < n → (f (j : Int)).isSome = true) : missZ (updZ f (k : Int) none) n = [k] := by
  have aux : ∀ m : Nat, m ≤ n → missZ (updZ f (k : Int) none) m = if k < m then [k] else [] := by
    intro m
    induction m with
    | zero => intro _; rfl
    | succ m ih =>
      intro hm
      rw [missZ_succ, ih (by omega)]
      have hu : (updZ f (k : Int) none) (m : Int) = if m = k then none else f (m : Int) := by
        unfold updZ
        by_cases e : m = k
        · rw [if_pos (by omega), if_pos e]
        · rw [if_neg (by omega), if_neg e]
      rw [hu]
      by_cases e : m = k
      · subst e
        simp
      · rw [if_neg e]
        have := hf m (by omega)
        cases hfm : f (m : Int) with
        | none => rw [hfm] at this; cases this
        | some a =>
          rw [if_neg (by simp)]
          by_cases h2 : k < m
          · rw [if_pos h2, if_pos (by omega)]
          · rw [if_neg h2, if_neg (by omega)]
  rw [aux n (Nat.le_refl _), if_pos hk]
def PutR (w : World) (g : Nat) (P : List Bool) : Prop := w.heap[g]? = some (.cells (P.map Value.bool).toArray 4 (0, 0))
theorem PutR.cell {w : World} {g k : Nat} {P : List Bool} (h : PutR w g P) (hk : k < P.length) : w.cell? ⟨g, k, none⟩ = some (.bool (P.getD k false)) := by
  rw [cell_of_row w g k _ _ _ h]
  simp [List.getD_eq_getElem?_getD, List.getElem?_eq_getElem hk]
theorem PutR.frozen {w : World} {g k : Nat} {P : List Bool} (h : PutR w g P) : w.frozen? ⟨g, k, none⟩ = false := by
  unfold PutR at h
  simp [World.frozen?, h]
theorem PutR.set {w : World} {g : Nat} {P : List Bool} (h : PutR w g P) (k : Nat) : PutR (w.setCell ⟨g, k, none⟩ (.bool true)) g (P.set k true) :=
  row_set k h (.bool true) (by simp)
theorem PutR.keep {w w' : World} {g : Nat} {P : List Bool} (h : PutR w g P) (e : w'.heap[g]? = w.heap[g]?) : PutR w' g P := e.trans h
theorem bool_infoZ : (Try.prog.info? 4).map (fun i => (i.zero, i.size, i.bytes)) = some (some (.bool false), 1, 1) := by kernel_rfl
theorem mk_boolsZ (k : Nat) (hk : k ≤ 1000) (w : World) : (Instr.makeSlice 65 (.int .i64 (k : Int)) (.int .i64 (k : Int))).run Try.prog w = .ok (.slice (some ⟨w.heap.size, 0, none⟩) k k) (w.alloc (.cells (madeCells #[.bool false] k) 4)) := by
  obtain ⟨i0, hi, hz0, hz1, hz2⟩ := info_parts bool_infoZ
  rw [run_make w 65 4 i0 (.bool false) Try.underlying65 hi hz0 .i64 .i64 (k : Int) (k : Int) (by omega) (Int.le_refl _) (by rw [hz2]; omega) (by omega), hz1, Int.toNat_natCast, Nat.mul_one]
  rfl
theorem PutR.new (w : World) (k : Nat) : PutR (w.alloc (.cells (madeCells #[.bool false] k) 4)) w.heap.size (List.replicate k false) := by
  unfold PutR
  have e : madeCells #[Value.bool false] k = ((List.replicate k false).map Value.bool).toArray := by
    apply Array.ext'
    rw [toList_madeCells_one]
    simp
  rw [← e]
  exact heap_alloc_new w _
theorem below_of_modZ {B bm : Nat} {a b : World} (h : Mod (fun i => i = bm) a b) (hB : B ≤ bm) (hs : B ≤ a.heap.size) : Below B a b := ⟨h.os, h.tape, h.output, h.size, fun k hk => h.block k (by omega) (by omega)⟩
theorem By.keepP {w w' : World} {A : Option Addr} {n c pb : Nat} {l : List Nat} {P : List Bool} (h : By w A n c l) (hp : PutR w pb P) (k : Mod (fun i => i = pb) w w') : By w' A n c l := by
  cases l with
  | nil => exact ⟨h.len, h.cap, h.most, Rd.nil_, Bs.nil_ h⟩
  | cons x l =>
    obtain ⟨g, o, hA, hlt, hc⟩ := h.rd.2 (by simp)
    have h0 := hc 0 x rfl
    refine By.mod h k ?_
    intro p hpp hf
    rw [hA] at hpp
    injection hpp with hpp
    subst hpp
    have hf : g = pb := hf
    subst hf
    unfold PutR at hp
    have h1 := cell_of_row w g (o + 0) _ _ _ hp
    have h2 := h0.symm.trans h1
    rw [List.getElem?_toArray, List.getElem?_map] at h2
    cases hq : P[o + 0]? with
    | none => rw [hq] at h2; cases h2
    | some b => rw [hq] at h2; cases h2
theorem ZH.keepP {w w' : World} {h count bm nb pb : Nat} {f : Int → Option Lst} {P : List Bool} (z : ZH w h count bm nb f) (hp : PutR w pb P) (k : Mod (fun i => i = pb) w w') (hh : h ≠ pb) (hb : bm ≠ pb) : ZH w' h count bm nb f :=
  ⟨heap_mod z.row k hh, z.map.mod k hb, z.rng, fun j a ha => ⟨(z.each j a ha).1.keepP hp k, (z.each j a ha).2⟩, z.cnt⟩
theorem mod_cellP (w : World) (g k : Nat) (v : Value) : Mod (fun i => i = g) w (w.setCell ⟨g, k, none⟩ v) := Mod.setCell (F := fun i => i = g) (Mod.refl _ _) (p := ⟨g, k, none⟩) (.inl rfl) v
end
end Go.Proofs.Ytnlappoocffcpaa
