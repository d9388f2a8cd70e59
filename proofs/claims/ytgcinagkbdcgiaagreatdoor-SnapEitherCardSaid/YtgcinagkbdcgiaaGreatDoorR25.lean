/-
  The contracts of snap's isHurt and Chunk.
-/
import Derived.Test.YtgcinagkbdcgiaaGreatDoorR00
import Derived.Test.YtgcinagkbdcgiaaGreatDoorR06
import Derived.Test.YtgcinagkbdcgiaaGreatDoorR10
import Derived.Test.YtgcinagkbdcgiaaGreatDoorR11
import Derived.Test.YtgcinagkbdcgiaaGreatDoorR12
import Derived.Test.YtgcinagkbdcgiaaGreatDoorR13
import Derived.Test.YtgcinagkbdcgiaaGreatDoorR14
import Derived.Test.YtgcinagkbdcgiaaGreatDoorR18
import Derived.Test.YtgcinagkbdcgiaaGreatDoorR20
import Derived.Test.YtgcinagkbdcgiaaGreatDoorR23
import Derived.Test.YtgcinagkbdcgiaaGreatDoorR24
import Derived.Maps.AppendAt
import Derived.Deep.DeepCutAuto
import Derived.RangeFuncBound
import Derived.RangeFuncBox
import Derived.RangeFuncCalls
import Derived.RangeFuncLeaves
import Derived.Shelf.Abstract
import Derived.Shelf.RegionOpen
import Derived.WalkKit
import Derived.OwnWalkIn
import Derived.TacticsInMore
import Derived.LoopNIn
import Derived.LoopIn
import Derived.Laws.EntriesVeiled
import Derived.Deep.RegionHeld
import Derived.Deep.MidRow
namespace Go.Proofs.YtgcinagkbdcgiaaGreatDoor
set_option maxRecDepth 100000
section
open Go Go.RowKit
set_option maxHeartbeats 800000 in
theorem yishurt_of {w : World} {g d : Nat} {r inc : Int} {s : ShM} {F : Nat → Prop} {m : DM} (h : ShAt w g d r inc s) (hd : PDisk w d F m) (hL : LaidY w) (hct : s.ct ≤ 8) (har : s.ar ≤ 1) (k : Nat) (hk : k < s.ct) (hfew : m.waits.length ≤ 1000000) :
    Calls Tryz.prog 106 #[.pointer (some ⟨g, 0, none⟩), .int .i64 (k : Int)] w fun e w' => e = .returned (.bool (!m.chB r s k)) ∧ Ext w w' := by
  have hr := yread_of h hd hL hct har k hk hfew
  obtain ⟨B, hB⟩ : ∃ B, m.chB r s k = B := ⟨_, rfl⟩
  unfold ReadY at hr
  rw [hB] at hr ⊢
  have HR := Lib.hid hr
  clear h hd hL hct har hk hfew hr hB
  go_enter Tryz.func106, Tryz.ntmps106
  go_wp2_with fail
  refine HR.out.mono ?_
  rintro e w1 ⟨A, n, c, rfl, hby, hfr, hx⟩
  have HX := Lib.hid hx
  clear hby hfr hx
  cases B
  · rw [if_neg (by simp)]
    go_wp2_with fail
    go_ret
    exact ⟨rfl, HX.out⟩
  · rw [if_pos rfl]
    go_wp2_with fail
    go_ret
    exact ⟨rfl, HX.out⟩
end
section
open Go Go.RowKit Go.Shelf
attribute [local go_sem] Oper.semAt_some
theorem hurtK_len (m : DM) (r : Int) (s : ShM) (n : Nat) : (m.hurtK r s n).length ≤ n := by
  unfold DM.hurtK
  refine Nat.le_trans (List.length_filter_le _ _) ?_
  simp
def encK (k : Nat) : Array Value := #[.int .i64 (k : Int)]
set_option maxHeartbeats 1600000 in
theorem yhurt_seq (n0 : Nat) (hn0 : 1 ≤ n0) {w : World} {g d : Nat} {r inc : Int} {s : ShM} {F : Nat → Prop} {m : DM} (h : ShAt w g d r inc s) (hd : PDisk w d F m) (hL : LaidY w) (hct : s.ct ≤ 8) (har : s.ar ≤ 1) (hfew : m.waits.length ≤ 1000000) :
    SeqBd Fence.wide n0 Tryz.prog 124 #[.pointer (some ⟨g, 0, none⟩)] encK (fun ys => ys = m.hurtK r s s.ct) 8 w := fun l J V hV hJ hB hY h0 => by
  have HAB : Hid (∀ s W W', J s W → Ext W W' → J s W') := Lib.hid fun s W W' hs hx => hJ s W W' none hs (grown_of_ext hx) (fun r e => by cases e)
  have HIS : Hid (∀ U (j : Nat), Ext w U → j < s.ct → Calls Tryz.prog 106 #[.pointer (some ⟨g, 0, none⟩), .int .i64 (j : Int)] U fun e w' => e = .returned (.bool (!m.chB r s j)) ∧ Ext U w') := Lib.hid fun U j hU hj => yishurt_of (h.ext hU) (hd.ext hU) (hL.ext hU) hct har j hj hfew
  have HB := Lib.hid hB
  have HY := Lib.hid hY
  have H := Lib.hid h
  have hcl := (h.ext hV).cells.2.2.2.2.2.2
  clear hJ hB hY hd hL har hfew h
  refine callsIn_of_wp Tryz.func124 rfl trivial ?_ rfl
  simp only [Tryz.ntmps124, List.size_toArray, List.length_cons, List.length_nil, Nat.reduceAdd, Nat.reduceSub, Array.replicate_succ, Array.replicate_zero, List.push_toArray, List.append_toArray, List.nil_append, List.cons_append]
  gi_wp2
  gi_loopw [10] (fun i wr => ∃ (j : Nat), j ≤ s.ct ∧ i = .int .i64 (j : Int) ∧ Hid (J (m.hurtK r s j) wr)) (fun i _ => 100 - (intOf i).toNat)
  case atStart => exact ⟨0, by omega, rfl, Lib.hid h0⟩
  case round =>
    obtain ⟨j, hj, rfl, HJ⟩ := hrel
    have HX : Hid (Ext w wr) := Lib.hid (HB.out _ _ HJ.out)
    clear hcl
    by_cases hlt : j < s.ct
    · have hij := HIS.out wr j HX.out hlt
      have hks := hurtK_succ m r s j
      cases hb : m.chB r s j with
      | true =>
        rw [hb, if_pos rfl] at hks
        rw [hb, Bool.not_true] at hij
        have HIJ := Lib.hid hij
        have HKS := Lib.hid hks
        clear hb hij hks
        gi_wp2_with (refine ⟨trivial, ?_⟩; gi_at_call 106; refine (callsIn_wide.2 HIJ.out).mono ?_; rintro e W3 ⟨rfl, hx3⟩)
        have HJ3 := Lib.hid (HAB.out _ _ _ HJ.out hx3)
        clear hx3
        gi_wp2
        refine ⟨fun _ h => (by cases h), ?_⟩
        gi_wp2
        go_roundw
        case rel => exact ⟨j + 1, by omega, by go_num, Lib.hid (by rw [HKS.out]; exact HJ3.out)⟩
        case measure => simp [intOf]; omega
      | false =>
        rw [hb, if_neg (by simp)] at hks
        rw [hb, Bool.not_false] at hij
        have HIJ := Lib.hid hij
        have HKS := Lib.hid hks
        clear hb hij hks
        gi_wp2_with (refine ⟨trivial, ?_⟩; gi_at_call 106; refine (callsIn_wide.2 HIJ.out).mono ?_; rintro e W3 ⟨rfl, hx3⟩; obtain ⟨fn, tmps, assign, body, hy, hR⟩ := HY.out (m.hurtK r s j) j W3 (HAB.out _ _ _ HJ.out hx3) (by have := hurtK_len m r s j; omega); have HR := Lib.hid hR; have hy2 : (Instr.yield l #[.int .i64 (j : Int)]).run Tryz.prog W3 = .ok (.round l fn tmps assign body) W3 := hy; clear hR hy hx3)
        refine HR.out.mono ?_
        rintro e W4 ⟨rfl, hJ4⟩
        have HJ4 := Lib.hid hJ4
        clear hJ4 hy2
        gi_wp2
        go_roundw
        case rel => exact ⟨j + 1, by omega, by go_num, Lib.hid (by rw [HKS.out]; exact HJ4.out)⟩
        case measure => simp [intOf]; omega
    · obtain rfl : j = s.ct := by omega
      gi_wp2
      go_end0
      exact ⟨⟨_, rfl⟩, _, rfl, HJ.out⟩
theorem int_infoY : (Tryz.prog.info? 3).map (fun i => (i.zero, i.size, i.bytes)) = some (some (.int .i64 0), 1, 8) := by kernel_rfl
set_option maxHeartbeats 1600000 in
theorem yappendSeq_of {w : World} {g d : Nat} {r inc : Int} {s : ShM} {F : Nat → Prop} {m : DM} (h : ShAt w g d r inc s) (hd : PDisk w d F m) (hL : LaidY w) (hct : s.ct ≤ 8) (har : s.ar ≤ 1) (hfew : m.waits.length ≤ 1000000) :
    Calls Tryz.prog 205 #[.slice none 0 0, .func (.func 124) #[.pointer (some ⟨g, 0, none⟩)] #[]] w fun e w' =>
      ∃ v, e = .returned v ∧ w'.ownsRow w.heap.size 3 1 v (m.hurtK r s s.ct).length ((m.hurtK r s s.ct).map fun k : Nat => Value.int .i64 (k : Int)) ∧ Ext w w' := by
  obtain ⟨i0, hi, hz0', hz1', hz2'⟩ := info_parts int_infoY
  have bO := Boxed.new w 103 (.slice none 0 0)
  have hE : Ext w (w.alloc (.cells #[.slice none 0 0] 103)) := (Ext.refl w).alloc _
  have hst := yhurt_seq 8 (by omega) h hd hL hct har hfew
  have hlen : (m.hurtK r s s.ct).length ≤ 8 := by
    unfold DM.hurtK
    refine Nat.le_trans (List.length_filter_le _ _) ?_
    simp
    omega
  have HST := Lib.hid hst
  have HE := Lib.hid hE
  clear hst hE h hd hL har hfew
  refine calls_marks Tryz.func205 rfl ?_
  simp only [Tryz.ntmps205, List.size_toArray, List.length_cons, List.length_nil, Nat.reduceAdd, Nat.reduceSub, Array.replicate_succ, Array.replicate_zero, List.push_toArray, List.append_toArray, List.nil_append, List.cons_append]
  go_wp2_with fail
  refine (wpIn_wide (n := 9)).1 ?_
  refine range_bd (F := Fence.wide) (n := 9) rfl (by omega) (gf := 124) (bd := #[.pointer (some ⟨g, 0, none⟩)]) rfl trivial (enters_of Tryz.func124 (by kernel_rfl) rfl)
    HST.out HE.out (fun _ => rfl)
    (fun pre W => (∃ v, Boxed W w.heap.size 103 v ∧ W.ownsRow w.heap.size 3 1 v pre.length (pre.map fun x : Nat => Value.int .i64 (x : Int)) ∧ True) ∧ Below w.heap.size w W)
    (OwnFrom.and (Own.from (holdsRow_own w.heap.size w.heap.size 103 3 1 (fun pre : List Nat => pre.length) (fun pre : List Nat => pre.map fun x : Nat => Value.int .i64 (x : Int)) (fun _ _ => True)) _) (ownFrom_below (Nat.le_refl _) HE.out.size))
    (fun _ _ hs => hs.2)
    ⟨⟨_, bO, World.ownsRow_nil _ _ _ _, trivial⟩, HE.out⟩
    (fun x => { tmps := #[.slice none 0 0, .func (.func 124) #[.pointer (some ⟨g, 0, none⟩)] #[], .pointer (some ⟨w.heap.size, 0, none⟩), undef, .slice none 0 0, .int .i64 (x : Int), .func (.func 124) #[.pointer (some ⟨g, 0, none⟩)] #[], .int .i64 (x : Int), undef, undef, undef, undef, undef], defers := [] }) ?assign ?body ?done
  case assign =>
    intro l x W K hK
    dsimp only [encK]
    gi_wp2
    exact hK
  case body =>
    rintro l pre x W ⟨⟨v, hv, hrow, _⟩, hB⟩ hlt
    have hc := hv.cell
    gi_wp2_with (gi_at_builtin; refine wpListIn_append_own _ rfl _ _ 103 rfl w.heap.size 3 i0 (.int .i64 0) 1 8 Tryz.underlying103 hi hz0' hz1' hz2' rfl (by decide) _ _ _ rfl (hrow.alloc _) ⟨W.heap.size, 0, none⟩ 1 1 [.int .i64 (x : Int)] rfl rfl (cell_one_new _ _ _) (by simp [Value.oneCell']) (by unfold maxLen; omega) (by omega) (by have := hB.size; simp; omega) ?_; intro v' w1 hown' hgrow _; obtain ⟨g', cap', rfl⟩ := ownsRow_succ hown'; obtain ⟨hv1, hv2, hr2, hk2, hb2⟩ := hv.appended (by decide) hrow hB.size (Nat.le_refl _) hown' hgrow; have hc1 := hv1.cell; have hf1 := hv1.frozen)
    exact ⟨hk2.from _, ⟨_, hv2, by simpa using hr2, trivial⟩, hB.trans hb2⟩
  case done =>
    rintro D ys W hD hys ⟨⟨v, hv, hrow, _⟩, hB⟩ hK
    have hc := hv.cell
    subst hys
    have HRW := Lib.hid hrow
    have HBB := Lib.hid hB
    clear hrow hB
    go_wp2_with fail
    refine retM1 rfl hK (v := v) ?_ ?_
    · simp [results, Tryz.results205, go_sem]
    · exact ⟨v, rfl, ownsRow_putObj HRW.out _ hK rfl, HBB.out.trans (belowK_b (w := w) (Nat.le_refl _) W D _ _ (Nat.le_trans HE.out.size hD) hK rfl rfl)⟩
set_option maxHeartbeats 800000 in
theorem ycollect_of {w : World} {g d : Nat} {r inc : Int} {s : ShM} {F : Nat → Prop} {m : DM} (h : ShAt w g d r inc s) (hd : PDisk w d F m) (hL : LaidY w) (hct : s.ct ≤ 8) (har : s.ar ≤ 1) (hfew : m.waits.length ≤ 1000000) :
    Calls Tryz.prog 123 #[.func (.func 124) #[.pointer (some ⟨g, 0, none⟩)] #[]] w fun e w' =>
      ∃ v, e = .returned v ∧ w'.ownsRow w.heap.size 3 1 v (m.hurtK r s s.ct).length ((m.hurtK r s s.ct).map fun k : Nat => Value.int .i64 (k : Int)) ∧ Ext w w' := by
  have HA := Lib.hid (yappendSeq_of h hd hL hct har hfew)
  clear h hd hL hct har hfew
  go_enter Tryz.func123, Tryz.ntmps123
  go_wp2_with fail
  refine HA.out.mono ?_
  rintro e w1 ⟨v, rfl, hrow, hx⟩
  have HR := Lib.hid hrow
  have HX := Lib.hid hx
  clear hrow hx
  go_wp2_with fail
  go_ret
  exact ⟨v, rfl, HR.out, HX.out⟩
set_option maxHeartbeats 800000 in
theorem yhurt_yes {w : World} {g d : Nat} {r inc : Int} {s : ShM} {F : Nat → Prop} {m : DM} (h : ShAt w g d r inc s) (hd : PDisk w d F m) (hL : LaidY w) (hct : s.ct ≤ 8) (har : s.ar ≤ 1) (hfew : m.waits.length ≤ 1000000) :
    Calls Tryz.prog 47 #[.pointer (some ⟨g, 0, none⟩)] w fun e w' => ∃ A c, e = .returned (.slice A (m.hurtK r s s.ct).length c) ∧ w'.ownsRow w.heap.size 3 1 (.slice A (m.hurtK r s s.ct).length c) (m.hurtK r s s.ct).length ((m.hurtK r s s.ct).map fun k : Nat => Value.int .i64 (k : Int)) ∧ Ext w w' := by
  obtain ⟨c0, c1, c2, c3, c4, c5, c6⟩ := h.cells
  have HM := Lib.hid (ymade_yes g w c0)
  have HS := Lib.hid (ycollect_of h hd hL hct har hfew)
  clear h hd hL hct har hfew c0 c1 c2 c3 c4 c5 c6
  go_enter Tryz.func47, Tryz.ntmps47
  go_wp2_with fail
  refine HM.out.mono ?_
  rintro e w1 ⟨rfl, rfl⟩
  go_wp2_with fail
  refine HS.out.mono ?_
  rintro e w2 ⟨v, rfl, hrow, hx⟩
  obtain ⟨A, c, rfl, hn, hc⟩ := own_form hrow
  have HR := Lib.hid hrow
  have HX := Lib.hid hx
  clear hrow hx hn hc
  go_wp2_with fail
  go_ret
  exact ⟨A, c, rfl, HR.out, HX.out⟩
end
section
open Go Go.RowKit
theorem chL_len (m : DM) (r : Int) (s : ShM) (k : Nat) : (m.chL r s k).length ≤ 80 := by
  unfold DM.chL bytC
  split
  · rename_i h
    unfold okC at h
    exact (fitsC_iff.1 (of_decide_eq_true h).2.2.2.2).2.2.2.1
  · simp
set_option maxHeartbeats 3200000 in
theorem ybytes_of {w : World} {g d : Nat} {r inc : Int} {s : ShM} {F : Nat → Prop} {m : DM} (h : ShAt w g d r inc s) (hd : PDisk w d F m) (hL : LaidY w) (hct : s.ct ≤ 8) (har : s.ar ≤ 1) (hfew : m.waits.length ≤ 1000000) :
    Calls Tryz.prog 49 #[.pointer (some ⟨g, 0, none⟩)] w fun e w' => ∃ A N c, e = .returned (.tuple #[.slice A N c, .int .i64 (m.allE r s)]) ∧ By w' A N c (m.allO r s) ∧ (∀ p, A = some p → w.heap.size ≤ p.block) ∧ Ext w w' := by
  obtain ⟨i0, hi, hz0, hz1, hz2⟩ := info_parts byte_info
  obtain ⟨c0, c1, c2, c3, c4, c5, c6⟩ := h.cells
  have hm := ymade_yes g w c0
  have HM := Lib.hid hm
  have hu := up_pd hd
  have HU := Lib.hid hu
  clear hm hu c0 c2 c3 c4 c5
  cases hup : m.up with
  | false =>
    have he : m.allE r s = 5 := by unfold DM.allE; rw [if_pos hup]
    have ho : m.allO r s = [] := by unfold DM.allO; rw [if_neg (by rw [he]; omega)]
    rw [he, ho]
    rw [hup] at HU
    clear he ho hup h hd hL har hfew
    go_enter Tryz.func49, Tryz.ntmps49
    go_wp2_with fail
    refine HM.out.mono ?_
    rintro e w1 ⟨rfl, rfl⟩
    go_wp2_with fail
    refine HU.out.mono ?_
    rintro e w1 ⟨rfl, rfl⟩
    go_wp2_with fail
    refine bodyPost_ret (v := .tuple #[.slice none 0 0, .int .i64 5]) (by simp [results, Tryz.results49, go_sem]) rfl ?_
    exact ⟨none, 0, 0, rfl, By.nil_ _, fun p hp => (by cases hp), Ext.refl _⟩
  | true =>
    have he : m.allE r s = (if m.hurtK r s s.ct = [] then 0 else 130) := by unfold DM.allE; rw [if_neg (by rw [hup]; simp)]
    have ho : m.allO r s = (if m.hurtK r s s.ct = [] then m.catK r s s.ct else []) := by
      unfold DM.allO
      rw [he]
      by_cases hh : m.hurtK r s s.ct = [] <;> simp [hh]
    have HEO := Lib.hid (And.intro he ho)
    rw [hup] at HU
    have HR : Hid (∀ V (j : Nat), Ext w V → j < s.ct → Calls Tryz.prog 125 #[.pointer (some ⟨g, 0, none⟩), .int .i64 (j : Int)] V (ReadY m r s j V)) := Lib.hid fun V j hV hj => yread_of (h.ext hV) (hd.ext hV) (hL.ext hV) hct har j hj hfew
    have hbad : ∀ j, j < s.ct → m.chB r s j = false → m.hurtK r s s.ct ≠ [] := fun j hj hb hn => by
      have := hurtK_nil.1 hn j hj
      rw [hb] at this
      cases this
    have HBAD := Lib.hid hbad
    clear he ho hup h hd hL har hfew hbad
    go_enter Tryz.func49, Tryz.ntmps49
    go_wp2_with fail
    refine HM.out.mono ?_
    rintro e w1 ⟨rfl, rfl⟩
    go_wp2_with fail
    refine HU.out.mono ?_
    rintro e w1 ⟨rfl, rfl⟩
    go_wp2_with fail
    go_loopw [4, 22] (fun v i wr => ∃ (j na : Nat) (Aa : Option Addr) (ca : Nat), j ≤ s.ct ∧ na ≤ 80 * j ∧ i = .int .i64 (j : Int) ∧ v = .slice Aa na ca ∧ Hid (wr.ownsRow w.heap.size 5 1 (.slice Aa na ca) na (vb (m.catK r s j))) ∧ Hid (Ext w wr) ∧ Hid (∀ b ∈ m.catK r s j, b < 256) ∧ Hid (∀ i, i < j → m.chB r s i = true)) (fun _ i _ => s.ct - (intOf i).toNat)
    case atStart => exact ⟨0, 0, none, 0, by omega, by omega, rfl, rfl, Lib.hid (World.ownsRow_nil _ _ _ _), Lib.hid (Ext.refl _), Lib.hid (fun b hb => by simp [DM.catK] at hb), Lib.hid fun i hi => by omega⟩
    case round =>
      obtain ⟨j, na, Aa, ca, hj, hna, rfl, rfl, HO, HX, HB, HF⟩ := hrel
      by_cases hlt : j < s.ct
      · have hr := HR.out wr j HX.out hlt
        unfold ReadY at hr
        have hlen := chL_len m r s j
        have HCS := Lib.hid (catK_succ m r s j)
        have HBJ := Lib.hid (HBAD.out j hlt)
        cases hb : m.chB r s j with
        | true =>
          rw [if_pos hb] at hr
          have HR := Lib.hid hr
          have HB1 := Lib.hid hb
          clear hr hb
          generalize m.chL r s j = L2 at *
          go_wp2_with fail
          refine HR.out.mono ?_
          rintro e w1 ⟨A2, n2, c2, rfl, hby, hfr, hx⟩
          obtain rfl : n2 = L2.length := hby.len.symm
          have HX1 : Hid (Ext w w1) := Lib.hid (HX.out.trans hx)
          have HO1 : Hid (w1.ownsRow w.heap.size 5 1 (.slice Aa na ca) na (vb (m.catK r s j))) := Lib.hid (own_ext HO.out hx)
          have HBY := Lib.hid hby
          clear hby hfr hx
          go_wp2_with (at_builtin; refine wpList_append_by rfl _ _ 45 rfl w.heap.size 5 i0 Tryz.underlying45 hi hz0 hz1 hz2 _ na (vb (m.catK r s j)) rfl HO1.out A2 L2.length c2 L2 rfl HBY.out (by omega) (Ext.size HX1.out) ?_)
          intro v2 w2 hown hg
          obtain ⟨hx, A3, c3', rfl, hb2, ho2⟩ := app_step HX1.out HO1.out hg hown HB.out HBY.out.rd.lt
          have HX2 := Lib.hid hx
          have HO2 := Lib.hid ho2
          have HLT := Lib.hid (Bs.rd hb2).lt
          clear hx hb2 ho2 hown hg
          go_wp2_with fail
          go_roundw
          case rel => exact ⟨j + 1, na + L2.length, A3, c3', by omega, by omega, by go_num, rfl, Lib.hid (by rw [HCS.out]; exact HO2.out), HX2, Lib.hid (by rw [HCS.out]; exact HLT.out), Lib.hid fun i hi => by
            by_cases hij : i = j
            · subst hij; exact HB1.out
            · exact HF.out i (by omega)⟩
          case measure => simp [intOf]; omega
        | false =>
          rw [if_neg (by rw [hb]; simp)] at hr
          have HR := Lib.hid hr
          have HNE := Lib.hid (HBJ.out hb)
          clear hr hb
          go_wp2_with fail
          refine HR.out.mono ?_
          rintro e w1 ⟨A2, n2, c2, rfl, hby, hfr, hx⟩
          have HX1 : Hid (Ext w w1) := Lib.hid (HX.out.trans hx)
          clear hby hfr hx
          go_wp2_with fail
          refine bodyPost_ret (v := .tuple #[.slice none 0 0, .int .i64 130]) (by simp [results, Tryz.results49, go_sem]) rfl ?_
          exact ⟨none, 0, 0, by rw [HEO.out.1, if_neg HNE.out], by rw [HEO.out.2, if_neg HNE.out]; exact By.nil_ _, fun p hp => (by cases hp), HX1.out⟩
      · obtain rfl : j = s.ct := by omega
        have HNE := Lib.hid (hurtK_nil.2 HF.out)
        go_wp2_with fail
        refine bodyPost_ret (v := .tuple #[.slice Aa na ca, .int .i64 0]) (by simp [results, Tryz.results49, go_sem]) rfl ?_
        exact ⟨Aa, na, ca, by rw [HEO.out.1, if_pos HNE.out], by rw [HEO.out.2, if_pos HNE.out]; exact Bs.of_own HO.out HB.out, fun p hp => (HO.out.lt p.block (by rw [hp]; rfl)).1, HX.out⟩
end
section
open Go Go.RowKit
structure WrS (w0 : World) (d : Nat) (F F' : Nat → Prop) (bf : Nat) (w : World) (x : Int × DM) : Prop where
  disk : PDisk w d F' x.2
  sub : ∀ k, F' k → F k ∨ w0.heap.size ≤ k
  off : ¬ F' bf
  mod : Mod (fun k => F k ∨ k = bf) w0 w
  row : w.heap[bf]? = some (.cells #[.int .i64 x.1] 25 (0, 0))
theorem WrS.start {w : World} {d bf : Nat} {F : Nat → Prop} {m : DM} {E : Int} (h : PDisk w d F m) (ho : ¬ F bf) (hr : w.heap[bf]? = some (.cells #[.int .i64 E] 25 (0, 0))) : WrS w d F F bf w (E, m) :=
  ⟨h, fun _ hk => .inl hk, ho, Mod.refl _ w, hr⟩
section
variable {w0 w w' : World} {d bf : Nat} {F F' : Nat → Prop} {x : Int × DM}
theorem WrS.ext (h : WrS w0 d F F' bf w x) (hx : Ext w w') : WrS w0 d F F' bf w' x :=
  ⟨h.disk.ext hx, h.sub, h.off, h.mod.trans (Mod.of_ext hx) fun _ hi => .inl hi, (hx.block _ (Array.getElem?_eq_some_iff.1 h.row).1).trans h.row⟩
theorem WrS.cell (h : WrS w0 d F F' bf w x) : w.cell? ⟨bf, 0, none⟩ = some (.int .i64 x.1) ∧ w.frozen? ⟨bf, 0, none⟩ = false := ⟨cell_of_row w bf 0 _ _ _ h.row, frozen_of_row w bf 0 _ _ h.row⟩
def WrT (w0 : World) (d : Nat) (F F' : Nat → Prop) (bf : Nat) (w w' : World) (x : Int × DM) : Prop := ∃ F'', WrS w0 d F F'' bf w' x ∧ (∀ k, k < w.heap.size → F'' k → F' k) ∧ Mod (fun k => F' k ∨ k = bf) w w'
theorem WrS.same (h : WrS w0 d F F' bf w x) : WrT w0 d F F' bf w w x := ⟨F', h, fun _ _ hk => hk, Mod.refl _ w⟩
end
theorem WrS.put {w0 w w' : World} {d bf : Nat} {F F' : Nat → Prop} {E0 E : Int} {m m' : DM} {e : Ending} (h : WrS w0 d F F' bf w (E0, m)) (ho : Outc d F' w E m' e w') : WrT w0 d F F' bf w (w'.setCell ⟨bf, 0, none⟩ (.int .i64 E)) (E, m') := by
  have hrow : w'.heap[bf]? = some (.cells #[.int .i64 E0] 25 (0, 0)) := (ho.2.2.block bf (Array.getElem?_eq_some_iff.1 h.row).1 h.off).trans h.row
  have hset : Mod (fun k => k = bf) w' (w'.setCell ⟨bf, 0, none⟩ (.int .i64 E)) := (Mod.refl (fun k => k = bf) w').setCell (p := ⟨bf, 0, none⟩) (.inl rfl) _
  have hs1 := h.mod.size
  have hs2 := ho.2.2.size
  have hlt := (Array.getElem?_eq_some_iff.1 h.row).1
  have hnb : ¬ grow F' w w' bf := fun hk => hk.elim h.off fun h1 => by have := h1.1; omega
  have hm : Mod (fun k => F' k ∨ k = bf) w (w'.setCell ⟨bf, 0, none⟩ (.int .i64 E)) := (ho.2.2.mono fun i hi => .inl hi).trans hset fun i hi => .inl (.inr hi)
  refine ⟨grow F' w w', ⟨ho.2.1.mod hset fun i hi hb => hnb (hb ▸ hi), fun k hk => ?_, hnb, h.mod.trans hm fun i hi => ?_, row_set (cs' := #[.int .i64 E]) 0 hrow (.int .i64 E) rfl⟩, fun k hk hg => ?_, hm⟩
  · rcases hk with hk | hk
    · exact h.sub k hk
    · exact .inr (by omega)
  · rcases hi with hi | hi
    · rcases h.sub i hi with h1 | h1
      · exact .inl (.inl h1)
      · exact .inr h1
    · exact .inl (.inr hi)
  · rcases hg with hg | hg
    · exact hg
    · omega
end
section
open Go Go.RowKit Go.Shelf
attribute [local go_sem] Oper.semAt_some
end
section
open Go Go.RowKit Go.Shelf
attribute [local go_sem] Oper.semAt_some
structure WBox (w : World) (F : Nat → Prop) (g d s : Nat) (r inc i : Int) (bl bi bu bf : Nat) : Prop where
  log : LogAt w g d r inc s
  cl : w.cell? ⟨bl, 0, none⟩ = some (.pointer (some ⟨g, 0, none⟩))
  ci : w.cell? ⟨bi, 0, none⟩ = some (.int .i64 i)
  cu : w.cell? ⟨bu, 0, none⟩ = some (.func (.func 142) #[] #[.pointer (some ⟨bf, 0, none⟩)])
  off : ¬ F g ∧ ¬ F bl ∧ ¬ F bi ∧ ¬ F bu
  ne : bf ≠ g ∧ bf ≠ bl ∧ bf ≠ bi ∧ bf ≠ bu
section
variable {w w' : World} {F : Nat → Prop} {g d s : Nat} {r inc i : Int} {bl bi bu bf : Nat}
theorem WBox.lts (h : WBox w F g d s r inc i bl bi bu bf) : g < w.heap.size ∧ bl < w.heap.size ∧ bi < w.heap.size ∧ bu < w.heap.size :=
  ⟨h.log.lt, World.block_lt_of_cell? w _ h.cl, World.block_lt_of_cell? w _ h.ci, World.block_lt_of_cell? w _ h.cu⟩
theorem WBox.ext (h : WBox w F g d s r inc i bl bi bu bf) (hx : Ext w w') : WBox w' F g d s r inc i bl bi bu bf := ⟨h.log.ext hx, ext_of_cell hx h.cl, ext_of_cell hx h.ci, ext_of_cell hx h.cu, h.off, h.ne⟩
end
structure FBox (w : World) (F : Nat → Prop) (bf bb ga oa n c : Nat) (L : List Nat) : Prop where
  row : By w (some ⟨ga, oa, none⟩) n c L
  cb : w.cell? ⟨bb, 0, none⟩ = some (.slice (some ⟨ga, oa, none⟩) n c)
  off : ¬ F ga ∧ ¬ F bb
  ne : bf ≠ ga ∧ bf ≠ bb
  lts : ga < w.heap.size ∧ bb < w.heap.size
theorem FBox.ext {w w' : World} {F : Nat → Prop} {bf bb ga oa n c : Nat} {L : List Nat} (h : FBox w F bf bb ga oa n c L) (hx : Ext w w') : FBox w' F bf bb ga oa n c L :=
  ⟨h.row.ext hx, ext_of_cell hx h.cb, h.off, h.ne, Nat.lt_of_lt_of_le h.lts.1 hx.size, Nat.lt_of_lt_of_le h.lts.2 hx.size⟩
theorem row_keepW {V W : World} {g : Nat} {o : Obj} (k : Hid (Ext V.drew W)) (h : Hid (V.heap[g]? = some o)) : W.heap[g]? = some o := (k.out.block g (Array.getElem?_eq_some_iff.1 h.out).1).trans h.out
theorem keepT5 {V W : World} {b : Nat} {x0 x1 x2 x3 x4 : Value} (k : Hid (Ext V.drew W)) (h : Hid (V.heap[b]? = some (.cells #[x0, x1, x2, x3, x4] 44 (0, 0)))) :
    W.cell? ⟨b, 0, none⟩ = some x0 ∧ W.cell? ⟨b, 1, none⟩ = some x1 ∧ W.cell? ⟨b, 2, none⟩ = some x2 ∧ W.cell? ⟨b, 3, none⟩ = some x3 ∧ W.cell? ⟨b, 4, none⟩ = some x4 := (five_cells (row_keepW k h)).1
theorem new_after2 {V W' : World} {cs : Array Value} {t : TypeId} (h : Ext (V.alloc (.cells cs t)).drew W') : W'.heap[V.heap.size]? = some (.cells cs t (0, 0)) := (h.block _ (by show V.heap.size < (V.alloc _).heap.size; simp)).trans (heap_alloc_new V _)
theorem hid_ad {V : World} (o : Obj) : Hid (Ext V.drew (V.alloc o).drew) := Lib.hid (show Ext V.drew (V.drew.alloc o) from (Ext.refl V.drew).alloc o)
theorem wrs_waits {m : DM} {E S : Int} {L : List Nat} : ∀ k, (wrsE (E, m) S L k).2.waits.length ≤ m.waits.length + k
  | 0 => by simp [wrsE]
  | k + 1 => by
    have ih := wrs_waits (m := m) (E := E) (S := S) (L := L) k
    show (unE (wrsE (E, m) S L k) _).2.waits.length ≤ _
    unfold unE
    split
    · have : ∀ (m : DM) (s : Int) (b : List Nat), (m.write s b).2.waits.length ≤ m.waits.length + 1 := fun m s b => by
        unfold DM.write
        split
        · simp
        · split
          · simp
          · split <;> simp
      exact Nat.le_trans (this (wrsE (E, m) S L k).2 (S + (k : Int)) ((L.drop (64 * k)).take 64)) (by omega)
    · omega
end
section
open Go Go.RowKit
theorem setCells_eq (g : Nat) : ∀ (vs : List Value) (w : World) (o : Nat), w.setCells g o vs = setL w g o vs
  | [], _, _ => rfl
  | _ :: vs, _, o => setCells_eq g vs _ (o + 1)
theorem there_row {w : World} {g : Nat} {cs : Array Value} {t : TypeId} (h : w.heap[g]? = some (.cells cs t (0, 0))) (o n : Nat) (hn : o + n ≤ cs.size) : w.there g o n := fun j hj => by
  refine ⟨?_, frozen_of_row w g (o + j) _ _ h⟩
  rw [cell_of_row w g (o + j) _ _ _ h, Array.getElem?_eq_getElem (by omega)]
  rfl
theorem row_setCells {w : World} {g : Nat} {cs : Array Value} {t : TypeId} (h : w.heap[g]? = some (.cells cs t (0, 0))) (o : Nat) (vs : List Value) : (w.setCells g o vs).heap[g]? = some (.cells (setA cs o vs) t (0, 0)) := by
  rw [setCells_eq]
  exact row_setL vs w o cs h
theorem ext_setCells {a w : World} (h : Ext a w) {g : Nat} (hg : a.heap.size ≤ g) (o : Nat) (vs : List Value) : Ext a (w.setCells g o vs) := by
  rw [setCells_eq]
  exact ext_setL h hg vs o
end
section
open Go Go.RowKit
def TwoL (w : World) (g : Nat) (f0 f1 : CopL) : Prop := w.heap[g]? = some (.cells #[.int .u8 (f0.st : Int), .int .i64 f0.ix, .int .i64 f0.bx, .int .i64 f0.yb, .int .u8 (f0.e.k : Int), .int .i64 f0.e.cl, .int .i64 f0.e.sq, .int .u8 (f0.e.ok : Int), .string f0.e.key, .string f0.e.old, .string f0.e.val, .int .u8 (f1.st : Int), .int .i64 f1.ix, .int .i64 f1.bx, .int .i64 f1.yb, .int .u8 (f1.e.k : Int), .int .i64 f1.e.cl, .int .i64 f1.e.sq, .int .u8 (f1.e.ok : Int), .string f1.e.key, .string f1.e.old, .string f1.e.val] 131 (0, 0))
theorem TwoL.ext {w w' : World} {g : Nat} {f0 f1 : CopL} (h : TwoL w g f0 f1) (k : Ext w w') : TwoL w' g f0 f1 := keep_row k h
theorem TwoL.first {w : World} {g : Nat} {f0 f1 : CopL} (h : TwoL w g f0 f1) : w.cell? ⟨g, 0, none⟩ = some (.int .u8 (f0.st : Int)) ∧ w.cell? ⟨g, 1, none⟩ = some (.int .i64 f0.ix) ∧ w.cell? ⟨g, 2, none⟩ = some (.int .i64 f0.bx) ∧ w.cell? ⟨g, 3, none⟩ = some (.int .i64 f0.yb) ∧ w.cell? ⟨g, 4, none⟩ = some (.int .u8 (f0.e.k : Int)) ∧ w.cell? ⟨g, 5, none⟩ = some (.int .i64 f0.e.cl) ∧ w.cell? ⟨g, 6, none⟩ = some (.int .i64 f0.e.sq) ∧ w.cell? ⟨g, 7, none⟩ = some (.int .u8 (f0.e.ok : Int)) ∧ w.cell? ⟨g, 8, none⟩ = some (.string f0.e.key) ∧ w.cell? ⟨g, 9, none⟩ = some (.string f0.e.old) ∧ w.cell? ⟨g, 10, none⟩ = some (.string f0.e.val) :=
  ⟨cell_of_row w g 0 _ _ _ h, cell_of_row w g 1 _ _ _ h, cell_of_row w g 2 _ _ _ h, cell_of_row w g 3 _ _ _ h, cell_of_row w g 4 _ _ _ h, cell_of_row w g 5 _ _ _ h, cell_of_row w g 6 _ _ _ h, cell_of_row w g 7 _ _ _ h, cell_of_row w g 8 _ _ _ h, cell_of_row w g 9 _ _ _ h, cell_of_row w g 10 _ _ _ h⟩
def Asks (w : World) (F : Nat) (caps : Array Value) (f : CopL) (b : Bool) : Prop := ∀ W, Ext w W → Calls Tryz.prog F (#[.agg #[.int .u8 (f.st : Int), .int .i64 f.ix, .int .i64 f.bx, .int .i64 f.yb, .int .u8 (f.e.k : Int), .int .i64 f.e.cl, .int .i64 f.e.sq, .int .u8 (f.e.ok : Int), .string f.e.key, .string f.e.old, .string f.e.val]] ++ caps) W fun e W' => e = .returned (.bool b) ∧ Ext W W'
theorem Asks.ext {w w' : World} {F : Nat} {caps : Array Value} {f : CopL} {b : Bool} (h : Asks w F caps f b) (k : Ext w w') : Asks w' F caps f b := fun W hx => h W (k.trans hx)
end
section
open Go Go.RowKit
def RecAt (w : World) (g : Nat) (p : Rec) : Prop := w.heap[g]? = some (.cells #[.int .u8 (p.st : Int), .int .i64 p.ix, .int .i64 p.bx, .int .i64 p.yb, .int .i64 p.wh] 128 (0, 0))
theorem RecAt.ext {w w' : World} {g : Nat} {p : Rec} (h : RecAt w g p) (k : Ext w w') : RecAt w' g p := keep_row k h
theorem RecAt.cells {w : World} {g : Nat} {p : Rec} (h : RecAt w g p) : w.cell? ⟨g, 0, none⟩ = some (.int .u8 (p.st : Int)) ∧ w.cell? ⟨g, 1, none⟩ = some (.int .i64 p.ix) ∧ w.cell? ⟨g, 2, none⟩ = some (.int .i64 p.bx) ∧ w.cell? ⟨g, 3, none⟩ = some (.int .i64 p.yb) ∧ w.cell? ⟨g, 4, none⟩ = some (.int .i64 p.wh) := ⟨cell_of_row w g 0 _ _ _ h, cell_of_row w g 1 _ _ _ h, cell_of_row w g 2 _ _ _ h, cell_of_row w g 3 _ _ _ h, cell_of_row w g 4 _ _ _ h⟩
end
section
open Go Go.RowKit
def badB (n : Nat) : Bool := (n : Int) != 0 && (n : Int) != 1
structure ApS (w W : World) (p : Rec) (f0 f1 : CopL) (i : Int) (g g1 g2 g3 g4 : Nat) : Prop where
  rec_ : RecAt W g p
  two : TwoL W g1 f0 f1
  ix : W.heap[g2]? = some (.cells #[.int .i64 i] 3 (0, 0))
  rule : W.heap[g3]? = some (.cells #[.nilFunc, .int .i64 0, .int .u8 0, .int .i64 0, .int .u8 0, .int .i64 0, .int .i64 0, .int .u8 0, .int .i64 0, .int .i64 0, .int .u8 0, .string ⟨#[]⟩, .string ⟨#[]⟩, .string ⟨#[]⟩] 290 (0, 0))
  fn : W.heap[g4]? = some (.cells #[.func (.func 255) #[] #[.pointer (some ⟨g2, 0, none⟩)]] 288 (0, 0))
  ext : Ext w W
  ne : g ≠ g3 ∧ g2 ≠ g3 ∧ g4 ≠ g3 ∧ w.heap.size ≤ g3
theorem ApS.mono {w W W' : World} {p : Rec} {f0 f1 : CopL} {i : Int} {g g1 g2 g3 g4 : Nat} (h : ApS w W p f0 f1 i g g1 g2 g3 g4) (k : Ext W W') : ApS w W' p f0 f1 i g g1 g2 g3 g4 :=
  ⟨h.rec_.ext k, h.two.ext k, keep_row k h.ix, keep_row k h.rule, keep_row k h.fn, h.ext.trans k, h.ne⟩
end
section
open Go Go.RowKit
structure WhS (w W : World) (p : Rec) (f0 f1 : CopL) (g g1 g2 : Nat) (rp : Array Value) : Prop where
  rec_ : RecAt W g p
  two : TwoL W g1 f0 f1
  rep : W.heap[g2]? = some (.cells rp 150 (0, 0))
  ext : Ext w W
  ne : g ≠ g2 ∧ g1 ≠ g2 ∧ w.heap.size ≤ g2
theorem WhS.mono {w W W' : World} {p : Rec} {f0 f1 : CopL} {g g1 g2 : Nat} {rp : Array Value} (h : WhS w W p f0 f1 g g1 g2 rp) (k : Ext W W') : WhS w W' p f0 f1 g g1 g2 rp :=
  ⟨h.rec_.ext k, h.two.ext k, keep_row k h.rep, h.ext.trans k, h.ne⟩
theorem WhS.put {w W : World} {p : Rec} {f0 f1 : CopL} {g g1 g2 : Nat} {z0 z1 z2 z3 z4 z5 z6 z7 z8 z9 z10 : Value} (h : WhS w W p f0 f1 g g1 g2 #[z0, z1, z2, z3, z4, z5, z6, z7, z8, z9, z10]) (x0 x1 x2 x3 x4 x5 x6 x7 x8 x9 x10 : Value) :
    WhS w ((((((((((((W.setCell ⟨g2, 0, none⟩ (x0)).setCell ⟨g2, 1, none⟩ (x1)).setCell ⟨g2, 2, none⟩ (x2)).setCell ⟨g2, 3, none⟩ (x3)).setCell ⟨g2, 4, none⟩ (x4)).setCell ⟨g2, 5, none⟩ (x5)).setCell ⟨g2, 6, none⟩ (x6)).setCell ⟨g2, 7, none⟩ (x7)).setCell ⟨g2, 8, none⟩ (x8)).setCell ⟨g2, 9, none⟩ (x9)).setCell ⟨g2, 10, none⟩ (x10))) p f0 f1 g g1 g2 #[x0, x1, x2, x3, x4, x5, x6, x7, x8, x9, x10] :=
  ⟨off11 h.rec_ h.ne.1 _ _ _ _ _ _ _ _ _ _ _, off11 h.two h.ne.2.1 _ _ _ _ _ _ _ _ _ _ _, row11 h.rep _ _ _ _ _ _ _ _ _ _ _, ext11 h.ext h.ne.2.2 _ _ _ _ _ _ _ _ _ _ _, h.ne⟩
end
section
open Go Go.RowKit
structure TlS (w W : World) (g g1 g2 g3 g4 : Nat) (rv tv zr zt : Array Value) (r : Int) : Prop where
  rec_ : W.heap[g]? = some (.cells rv 128 (0, 0))
  two : W.heap[g1]? = some (.cells tv 131 (0, 0))
  bal : W.heap[g2]? = some (.cells #[.int .i64 r, .int .i64 1] 38 (0, 0))
  z3 : W.heap[g3]? = some (.cells zr 128 (0, 0))
  z4 : W.heap[g4]? = some (.cells zt 131 (0, 0))
  ext : Ext w W
  ne : (g < g1 ∧ g1 < g2 ∧ g2 < g3 ∧ g3 < g4) ∧ w.heap.size ≤ g
section
variable {w W W' : World} {g g1 g2 g3 g4 : Nat} {rv tv zr zt : Array Value} {r : Int}
theorem TlS.mono (h : TlS w W g g1 g2 g3 g4 rv tv zr zt r) (k : Ext W W') : TlS w W' g g1 g2 g3 g4 rv tv zr zt r :=
  ⟨keep_row k h.rec_, keep_row k h.two, keep_row k h.bal, keep_row k h.z3, keep_row k h.z4, h.ext.trans k, h.ne⟩
end
end
section
open Go Go.RowKit
structure WRdS (w W : World) (b : Nat) (zr zt ht : Array Value) : Prop where
  z4 : W.heap[b]? = some (.cells zr 128 (0, 0))
  z5 : W.heap[b + 1]? = some (.cells zt 131 (0, 0))
  two : W.heap[b + 1 + 1]? = some (.cells ht 131 (0, 0))
  ext : Ext w W
  le : w.heap.size ≤ b
section
variable {w W : World} {b : Nat} {zr zt ht : Array Value}
theorem WRdS.mono {W' : World} (h : WRdS w W b zr zt ht) (hx : Ext W W') : WRdS w W' b zr zt ht := ⟨keep_row hx h.z4, keep_row hx h.z5, keep_row hx h.two, h.ext.trans hx, h.le⟩
end
end
section
open Go Go.RowKit
theorem setA_whole : ∀ (pre xs ys : List Value), xs.length = ys.length → setA (pre ++ xs).toArray pre.length ys = (pre ++ ys).toArray
  | pre, [], [], _ => rfl
  | pre, x :: xs, y :: ys, h => by
    have h1 : (pre ++ x :: xs).toArray.setIfInBounds pre.length y = ((pre ++ [y]) ++ xs).toArray := by
      apply Array.ext'
      simp
    show setA ((pre ++ x :: xs).toArray.setIfInBounds pre.length y) (pre.length + 1) ys = _
    rw [h1]
    have h2 := setA_whole (pre ++ [y]) xs ys (by simpa using h)
    rw [List.length_append, List.length_singleton] at h2
    rw [h2]
    simp
  | _, [], _ :: _, h => by simp at h
  | _, _ :: _, [], h => by simp at h
theorem setA_all (cs vs : Array Value) (h : cs.size = vs.size) : setA cs 0 vs.toList = vs := by
  have := setA_whole [] cs.toList vs.toList (by simpa using h)
  simpa using this
theorem alloc_setCell (W : World) (cs : Array Value) (t : TypeId) (i : Nat) (v : Value) : (W.alloc (.cells cs t)).setCell ⟨W.heap.size, i, none⟩ v = W.alloc (.cells (cs.setIfInBounds i v) t) := by
  have h : ((W.alloc (.cells cs t)).setCell ⟨W.heap.size, i, none⟩ v).heap = W.heap.push (.cells (cs.setIfInBounds i v) t) := by
    apply Array.ext_getElem?
    intro k
    unfold World.setCell World.alloc
    simp only
    rw [Array.getElem?_modify]
    by_cases hk : W.heap.size = k
    · subst hk
      simp
    · rw [if_neg hk, Array.getElem?_push, Array.getElem?_push, if_neg (by omega), if_neg (by omega)]
  exact congrArg (fun h => World.mk h W.tape W.drawn W.os W.output) h
theorem alloc_setL (W : World) (t : TypeId) : ∀ (vs : List Value) (o : Nat) (cs : Array Value), (W.alloc (.cells cs t)).setCells W.heap.size o vs = W.alloc (.cells (setA cs o vs) t)
  | [], _, _ => rfl
  | v :: vs, o, cs => by
    show ((W.alloc (.cells cs t)).setCell ⟨W.heap.size, o, none⟩ v).setCells W.heap.size (o + 1) vs = _
    rw [alloc_setCell]
    exact alloc_setL W t vs (o + 1) _
theorem alloc_setCells (W : World) (cs vs : Array Value) (t : TypeId) (h : cs.size = vs.size) : (W.alloc (.cells cs t)).setCells W.heap.size 0 vs.toList = W.alloc (.cells vs t) := by
  rw [alloc_setL, setA_all cs vs h]
variable {P : Program}
end
end Go.Proofs.YtgcinagkbdcgiaaGreatDoor
