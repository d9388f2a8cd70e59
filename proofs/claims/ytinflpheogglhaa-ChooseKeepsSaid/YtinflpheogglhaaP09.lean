/-
  The contract of the laws' own proposes.
-/
import Derived.Test.YtinflpheogglhaaP00
import Derived.Test.YtinflpheogglhaaP05
import Derived.Test.YtinflpheogglhaaP06
import Derived.Test.YtinflpheogglhaaP08
import Derived.StillTailTactics
import Derived.Deep.AppendLies
import Derived.Deep.RegionLaw
namespace Go.Proofs.Ytinflpheogglhaa
set_option maxRecDepth 100000
section
open Go Go.RowKit
theorem ext_set2R {w w3 : World} {b : Nat} {x y : Value} (h : Ext w w3) (hb : w.heap.size ≤ b) : Ext w ((w3.setCell ⟨b, 0, none⟩ x).setCell ⟨b, 1, none⟩ y) := (h.setCell (p := ⟨b, 0, none⟩) hb _).setCell (p := ⟨b, 1, none⟩) hb _
theorem ls_twoB (V : World) (x y x' y' : Int) : Ls Bal.cells 2 (V.alloc (.cells #[.int .i64 x, .int .i64 y, .int .i64 x', .int .i64 y'] 40)) (V.alloc (.cells #[.int .i64 x, .int .i64 y, .int .i64 x', .int .i64 y'] 40)).heap.size (some ⟨V.heap.size, 0, none⟩) 2 2 [⟨x, y⟩, ⟨x', y'⟩] := by
  have h := heap_alloc_new V (.cells #[.int .i64 x, .int .i64 y, .int .i64 x', .int .i64 y'] 40)
  refine ⟨rfl, Nat.le_refl _, by omega, fun _ => ⟨V.heap.size, 0, rfl, (Array.getElem?_eq_some_iff.1 h).1, fun j a ha k v hv => ?_⟩, fun e => by cases e⟩
  have hk : k < 2 := (List.getElem?_eq_some_iff.1 hv).1
  rw [Nat.zero_add, cell_of_row _ V.heap.size (j * 2 + k) _ _ _ h]
  match j, ha with
  | 0, ha =>
    obtain rfl := Option.some.inj ha
    match k, hk with
    | 0, _ | 1, _ => exact hv
  | 1, ha =>
    obtain rfl := Option.some.inj ha
    match k, hk with
    | 0, _ | 1, _ => exact hv
def proP (pl : Nat → Plc) (Q : Nat → Bool) (x y : Int) (i : Nat) : Nat → Plc := fun j => if j < i ∧ Q j = true then { pl j with px := x, py := y } else pl j
def repI (pl : Nat → Plc) (Q : Nat → Bool) (i : Nat) : Nat → Rpt := fun j => if j < i then repQ pl Q j else {}
theorem proP_zero (pl : Nat → Plc) (Q : Nat → Bool) (x y : Int) : proP pl Q x y 0 = pl := by
  funext j
  unfold proP
  rw [if_neg (by omega)]
theorem proP_at (pl : Nat → Plc) (Q : Nat → Bool) (x y : Int) (i : Nat) : proP pl Q x y i i = pl i := by
  unfold proP
  rw [if_neg (by omega)]
theorem proP_no {pl : Nat → Plc} {Q : Nat → Bool} {x y : Int} {i : Nat} (h : Q i = false) : proP pl Q x y (i + 1) = proP pl Q x y i := by
  funext j
  unfold proP
  by_cases hj : j = i
  · subst hj
    rw [h, if_neg (by simp), if_neg (by simp)]
  · by_cases hl : j < i ∧ Q j = true
    · rw [if_pos hl, if_pos ⟨by omega, hl.2⟩]
    · rw [if_neg hl, if_neg fun h => hl ⟨by omega, h.2⟩]
theorem proP_yes {pl : Nat → Plc} {Q : Nat → Bool} {x y : Int} {i : Nat} (h : Q i = true) : proP pl Q x y (i + 1) = setP (proP pl Q x y i) i { proP pl Q x y i i with px := x, py := y } := by
  funext j
  by_cases hj : j = i
  · subst hj
    rw [setP_same, proP_at]
    unfold proP
    rw [if_pos ⟨by omega, h⟩]
  · rw [setP_other _ _ hj]
    unfold proP
    by_cases hl : j < i ∧ Q j = true
    · rw [if_pos hl, if_pos ⟨by omega, hl.2⟩]
    · rw [if_neg hl, if_neg fun h => hl ⟨by omega, h.2⟩]
theorem proP_same (pl : Nat → Plc) (Q : Nat → Bool) (x y : Int) (i j : Nat) : (proP pl Q x y i j).st = (pl j).st ∧ (proP pl Q x y i j).bx = (pl j).bx ∧ (proP pl Q x y i j).yb = (pl j).yb ∧ (proP pl Q x y i j).sq = (pl j).sq := by
  unfold proP
  split <;> exact ⟨rfl, rfl, rfl, rfl⟩
theorem reps_pro (N : Nat) (pl : Nat → Plc) (Q : Nat → Bool) (x y : Int) (i : Nat) : repsQ N (proP pl Q x y i) Q = repsQ N pl Q := by
  unfold repsQ
  refine List.map_congr_left fun j _ => ?_
  unfold repQ repP
  obtain ⟨h1, h2, h3, h4⟩ := proP_same pl Q x y i j
  rw [h1, h2, h3, h4]
theorem repI_zero (pl : Nat → Plc) (Q : Nat → Bool) : repI pl Q 0 = fun _ => {} := by
  funext j
  unfold repI
  rw [if_neg (by omega)]
theorem repI_no {pl : Nat → Plc} {Q : Nat → Bool} {i : Nat} (h : Q i = false) : repI pl Q (i + 1) = repI pl Q i := by
  funext j
  unfold repI
  by_cases hj : j = i
  · subst hj
    rw [if_pos (by omega), if_neg (by omega), repQ_no h]
  · by_cases hl : j < i
    · rw [if_pos hl, if_pos (by omega)]
    · rw [if_neg hl, if_neg (by omega)]
theorem repI_yes {pl : Nat → Plc} {Q : Nat → Bool} {i : Nat} (h : Q i = true) {f : Nat → Rpt} (hf : ∀ j, j ≠ i → f j = repI pl Q i j) (he : f i = repP (pl i)) : f = repI pl Q (i + 1) := by
  funext j
  by_cases hj : j = i
  · subst hj
    rw [he]
    unfold repI
    rw [if_pos (by omega), repQ_yes h]
  · rw [hf j hj]
    unfold repI
    by_cases hl : j < i
    · rw [if_pos hl, if_pos (by omega)]
    · rw [if_neg hl, if_neg (by omega)]
theorem repI_all (N : Nat) (pl : Nat → Plc) (Q : Nat → Bool) : (List.range N).map (repI pl Q N) = repsQ N pl Q := by
  unfold repsQ
  refine List.map_congr_left fun j hj => ?_
  unfold repI
  rw [if_pos (List.mem_range.1 hj)]
theorem repI_at (pl : Nat → Plc) (Q : Nat → Bool) (i : Nat) : repI pl Q i i = {} := by
  unfold repI
  rw [if_neg (by omega)]
theorem prp_new (x y v : Int) (prs : List PrQ) : (prs ++ [(⟨x, y, v, 0⟩ : PrQ)]).map PrQ.prp = prs.map PrQ.prp ++ [({ x := x, y := y, sq := v } : Prp)] := by
  rw [List.map_append]
  congr 1
  show [PrQ.prp ⟨x, y, v, 0⟩] = _
  unfold PrQ.prp
  congr 2
  funext i
  exact Nat.zero_testBit i
theorem decR_threeK (n : Int) (l : List Rpt) : (decR n l).1 = 0 ∨ (decR n l).1 = 1 ∨ (decR n l).1 = 2 := by
  unfold decR
  split
  · split
    · exact .inl rfl
    · cases bestR l with
      | none => exact .inr (.inl rfl)
      | some q => exact .inr (.inr rfl)
  · exact .inl rfl
theorem proposal_info : (Try.prog.info? 73).map (fun i => (i.zero, i.size, i.bytes)) = some (some (.agg #[.int .i64 0, .int .i64 0, .int .i64 0, .int .u8 0]), 4, 32) := by kernel_rfl
abbrev PT (w V : World) (g N r b9 : Nat) (P : Nat → Plc) (f : Nat → Rpt) (pv : Value) (prs : List PrQ) (ch cx cy x y : Int) : Prop := KS V g N P pv ch cx cy ∧ RW V r N f ∧ KInv N P (prs.map PrQ.prp) ch cx cy none ∧ PRow V g pv prs ∧ V.heap[b9]? = some (.cells #[.int .i64 x, .int .i64 y] 40 (0, 0)) ∧ Below g w V
theorem PT.store {w V : World} {g N r b9 : Nat} {P : Nat → Plc} {f : Nat → Rpt} {pv : Value} {prs : List PrQ} {ch cx cy x y : Int} (h : PT w V g N r b9 P f pv prs ch cx cy x y) (hr : g < r ∧ b9 < r) (hpb : ∀ b, pv.ownBlock = some b → b < r) {i : Nat} (hi : i < N) (o : Nat) (vs : List Value) (q q0 : Rpt) (hfi : f i = q0) (ho : o + vs.length ≤ 11) (h1 : ∀ k, k < vs.length → (rptC q)[o + k]? = vs[k]?) (h2 : ∀ k, k < o ∨ o + vs.length ≤ k → (rptC q)[k]? = (rptC q0)[k]?) :
    PT w (V.setCells r (i * 11 + o) vs) g N r b9 P (fun j => if j = i then q else f j) pv prs ch cx cy x y := by
  have hm : Mod (fun k => k = r) V (V.setCells r (i * 11 + o) vs) := (Mod.refl _ V).setCells r (i * 11 + o) vs (.inl rfl)
  obtain ⟨cs, hrow, _⟩ := h.1.row
  refine ⟨h.1.same ?_, h.2.1.sub hi o vs q ho h1 (by rw [hfi]; exact h2), h.2.2.1, own_mod h.2.2.2.1 hm fun b hb hf => by have := hpb b hb; omega, heap_mod h.2.2.2.2.1 hm (by omega), h.2.2.2.2.2.trans (below_mod hm (Nat.le_of_lt h.1.lt) fun k hk => by omega)⟩
  rw [hrow]
  exact heap_mod hrow hm (by omega)
theorem six_row {w : World} {b : Nat} {v0 v1 v2 v3 v4 v5 : Value} {t : TypeId} {fr : Nat × Nat} (h : w.heap[b]? = some (.cells #[v0, v1, v2, v3, v4, v5] t fr)) : w.cell? ⟨b, 2, none⟩ = some v2 ∧ w.cell? ⟨b, 3, none⟩ = some v3 ∧ w.cell? ⟨b, 4, none⟩ = some v4 ∧ w.cell? ⟨b, 5, none⟩ = some v5 :=
  ⟨cell_of_row w b 2 _ _ _ h, cell_of_row w b 3 _ _ _ h, cell_of_row w b 4 _ _ _ h, cell_of_row w b 5 _ _ _ h⟩
theorem far_set {w : World} {b r o : Nat} {vs : List Value} {ob : Obj} (h : w.heap[b]? = some ob) (hb : b ≠ r) : (w.setCells r o vs).heap[b]? = some ob := heap_mod h ((Mod.refl (fun k => k = r) w).setCells r o vs (.inl rfl)) hb
set_option maxHeartbeats 8000000 in
theorem proposes_of {w : World} {g N : Nat} {pl : Nat → Plc} {pv : Value} {ch cx cy : Int} {prs : List PrQ} (hN : N = 3 ∨ N = 5 ∨ N = 7) (h : KS w g N pl pv ch cx cy) (hp : PRow w g pv prs) (hby : ∀ p ∈ prs, p.by_ < 256) (hI : KInv N pl (prs.map PrQ.prp) ch cx cy none) (hlen : prs.length ≤ 60) (who : Nat) (hwho : who < N) (s : Nat) (hs : s < 256) :
    Calls Try.prog 14 #[.pointer (some ⟨g, 0, none⟩), .int .i64 (who : Int), .int .u8 (s : Int)] w fun e w' => ∃ r, e = .returned (.bool r) ∧ ∃ pl' pv' prs', KS w' g N pl' pv' ch cx cy ∧ PRow w' g pv' prs' ∧ (∀ p ∈ prs', p.by_ < 256) ∧ KInv N pl' (prs'.map PrQ.prp) ch cx cy none ∧ Below g w w' ∧ prs'.length ≤ prs.length + 1 ∧ (r = true → 0 < prs'.length) := by
  have hN7 : N ≤ 7 := by omega
  obtain ⟨i0, hi0, hz0, hz1, hz2⟩ := info_parts proposal_info
  have HK := Lib.hid (And.intro h (And.intro hp (And.intro hby hI)))
  obtain ⟨W0, hW0⟩ : ∃ W0, w.alloc (.cells #[.int .i64 0, .int .i64 0] 40) = W0 := ⟨_, rfl⟩
  have hE : Ext w W0 := by rw [← hW0]; exact (Ext.refl w).alloc _
  have hr0 : W0.heap[w.heap.size]? = some (.cells #[.int .i64 0, .int .i64 0] 40 (0, 0)) := by rw [← hW0]; exact heap_alloc_new w _
  have hgb := h.lt
  have HW0 := Lib.hid hW0
  have HE := Lib.hid (And.intro hE hr0)
  clear hW0 hE hr0 h hp hby hI
  go_enter Try.func14, Try.ntmps14
  go_upto_region 2 with (fail)
  rw [HW0.out]
  obtain ⟨b, hb⟩ : ∃ b, w.heap.size = b := ⟨_, rfl⟩
  rw [hb] at HE hgb ⊢
  have HB := Lib.hid hb
  clear hb HW0
  go_wp2_with fail
  go_loopw [8] (fun iv wr => ∃ (i : Nat) (gx gy : Int), i ≤ N ∧ iv = .int .i64 (i : Int) ∧ Hid (wr.heap[b]? = some (.cells #[.int .i64 gx, .int .i64 gy] 40 (0, 0)) ∧ (∀ j, j < i → ltB ⟨gx, gy⟩ ⟨(pl j).px, (pl j).py⟩ = false) ∧ Ext w wr)) (fun iv _ => N - (intOf iv).toNat)
  case atStart => exact ⟨0, 0, 0, Nat.zero_le _, rfl, Lib.hid ⟨HE.out.2, fun j hj => absurd hj (Nat.not_lt_zero _), HE.out.1⟩⟩
  case round =>
    obtain ⟨i, gx, gy, hi, rfl, HG⟩ := hrel
    have hks := HK.out.1.ext HG.out.2.2
    have hn := hks.n
    by_cases hlt : i < N
    · have hi7 : i < 7 := by omega
      have hiz : (i : Int) < 7 := by omega
      have hi0' : (0 : Int) ≤ (i : Int) := by omega
      obtain ⟨r0, r1, _⟩ := hks.six hi7
      obtain ⟨vx, hvx⟩ : ∃ vx, (pl i).px = vx := ⟨_, rfl⟩
      obtain ⟨vy, hvy⟩ : ∃ vy, (pl i).py = vy := ⟨_, rfl⟩
      rw [hvx] at r0
      rw [hvy] at r1
      have HV := Lib.hid (And.intro hvx hvy)
      obtain ⟨e0, e1, e2, e3⟩ := bal_row HG.out.1
      have HMX := Lib.hid (fun V => maxB_of (some ⟨V.heap.size, 0, none⟩) 2 2 [⟨gx, gy⟩, ⟨vx, vy⟩] _ (ls_twoB V gx gy vx vy))
      have hm1 : ltB (maxB [⟨gx, gy⟩, ⟨vx, vy⟩]) ⟨gx, gy⟩ = false := maxB_ge (by simp)
      have hm2 : ltB (maxB [⟨gx, gy⟩, ⟨vx, vy⟩]) ⟨vx, vy⟩ = false := maxB_ge (by simp)
      generalize maxB [⟨gx, gy⟩, ⟨vx, vy⟩] = M at HMX hm1 hm2
      obtain ⟨mx, my⟩ := M
      dsimp only at HMX
      have HM := Lib.hid (And.intro hm1 hm2)
      clear hvx hvy hm1 hm2 hks
      go_wp2_with fail
      go_still_tail 8, (by kernel_rfl)
      go_wp2_with fail
      refine (HMX.out wr.drew).mono ?_
      rintro _ w3 ⟨rfl, hx⟩
      have hx2 : Ext wr w3 := ((Ext.refl wr).drew.alloc _).trans hx
      have hrow := keep_rowB hx2 HG.out.1
      clear e0 e1 e2 e3
      obtain ⟨e0, e1, e2, e3⟩ := bal_row hrow
      have hrow2 := bal_store mx my hrow
      have hxx : Ext w ((w3.setCell ⟨b, 0, none⟩ (.int .i64 mx)).setCell ⟨b, 1, none⟩ (.int .i64 my)) := ((HG.out.2.2.trans hx2).setCell (p := ⟨b, 0, none⟩) (by rw [HB.out]; exact Nat.le_refl _) _).setCell (p := ⟨b, 1, none⟩) (by rw [HB.out]; exact Nat.le_refl _) _
      have HN := Lib.hid (And.intro hrow2 hxx)
      clear hx hx2 hrow hrow2 hxx r0 r1 hn HMX
      go_wp2_with fail
      go_roundw
      case rel =>
        refine ⟨i + 1, mx, my, by omega, by go_num, Lib.hid ⟨HN.out.1, fun j hj => ?_, HN.out.2⟩⟩
        by_cases hji : j = i
        · subst hji
          rw [HV.out.1, HV.out.2]
          exact HM.out.2
        · exact ltB_le HM.out.1 (HG.out.2.1 j (by omega))
      case measure => simp [intOf]; omega
    · obtain rfl : i = N := by omega
      obtain ⟨N, hN'⟩ : ∃ N, N = i := ⟨_, rfl⟩
      subst hN'
      have HNX := Lib.hid (fun V => nextB_of gx gy (who : Int) (N : Int) V)
      have hnf := next_facts (b := ⟨gx, gy⟩) (i := (who : Int)) (n := (N : Int))
      generalize hnb : nextB ⟨gx, gy⟩ (who : Int) (N : Int) = nb at HNX hnf
      generalize her : errB ⟨gx, gy⟩ (who : Int) (N : Int) = er at HNX hnf
      obtain ⟨x, y⟩ := nb
      dsimp only at HNX
      have HNF : Hid (er = 0 → ltB ⟨gx, gy⟩ ⟨x, y⟩ = true) := Lib.hid fun h => (hnf h).2.2.2.2.1
      have HKW := Lib.hid hks
      obtain ⟨e0, e1, _, _⟩ := bal_row HG.out.1
      have HC := Lib.hid (And.intro e0 (And.intro e1 (And.intro hn (And.intro e0 e1))))
      clear hnf hnb her hks
      go_upto_region 6 with (fail)
      go_cut [9, 10] (fun v9 v10 wx => ∃ b9, v9 = .pointer (some ⟨b9, 0, none⟩) ∧ v10 = .int .i64 er ∧ Hid (Ext wr wx ∧ wx.heap[b9]? = some (.cells #[.int .i64 x, .int .i64 y] 40 (0, 0)) ∧ wr.heap.size ≤ b9))
      case first =>
        go_region_held3 (fun w' => w'.cell? ⟨b, 0, none⟩ = some (.int .i64 gx) ∧ w'.cell? ⟨b, 1, none⟩ = some (.int .i64 gy) ∧ w'.cell? ⟨g, 0, none⟩ = some (.int .i64 (N : Int)))
          (first | with_reducible exact ⟨e0, e1, hn⟩ | assumption | go_keep | (exact ⟨ext_of_cellB (by repeat (first | assumption | exact Ext.refl _ | refine Ext.drew ?_ | refine Ext.alloc ?_ _ | refine ext_set2R ?_ (Nat.le_refl _))) e0, ext_of_cellB (by repeat (first | assumption | exact Ext.refl _ | refine Ext.drew ?_ | refine Ext.alloc ?_ _ | refine ext_set2R ?_ (Nat.le_refl _))) e1, ext_of_cellB (by repeat (first | assumption | exact Ext.refl _ | refine Ext.drew ?_ | refine Ext.alloc ?_ _ | refine ext_set2R ?_ (Nat.le_refl _))) hn⟩))
          (first | (go_at_call 32; ((with_reducible refine (HNX.out _).mono ?_); rintro e w3 ⟨rfl, hx⟩; have hxw : Ext wr w3 := (by repeat (first | exact Ext.refl _ | refine Ext.drew ?_ | refine Ext.alloc ?_ _) : Ext wr _).trans hx; have hk5 := keepX hxw HC; first | (have hz : w3.heap[wr.heap.size]? = _ := keep_rowB hx (heap_alloc_new _ _); obtain ⟨z0, z1, z2, z3⟩ := bal_row hz) | skip)))
        all_goals
          go_wp2_with fail
          go_meet
          first
            | exact ⟨_, rfl, rfl, Lib.hid ⟨hxw.alloc _, heap_alloc_new w3 _, hxw.size⟩⟩
            | exact ⟨_, rfl, rfl, Lib.hid ⟨ext_set2R hxw (Nat.le_refl _), bal_store x y hz, Nat.le_refl _⟩⟩
      case rest =>
        obtain ⟨b9, rfl, rfl, HC6⟩ := hcut
        have hks6 := HKW.out.ext HC6.out.1
        have hxw6 := HG.out.2.2.trans HC6.out.1
        have HK6 := Lib.hid (And.intro hks6 (And.intro (ownsRow_extL HK.out.2.1 hxw6) (Below.toB hxw6 (show g < w.heap.size by rw [HB.out]; exact hgb))))
        have HR9 := Lib.hid (And.intro HC6.out.2.1 (show g < b9 by have h1 := HC6.out.2.2; have h2 := HKW.out.lt; omega))
        have hn6 := hks6.n
        clear e0 e1 hn HC hks6 hxw6
        by_cases her : er = 0
        · subst her
          have hmk := fun V => mk_reports N (by omega) V
          go_upto_region 10 with (fail)
          have hrw := RW.made wc N
          have hx7 := (Ext.refl wc).alloc (rowR N)
          have hrg : g < wc.heap.size := HK6.out.1.lt
          have hrb : b9 < wc.heap.size := (Array.getElem?_eq_some_iff.1 HR9.out.1).1
          generalize wc.alloc (rowR N) = W7 at *
          have hpb0 : ∀ b, pv.ownBlock = some b → b < wc.heap.size := fun b hb => (World.ownsRow.lt HK6.out.2.1 b hb).2
          generalize wc.heap.size = r at *
          have HRG : Hid (g < r ∧ b9 < r) := Lib.hid ⟨hrg, hrb⟩
          obtain ⟨Q, hQ⟩ : ∃ Q : Nat → Bool, (fun i => (addQ s (who : Int)).testBit i) = Q := ⟨_, rfl⟩
          have HQD : Hid (∀ i : Nat, i < 7 → hasQ (addQ s (who : Int)) (i : Int) = Q i) := Lib.hid fun i hi => by rw [has_bit _ _ hi, ← hQ]
          have HQW : Hid (Q who = true) := Lib.hid (by
            rw [← hQ]
            show (addQ s (who : Int)).testBit who = true
            unfold addQ
            rw [if_pos (by omega), Int.toNat_natCast, Nat.testBit_or, Nat.testBit_two_pow_self, Bool.or_true])
          have HL0 : Hid (KS W7 g N (proP pl Q x y 0) pv ch cx cy ∧ RW W7 r N (repI pl Q 0) ∧ KInv N (proP pl Q x y 0) (prs.map PrQ.prp) ch cx cy none ∧ PRow W7 g pv prs ∧ W7.heap[b9]? = some (.cells #[.int .i64 x, .int .i64 y] 40 (0, 0)) ∧ Below g w W7) := by
            rw [proP_zero, repI_zero]
            exact Lib.hid ⟨HK6.out.1.ext hx7, hrw, HK.out.2.2.2, ownsRow_extL HK6.out.2.1 hx7, keep_rowB hx7 HR9.out.1, HK6.out.2.2.trans (Below.toB hx7 HK6.out.1.lt)⟩
          have HGB : Hid (∀ i : Nat, i < N → bLe (pl i).px (pl i).py x y) := Lib.hid fun i hi => (bLe_lt (ltB_bLe (HG.out.2.1 i hi)) (ltB_bLt.1 (HNF.out rfl))).le
          have HPB : Hid (∀ b, pv.ownBlock = some b → b < r) := Lib.hid hpb0
          clear hmk hrw hx7 hrg hrb hQ hn6 hpb0
          go_wp2_with fail
          go_loopw [12] (fun iv wr => ∃ i : Nat, i ≤ N ∧ iv = .int .i64 (i : Int) ∧ Hid (KS wr g N (proP pl Q x y i) pv ch cx cy ∧ RW wr r N (repI pl Q i) ∧ KInv N (proP pl Q x y i) (prs.map PrQ.prp) ch cx cy none ∧ PRow wr g pv prs ∧ wr.heap[b9]? = some (.cells #[.int .i64 x, .int .i64 y] 40 (0, 0)) ∧ Below g w wr)) (fun iv _ => N - (intOf iv).toNat)
          case atStart => exact ⟨0, Nat.zero_le _, rfl, HL0⟩
          case round =>
            obtain ⟨i, hi, rfl, HL⟩ := hrel
            have hn := HL.out.1.n
            by_cases hlt2 : i < N
            · have hi7 : i < 7 := by omega
              have hiz : (i : Int) < 7 := by omega
              have hi0' : (0 : Int) ≤ (i : Int) := by omega
              have HAD := Lib.hid (fun V => add_of s hs (who : Int) V)
              have HHS := Lib.hid (fun V => has_of (addQ s (who : Int)) (addQ_lt hs _) (i : Int) V)
              rw [HQD.out i hi7] at HHS
              obtain ⟨qi, hqi⟩ : ∃ qi, Q i = qi := ⟨_, rfl⟩
              rw [hqi] at HHS
              generalize addQ s (who : Int) = aq at *
              cases qi with
              | false =>
                have HQN := Lib.hid hqi
                clear hqi
                go_wp2_with fail
                refine (HAD.out _).mono ?_
                rintro _ w9 ⟨rfl, hw⟩
                subst hw
                go_wp2_with fail
                refine (HHS.out _).mono ?_
                rintro _ w9 ⟨rfl, hw⟩
                subst hw
                go_wp2_with fail
                go_roundw
                case rel => exact ⟨i + 1, by omega, by go_num, by rw [proP_no HQN.out, repI_no HQN.out]; exact HL⟩
                case measure => simp [intOf]; omega
              | true =>
                have HQI := Lib.hid hqi
                clear hqi
                go_wp2_with fail
                refine (HAD.out _).mono ?_
                rintro _ w9 ⟨rfl, hw⟩
                subst hw
                go_wp2_with fail
                refine (HHS.out _).mono ?_
                rintro _ w9 ⟨rfl, hw⟩
                subst hw
                obtain ⟨r0, r1, _⟩ := HL.out.1.six hi7
                have f0 := HL.out.1.free (1 + i * 6)
                have f1 := HL.out.1.free (1 + i * 6 + 1)
                obtain ⟨e0, e1, _, _⟩ := bal_row HL.out.2.2.2.2.1
                go_wp2_with fail
                go_region
                change Exit.then _ _ _ _ ((((wr.setCell ⟨g, 1 + i * 6, none⟩ (.int .i64 x)).setCell ⟨g, 1 + i * 6 + 1, none⟩ (.int .i64 y)).drew))
                have hk1 := HL.out.1.place hi7 (k := 0) (.int .i64 x) { proP pl Q x y i i with px := x } rfl (by omega)
                have hk2 := hk1.place hi7 (k := 1) (.int .i64 y) { proP pl Q x y i i with px := x, py := y } (by rw [setP_same]; rfl) (by omega)
                rw [setP_setP] at hk2
                have hk3 := hk2.ext ((Ext.refl _).drew)
                have hm3 : Mod (fun k => k = g) wr ((((wr.setCell ⟨g, 1 + i * 6, none⟩ (.int .i64 x)).setCell ⟨g, 1 + i * 6 + 1, none⟩ (.int .i64 y)).drew)) := (Mod.setCell (F := fun k => k = g) (Mod.setCell (F := fun k => k = g) (Mod.refl (fun k => k = g) wr) (.inl rfl) _) (.inl rfl) _).trans (Mod.of_ext ((Ext.refl _).drew)) fun _ h => .inl h
                have hi3 := HL.out.2.2.1.promise (i := i) (x := x) (y := y) (by rw [proP_at]; exact HGB.out i (by omega))
                generalize ((((wr.setCell ⟨g, 1 + i * 6, none⟩ (.int .i64 x)).setCell ⟨g, 1 + i * 6 + 1, none⟩ (.int .i64 y)).drew)) = V3 at *
                have HV3 := Lib.hid (And.intro hk3 (And.intro (HL.out.2.1.mod hm3 (by have := HRG.out; omega)) (And.intro hi3 (And.intro (PRow.mod HL.out.2.2.2.1 hm3) (And.intro (heap_mod HL.out.2.2.2.2.1 hm3 (show b9 ≠ g by have := HR9.out.2; omega)) (HL.out.2.2.2.2.2.trans (below_mod hm3 (Nat.le_of_lt HL.out.1.lt) fun k hk => by omega)))))))
                clear hk1 hk2 hk3 hm3 hi3 r0 r1 f0 f1 e0 e1 hn
                obtain ⟨p0, p1, p2, p3, p4, p5⟩ := HV3.out.1.six hi7
                rw [setP_same] at p0 p1 p2 p3 p4 p5
                rw [proP_at] at p2 p3 p4 p5
                dsimp only at p0 p1 p2 p3 p4 p5
                have hst := HK.out.2.2.2.rng i (by omega)
                obtain ⟨PI, hPI⟩ : ∃ PI, pl i = PI := ⟨_, rfl⟩
                rw [hPI] at p2 p3 p4 p5 hst
                have HPI := Lib.hid hPI
                obtain ⟨ux, uy, sx, sy, st, sq⟩ := PI
                dsimp only at p2 p3 p4 p5 hst
                clear hPI
                go_upto_region 16 with (fail)
                clear p0 p1 p2 p3 p4 p5
                have hq2 := heap_alloc_new V3 (.cells #[.int .i64 x, .int .i64 y, .int .i64 sx, .int .i64 sy, .int .u8 (st : Int), .int .i64 sq] 42)
                have hx2 := (Ext.refl V3).alloc (.cells #[.int .i64 x, .int .i64 y, .int .i64 sx, .int .i64 sy, .int .u8 (st : Int), .int .i64 sq] 42)
                have hrb2 : r < V3.heap.size := HV3.out.2.1.lt
                generalize (V3.alloc (.cells #[.int .i64 x, .int .i64 y, .int .i64 sx, .int .i64 sy, .int .u8 (st : Int), .int .i64 sq] 42)) = V4 at *
                have HV4 := Lib.hid (And.intro (HV3.out.1.ext hx2) (And.intro (HV3.out.2.1.ext hx2) (And.intro HV3.out.2.2.1 (And.intro (ownsRow_extL HV3.out.2.2.2.1 hx2) (And.intro (keep_rowB hx2 HV3.out.2.2.2.2.1) (HV3.out.2.2.2.2.2.trans (Below.toB hx2 HV3.out.1.lt)))))))
                generalize V3.heap.size = bp at *
                have HBP := Lib.hid (And.intro hq2 hrb2)
                have ht0 : V4.there r (i * 11) 11 := HV4.out.2.1.there (o := 0) (n := 11) (by omega) (by omega)
                have HT0 := Lib.hid ht0
                clear hq2 hx2 hrb2 ht0
                go_upto_region 17 with (refine wpList_store_mid rfl 54 _ _ rfl r (i * 11) #[.int .i64 0, .int .u8 1, .int .i64 0, .int .i64 0, .int .u8 0, .int .i64 0, .int .i64 0, .int .u8 0, .string ⟨#[]⟩, .string ⟨#[]⟩, .string ⟨#[]⟩] (by simp [Act.eval]) rfl HT0.out (by kernel_rfl) (by simp [Value.oneCell']) ?_)
                have HBPR := HBP
                have hps := PT.store (w := w) HV4.out HRG.out HPB.out (i := i) hlt2 0 [.int .i64 0, .int .u8 1, .int .i64 0, .int .i64 0, .int .u8 0, .int .i64 0, .int .i64 0, .int .u8 0, .string ⟨#[]⟩, .string ⟨#[]⟩, .string ⟨#[]⟩] ⟨0, 1, 0, 0, {}⟩ {} (repI_at pl Q i) (by show 0 + 11 ≤ 11; decide) (fun k hk => (by match k, hk with | 0, _ | 1, _ | 2, _ | 3, _ | 4, _ | 5, _ | 6, _ | 7, _ | 8, _ | 9, _ | 10, _ => rfl)) (fun k hk => (by rw [List.getElem?_eq_none (by show 11 ≤ k; rcases hk with hk | hk; omega; exact (by simpa using hk)), List.getElem?_eq_none (by show 11 ≤ k; rcases hk with hk | hk; omega; exact (by simpa using hk))]))
                have hbp := far_set (r := r) (o := i * 11) (vs := [.int .i64 0, .int .u8 1, .int .i64 0, .int .i64 0, .int .u8 0, .int .i64 0, .int .i64 0, .int .u8 0, .string ⟨#[]⟩, .string ⟨#[]⟩, .string ⟨#[]⟩]) HBPR.out.1 (show bp ≠ r by have := HBPR.out.2; omega)
                change PT w (V4.setCells r (i * 11) [.int .i64 0, .int .u8 1, .int .i64 0, .int .i64 0, .int .u8 0, .int .i64 0, .int .i64 0, .int .u8 0, .string ⟨#[]⟩, .string ⟨#[]⟩, .string ⟨#[]⟩]) g N r b9 _ _ pv prs ch cx cy x y at hps
                generalize V4.setCells r (i * 11) [.int .i64 0, .int .u8 1, .int .i64 0, .int .i64 0, .int .u8 0, .int .i64 0, .int .i64 0, .int .u8 0, .string ⟨#[]⟩, .string ⟨#[]⟩, .string ⟨#[]⟩] = V5 at *
                have HV5 := Lib.hid hps
                have HBPR := Lib.hid (And.intro hbp HBPR.out.2)
                obtain ⟨c2, c3, c4, c5⟩ := six_row hbp
                clear hps hbp
                rcases hst with rfl | rfl | rfl | rfl
                · go_wp2_with fail
                  go_roundw
                  case rel =>
                    have hfe : (fun j => if j = i then (⟨0, 1, 0, 0, {}⟩ : Rpt) else repI pl Q i j) = repI pl Q (i + 1) := repI_yes HQI.out (fun j hj => by simp only [if_neg hj]) (by simp only [if_true]; rw [HPI.out]; rfl)
                    have hp := HV5.out
                    rw [hfe] at hp
                    rw [← proP_yes HQI.out] at hp
                    exact ⟨i + 1, by omega, by go_num, Lib.hid hp⟩
                  case measure => simp [intOf]; omega
                · skip
                  have HT1 := Lib.hid (HV5.out.2.1.there (i := i) (o := 0) (n := 11) hlt2 (by omega) : V5.there r (i * 11) 11)
                  go_upto_region 19 with (refine wpList_store_mid rfl 54 _ _ rfl r (i * 11) #[.int .i64 0, .int .u8 2, .int .i64 sx, .int .i64 sy, .int .u8 0, .int .i64 0, .int .i64 0, .int .u8 0, .string ⟨#[]⟩, .string ⟨#[]⟩, .string ⟨#[]⟩] (by simp [Act.eval]) rfl HT1.out (by kernel_rfl) (by simp [Value.oneCell']) ?_)
                  clear c2 c3 c4 c5
                  have hps := PT.store (w := w) HV5.out HRG.out HPB.out (i := i) hlt2 0 [.int .i64 0, .int .u8 2, .int .i64 sx, .int .i64 sy, .int .u8 0, .int .i64 0, .int .i64 0, .int .u8 0, .string ⟨#[]⟩, .string ⟨#[]⟩, .string ⟨#[]⟩] ⟨0, 2, sx, sy, {}⟩ ⟨0, 1, 0, 0, {}⟩ (if_pos rfl) (by show 0 + 11 ≤ 11; decide) (fun k hk => (by match k, hk with | 0, _ | 1, _ | 2, _ | 3, _ | 4, _ | 5, _ | 6, _ | 7, _ | 8, _ | 9, _ | 10, _ => rfl)) (fun k hk => (by rw [List.getElem?_eq_none (by show 11 ≤ k; rcases hk with hk | hk; omega; exact (by simpa using hk)), List.getElem?_eq_none (by show 11 ≤ k; rcases hk with hk | hk; omega; exact (by simpa using hk))]))
                  have hbp := far_set (r := r) (o := i * 11) (vs := [.int .i64 0, .int .u8 2, .int .i64 sx, .int .i64 sy, .int .u8 0, .int .i64 0, .int .i64 0, .int .u8 0, .string ⟨#[]⟩, .string ⟨#[]⟩, .string ⟨#[]⟩]) HBPR.out.1 (show bp ≠ r by have := HBPR.out.2; omega)
                  change PT w (V5.setCells r (i * 11) [.int .i64 0, .int .u8 2, .int .i64 sx, .int .i64 sy, .int .u8 0, .int .i64 0, .int .i64 0, .int .u8 0, .string ⟨#[]⟩, .string ⟨#[]⟩, .string ⟨#[]⟩]) g N r b9 _ _ pv prs ch cx cy x y at hps
                  generalize V5.setCells r (i * 11) [.int .i64 0, .int .u8 2, .int .i64 sx, .int .i64 sy, .int .u8 0, .int .i64 0, .int .i64 0, .int .u8 0, .string ⟨#[]⟩, .string ⟨#[]⟩, .string ⟨#[]⟩] = V6 at *
                  have HV6 := Lib.hid hps
                  have HBPR := Lib.hid (And.intro hbp HBPR.out.2)
                  obtain ⟨c2, c3, c4, c5⟩ := six_row hbp
                  clear hps hbp
                  have HT2 := Lib.hid (HV6.out.2.1.there (i := i) (o := 4) (n := 7) hlt2 (by omega))
                  go_upto_region 21 with (refine wpList_store_mid rfl 27 _ _ rfl r (i * 11 + 4) #[.int .u8 2, .int .i64 0, .int .i64 sq, .int .u8 0, .string ⟨#[]⟩, .string ⟨#[]⟩, .string ⟨#[]⟩] (by simp [Act.eval]) rfl HT2.out (by kernel_rfl) (by simp [Value.oneCell']) ?_)
                  clear c2 c3 c4 c5
                  have hps := PT.store (w := w) HV6.out HRG.out HPB.out (i := i) hlt2 4 [.int .u8 2, .int .i64 0, .int .i64 sq, .int .u8 0, .string ⟨#[]⟩, .string ⟨#[]⟩, .string ⟨#[]⟩] ⟨0, 2, sx, sy, { k := 2, sq := sq }⟩ ⟨0, 2, sx, sy, {}⟩ (if_pos rfl) (by show 4 + 7 ≤ 11; decide) (fun k hk => (by match k, hk with | 0, _ | 1, _ | 2, _ | 3, _ | 4, _ | 5, _ | 6, _ => rfl)) (fun k hk => (by
                    have hk : k < 4 ∨ 11 ≤ k := hk
                    rcases Nat.lt_or_ge k 11 with h11 | h11
                    · match k, h11, hk with
                      | 0, _, _ | 1, _, _ | 2, _, _ | 3, _, _ => rfl
                      | 4, _, hh | 5, _, hh | 6, _, hh | 7, _, hh | 8, _, hh | 9, _, hh | 10, _, hh => omega
                    · rw [List.getElem?_eq_none (by exact h11), List.getElem?_eq_none (by exact h11)]))
                  have hbp := far_set (r := r) (o := i * 11 + 4) (vs := [.int .u8 2, .int .i64 0, .int .i64 sq, .int .u8 0, .string ⟨#[]⟩, .string ⟨#[]⟩, .string ⟨#[]⟩]) HBPR.out.1 (show bp ≠ r by have := HBPR.out.2; omega)
                  change PT w (V6.setCells r (i * 11 + 4) [.int .u8 2, .int .i64 0, .int .i64 sq, .int .u8 0, .string ⟨#[]⟩, .string ⟨#[]⟩, .string ⟨#[]⟩]) g N r b9 _ _ pv prs ch cx cy x y at hps
                  generalize V6.setCells r (i * 11 + 4) [.int .u8 2, .int .i64 0, .int .i64 sq, .int .u8 0, .string ⟨#[]⟩, .string ⟨#[]⟩, .string ⟨#[]⟩] = V7 at *
                  have HV7 := Lib.hid hps
                  have HBPR := Lib.hid (And.intro hbp HBPR.out.2)
                  obtain ⟨c2, c3, c4, c5⟩ := six_row hbp
                  clear hps hbp
                  go_wp2_with fail
                  go_roundw
                  case rel =>
                    have hfe : (fun j => if j = i then (⟨0, 2, sx, sy, { k := 2, sq := sq }⟩ : Rpt) else (fun j => if j = i then (⟨0, 2, sx, sy, {}⟩ : Rpt) else (fun j => if j = i then (⟨0, 1, 0, 0, {}⟩ : Rpt) else repI pl Q i j) j) j) = repI pl Q (i + 1) := repI_yes HQI.out (fun j hj => by simp only [if_neg hj]) (by simp only [if_true]; rw [HPI.out]; rfl)
                    have hp := HV7.out
                    rw [hfe] at hp
                    rw [← proP_yes HQI.out] at hp
                    exact ⟨i + 1, by omega, by go_num, Lib.hid hp⟩
                  case measure => simp [intOf]; omega
                · skip
                  have HT1 := Lib.hid (HV5.out.2.1.there (i := i) (o := 0) (n := 11) hlt2 (by omega) : V5.there r (i * 11) 11)
                  go_upto_region 19 with (refine wpList_store_mid rfl 54 _ _ rfl r (i * 11) #[.int .i64 0, .int .u8 3, .int .i64 sx, .int .i64 sy, .int .u8 0, .int .i64 0, .int .i64 0, .int .u8 0, .string ⟨#[]⟩, .string ⟨#[]⟩, .string ⟨#[]⟩] (by simp [Act.eval]) rfl HT1.out (by kernel_rfl) (by simp [Value.oneCell']) ?_)
                  clear c2 c3 c4 c5
                  have hps := PT.store (w := w) HV5.out HRG.out HPB.out (i := i) hlt2 0 [.int .i64 0, .int .u8 3, .int .i64 sx, .int .i64 sy, .int .u8 0, .int .i64 0, .int .i64 0, .int .u8 0, .string ⟨#[]⟩, .string ⟨#[]⟩, .string ⟨#[]⟩] ⟨0, 3, sx, sy, {}⟩ ⟨0, 1, 0, 0, {}⟩ (if_pos rfl) (by show 0 + 11 ≤ 11; decide) (fun k hk => (by match k, hk with | 0, _ | 1, _ | 2, _ | 3, _ | 4, _ | 5, _ | 6, _ | 7, _ | 8, _ | 9, _ | 10, _ => rfl)) (fun k hk => (by rw [List.getElem?_eq_none (by show 11 ≤ k; rcases hk with hk | hk; omega; exact (by simpa using hk)), List.getElem?_eq_none (by show 11 ≤ k; rcases hk with hk | hk; omega; exact (by simpa using hk))]))
                  have hbp := far_set (r := r) (o := i * 11) (vs := [.int .i64 0, .int .u8 3, .int .i64 sx, .int .i64 sy, .int .u8 0, .int .i64 0, .int .i64 0, .int .u8 0, .string ⟨#[]⟩, .string ⟨#[]⟩, .string ⟨#[]⟩]) HBPR.out.1 (show bp ≠ r by have := HBPR.out.2; omega)
                  change PT w (V5.setCells r (i * 11) [.int .i64 0, .int .u8 3, .int .i64 sx, .int .i64 sy, .int .u8 0, .int .i64 0, .int .i64 0, .int .u8 0, .string ⟨#[]⟩, .string ⟨#[]⟩, .string ⟨#[]⟩]) g N r b9 _ _ pv prs ch cx cy x y at hps
                  generalize V5.setCells r (i * 11) [.int .i64 0, .int .u8 3, .int .i64 sx, .int .i64 sy, .int .u8 0, .int .i64 0, .int .i64 0, .int .u8 0, .string ⟨#[]⟩, .string ⟨#[]⟩, .string ⟨#[]⟩] = V6 at *
                  have HV6 := Lib.hid hps
                  have HBPR := Lib.hid (And.intro hbp HBPR.out.2)
                  obtain ⟨c2, c3, c4, c5⟩ := six_row hbp
                  clear hps hbp
                  go_wp2_with fail
                  go_roundw
                  case rel =>
                    have hfe : (fun j => if j = i then (⟨0, 3, sx, sy, {}⟩ : Rpt) else (fun j => if j = i then (⟨0, 1, 0, 0, {}⟩ : Rpt) else repI pl Q i j) j) = repI pl Q (i + 1) := repI_yes HQI.out (fun j hj => by simp only [if_neg hj]) (by simp only [if_true]; rw [HPI.out]; rfl)
                    have hp := HV6.out
                    rw [hfe] at hp
                    rw [← proP_yes HQI.out] at hp
                    exact ⟨i + 1, by omega, by go_num, Lib.hid hp⟩
                  case measure => simp [intOf]; omega
                · skip
                  have HT1 := Lib.hid (HV5.out.2.1.there (i := i) (o := 0) (n := 11) hlt2 (by omega) : V5.there r (i * 11) 11)
                  go_upto_region 19 with (refine wpList_store_mid rfl 54 _ _ rfl r (i * 11) #[.int .i64 0, .int .u8 4, .int .i64 sx, .int .i64 sy, .int .u8 0, .int .i64 0, .int .i64 0, .int .u8 0, .string ⟨#[]⟩, .string ⟨#[]⟩, .string ⟨#[]⟩] (by simp [Act.eval]) rfl HT1.out (by kernel_rfl) (by simp [Value.oneCell']) ?_)
                  clear c2 c3 c4 c5
                  have hps := PT.store (w := w) HV5.out HRG.out HPB.out (i := i) hlt2 0 [.int .i64 0, .int .u8 4, .int .i64 sx, .int .i64 sy, .int .u8 0, .int .i64 0, .int .i64 0, .int .u8 0, .string ⟨#[]⟩, .string ⟨#[]⟩, .string ⟨#[]⟩] ⟨0, 4, sx, sy, {}⟩ ⟨0, 1, 0, 0, {}⟩ (if_pos rfl) (by show 0 + 11 ≤ 11; decide) (fun k hk => (by match k, hk with | 0, _ | 1, _ | 2, _ | 3, _ | 4, _ | 5, _ | 6, _ | 7, _ | 8, _ | 9, _ | 10, _ => rfl)) (fun k hk => (by rw [List.getElem?_eq_none (by show 11 ≤ k; rcases hk with hk | hk; omega; exact (by simpa using hk)), List.getElem?_eq_none (by show 11 ≤ k; rcases hk with hk | hk; omega; exact (by simpa using hk))]))
                  have hbp := far_set (r := r) (o := i * 11) (vs := [.int .i64 0, .int .u8 4, .int .i64 sx, .int .i64 sy, .int .u8 0, .int .i64 0, .int .i64 0, .int .u8 0, .string ⟨#[]⟩, .string ⟨#[]⟩, .string ⟨#[]⟩]) HBPR.out.1 (show bp ≠ r by have := HBPR.out.2; omega)
                  change PT w (V5.setCells r (i * 11) [.int .i64 0, .int .u8 4, .int .i64 sx, .int .i64 sy, .int .u8 0, .int .i64 0, .int .i64 0, .int .u8 0, .string ⟨#[]⟩, .string ⟨#[]⟩, .string ⟨#[]⟩]) g N r b9 _ _ pv prs ch cx cy x y at hps
                  generalize V5.setCells r (i * 11) [.int .i64 0, .int .u8 4, .int .i64 sx, .int .i64 sy, .int .u8 0, .int .i64 0, .int .i64 0, .int .u8 0, .string ⟨#[]⟩, .string ⟨#[]⟩, .string ⟨#[]⟩] = V6 at *
                  have HV6 := Lib.hid hps
                  have HBPR := Lib.hid (And.intro hbp HBPR.out.2)
                  obtain ⟨c2, c3, c4, c5⟩ := six_row hbp
                  clear hps hbp
                  have HT2 := Lib.hid (HV6.out.2.1.there (i := i) (o := 2) (n := 2) hlt2 (by omega))
                  go_upto_region 12 with (refine wpList_store_mid rfl 40 _ _ rfl r (i * 11 + 2) #[.int .i64 0, .int .i64 0] (by simp [Act.eval]) rfl HT2.out (by kernel_rfl) (by simp [Value.oneCell']) ?_)
                  clear c2 c3 c4 c5
                  have hps := PT.store (w := w) HV6.out HRG.out HPB.out (i := i) hlt2 2 [.int .i64 0, .int .i64 0] ⟨0, 4, 0, 0, {}⟩ ⟨0, 4, sx, sy, {}⟩ (if_pos rfl) (by show 2 + 2 ≤ 11; decide) (fun k hk => (by match k, hk with | 0, _ | 1, _ => rfl)) (fun k hk => (by
                    have hk : k < 2 ∨ 4 ≤ k := hk
                    rcases Nat.lt_or_ge k 11 with h11 | h11
                    · match k, h11, hk with
                      | 0, _, _ | 1, _, _ | 4, _, _ | 5, _, _ | 6, _, _ | 7, _, _ | 8, _, _ | 9, _, _ | 10, _, _ => rfl
                      | 2, _, hh | 3, _, hh => omega
                    · rw [List.getElem?_eq_none (by exact h11), List.getElem?_eq_none (by exact h11)]))
                  have hbp := far_set (r := r) (o := i * 11 + 2) (vs := [.int .i64 0, .int .i64 0]) HBPR.out.1 (show bp ≠ r by have := HBPR.out.2; omega)
                  change PT w (V6.setCells r (i * 11 + 2) [.int .i64 0, .int .i64 0]) g N r b9 _ _ pv prs ch cx cy x y at hps
                  generalize V6.setCells r (i * 11 + 2) [.int .i64 0, .int .i64 0] = V7 at *
                  have HV7 := Lib.hid hps
                  have HBPR := Lib.hid (And.intro hbp HBPR.out.2)
                  obtain ⟨c2, c3, c4, c5⟩ := six_row hbp
                  clear hps hbp
                  go_wp2_with fail
                  go_roundw
                  case rel =>
                    have hfe : (fun j => if j = i then (⟨0, 4, 0, 0, {}⟩ : Rpt) else (fun j => if j = i then (⟨0, 4, sx, sy, {}⟩ : Rpt) else (fun j => if j = i then (⟨0, 1, 0, 0, {}⟩ : Rpt) else repI pl Q i j) j) j) = repI pl Q (i + 1) := repI_yes HQI.out (fun j hj => by simp only [if_neg hj]) (by simp only [if_true]; rw [HPI.out]; rfl)
                    have hp := HV7.out
                    rw [hfe] at hp
                    rw [← proP_yes HQI.out] at hp
                    exact ⟨i + 1, by omega, by go_num, Lib.hid hp⟩
                  case measure => simp [intOf]; omega
            · obtain rfl : i = N := by omega
              obtain ⟨N, hN'⟩ : ∃ N, N = i := ⟨_, rfl⟩
              subst hN'
              have hrep : (List.range N).map (repI pl Q N) = repsQ N (proP pl Q x y N) Q := by rw [reps_pro, repI_all]
              have hQ2 : ∀ i, i < N → Q i = true → (proP pl Q x y N i).px = x ∧ (proP pl Q x y N i).py = y := fun i hi hq => by
                unfold proP
                rw [if_pos ⟨hi, hq⟩]
                exact ⟨rfl, rfl⟩
              have hls := HL.out.2.1.list (by omega) (by omega)
              rw [hrep] at hls
              have hrng := HL.out.2.2.1.rng
              have hde := (dec_ok (ok_reps (Q := Q) hN hrng)).2
              have hsure := sure_of (Q := Q) hN hrng
              have hval := value_of (Q := Q) hN hrng
              have hnoop := noop_of (Q := Q) hN hrng
              have HDC := Lib.hid (decide_of (N : Int) (some ⟨r, 0, none⟩) N N _ wr hls)
              rw [hde] at HDC
              have h3 := decR_threeK (N : Int) (repsQ N (proP pl Q x y N) Q)
              generalize decR (N : Int) (repsQ N (proP pl Q x y N) Q) = D at HDC hsure hval hnoop h3
              generalize proP pl Q x y N = P at *
              obtain ⟨q, E⟩ := D
              dsimp only at HDC hsure hval hnoop h3
              have HPR := Lib.hid (And.intro hsure (And.intro hval (And.intro hnoop hQ2)))
              obtain ⟨Ap, cp, hpv, _⟩ := Ls.of_own (cells := PrQ.cells) (fun _ => rfl) (by omega) HL.out.2.2.2.1
              have HPV := Lib.hid hpv
              clear hrep hls hrng hde hsure hval hnoop hQ2 hpv
              go_wp2_with fail
              refine HDC.out.mono ?_
              rintro _ w4 ⟨rfl, hx⟩
              have hks4 := HL.out.1.ext hx
              have HM4 := Lib.hid (And.intro hks4 (And.intro (ownsRow_extL HL.out.2.2.2.1 hx) (And.intro (keep_rowB hx HL.out.2.2.2.2.1) (HL.out.2.2.2.2.2.trans (Below.toB hx HL.out.1.lt)))))
              clear hx HDC hn hks4
              go_upto_region 24 with (fail)
              have hg5 := heap_alloc_new w4 (.cells #[.int .u8 (E.k : Int), .int .i64 E.cl, .int .i64 E.sq, .int .u8 (E.ok : Int), .string E.key, .string E.old, .string E.val] 27)
              have hx := (Ext.refl w4).alloc (.cells #[.int .u8 (E.k : Int), .int .i64 E.cl, .int .i64 E.sq, .int .u8 (E.ok : Int), .string E.key, .string E.old, .string E.val] 27)
              generalize (w4.alloc (.cells #[.int .u8 (E.k : Int), .int .i64 E.cl, .int .i64 E.sq, .int .u8 (E.ok : Int), .string E.key, .string E.old, .string E.val] 27)) = V5 at *
              have HM5 := Lib.hid (And.intro (HM4.out.1.ext hx) (And.intro (ownsRow_extL HM4.out.2.1 hx) (And.intro (keep_rowB hx HM4.out.2.2.1) (HM4.out.2.2.2.trans (Below.toB hx HM4.out.1.lt)))))
              generalize w4.heap.size = b15 at *
              have HE5 := Lib.hid hg5
              clear hx hg5 HM4
              rcases h3 with rfl | hq12
              · go_wp2_with fail
                go_ret
                exact ⟨false, rfl, P, pv, prs, HM5.out.1, HM5.out.2.1, HK.out.2.2.1, HL.out.2.2.1, HM5.out.2.2.2, by omega, fun h => by cases h⟩
              · have hq0 : ((q : Int) == 0) = false := by rw [st_is0]; exact decide_eq_false (by omega)
                have hpc := HM5.out.1.pr
                rw [HPV.out] at hpc
                obtain ⟨e0, e1, _, _⟩ := bal_row HM5.out.2.2.1
                have hpcA : ∀ o : Obj, (V5.alloc o).cell? ⟨g, 43, none⟩ = some (.slice Ap prs.length cp) := fun o => ext_of_cellB ((Ext.refl V5).alloc o) hpc
                have e0A : ∀ o : Obj, (V5.alloc o).cell? ⟨b9, 0, none⟩ = some (.int .i64 x) := fun o => ext_of_cellB ((Ext.refl V5).alloc o) e0
                have e1A : ∀ o : Obj, (V5.alloc o).cell? ⟨b9, 1, none⟩ = some (.int .i64 y) := fun o => ext_of_cellB ((Ext.refl V5).alloc o) e1
                have HQ12 := Lib.hid hq12
                clear hq12
                go_wp2_with fail
                go_region
                have hx6 : Ext V5 (V5.alloc (.cells #[.int .i64 x, .int .i64 y, .int .i64 ((prs.length : Int) + 1), .int .u8 0] 73)).drew := ((Ext.refl V5).alloc _).drew
                have hr6 : (V5.alloc (.cells #[.int .i64 x, .int .i64 y, .int .i64 ((prs.length : Int) + 1), .int .u8 0] 73)).drew.heap[V5.heap.size]? = some (.cells #[.int .i64 x, .int .i64 y, .int .i64 ((prs.length : Int) + 1), .int .u8 0] 73 (0, 0)) := heap_alloc_new V5 _
                have hb15 : b15 < V5.heap.size := (Array.getElem?_eq_some_iff.1 HE5.out).1
                generalize (V5.alloc (.cells #[.int .i64 x, .int .i64 y, .int .i64 ((prs.length : Int) + 1), .int .u8 0] 73)).drew = V6 at *
                have hgV5 := HM5.out.1.lt
                generalize hb17 : V5.heap.size = b17 at *
                have HM6 := Lib.hid (And.intro (HM5.out.1.ext hx6) (And.intro (ownsRow_extL HM5.out.2.1 hx6) (And.intro (HM5.out.2.2.2.trans (Below.toB hx6 HM5.out.1.lt)) (And.intro hr6 (And.intro (keep_rowB hx6 HE5.out) (And.intro hb15 hgV5))))))
                have HPB17 : Hid (∀ b, pv.ownBlock = some b → b < b17) := Lib.hid fun b hb => by rw [← hb17]; exact (World.ownsRow.lt HM5.out.2.1 b hb).2
                have hbnd : ∀ (k : Nat) p, (prs.map PrQ.prp)[k]? = some p → bLt p.x p.y x y := fun k p hk => by
                  obtain ⟨j, hj, hb⟩ := HK.out.2.2.2.top k p hk
                  exact bLe_lt (bLe_trans hb (ltB_bLe (HG.out.2.1 j hj))) (ltB_bLt.1 (HNF.out trivial))
                have HBND := Lib.hid hbnd
                clear hpc hpcA e0A e1A e0 e1 hx6 hr6 hb17 hbnd hgV5 hb15
                by_cases hq2 : q = 2
                · subst hq2
                  have hs15 := cell_of_row V6 b15 2 _ _ _ HM6.out.2.2.2.2.1
                  have k2 := cell_of_row V6 b17 2 _ _ _ HM6.out.2.2.2.1
                  have g2 := frozen_of_row V6 b17 2 _ _ HM6.out.2.2.2.1
                  dsimp at hs15 k2
                  have hm7 : Mod (fun k => k = b17) V6 (V6.setCell ⟨b17, 2, none⟩ (.int .i64 E.sq)) := Mod.setCell (F := fun k => k = b17) (Mod.refl (fun k => k = b17) V6) (p := ⟨b17, 2, none⟩) (.inl rfl) _
                  have hr7 := row_setB 2 HM6.out.2.2.2.1 (.int .i64 E.sq) rfl
                  have hgb17 : g < b17 := HM6.out.2.2.2.2.2.2
                  have hM7 : KS (V6.setCell ⟨b17, 2, none⟩ (.int .i64 E.sq)) g N P pv ch cx cy ∧ PRow (V6.setCell ⟨b17, 2, none⟩ (.int .i64 E.sq)) g pv prs ∧ Below g w (V6.setCell ⟨b17, 2, none⟩ (.int .i64 E.sq)) ∧ (V6.setCell ⟨b17, 2, none⟩ (.int .i64 E.sq)).heap[b17]? = some (.cells #[.int .i64 x, .int .i64 y, .int .i64 E.sq, .int .u8 0] 73 (0, 0)) :=
                    ⟨HM6.out.1.off (by omega), own_mod HM6.out.2.1 hm7 fun b hb hf => by have := HPB17.out b hb; omega, HM6.out.2.2.1.trans (below_mod hm7 (Nat.le_of_lt HM6.out.1.lt) fun k hk => by omega), hr7⟩
                  have HM7 := Lib.hid hM7
                  clear hm7 hr7 hM7
                  go_upto_region 29 with (fail)
                  generalize V6.setCell ⟨b17, 2, none⟩ (.int .i64 E.sq) = V7 at *
                  clear hs15 k2 g2
                  have hprop := HL.out.2.2.1.propose (Q := Q) (x := x) (y := y) (v := E.sq) HPR.out.2.2.2 ⟨who, hwho, HQW.out⟩ HBND.out (HPR.out.1 (by decide)) (.inl (by obtain ⟨a1, a2, a3, a4, a5, a6⟩ := HPR.out.2.1 rfl; exact ⟨a1, a2, a3, a4, a5, a6⟩))
                  have HPI7 := Lib.hid (hprop)
                  have hpc := HM7.out.1.pr
                  rw [HPV.out] at hpc
                  have f43 := HM7.out.1.free 43
                  have c0 := cell_of_row V7 b17 0 _ _ _ HM7.out.2.2.2
                  have c1 := cell_of_row V7 b17 1 _ _ _ HM7.out.2.2.2
                  have c2 := cell_of_row V7 b17 2 _ _ _ HM7.out.2.2.2
                  have c3 := cell_of_row V7 b17 3 _ _ _ HM7.out.2.2.2
                  dsimp at c0 c1 c2 c3
                  have hE8 : Ext V7 (V7.alloc (.cells #[.int .i64 x, .int .i64 y, .int .i64 E.sq, .int .u8 0] 73)).drew := ((Ext.refl V7).alloc _).drew
                  have hpen : PRow (V7.alloc (.cells #[.int .i64 x, .int .i64 y, .int .i64 E.sq, .int .u8 0] 73)).drew g pv prs := ownsRow_extL HM7.out.2.1 hE8
                  rw [HPV.out] at hpen
                  have hnw : (V7.alloc (.cells #[.int .i64 x, .int .i64 y, .int .i64 E.sq, .int .u8 0] 73)).drew.heap[V7.heap.size]? = some (.cells #[.int .i64 x, .int .i64 y, .int .i64 E.sq, .int .u8 0] 73 (0, 0)) := heap_alloc_new V7 _
                  have hks8 := HM7.out.1.ext hE8
                  have hpcA : ∀ o : Obj, (V7.alloc o).cell? ⟨g, 43, none⟩ = some (.slice Ap prs.length cp) := fun o => ext_of_cellB ((Ext.refl V7).alloc o) hpc
                  have hown0 : ∀ b, Value.ownBlock (.slice Ap prs.length cp) = some b → b ≠ g := fun b hb => by
                    rw [← HPV.out] at hb
                    have := (World.ownsRow.lt HM7.out.2.1 b hb).1
                    omega
                  have hgs : g + 1 ≤ (V7.alloc (.cells #[.int .i64 x, .int .i64 y, .int .i64 E.sq, .int .u8 0] 73)).drew.heap.size := hks8.lt
                  have HGS := Lib.hid hgs
                  have HOB := Lib.hid hown0
                  have HPEN := Lib.hid hpen
                  have HNW := Lib.hid hnw
                  have HK8 := Lib.hid hks8
                  have HE8 := Lib.hid hE8
                  clear hE8 hpen hnw hks8 hown0 hgs hprop
                  go_wp2_with fail
                  go_region_law (first
                    | (refine step_append_lies _ rfl _ _ 44 rfl (g + 1) 73 i0 (.agg #[.int .i64 0, .int .i64 0, .int .i64 0, .int .u8 0]) 4 32 Try.underlying44 hi0 hz0 hz1 hz2 rfl (by decide) (.slice Ap prs.length cp) prs.length (prs.flatMap PrQ.cells) rfl HPEN.out ⟨V7.heap.size, 0, none⟩ 1 1 (PrQ.cells ⟨x, y, E.sq, 0⟩) rfl rfl (fun j u hu => World.news_of_block HNW.out j u hu) (PrQ.one _) (by omega) (by unfold maxLen; omega) (by omega) HGS.out (V7.heap.size + 1) (by simp) ?_; intro bk cap w4 hown hgrow hat hlt; have hne43 : some g ≠ Value.ownBlock (.slice Ap prs.length cp) := (fun e => HOB.out g e.symm rfl); have hc4 := (World.grownBy.cell_far hgrow ⟨g, 43, none⟩ HK8.out.lt hne43).trans (HPV.out ▸ HK8.out.pr); have hf4 := (World.grownBy.frozen_far hgrow ⟨g, 43, none⟩ HK8.out.lt hne43).trans (HK8.out.free 43); have HOWN := Lib.hid hown; have HGR := Lib.hid hgrow; have HNE := Lib.hid hne43; clear hown hgrow hat hlt hne43))
                  all_goals
                    go_wp2_with fail
                    go_ret
                    have hks9 := (HK8.out.same (w' := w4) (HGR.out.block g HK8.out.lt HNE.out)).setPr (.slice (some ⟨bk, 0, none⟩) (prs.length + 1) cap)
                    have hbk : bk ≠ g := by
                      have := (World.ownsRow.lt HOWN.out bk rfl).1
                      omega
                    have hpr9 : PRow (w4.setCell ⟨g, 43, none⟩ (.slice (some ⟨bk, 0, none⟩) (prs.length + 1) cap)) g (.slice (some ⟨bk, 0, none⟩) (prs.length + 1) cap) (prs ++ [⟨x, y, E.sq, 0⟩]) := by
                      have h1 : PRow w4 g (.slice (some ⟨bk, 0, none⟩) (prs.length + 1) cap) (prs ++ [⟨x, y, E.sq, 0⟩]) := by
                        show w4.ownsRow (g + 1) 73 4 _ (prs ++ [(⟨x, y, E.sq, 0⟩ : PrQ)]).length ((prs ++ [(⟨x, y, E.sq, 0⟩ : PrQ)]).flatMap PrQ.cells)
                        rw [List.length_append, List.flatMap_append, List.flatMap_cons, List.flatMap_nil, List.append_nil]
                        exact HOWN.out
                      exact PRow.mod h1 (Mod.setCell (F := fun k => k = g) (Mod.refl (fun k => k = g) w4) (p := ⟨g, 43, none⟩) (.inl rfl) _)
                    have hbl9 : Below g w (w4.setCell ⟨g, 43, none⟩ (.slice (some ⟨bk, 0, none⟩) (prs.length + 1) cap)) := by
                      have h1 := HM7.out.2.2.1.trans (Below.toB HE8.out HM7.out.1.lt)
                      have h2 : Below g (V7.alloc (.cells #[.int .i64 x, .int .i64 y, .int .i64 E.sq, .int .u8 0] 73)).drew w4 := ⟨HGR.out.os, HGR.out.tape, HGR.out.output, HGR.out.size, fun k hk => HGR.out.block k (by have := HK8.out.lt; omega) fun e => by
                        have h3 := (World.ownsRow.lt HPEN.out k e.symm).1
                        omega⟩
                      exact (h1.trans h2).trans (below_mod (F := fun k => k = g) (Mod.setCell (F := fun k => k = g) (Mod.refl (fun k => k = g) w4) (p := ⟨g, 43, none⟩) (.inl rfl) _) (by have h4 := HK8.out.lt; have h5 := HGR.out.size; omega) fun k hk => by omega)
                    have hby9 : ∀ p ∈ prs ++ [(⟨x, y, E.sq, 0⟩ : PrQ)], p.by_ < 256 := fun p hp => by
                      rcases List.mem_append.1 hp with hp | hp
                      · exact HK.out.2.2.1 p hp
                      · obtain rfl := List.mem_singleton.1 hp
                        show 0 < 256
                        omega
                    exact ⟨true, rfl, P, _, _, hks9, hpr9, hby9, by rw [prp_new]; exact HPI7.out, hbl9, by rw [List.length_append]; simp, fun _ => by rw [List.length_append]; simp⟩
                · have hq1 : q = 1 := by have := HQ12.out; omega
                  subst hq1
                  clear hq2
                  have HM7 := Lib.hid (And.intro HM6.out.1 (And.intro HM6.out.2.1 (And.intro HM6.out.2.2.1 HM6.out.2.2.2.1)))
                  go_upto_region 29 with (fail)
                  have hprop := HL.out.2.2.1.propose (Q := Q) (x := x) (y := y) (v := (prs.length : Int) + 1) HPR.out.2.2.2 ⟨who, hwho, HQW.out⟩ HBND.out (HPR.out.1 (by decide)) (.inr ⟨HPR.out.2.2.1 rfl, by omega⟩)
                  have HPI7 := Lib.hid (hprop)
                  have hpc := HM7.out.1.pr
                  rw [HPV.out] at hpc
                  have f43 := HM7.out.1.free 43
                  have c0 := cell_of_row V6 b17 0 _ _ _ HM7.out.2.2.2
                  have c1 := cell_of_row V6 b17 1 _ _ _ HM7.out.2.2.2
                  have c2 := cell_of_row V6 b17 2 _ _ _ HM7.out.2.2.2
                  have c3 := cell_of_row V6 b17 3 _ _ _ HM7.out.2.2.2
                  dsimp at c0 c1 c2 c3
                  have hE8 : Ext V6 (V6.alloc (.cells #[.int .i64 x, .int .i64 y, .int .i64 ((prs.length : Int) + 1), .int .u8 0] 73)).drew := ((Ext.refl V6).alloc _).drew
                  have hpen : PRow (V6.alloc (.cells #[.int .i64 x, .int .i64 y, .int .i64 ((prs.length : Int) + 1), .int .u8 0] 73)).drew g pv prs := ownsRow_extL HM7.out.2.1 hE8
                  rw [HPV.out] at hpen
                  have hnw : (V6.alloc (.cells #[.int .i64 x, .int .i64 y, .int .i64 ((prs.length : Int) + 1), .int .u8 0] 73)).drew.heap[V6.heap.size]? = some (.cells #[.int .i64 x, .int .i64 y, .int .i64 ((prs.length : Int) + 1), .int .u8 0] 73 (0, 0)) := heap_alloc_new V6 _
                  have hks8 := HM7.out.1.ext hE8
                  have hpcA : ∀ o : Obj, (V6.alloc o).cell? ⟨g, 43, none⟩ = some (.slice Ap prs.length cp) := fun o => ext_of_cellB ((Ext.refl V6).alloc o) hpc
                  have hown0 : ∀ b, Value.ownBlock (.slice Ap prs.length cp) = some b → b ≠ g := fun b hb => by
                    rw [← HPV.out] at hb
                    have := (World.ownsRow.lt HM7.out.2.1 b hb).1
                    omega
                  have hgs : g + 1 ≤ (V6.alloc (.cells #[.int .i64 x, .int .i64 y, .int .i64 ((prs.length : Int) + 1), .int .u8 0] 73)).drew.heap.size := hks8.lt
                  have HGS := Lib.hid hgs
                  have HOB := Lib.hid hown0
                  have HPEN := Lib.hid hpen
                  have HNW := Lib.hid hnw
                  have HK8 := Lib.hid hks8
                  have HE8 := Lib.hid hE8
                  clear hE8 hpen hnw hks8 hown0 hgs hprop
                  go_wp2_with fail
                  go_region_law (first
                    | (refine step_append_lies _ rfl _ _ 44 rfl (g + 1) 73 i0 (.agg #[.int .i64 0, .int .i64 0, .int .i64 0, .int .u8 0]) 4 32 Try.underlying44 hi0 hz0 hz1 hz2 rfl (by decide) (.slice Ap prs.length cp) prs.length (prs.flatMap PrQ.cells) rfl HPEN.out ⟨V6.heap.size, 0, none⟩ 1 1 (PrQ.cells ⟨x, y, ((prs.length : Int) + 1), 0⟩) rfl rfl (fun j u hu => World.news_of_block HNW.out j u hu) (PrQ.one _) (by omega) (by unfold maxLen; omega) (by omega) HGS.out (V6.heap.size + 1) (by simp) ?_; intro bk cap w4 hown hgrow hat hlt; have hne43 : some g ≠ Value.ownBlock (.slice Ap prs.length cp) := (fun e => HOB.out g e.symm rfl); have hc4 := (World.grownBy.cell_far hgrow ⟨g, 43, none⟩ HK8.out.lt hne43).trans (HPV.out ▸ HK8.out.pr); have hf4 := (World.grownBy.frozen_far hgrow ⟨g, 43, none⟩ HK8.out.lt hne43).trans (HK8.out.free 43); have HOWN := Lib.hid hown; have HGR := Lib.hid hgrow; have HNE := Lib.hid hne43; clear hown hgrow hat hlt hne43))
                  all_goals
                    go_wp2_with fail
                    go_ret
                    have hks9 := (HK8.out.same (w' := w4) (HGR.out.block g HK8.out.lt HNE.out)).setPr (.slice (some ⟨bk, 0, none⟩) (prs.length + 1) cap)
                    have hbk : bk ≠ g := by
                      have := (World.ownsRow.lt HOWN.out bk rfl).1
                      omega
                    have hpr9 : PRow (w4.setCell ⟨g, 43, none⟩ (.slice (some ⟨bk, 0, none⟩) (prs.length + 1) cap)) g (.slice (some ⟨bk, 0, none⟩) (prs.length + 1) cap) (prs ++ [⟨x, y, ((prs.length : Int) + 1), 0⟩]) := by
                      have h1 : PRow w4 g (.slice (some ⟨bk, 0, none⟩) (prs.length + 1) cap) (prs ++ [⟨x, y, ((prs.length : Int) + 1), 0⟩]) := by
                        show w4.ownsRow (g + 1) 73 4 _ (prs ++ [(⟨x, y, ((prs.length : Int) + 1), 0⟩ : PrQ)]).length ((prs ++ [(⟨x, y, ((prs.length : Int) + 1), 0⟩ : PrQ)]).flatMap PrQ.cells)
                        rw [List.length_append, List.flatMap_append, List.flatMap_cons, List.flatMap_nil, List.append_nil]
                        exact HOWN.out
                      exact PRow.mod h1 (Mod.setCell (F := fun k => k = g) (Mod.refl (fun k => k = g) w4) (p := ⟨g, 43, none⟩) (.inl rfl) _)
                    have hbl9 : Below g w (w4.setCell ⟨g, 43, none⟩ (.slice (some ⟨bk, 0, none⟩) (prs.length + 1) cap)) := by
                      have h1 := HM7.out.2.2.1.trans (Below.toB HE8.out HM7.out.1.lt)
                      have h2 : Below g (V6.alloc (.cells #[.int .i64 x, .int .i64 y, .int .i64 ((prs.length : Int) + 1), .int .u8 0] 73)).drew w4 := ⟨HGR.out.os, HGR.out.tape, HGR.out.output, HGR.out.size, fun k hk => HGR.out.block k (by have := HK8.out.lt; omega) fun e => by
                        have h3 := (World.ownsRow.lt HPEN.out k e.symm).1
                        omega⟩
                      exact (h1.trans h2).trans (below_mod (F := fun k => k = g) (Mod.setCell (F := fun k => k = g) (Mod.refl (fun k => k = g) w4) (p := ⟨g, 43, none⟩) (.inl rfl) _) (by have h4 := HK8.out.lt; have h5 := HGR.out.size; omega) fun k hk => by omega)
                    have hby9 : ∀ p ∈ prs ++ [(⟨x, y, ((prs.length : Int) + 1), 0⟩ : PrQ)], p.by_ < 256 := fun p hp => by
                      rcases List.mem_append.1 hp with hp | hp
                      · exact HK.out.2.2.1 p hp
                      · obtain rfl := List.mem_singleton.1 hp
                        show 0 < 256
                        omega
                    exact ⟨true, rfl, P, _, _, hks9, hpr9, hby9, by rw [prp_new]; exact HPI7.out, hbl9, by rw [List.length_append]; simp, fun _ => by rw [List.length_append]; simp⟩
        · have hez : (er != 0) = true := by simpa using her
          clear her
          go_wp2_with fail
          go_ret
          exact ⟨false, rfl, pl, pv, prs, HK6.out.1, HK6.out.2.1, HK.out.2.2.1, HK.out.2.2.2, HK6.out.2.2, by omega, fun h => by cases h⟩
end
end Go.Proofs.Ytinflpheogglhaa
