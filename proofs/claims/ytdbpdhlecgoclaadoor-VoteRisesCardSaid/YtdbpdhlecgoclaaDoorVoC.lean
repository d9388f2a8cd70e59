/-
  The contracts of vote's Promise, Where, Accept.
-/
import Derived.Test.YtdbpdhlecgoclaaDoorVoSpec
import Derived.Test.YtdbpdhlecgoclaaDoorBlEq
import Derived.Deep.DeepCutAuto
namespace Go.Proofs.YtdbpdhlecgoclaaDoor
open Go Go.RowKit

/-- The table of what is done. -/
def LaidV (w : World) : Prop := w.cell? ⟨0, 0, none⟩ = some (.int .u8 1) ∧ w.cell? ⟨0, 1, none⟩ = some (.int .u8 3) ∧ w.cell? ⟨0, 2, none⟩ = some (.int .u8 2)
theorem LaidV.ext {w w' : World} (h : LaidV w) (k : Ext w w') : LaidV w' := ⟨ext_of_cellB k h.1, ext_of_cellB k h.2.1, ext_of_cellB k h.2.2⟩
abbrev bo (x y : Int) : Obj := .cells #[.int .i64 x, .int .i64 y] 23
/-- Three ballots in new blocks. -/
theorem three_new (w : World) (a b c d e f : Int) : (((w.alloc (bo a b)).alloc (bo c d)).alloc (bo e f)).heap[w.heap.size]? = some (.cells #[.int .i64 a, .int .i64 b] 23 (0, 0)) ∧ (((w.alloc (bo a b)).alloc (bo c d)).alloc (bo e f)).heap[w.heap.size + 1]? = some (.cells #[.int .i64 c, .int .i64 d] 23 (0, 0)) ∧ (((w.alloc (bo a b)).alloc (bo c d)).alloc (bo e f)).heap[w.heap.size + 1 + 1]? = some (.cells #[.int .i64 e, .int .i64 f] 23 (0, 0)) ∧ Ext w (((w.alloc (bo a b)).alloc (bo c d)).alloc (bo e f)) := by
  have h1 := heap_alloc_new w (bo a b)
  have h2 := heap_alloc_new (w.alloc (bo a b)) (bo c d)
  have h3 := heap_alloc_new ((w.alloc (bo a b)).alloc (bo c d)) (bo e f)
  have e1 : (w.alloc (bo a b)).heap.size = w.heap.size + 1 := by simp
  have e2 : ((w.alloc (bo a b)).alloc (bo c d)).heap.size = w.heap.size + 1 + 1 := by simp
  rw [e1] at h2
  rw [e2] at h3
  exact ⟨keep_rowB ((Ext.refl _).alloc _) (keep_rowB ((Ext.refl _).alloc _) h1), keep_rowB ((Ext.refl _).alloc _) h2, h3, (((Ext.refl w).alloc _).alloc _).alloc _⟩
theorem two_newV (w : World) (a b c d : Int) : ((w.alloc (bo a b)).alloc (bo c d)).heap[w.heap.size]? = some (.cells #[.int .i64 a, .int .i64 b] 23 (0, 0)) ∧ ((w.alloc (bo a b)).alloc (bo c d)).heap[w.heap.size + 1]? = some (.cells #[.int .i64 c, .int .i64 d] 23 (0, 0)) ∧ Ext w ((w.alloc (bo a b)).alloc (bo c d)) := by
  have h1 := heap_alloc_new w (bo a b)
  have h2 := heap_alloc_new (w.alloc (bo a b)) (bo c d)
  have e1 : (w.alloc (bo a b)).heap.size = w.heap.size + 1 := by simp
  rw [e1] at h2
  exact ⟨keep_rowB ((Ext.refl _).alloc _) h1, h2, ((Ext.refl w).alloc _).alloc _⟩
theorem ext_two {a w : World} (h : Ext a w) {g : Nat} (hg : a.heap.size ≤ g) (x y : Value) : Ext a ((w.setCell ⟨g, 0, none⟩ x).setCell ⟨g, 1, none⟩ y) :=
  (h.setCell (p := ⟨g, 0, none⟩) hg _).setCell (p := ⟨g, 1, none⟩) hg _
set_option maxRecDepth 100000 in
set_option maxHeartbeats 600000 in
theorem promV_of (px py x y : Int) (w : World) : Calls Tryd.prog 7 #[.agg #[.int .i64 px, .int .i64 py], .agg #[.int .i64 x, .int .i64 y]] w fun e w' => e = .returned (.tuple #[.agg #[.int .i64 (thenV ⟨px, py⟩ ⟨x, y⟩).x, .int .i64 (thenV ⟨px, py⟩ ⟨x, y⟩).y], .bool (yesV ⟨px, py⟩ ⟨x, y⟩)]) ∧ Ext w w' := by
  have hq := bal_eql x y 0 0
  have hg := ballot_guard
  rcases promV_ways ⟨px, py⟩ ⟨x, y⟩ with ⟨h1, h2, h3⟩ | ⟨h1, hl, h2, h3⟩ | ⟨h1, hl, h2, h3⟩
  · injection h1 with e1 e2
    subst e1 e2
    rw [h2, h3]
    rw [decide_eq_true (p := (0 : Int) = 0 ∧ (0 : Int) = 0) ⟨rfl, rfl⟩] at hq
    have H := Lib.hid (three_new w px py 0 0 px py)
    clear h2 h3
    go_enter Tryd.func7, Tryd.ntmps7
    go_wp2_with fail
    obtain ⟨f0, f1, _, _⟩ := bal_row H.out.2.2.1
    refine bodyPost_ret (v := .tuple #[.agg #[.int .i64 px, .int .i64 py], .bool false]) (by simp [results, Tryd.results7, go_sem, f0, f1]) rfl ?_
    exact ⟨rfl, H.out.2.2.2⟩
  all_goals
    dsimp only at h1
    rw [decide_eq_false h1] at hq
    rw [h2, h3]
    have HL := Lib.hid (fun V => less_of x y px py V)
    rw [hl] at HL
    have H := Lib.hid (three_new w px py x y 0 0)
    clear h1 h2 h3 hl
    go_enter Tryd.func7, Tryd.ntmps7
    go_wp2_with fail
    refine (HL.out _).mono ?_
    rintro e w1 ⟨rfl, hx⟩
    have HX := Lib.hid (H.out.2.2.2.trans hx)
    obtain ⟨a0, a1, _, _⟩ := bal_row (keep_rowB hx H.out.1)
    obtain ⟨b0, b1, _, _⟩ := bal_row (keep_rowB hx H.out.2.1)
    have HC := Lib.hid (keep_rowB hx H.out.2.2.1)
    obtain ⟨c0, c1, c2, c3⟩ := bal_row HC.out
    clear hx H
    go_wp2_with fail
  · obtain ⟨f0, f1, _, _⟩ := bal_row (bal_store px py HC.out)
    refine bodyPost_ret (v := .tuple #[.agg #[.int .i64 px, .int .i64 py], .bool false]) (by simp [results, Tryd.results7, go_sem, f0, f1]) rfl ?_
    exact ⟨rfl, ext_two HX.out (by omega) _ _⟩
  · obtain ⟨f0, f1, _, _⟩ := bal_row (bal_store x y HC.out)
    refine bodyPost_ret (v := .tuple #[.agg #[.int .i64 x, .int .i64 y], .bool true]) (by simp [results, Tryd.results7, go_sem, f0, f1]) rfl ?_
    exact ⟨rfl, ext_two HX.out (by omega) _ _⟩
set_option maxRecDepth 100000 in
set_option maxHeartbeats 600000 in
theorem whereV_of (s i : Int) (w : World) : Calls Tryd.prog 9 #[.int .i64 s, .int .i64 i] w fun e w' => e = .returned (.tuple #[.int .u8 (whV s i), .int .i64 (errV s i)]) ∧ w = w' := by
  rcases errV_two s i with ⟨hin, he⟩ | ⟨hin, he, hw⟩
  · obtain ⟨h1, h2, h3, h4⟩ := hin
    have n1 : ¬ s < 0 := by omega
    have n2 : ¬ 1099511627776 < s := by omega
    have n3 : ¬ i < 1 := by omega
    have n4 : ¬ 1099511627776 < i := by omega
    have hwr : IntKind.i64.wrap (s + 24) = s + 24 := by rw [IntKind.wrap_i64]; omega
    rcases whV_three s i ⟨h1, h2, h3, h4⟩ with ⟨k1, hw⟩ | ⟨k1, k2, hw⟩ | ⟨k1, k2, hw⟩
    all_goals
      rw [he, hw]
      clear he hw h1 h2 h3 h4
      go_enter Tryd.func9, Tryd.ntmps9
      go_wp2_with fail
      refine bodyPost_ret (by simp [results, Tryd.results9, go_sem]) rfl ⟨rfl, rfl⟩
  · rw [he, hw]
    clear he hw
    have hc : s < 0 ∨ ¬ s < 0 ∧ (1099511627776 < s ∨ ¬ 1099511627776 < s ∧ (i < 1 ∨ ¬ i < 1 ∧ 1099511627776 < i)) := by unfold inV at hin; omega
    clear hin
    rcases hc with c1 | ⟨c1, c2 | ⟨c2, c3 | ⟨c3, c4⟩⟩⟩
    all_goals
      go_enter Tryd.func9, Tryd.ntmps9
      go_wp2_with fail
      refine bodyPost_ret (by simp [results, Tryd.results9, go_sem]) rfl ⟨rfl, rfl⟩
set_option maxRecDepth 100000 in
set_option maxHeartbeats 1600000 in
theorem acceptV_of (px py s x y i : Int) (w : World) (hL : LaidV w) : Calls Tryd.prog 11 #[.agg #[.int .i64 px, .int .i64 py], .int .i64 s, .agg #[.int .i64 x, .int .i64 y], .int .i64 i] w fun e w' => e = .returned (.tuple #[.int .u8 (doV ⟨px, py⟩ s ⟨x, y⟩ i), .agg #[.int .i64 (nowV ⟨px, py⟩ s ⟨x, y⟩ i).x, .int .i64 (nowV ⟨px, py⟩ s ⟨x, y⟩ i).y], .int .i64 (errV s i)]) ∧ Ext w w' := by
  have H := Lib.hid (three_new w px py x y 0 0)
  have HW := Lib.hid (fun V => whereV_of s i V)
  rcases errV_two s i with ⟨hin, he⟩ | ⟨hin, he, hw⟩
  · have hd : doV ⟨px, py⟩ s ⟨x, y⟩ i = (if yesV ⟨px, py⟩ ⟨x, y⟩ then ansV (whV s i) else 0) := by unfold doV; rw [if_pos hin]
    have hn : nowV ⟨px, py⟩ s ⟨x, y⟩ i = thenV ⟨px, py⟩ ⟨x, y⟩ := by unfold nowV; rw [if_pos hin]
    have hans : ∃ k : Nat, whV s i = (k : Int) ∧ k < 3 ∧ ∀ V, LaidV V → V.cell? ⟨0, k, none⟩ = some (.int .u8 (ansV (whV s i))) := by
      rcases whV_three s i hin with ⟨_, h⟩ | ⟨_, _, h⟩ | ⟨_, _, h⟩
      · exact ⟨0, h, by omega, fun V hV => by rw [h]; exact hV.1⟩
      · exact ⟨1, h, by omega, fun V hV => by rw [h]; exact hV.2.1⟩
      · exact ⟨2, h, by omega, fun V hV => by rw [h]; exact hV.2.2⟩
    obtain ⟨k, hk, hk3, hans⟩ := hans
    rw [he] at HW ⊢
    rw [hd, hn]
    rw [hk] at HW
    have HP := Lib.hid (fun V => promV_of px py x y V)
    generalize ansV (whV s i) = z at *
    generalize yesV ⟨px, py⟩ ⟨x, y⟩ = yes at *
    generalize thenV ⟨px, py⟩ ⟨x, y⟩ = T at *
    obtain ⟨tx, ty⟩ := T
    dsimp only at HP ⊢
    have HA := Lib.hid hans
    have HL := Lib.hid hL
    obtain ⟨a0, a1, _, _⟩ := bal_row H.out.1
    obtain ⟨b0, b1, _, _⟩ := bal_row H.out.2.1
    clear he hd hn hk hin hans hL
    cases yes with
    | false =>
      rw [if_neg (by decide)]
      go_enter Tryd.func11, Tryd.ntmps11
      go_wp2_with fail
      refine (HW.out _).mono ?_
      rintro e w1 ⟨rfl, rfl⟩
      go_wp2_with fail
      refine (HP.out _).mono ?_
      rintro e w1 ⟨rfl, hx⟩
      have HX := Lib.hid ((H.out.2.2.2.trans hx).alloc (bo tx ty))
      have HC := Lib.hid (keep_rowB ((Ext.refl w1).alloc (bo tx ty)) (keep_rowB hx H.out.2.2.1))
      have HD := Lib.hid (heap_alloc_new w1 (bo tx ty))
      clear hx a0 a1 b0 b1
      go_upto_region 6 with (fail)
      generalize (w1.alloc (.cells #[.int .i64 tx, .int .i64 ty] 23)) = W at *
      obtain ⟨c0, c1, c2, c3⟩ := bal_row HC.out
      obtain ⟨d0, d1, _, _⟩ := bal_row HD.out
      go_region
      go_wp2_with fail
      obtain ⟨f0, f1, _, _⟩ := bal_row (bal_store tx ty HC.out)
      refine bodyPost_ret (v := .tuple #[.int .u8 0, .agg #[.int .i64 tx, .int .i64 ty], .int .i64 0]) (by simp [results, Tryd.results11, go_sem, f0, f1]) rfl ?_
      exact ⟨rfl, (ext_two HX.out (by omega) _ _).drew⟩
    | true =>
      rw [if_pos rfl]
      go_enter Tryd.func11, Tryd.ntmps11
      go_wp2_with fail
      refine (HW.out _).mono ?_
      rintro e w1 ⟨rfl, rfl⟩
      go_wp2_with fail
      refine (HP.out _).mono ?_
      rintro e w1 ⟨rfl, hx⟩
      have HX := Lib.hid ((H.out.2.2.2.trans hx).alloc (bo tx ty))
      have HC := Lib.hid (keep_rowB ((Ext.refl w1).alloc (bo tx ty)) (keep_rowB hx H.out.2.2.1))
      have HD := Lib.hid (heap_alloc_new w1 (bo tx ty))
      clear hx a0 a1 b0 b1
      go_upto_region 7 with (fail)
      generalize (w1.alloc (.cells #[.int .i64 tx, .int .i64 ty] 23)) = W at *
      obtain ⟨c0, c1, c2, c3⟩ := bal_row HC.out
      obtain ⟨d0, d1, _, _⟩ := bal_row HD.out
      have ct := HA.out _ (HL.out.ext HX.out)
      go_region
      go_wp2_with fail
      obtain ⟨f0, f1, _, _⟩ := bal_row (bal_store tx ty HC.out)
      refine bodyPost_ret (v := .tuple #[.int .u8 z, .agg #[.int .i64 tx, .int .i64 ty], .int .i64 0]) (by simp [results, Tryd.results11, go_sem, f0, f1]) rfl ?_
      exact ⟨rfl, (ext_two HX.out (by omega) _ _).drew⟩
  · have hd : doV ⟨px, py⟩ s ⟨x, y⟩ i = 0 := by unfold doV; rw [if_neg hin]
    have hn : nowV ⟨px, py⟩ s ⟨x, y⟩ i = ⟨0, 0⟩ := by unfold nowV; rw [if_neg hin]
    rw [he, hw] at HW
    rw [he, hd, hn]
    clear he hd hn hw hin hL
    go_enter Tryd.func11, Tryd.ntmps11
    go_wp2_with fail
    refine (HW.out _).mono ?_
    rintro e w1 ⟨rfl, rfl⟩
    go_wp2_with fail
    obtain ⟨f0, f1, _, _⟩ := bal_row H.out.2.2.1
    refine bodyPost_ret (v := .tuple #[.int .u8 0, .agg #[.int .i64 0, .int .i64 0], .int .i64 2]) (by simp [results, Tryd.results11, go_sem, f0, f1]) rfl ?_
    exact ⟨rfl, H.out.2.2.2⟩
end Go.Proofs.YtdbpdhlecgoclaaDoor
