/-
  The contracts of the document's Promise, Where, Accept.
-/
import Derived.Test.YtdbpdhlecgoclaaDoorVoC
import Derived.Test.YtdbpdhlecgoclaaDoorBlRef
namespace Go.Proofs.YtdbpdhlecgoclaaDoor
open Go Go.RowKit

set_option maxRecDepth 100000 in
set_option maxHeartbeats 600000 in
theorem rpromV_of (px py x y : Int) (w : World) : Calls Tryd.prog 8 #[.agg #[.int .i64 px, .int .i64 py], .agg #[.int .i64 x, .int .i64 y]] w fun e w' => e = .returned (.tuple #[.agg #[.int .i64 (thenV ⟨px, py⟩ ⟨x, y⟩).x, .int .i64 (thenV ⟨px, py⟩ ⟨x, y⟩).y], .bool (yesV ⟨px, py⟩ ⟨x, y⟩)]) ∧ Ext w w' := by
  rcases promV_ways ⟨px, py⟩ ⟨x, y⟩ with ⟨h1, h2, h3⟩ | ⟨h1, hl, h2, h3⟩ | ⟨h1, hl, h2, h3⟩
  · injection h1 with e1 e2
    subst e1 e2
    rw [h2, h3]
    have H := Lib.hid (three_new w px py 0 0 px py)
    clear h2 h3
    go_enter Tryd.func8, Tryd.ntmps8
    go_wp2_with fail
    obtain ⟨f0, f1, _, _⟩ := bal_row H.out.2.2.1
    refine bodyPost_ret (v := .tuple #[.agg #[.int .i64 px, .int .i64 py], .bool false]) (by simp [results, Tryd.results8, go_sem, f0, f1]) rfl ?_
    exact ⟨rfl, H.out.2.2.2⟩
  all_goals
    dsimp only at h1
    rw [h2, h3]
    have HL := Lib.hid (fun V => rless_of x y px py V)
    rw [hl] at HL
    have H := Lib.hid (three_new w px py x y 0 0)
    have hk : (x == 0) = false ∨ (x == 0) = true ∧ (y == 0) = false := by
      by_cases hx : x = 0
      · exact .inr ⟨by simpa using hx, by simp; omega⟩
      · exact .inl (by simpa using hx)
    clear h1 h2 h3 hl
  all_goals
    rcases hk with k1 | ⟨k1, k2⟩
  all_goals
    go_enter Tryd.func8, Tryd.ntmps8
    go_wp2_with fail
    refine (HL.out _).mono ?_
    rintro e w1 ⟨rfl, hx⟩
    have HX := Lib.hid (H.out.2.2.2.trans hx)
    obtain ⟨a0, a1, _, _⟩ := bal_row (keep_rowB hx H.out.1)
    obtain ⟨b0, b1, _, _⟩ := bal_row (keep_rowB hx H.out.2.1)
    have HC := Lib.hid (keep_rowB hx H.out.2.2.1)
    obtain ⟨c0, c1, c2, c3⟩ := bal_row HC.out
    clear hx H
    go_wp2_with fail
    first
      | (obtain ⟨f0, f1, _, _⟩ := bal_row (bal_store px py HC.out)
         refine bodyPost_ret (v := .tuple #[.agg #[.int .i64 px, .int .i64 py], .bool false]) (by simp [results, Tryd.results8, go_sem, f0, f1]; done) rfl ?_
         exact ⟨rfl, ext_two HX.out (by omega) _ _⟩)
      | (obtain ⟨f0, f1, _, _⟩ := bal_row (bal_store x y HC.out)
         refine bodyPost_ret (v := .tuple #[.agg #[.int .i64 x, .int .i64 y], .bool true]) (by simp [results, Tryd.results8, go_sem, f0, f1]; done) rfl ?_
         exact ⟨rfl, ext_two HX.out (by omega) _ _⟩)
set_option maxRecDepth 100000 in
set_option maxHeartbeats 600000 in
theorem rwhereV_of (s i : Int) (w : World) : Calls Tryd.prog 10 #[.int .i64 s, .int .i64 i] w fun e w' => e = .returned (.tuple #[.int .i64 (whV s i), .int .i64 (errV s i)]) ∧ w = w' := by
  rcases errV_two s i with ⟨hin, he⟩ | ⟨hin, he, hw⟩
  · obtain ⟨h1, h2, h3, h4⟩ := hin
    have n1 : ¬ s < 0 := by omega
    have n2 : ¬ 1099511627776 < s := by omega
    have n3 : ¬ i < 1 := by omega
    have n4 : ¬ 1099511627776 < i := by omega
    have HH := Lib.hid (And.intro h1 h2)
    have h3w := whV_three s i ⟨h1, h2, h3, h4⟩
    rw [he]
    clear he h1 h2 h3 h4
    by_cases k1 : i ≤ s
    · have hw : whV s i = 0 := by rcases h3w with ⟨_, h⟩ | ⟨h, _⟩ | ⟨h, _⟩ <;> first | exact h | exact absurd k1 h
      rw [hw]
      clear hw h3w
      go_enter Tryd.func10, Tryd.ntmps10
      go_wp2_with fail
      refine bodyPost_ret (by simp [results, Tryd.results10, go_sem]) rfl ⟨rfl, rfl⟩
    · have hw : (i ≤ s + 24 ∧ whV s i = 1) ∨ (¬ i ≤ s + 24 ∧ whV s i = 2) := by
        rcases h3w with ⟨h, _⟩ | ⟨_, h⟩ | ⟨_, h⟩
        · exact absurd h k1
        · exact .inl h
        · exact .inr h
      have HWH := Lib.hid hw
      generalize whV s i = z at *
      clear hw h3w
      go_enter Tryd.func10, Tryd.ntmps10
      go_wp2_with fail
      go_loopw [6] (fun v wr => ∃ j : Nat, 1 ≤ j ∧ j ≤ 25 ∧ v = .int .i64 (j : Int) ∧ s + j ≤ i ∧ wr = w) (fun v _ => 26 - (intOf v).toNat)
      case atStart => exact ⟨1, by omega, by omega, rfl, by omega, rfl⟩
      case round =>
        obtain ⟨j, hj1, hj2, rfl, hge, rfl⟩ := hrel
        have hHH := HH.out
        have hwr : IntKind.i64.wrap (s + (j : Int)) = s + (j : Int) := by rw [IntKind.wrap_i64]; omega
        clear hHH
        by_cases hlt : j < 25
        · by_cases heq : i = s + (j : Int)
          · have hb : (i == s + (j : Int)) = true := by simpa using heq
            obtain rfl : z = 1 := by rcases HWH.out with ⟨_, h⟩ | ⟨h, _⟩ <;> first | exact h | (exfalso; omega)
            clear heq
            go_wp2_with fail
            refine bodyPost_ret ?_ rfl ⟨rfl, rfl⟩
            simp [results, Tryd.results10, go_sem]
          · have hb : (i == s + (j : Int)) = false := by simpa using heq
            go_wp2_with fail
            go_roundw
            case rel => exact ⟨j + 1, by omega, by omega, by go_num, by omega, trivial⟩
            case measure => simp [intOf]; omega
        · obtain rfl : z = 2 := by rcases HWH.out with ⟨h, _⟩ | ⟨_, h⟩ <;> first | exact h | (exfalso; omega)
          go_wp2_with fail
          refine bodyPost_ret (by simp [results, Tryd.results10, go_sem]) rfl ⟨rfl, rfl⟩
  · rw [he, hw]
    clear he hw
    have hc : s < 0 ∨ ¬ s < 0 ∧ (1099511627776 < s ∨ ¬ 1099511627776 < s ∧ (i < 1 ∨ ¬ i < 1 ∧ 1099511627776 < i)) := by unfold inV at hin; omega
    clear hin
    rcases hc with c1 | ⟨c1, c2 | ⟨c2, c3 | ⟨c3, c4⟩⟩⟩
    all_goals
      go_enter Tryd.func10, Tryd.ntmps10
      go_wp2_with fail
      refine bodyPost_ret (by simp [results, Tryd.results10, go_sem]) rfl ⟨rfl, rfl⟩
set_option maxRecDepth 100000 in
set_option maxHeartbeats 1600000 in
theorem racceptV_of (px py s x y i : Int) (w : World) : Calls Tryd.prog 12 #[.agg #[.int .i64 px, .int .i64 py], .int .i64 s, .agg #[.int .i64 x, .int .i64 y], .int .i64 i] w fun e w' => e = .returned (.tuple #[.int .i64 (doV ⟨px, py⟩ s ⟨x, y⟩ i), .agg #[.int .i64 (nowV ⟨px, py⟩ s ⟨x, y⟩ i).x, .int .i64 (nowV ⟨px, py⟩ s ⟨x, y⟩ i).y], .int .i64 (errV s i)]) ∧ Ext w w' := by
  have H := Lib.hid (three_new w px py x y 0 0)
  have HW := Lib.hid (fun V => rwhereV_of s i V)
  rcases errV_two s i with ⟨hin, he⟩ | ⟨hin, he, hw⟩
  · have hd : doV ⟨px, py⟩ s ⟨x, y⟩ i = (if yesV ⟨px, py⟩ ⟨x, y⟩ then ansV (whV s i) else 0) := by unfold doV; rw [if_pos hin]
    have hn : nowV ⟨px, py⟩ s ⟨x, y⟩ i = thenV ⟨px, py⟩ ⟨x, y⟩ := by unfold nowV; rw [if_pos hin]
    have hk : (whV s i = 0 ∧ ansV (whV s i) = 1) ∨ (whV s i = 1 ∧ ansV (whV s i) = 3) ∨ (whV s i = 2 ∧ ansV (whV s i) = 2) := by
      rcases whV_three s i hin with ⟨_, h⟩ | ⟨_, _, h⟩ | ⟨_, _, h⟩
      · exact .inl ⟨h, by rw [h]; rfl⟩
      · exact .inr (.inl ⟨h, by rw [h]; rfl⟩)
      · exact .inr (.inr ⟨h, by rw [h]; rfl⟩)
    rw [he] at HW ⊢
    rw [hd, hn]
    have HP := Lib.hid (fun V => rpromV_of px py x y V)
    generalize ansV (whV s i) = z at *
    generalize whV s i = k at *
    generalize yesV ⟨px, py⟩ ⟨x, y⟩ = yes at *
    generalize thenV ⟨px, py⟩ ⟨x, y⟩ = T at *
    obtain ⟨tx, ty⟩ := T
    dsimp only at HP ⊢
    obtain ⟨a0, a1, _, _⟩ := bal_row H.out.1
    obtain ⟨b0, b1, _, _⟩ := bal_row H.out.2.1
    clear he hd hn hin
    cases yes with
    | false =>
      rw [if_neg (by decide)]
      clear hk
      go_enter Tryd.func12, Tryd.ntmps12
      go_wp2_with fail
      refine (HW.out _).mono ?_
      rintro e w1 ⟨rfl, rfl⟩
      go_wp2_with fail
      refine (HP.out _).mono ?_
      rintro e w1 ⟨rfl, hx⟩
      have HX := Lib.hid ((H.out.2.2.2.trans hx).alloc (bo tx ty))
      have HC := Lib.hid (keep_rowB ((Ext.refl w1).alloc (bo tx ty)) (keep_rowB hx H.out.2.2.1))
      have HD := Lib.hid (heap_alloc_new w1 (bo tx ty))
      clear hx a0 a1 b0 b1
      go_upto_region 6 with (fail)
      generalize (w1.alloc (.cells #[.int .i64 tx, .int .i64 ty] 23)) = W at *
      obtain ⟨c0, c1, c2, c3⟩ := bal_row HC.out
      obtain ⟨d0, d1, _, _⟩ := bal_row HD.out
      go_region
      go_wp2_with fail
      obtain ⟨f0, f1, _, _⟩ := bal_row (bal_store tx ty HC.out)
      refine bodyPost_ret (v := .tuple #[.int .i64 0, .agg #[.int .i64 tx, .int .i64 ty], .int .i64 0]) (by simp [results, Tryd.results12, go_sem, f0, f1]) rfl ?_
      exact ⟨rfl, (ext_two HX.out (by omega) _ _).drew⟩
    | true =>
      rw [if_pos rfl]
      rcases hk with ⟨rfl, rfl⟩ | ⟨rfl, rfl⟩ | ⟨rfl, rfl⟩
      case' inl =>
        go_enter Tryd.func12, Tryd.ntmps12
        go_wp2_with fail
        refine (HW.out _).mono ?_
        rintro e w1 ⟨rfl, rfl⟩
        go_wp2_with fail
        refine (HP.out _).mono ?_
        rintro e w1 ⟨rfl, hx⟩
        have HX := Lib.hid ((H.out.2.2.2.trans hx).alloc (bo tx ty))
        have HC := Lib.hid (keep_rowB ((Ext.refl w1).alloc (bo tx ty)) (keep_rowB hx H.out.2.2.1))
        have HD := Lib.hid (heap_alloc_new w1 (bo tx ty))
        clear hx a0 a1 b0 b1
        go_upto_region 8 with (fail)
      case' inr.inl =>
        go_enter Tryd.func12, Tryd.ntmps12
        go_wp2_with fail
        refine (HW.out _).mono ?_
        rintro e w1 ⟨rfl, rfl⟩
        go_wp2_with fail
        refine (HP.out _).mono ?_
        rintro e w1 ⟨rfl, hx⟩
        have HX := Lib.hid ((H.out.2.2.2.trans hx).alloc (bo tx ty))
        have HC := Lib.hid (keep_rowB ((Ext.refl w1).alloc (bo tx ty)) (keep_rowB hx H.out.2.2.1))
        have HD := Lib.hid (heap_alloc_new w1 (bo tx ty))
        clear hx a0 a1 b0 b1
        go_upto_region 11 with (fail)
      case' inr.inr =>
        go_enter Tryd.func12, Tryd.ntmps12
        go_wp2_with fail
        refine (HW.out _).mono ?_
        rintro e w1 ⟨rfl, rfl⟩
        go_wp2_with fail
        refine (HP.out _).mono ?_
        rintro e w1 ⟨rfl, hx⟩
        have HX := Lib.hid ((H.out.2.2.2.trans hx).alloc (bo tx ty))
        have HC := Lib.hid (keep_rowB ((Ext.refl w1).alloc (bo tx ty)) (keep_rowB hx H.out.2.2.1))
        have HD := Lib.hid (heap_alloc_new w1 (bo tx ty))
        clear hx a0 a1 b0 b1
        go_upto_region 10 with (fail)
      all_goals
        generalize (w1.alloc (.cells #[.int .i64 tx, .int .i64 ty] 23)) = W at *
        obtain ⟨c0, c1, c2, c3⟩ := bal_row HC.out
        obtain ⟨d0, d1, _, _⟩ := bal_row HD.out
        go_region
        go_wp2_with fail
        obtain ⟨f0, f1, _, _⟩ := bal_row (bal_store tx ty HC.out)
        refine bodyPost_ret ?_ rfl ⟨rfl, (ext_two HX.out (by omega) _ _).drew⟩
        simp [results, Tryd.results12, go_sem, f0, f1]
  · have hd : doV ⟨px, py⟩ s ⟨x, y⟩ i = 0 := by unfold doV; rw [if_neg hin]
    have hn : nowV ⟨px, py⟩ s ⟨x, y⟩ i = ⟨0, 0⟩ := by unfold nowV; rw [if_neg hin]
    rw [he, hw] at HW
    rw [he, hd, hn]
    clear he hd hn hw hin
    go_enter Tryd.func12, Tryd.ntmps12
    go_wp2_with fail
    refine (HW.out _).mono ?_
    rintro e w1 ⟨rfl, rfl⟩
    go_wp2_with fail
    obtain ⟨f0, f1, _, _⟩ := bal_row H.out.2.2.1
    refine bodyPost_ret (v := .tuple #[.int .i64 0, .agg #[.int .i64 0, .int .i64 0], .int .i64 2]) (by simp [results, Tryd.results12, go_sem, f0, f1]) rfl ?_
    exact ⟨rfl, H.out.2.2.2⟩
end Go.Proofs.YtdbpdhlecgoclaaDoor
