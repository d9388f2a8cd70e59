/-
  The walk of VoteOnce: what is promised once is promised again, and accepted by.
-/
import Derived.Test.YtdbpdhlecgoclaaDoorVoAwake
namespace Go.Proofs.YtdbpdhlecgoclaaDoor
open Go Go.RowKit

theorem bal_eql_self (x y : Int) (w : World) : (binOp .eql 23 (.agg #[.int .i64 x, .int .i64 y]) (.agg #[.int .i64 x, .int .i64 y])).run Tryd.prog w = .ok (.bool true) w := by
  have h := bal_eql x y x y w
  rw [decide_eq_true (p := x = x ∧ y = y) ⟨rfl, rfl⟩] at h
  exact h
theorem bal_neq_self (x y : Int) (w : World) : (binOp .neq 23 (.agg #[.int .i64 x, .int .i64 y]) (.agg #[.int .i64 x, .int .i64 y])).run Tryd.prog w = .ok (.bool false) w := by
  have h := bal_neq x y x y w
  rw [decide_eq_true (p := x = x ∧ y = y) ⟨rfl, rfl⟩] at h
  exact h
theorem doV_zero {p : Bal} {s : Int} {b : Bal} {i : Int} (h : inV s i) : (decide (doV p s b i ≠ 0) = yesV p b) ∧ nowV p s b i = thenV p b := by
  unfold doV nowV
  rw [if_pos h, if_pos h]
  refine ⟨?_, rfl⟩
  cases yesV p b with
  | false => rfl
  | true =>
    rw [if_pos rfl]
    rcases whV_three s i h with ⟨_, h⟩ | ⟨_, _, h⟩ | ⟨_, _, h⟩ <;> rw [h] <;> rfl
set_option maxRecDepth 100000 in
set_option maxHeartbeats 1600000 in
theorem voteOnce_law (px py x y s i : Int) (w : World) (_ : (Lit.int .i64 s).wf = true) (_ : (Lit.int .i64 i).wf = true) (hL : LaidV w) :
    Calls Tryd.prog 6 #[.agg #[.int .i64 px, .int .i64 py], .agg #[.int .i64 x, .int .i64 y], .int .i64 s, .int .i64 i] w fun e w' => e = .returned (.bool true) ∧ Below w.heap.size w w' := by
  show Calls Tryd.prog 6 #[.agg #[.int .i64 px, .int .i64 py], .agg #[.int .i64 x, .int .i64 y], .int .i64 s, .int .i64 i] w fun e w' => e = .returned (.bool true) ∧ Ext w w'
  have HAW := Lib.hid (fun V (hV : LaidV V) => vawake_any V hV)
  have h1 := fun V => promV_of px py x y V
  have h2 := fun V => promV_of (thenV ⟨px, py⟩ ⟨x, y⟩).x (thenV ⟨px, py⟩ ⟨x, y⟩).y x y V
  have h5 := fun V (hV : LaidV V) => acceptV_of (thenV ⟨px, py⟩ ⟨x, y⟩).x (thenV ⟨px, py⟩ ⟨x, y⟩).y s x y i V hV
  have hag := yesV_again ⟨px, py⟩ ⟨x, y⟩
  have hdz : errV s i = 2 ∨ (errV s i = 0 ∧ decide (doV (thenV ⟨px, py⟩ ⟨x, y⟩) s ⟨x, y⟩ i ≠ 0) = yesV ⟨px, py⟩ ⟨x, y⟩ ∧ nowV (thenV ⟨px, py⟩ ⟨x, y⟩) s ⟨x, y⟩ i = thenV ⟨px, py⟩ ⟨x, y⟩) := by
    rcases errV_two s i with ⟨hin, he⟩ | ⟨_, he, _⟩
    · obtain ⟨k1, k2⟩ := doV_zero (p := thenV ⟨px, py⟩ ⟨x, y⟩) (b := ⟨x, y⟩) hin
      exact .inr ⟨he, by rw [k1, hag.1], by rw [k2, hag.2]⟩
    · exact .inl he
  have hways := promV_ways ⟨px, py⟩ ⟨x, y⟩
  have hLs := fun V => less_of px py x y V
  have hlt : ltB ⟨x, y⟩ ⟨px, py⟩ = true → ltB ⟨px, py⟩ ⟨x, y⟩ = false := fun h => by
    rw [ltB_iff] at h
    rw [ltB_not]
    omega
  have hqn := bal_neq x y 0 0
  have hqs := bal_neq_self
  have hqe := bal_eql_self
  have hg := ballot_guard
  have H := Lib.hid (two_newV w px py x y)
  have HL := Lib.hid hL
  clear hL
  generalize hT : thenV ⟨px, py⟩ ⟨x, y⟩ = T at *
  generalize hYE : yesV ⟨px, py⟩ ⟨x, y⟩ = yes at *
  obtain ⟨tx, ty⟩ := T
  dsimp only at h2 h5
  rw [hag.1, hag.2] at h2
  dsimp only at h1 h2
  generalize doV ⟨tx, ty⟩ s ⟨x, y⟩ i = d at *
  generalize hU : nowV ⟨tx, ty⟩ s ⟨x, y⟩ i = U at *
  obtain ⟨ux, uy⟩ := U
  dsimp only at h5
  clear hT hYE hag hU
  generalize errV s i = er at *
  have H1 := Lib.hid h1
  have H2 := Lib.hid h2
  have H5 := Lib.hid h5
  generalize ltB ⟨px, py⟩ ⟨x, y⟩ = q at *
  generalize ltB ⟨x, y⟩ ⟨px, py⟩ = q2 at *
  have HLS := Lib.hid hLs
  clear h1 h2 h5 hLs
  have hcase : (x = 0 ∧ y = 0 ∧ yes = false ∧ tx = px ∧ ty = py) ∨ (¬ (x = 0 ∧ y = 0) ∧ q = false ∧ yes = false ∧ tx = px ∧ ty = py) ∨ (¬ (x = 0 ∧ y = 0) ∧ yes = true ∧ tx = x ∧ ty = y) := by
    rcases hways with ⟨e, k1, k2⟩ | ⟨e, k0, k1, k2⟩ | ⟨e, k0, k1, k2⟩
    · injection e with e1 e2
      injection k2 with k2 k3
      exact .inl ⟨e1, e2, k1, k2, k3⟩
    · injection k2 with k2 k3
      exact .inr (.inl ⟨e, hlt k0, k1, k2, k3⟩)
    · injection k2 with k2 k3
      exact .inr (.inr ⟨e, k1, k2, k3⟩)
  clear hways hlt
  rcases hcase with ⟨rfl, rfl, rfl, rfl, rfl⟩ | ⟨hn, rfl, rfl, rfl, rfl⟩ | ⟨hn, rfl, rfl, rfl⟩
  · rw [decide_eq_true (p := (0 : Int) = 0 ∧ (0 : Int) = 0) ⟨rfl, rfl⟩] at hqn
    go_enter Tryd.func6, Tryd.ntmps6
    go_upto_region 1 with (fail)
    generalize ((w.alloc (.cells #[.int .i64 tx, .int .i64 ty] 23)).alloc (.cells #[.int .i64 0, .int .i64 0] 23)) = W at *
    generalize hb0 : w.heap.size = b0 at *
    have HS := Lib.hid (And.intro (bal_row H.out.1) (bal_row H.out.2.1))
    have HS := Lib.hid (And.intro (show BC W b0 tx ty from ⟨HS.out.1.1, HS.out.1.2.1⟩) (show BC W (b0 + 1) 0 0 from ⟨HS.out.2.1, HS.out.2.2.1⟩))
    go_wp2_with fail
    refine (HAW.out _ (HL.out.ext H.out.2.2)).mono ?_
    rintro e w0 ⟨rfl, hx⟩
    have HX := Lib.hid hx
    have HS := Lib.hid (And.intro (BC.ext hx HS.out.1) (BC.ext hx HS.out.2))
    clear hx
    obtain ⟨⟨a0, a1⟩, b1, b2⟩ := HS.out
    go_wp2_with fail
    refine (H1.out _).mono ?_
    rintro e w1 ⟨rfl, hx⟩
    have hx := hx.alloc (bo tx ty)
    have HX := Lib.hid (HX.out.trans hx)
    have HS := Lib.hid (And.intro (BC.ext hx HS.out.1) (BC.ext hx HS.out.2))
    have HR1 := Lib.hid (BC.new w1 tx ty 23)
    clear hx a0 a1 b1 b2
    obtain ⟨⟨a0, a1⟩, b1, b2⟩ := HS.out
    obtain ⟨c0, c1⟩ := HR1.out
    go_wp2_with fail
    refine (H2.out _).mono ?_
    rintro e w2 ⟨rfl, hx⟩
    have hx := hx.alloc (bo tx ty)
    have HX := Lib.hid (HX.out.trans hx)
    have HS := Lib.hid (And.intro (BC.ext hx HS.out.1) (BC.ext hx HS.out.2))
    have HR1 := Lib.hid (BC.ext hx HR1.out)
    have HR2 := Lib.hid (BC.new w2 tx ty 23)
    clear hx a0 a1 b1 b2 c0 c1
    obtain ⟨⟨a0, a1⟩, b1, b2⟩ := HS.out
    obtain ⟨c0, c1⟩ := HR1.out
    obtain ⟨d0, d1⟩ := HR2.out
    go_wp2_with fail
    refine (H5.out _ (HL.out.ext (H.out.2.2.trans HX.out))).mono ?_
    rintro e w4 ⟨rfl, hx⟩
    have hx := hx.alloc (bo ux uy)
    have HXE := Lib.hid (HX.out.trans hx)
    have HR1 := Lib.hid (BC.ext hx HR1.out)
    have HR3 := Lib.hid (BC.new w4 ux uy 23)
    clear hx a0 a1 b1 b2 c0 c1
    obtain ⟨c0, c1⟩ := HR1.out
    obtain ⟨e0, e1⟩ := HR3.out
    rcases hdz with rfl | ⟨rfl, hd, hU⟩
    · go_wp2_with fail
      go_ret
      exact ⟨rfl, H.out.2.2.trans HXE.out⟩
    · injection hU with hu1 hu2
      subst hu1 hu2
      have hb : (d != 0) = false := by simpa using hd
      have hb2 : d = 0 := by simpa using hd
      subst hb2
      go_wp2_with fail
      go_ret
      exact ⟨rfl, H.out.2.2.trans HXE.out⟩
  · rw [decide_eq_false hn] at hqn
    clear hn
    go_enter Tryd.func6, Tryd.ntmps6
    go_upto_region 1 with (fail)
    generalize ((w.alloc (.cells #[.int .i64 tx, .int .i64 ty] 23)).alloc (.cells #[.int .i64 x, .int .i64 y] 23)) = W at *
    generalize hb0 : w.heap.size = b0 at *
    have HS := Lib.hid (And.intro (bal_row H.out.1) (bal_row H.out.2.1))
    have HS := Lib.hid (And.intro (show BC W b0 tx ty from ⟨HS.out.1.1, HS.out.1.2.1⟩) (show BC W (b0 + 1) x y from ⟨HS.out.2.1, HS.out.2.2.1⟩))
    go_wp2_with fail
    refine (HAW.out _ (HL.out.ext H.out.2.2)).mono ?_
    rintro e w0 ⟨rfl, hx⟩
    have HX := Lib.hid hx
    have HS := Lib.hid (And.intro (BC.ext hx HS.out.1) (BC.ext hx HS.out.2))
    clear hx
    obtain ⟨⟨a0, a1⟩, b1, b2⟩ := HS.out
    go_wp2_with fail
    refine (H1.out _).mono ?_
    rintro e w1 ⟨rfl, hx⟩
    have hx := hx.alloc (bo tx ty)
    have HX := Lib.hid (HX.out.trans hx)
    have HS := Lib.hid (And.intro (BC.ext hx HS.out.1) (BC.ext hx HS.out.2))
    have HR1 := Lib.hid (BC.new w1 tx ty 23)
    clear hx a0 a1 b1 b2
    obtain ⟨⟨a0, a1⟩, b1, b2⟩ := HS.out
    obtain ⟨c0, c1⟩ := HR1.out
    go_wp2_with fail
    refine (H2.out _).mono ?_
    rintro e w2 ⟨rfl, hx⟩
    have hx := hx.alloc (bo tx ty)
    have HX := Lib.hid (HX.out.trans hx)
    have HS := Lib.hid (And.intro (BC.ext hx HS.out.1) (BC.ext hx HS.out.2))
    have HR1 := Lib.hid (BC.ext hx HR1.out)
    have HR2 := Lib.hid (BC.new w2 tx ty 23)
    clear hx a0 a1 b1 b2 c0 c1
    obtain ⟨⟨a0, a1⟩, b1, b2⟩ := HS.out
    obtain ⟨c0, c1⟩ := HR1.out
    obtain ⟨d0, d1⟩ := HR2.out
    go_wp2_with fail
    refine (HLS.out _).mono ?_
    rintro e w3 ⟨rfl, hx⟩
    have HX := Lib.hid (HX.out.trans hx)
    have HS := Lib.hid (And.intro (BC.ext hx HS.out.1) (BC.ext hx HS.out.2))
    have HR1 := Lib.hid (BC.ext hx HR1.out)
    clear hx a0 a1 b1 b2 c0 c1 d0 d1
    obtain ⟨⟨a0, a1⟩, b1, b2⟩ := HS.out
    obtain ⟨c0, c1⟩ := HR1.out
    go_wp2_with fail
    refine (H5.out _ (HL.out.ext (H.out.2.2.trans HX.out))).mono ?_
    rintro e w4 ⟨rfl, hx⟩
    have hx := hx.alloc (bo ux uy)
    have HXE := Lib.hid (HX.out.trans hx)
    have HR1 := Lib.hid (BC.ext hx HR1.out)
    have HR3 := Lib.hid (BC.new w4 ux uy 23)
    clear hx a0 a1 b1 b2 c0 c1
    obtain ⟨c0, c1⟩ := HR1.out
    obtain ⟨e0, e1⟩ := HR3.out
    rcases hdz with rfl | ⟨rfl, hd, hU⟩
    · go_wp2_with fail
      go_ret
      exact ⟨rfl, H.out.2.2.trans HXE.out⟩
    · injection hU with hu1 hu2
      subst hu1 hu2
      have hb : (d != 0) = false := by simpa using hd
      have hb2 : d = 0 := by simpa using hd
      subst hb2
      go_wp2_with fail
      go_ret
      exact ⟨rfl, H.out.2.2.trans HXE.out⟩
  · rw [decide_eq_false hn] at hqn
    clear hn
    cases q
    all_goals
      go_enter Tryd.func6, Tryd.ntmps6
      go_upto_region 1 with (fail)
      generalize ((w.alloc (.cells #[.int .i64 px, .int .i64 py] 23)).alloc (.cells #[.int .i64 tx, .int .i64 ty] 23)) = W at *
      generalize hb0 : w.heap.size = b0 at *
      have HS := Lib.hid (And.intro (bal_row H.out.1) (bal_row H.out.2.1))
      have HS := Lib.hid (And.intro (show BC W b0 px py from ⟨HS.out.1.1, HS.out.1.2.1⟩) (show BC W (b0 + 1) tx ty from ⟨HS.out.2.1, HS.out.2.2.1⟩))
      go_wp2_with fail
      refine (HAW.out _ (HL.out.ext H.out.2.2)).mono ?_
      rintro e w0 ⟨rfl, hx⟩
      have HX := Lib.hid hx
      have HS := Lib.hid (And.intro (BC.ext hx HS.out.1) (BC.ext hx HS.out.2))
      clear hx
      obtain ⟨⟨a0, a1⟩, b1, b2⟩ := HS.out
      go_wp2_with fail
      refine (H1.out _).mono ?_
      rintro e w1 ⟨rfl, hx⟩
      have hx := hx.alloc (bo tx ty)
      have HX := Lib.hid (HX.out.trans hx)
      have HS := Lib.hid (And.intro (BC.ext hx HS.out.1) (BC.ext hx HS.out.2))
      have HR1 := Lib.hid (BC.new w1 tx ty 23)
      clear hx a0 a1 b1 b2
      obtain ⟨⟨a0, a1⟩, b1, b2⟩ := HS.out
      obtain ⟨c0, c1⟩ := HR1.out
      go_wp2_with fail
      refine (H2.out _).mono ?_
      rintro e w2 ⟨rfl, hx⟩
      have hx := hx.alloc (bo tx ty)
      have HX := Lib.hid (HX.out.trans hx)
      have HS := Lib.hid (And.intro (BC.ext hx HS.out.1) (BC.ext hx HS.out.2))
      have HR1 := Lib.hid (BC.ext hx HR1.out)
      have HR2 := Lib.hid (BC.new w2 tx ty 23)
      clear hx a0 a1 b1 b2 c0 c1
      obtain ⟨⟨a0, a1⟩, b1, b2⟩ := HS.out
      obtain ⟨c0, c1⟩ := HR1.out
      obtain ⟨d0, d1⟩ := HR2.out
      go_wp2_with fail
      refine (HLS.out _).mono ?_
      rintro e w3 ⟨rfl, hx⟩
      have HX := Lib.hid (HX.out.trans hx)
      have HS := Lib.hid (And.intro (BC.ext hx HS.out.1) (BC.ext hx HS.out.2))
      have HR1 := Lib.hid (BC.ext hx HR1.out)
      clear hx a0 a1 b1 b2 c0 c1 d0 d1
      obtain ⟨⟨a0, a1⟩, b1, b2⟩ := HS.out
      obtain ⟨c0, c1⟩ := HR1.out
      go_wp2_with fail
      refine (H5.out _ (HL.out.ext (H.out.2.2.trans HX.out))).mono ?_
      rintro e w4 ⟨rfl, hx⟩
      have hx := hx.alloc (bo ux uy)
      have HXE := Lib.hid (HX.out.trans hx)
      have HR1 := Lib.hid (BC.ext hx HR1.out)
      have HR3 := Lib.hid (BC.new w4 ux uy 23)
      clear hx a0 a1 b1 b2 c0 c1
      obtain ⟨c0, c1⟩ := HR1.out
      obtain ⟨e0, e1⟩ := HR3.out
      rcases hdz with rfl | ⟨rfl, hd, hU⟩
      · go_wp2_with fail
        go_ret
        exact ⟨rfl, H.out.2.2.trans HXE.out⟩
      · injection hU with hu1 hu2
        subst hu1 hu2
        have hb : (d != 0) = true := by simpa using hd
        go_wp2_with fail
        go_ret
        exact ⟨rfl, H.out.2.2.trans HXE.out⟩
end Go.Proofs.YtdbpdhlecgoclaaDoor
