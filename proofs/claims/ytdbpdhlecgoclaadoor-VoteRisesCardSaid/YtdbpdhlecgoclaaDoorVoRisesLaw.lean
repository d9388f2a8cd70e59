/-
  The walk of VoteRises: what is promised never falls; what was refused once is refused ever after.
-/
import Derived.Test.YtdbpdhlecgoclaaDoorVoAwake
import Derived.Test.YtdbpdhlecgoclaaDoorVoTy
import Derived.Deep.DeepCutAuto
namespace Go.Proofs.YtdbpdhlecgoclaaDoor
open Go Go.RowKit

theorem bal_row3 {w : World} {b : Nat} {x y i : Int} {t : TypeId} (h : w.heap[b]? = some (.cells #[.int .i64 x, .int .i64 y, .int .i64 i] t (0, 0))) : w.cell? ⟨b, 0, none⟩ = some (.int .i64 x) ∧ w.cell? ⟨b, 1, none⟩ = some (.int .i64 y) ∧ w.cell? ⟨b, 2, none⟩ = some (.int .i64 i) :=
  ⟨cell_of_row w b 0 _ _ _ h, cell_of_row w b 1 _ _ _ h, cell_of_row w b 2 _ _ _ h⟩
theorem eql_selfV (x y : Int) (w : World) : (binOp .eql 23 (.agg #[.int .i64 x, .int .i64 y]) (.agg #[.int .i64 x, .int .i64 y])).run Tryd.prog w = .ok (.bool true) w := by
  have h := bal_eql x y x y w
  rw [decide_eq_true (p := x = x ∧ y = y) ⟨rfl, rfl⟩] at h
  exact h
theorem neq_selfV (x y : Int) (w : World) : (binOp .neq 23 (.agg #[.int .i64 x, .int .i64 y]) (.agg #[.int .i64 x, .int .i64 y])).run Tryd.prog w = .ok (.bool false) w := by
  have h := bal_neq x y x y w
  rw [decide_eq_true (p := x = x ∧ y = y) ⟨rfl, rfl⟩] at h
  exact h
theorem doV_yes {p : Bal} {s : Int} {b : Bal} {i : Int} (h : inV s i) : (doV p s b i != 0) = yesV p b ∧ nowV p s b i = thenV p b ∧ errV s i = 0 := by
  unfold doV nowV errV
  rw [if_pos h, if_pos h, if_pos h]
  refine ⟨?_, rfl, rfl⟩
  cases yesV p b with
  | false => rfl
  | true =>
    rw [if_pos rfl]
    rcases whV_three s i h with ⟨_, h⟩ | ⟨_, _, h⟩ | ⟨_, _, h⟩ <;> rw [h] <;> rfl
abbrev ao (x y i : Int) : Obj := .cells #[.int .i64 x, .int .i64 y, .int .i64 i] 39
/-- The law's rows: what is promised, the greatest refused, the request, what was promised ahead of it. -/
structure RowsV (w : World) (b5 b6 b8 b9 : Nat) (nx ny vx vy x y i px py : Int) : Prop where
  now : w.heap[b5]? = some (.cells #[.int .i64 nx, .int .i64 ny] 23 (0, 0))
  worst : w.heap[b6]? = some (.cells #[.int .i64 vx, .int .i64 vy] 23 (0, 0))
  ask : w.heap[b8]? = some (.cells #[.int .i64 x, .int .i64 y, .int .i64 i] 39 (0, 0))
  was : w.heap[b9]? = some (.cells #[.int .i64 px, .int .i64 py] 23 (0, 0))
theorem RowsV.ext {w w' : World} {b5 b6 b8 b9 : Nat} {nx ny vx vy x y i px py : Int} (h : RowsV w b5 b6 b8 b9 nx ny vx vy x y i px py) (k : Ext w w') : RowsV w' b5 b6 b8 b9 nx ny vx vy x y i px py :=
  ⟨keep_rowB k h.now, keep_rowB k h.worst, keep_rowB k h.ask, keep_rowB k h.was⟩
theorem RowsV.set {w : World} {b5 b6 b8 b9 : Nat} {nx ny vx vy x y i px py : Int} (h : RowsV w b5 b6 b8 b9 nx ny vx vy x y i px py) (h1 : b6 ≠ b5) (h2 : b8 ≠ b5) (h3 : b9 ≠ b5) (tx ty : Int) : RowsV ((w.setCell ⟨b5, 0, none⟩ (.int .i64 tx)).setCell ⟨b5, 1, none⟩ (.int .i64 ty)) b5 b6 b8 b9 tx ty vx vy x y i px py :=
  ⟨bal_store tx ty h.now, bal_stored tx ty h1 h.worst, bal_stored tx ty h2 h.ask, bal_stored tx ty h3 h.was⟩
theorem RowsV.cells {w : World} {b5 b6 b8 b9 : Nat} {nx ny vx vy x y i px py : Int} (h : RowsV w b5 b6 b8 b9 nx ny vx vy x y i px py) : (w.cell? ⟨b5, 0, none⟩ = some (.int .i64 nx) ∧ w.cell? ⟨b5, 1, none⟩ = some (.int .i64 ny) ∧ w.frozen? ⟨b5, 0, none⟩ = false ∧ w.frozen? ⟨b5, 1, none⟩ = false) ∧ (w.cell? ⟨b6, 0, none⟩ = some (.int .i64 vx) ∧ w.cell? ⟨b6, 1, none⟩ = some (.int .i64 vy) ∧ w.frozen? ⟨b6, 0, none⟩ = false ∧ w.frozen? ⟨b6, 1, none⟩ = false) ∧ (w.cell? ⟨b8, 0, none⟩ = some (.int .i64 x) ∧ w.cell? ⟨b8, 1, none⟩ = some (.int .i64 y) ∧ w.cell? ⟨b8, 2, none⟩ = some (.int .i64 i)) ∧ (w.cell? ⟨b9, 0, none⟩ = some (.int .i64 px) ∧ w.cell? ⟨b9, 1, none⟩ = some (.int .i64 py) ∧ w.frozen? ⟨b9, 0, none⟩ = false ∧ w.frozen? ⟨b9, 1, none⟩ = false) :=
  ⟨bal_row h.now, bal_row h.worst, bal_row3 h.ask, bal_row h.was⟩
set_option maxRecDepth 100000 in
set_option maxHeartbeats 3200000 in
theorem voteRises_law (A : Option Addr) (n c : Nat) (l : List AskV) (s : Int) (w : World) (h : Ls AskV.cells 3 w w.heap.size A n c l ∧ ∀ a ∈ l, True) (_ : (Lit.int .i64 s).wf = true) (hL : LaidV w) :
    Calls Tryd.prog 4 #[.slice A n c, .int .i64 s] w fun e w' => e = .returned (.bool true) ∧ Below w.heap.size w w' := by
  show Calls Tryd.prog 4 #[.slice A n c, .int .i64 s] w fun e w' => e = .returned (.bool true) ∧ Ext w w'
  have HAW := Lib.hid (vawake_any w hL)
  have hcap := h.1.cap
  have hmost := h.1.most
  have HA := Lib.hid h.1
  have HL := Lib.hid hL
  have hg := ballot_guard
  clear h hL
  by_cases hbad : 100 < n ∨ s < 0 ∨ 1099511627776 < s
  · have hc : 100 < n ∨ (¬ 100 < n ∧ s < 0) ∨ (¬ 100 < n ∧ ¬ s < 0 ∧ 1099511627776 < s) := by omega
    clear hbad
    rcases hc with h1 | ⟨h1, h2⟩ | ⟨h1, h2, h3⟩
    all_goals
      go_enter Tryd.func4, Tryd.ntmps4
      go_wp2_with fail
      refine HAW.out.mono ?_
      rintro e w1 ⟨rfl, hx⟩
      have HX := Lib.hid hx
      clear hx
      go_wp2_with fail
      go_ret
      exact ⟨rfl, HX.out⟩
  have n1 : ¬ 100 < n := by omega
  have n2 : ¬ s < 0 := by omega
  have n3 : ¬ 1099511627776 < s := by omega
  clear hbad
  go_enter Tryd.func4, Tryd.ntmps4
  go_wp2_with fail
  refine HAW.out.mono ?_
  rintro e w1 ⟨rfl, hx⟩
  have H2 := Lib.hid (two_newV w1 0 0 0 0)
  have HX := Lib.hid (hx.trans H2.out.2.2)
  have hlo := hx.size
  clear hx
  go_upto_region 6 with (fail)
  generalize ((w1.alloc (.cells #[.int .i64 0, .int .i64 0] 23)).alloc (.cells #[.int .i64 0, .int .i64 0] 23)) = W at *
  obtain ⟨b5, hb5⟩ : ∃ b, w1.heap.size = b := ⟨_, rfl⟩
  rw [hb5] at H2 hlo ⊢
  obtain ⟨b6, hb6⟩ : ∃ b, b5 + 1 = b := ⟨_, rfl⟩
  have HB := Lib.hid (show b6 ≠ b5 ∧ w.heap.size ≤ b5 ∧ w.heap.size ≤ b6 by omega)
  have H5 := Lib.hid H2.out.1
  have H6 := Lib.hid H2.out.2.1
  rw [hb6] at H6 ⊢
  clear H2 hb5 hb6 hlo
  go_wp2_with fail
  go_loopw [7] (fun v wr => ∃ (k : Nat) (nx ny vx vy : Int), k ≤ n ∧ v = .int .i64 (k : Int) ∧ Hid (wr.heap[b5]? = some (.cells #[.int .i64 nx, .int .i64 ny] 23 (0, 0))) ∧ Hid (wr.heap[b6]? = some (.cells #[.int .i64 vx, .int .i64 vy] 23 (0, 0))) ∧ Hid (WorstV ⟨nx, ny⟩ ⟨vx, vy⟩) ∧ Hid (Ext w wr)) (fun v _ => n - (intOf v).toNat)
  case atStart => exact ⟨0, 0, 0, 0, 0, Nat.zero_le _, by rfl, H5, H6, Lib.hid (.inl ⟨rfl, rfl⟩), HX⟩
  case round =>
    obtain ⟨k, px, py, vx, vy, hk, rfl, HN, HV, HW, HX⟩ := hrel
    by_cases hlt : k < n
    case neg =>
      obtain rfl : k = n := by omega
      go_wp2_with fail
      go_ret
      exact ⟨rfl, HX.out⟩
    obtain ⟨g, o, a, rfl, _, _, hcl⟩ := (HA.out.below HX.out).at_ hlt
    obtain ⟨x, y, i⟩ := a
    have c0 : wr.cell? ⟨g, o + k * 3, none⟩ = some (.int .i64 x) := hcl 0 _ rfl
    have c1 : wr.cell? ⟨g, o + k * 3 + 1, none⟩ = some (.int .i64 y) := hcl 1 _ rfl
    have c2 : wr.cell? ⟨g, o + k * 3 + 2, none⟩ = some (.int .i64 i) := hcl 2 _ rfl
    obtain ⟨d0, d1, _, _⟩ := bal_row HN.out
    have hsz5 := (Array.getElem?_eq_some_iff.1 HN.out).1
    have hsz6 := (Array.getElem?_eq_some_iff.1 HV.out).1
    have hx8 := (Ext.refl wr).alloc (ao x y i)
    have hx9 := (Ext.refl (wr.alloc (ao x y i))).alloc (bo px py)
    have e8 : (wr.alloc (ao x y i)).heap.size = wr.heap.size + 1 := by simp
    have hr9 := heap_alloc_new (wr.alloc (ao x y i)) (bo px py)
    rw [e8] at hr9
    have HR : Hid (RowsV ((wr.alloc (ao x y i)).alloc (bo px py)) b5 b6 wr.heap.size (wr.heap.size + 1) px py vx vy x y i px py) := Lib.hid ⟨keep_rowB hx9 (keep_rowB hx8 HN.out), keep_rowB hx9 (keep_rowB hx8 HV.out), keep_rowB hx9 (heap_alloc_new wr (ao x y i)), hr9⟩
    have HX := Lib.hid ((HX.out.trans hx8).trans hx9)
    have HQ : Hid (wr.heap.size ≠ b5 ∧ wr.heap.size + 1 ≠ b5 ∧ wr.heap.size ≠ b6 ∧ wr.heap.size + 1 ≠ b6) := Lib.hid (by omega)
    obtain ⟨q0, q1, _, _⟩ := bal_row (keep_rowB hx8 HN.out)
    clear hcl hx8 hx9 e8 hr9 hsz5 hsz6
    go_upto_region 11 with (fail)
    generalize ((wr.alloc (.cells #[.int .i64 x, .int .i64 y, .int .i64 i] 39)).alloc (.cells #[.int .i64 px, .int .i64 py] 23)) = V at *
    obtain ⟨b8, hb8⟩ : ∃ b, wr.heap.size = b := ⟨_, rfl⟩
    rw [hb8] at HR HQ ⊢
    obtain ⟨b9, hb9⟩ : ∃ b, b8 + 1 = b := ⟨_, rfl⟩
    rw [hb9] at HR HQ ⊢
    clear c0 c1 c2 d0 d1 q0 q1 hb8 hb9 HN HV H5 H6
    have HP := Lib.hid (fun Z => promV_of px py x y Z)
    have HAC := Lib.hid (fun Z (hZ : LaidV Z) => acceptV_of px py s x y i Z hZ)
    have hacc : 1 ≤ i → i ≤ 1099511627776 → (doV ⟨px, py⟩ s ⟨x, y⟩ i != 0) = yesV ⟨px, py⟩ ⟨x, y⟩ ∧ nowV ⟨px, py⟩ s ⟨x, y⟩ i = thenV ⟨px, py⟩ ⟨x, y⟩ ∧ errV s i = 0 := fun h1 h2 => doV_yes ⟨by omega, by omega, h1, h2⟩
    obtain ⟨t1, t2, t3⟩ := thenV_ge ⟨px, py⟩ ⟨x, y⟩
    have hwy := fun hy : yesV ⟨px, py⟩ ⟨x, y⟩ = true => HW.out.yes hy
    have hws := fun hy : yesV ⟨px, py⟩ ⟨x, y⟩ = true => HW.out.step hy
    have hwr : yesV ⟨px, py⟩ ⟨x, y⟩ = false → WorstV ⟨px, py⟩ ⟨x, y⟩ := fun hy => WorstV.refused hy
    have hno : yesV ⟨px, py⟩ ⟨x, y⟩ = false → (px = x ∧ py = y) → x = 0 ∧ y = 0 := fun hy he => by
      obtain ⟨rfl, rfl⟩ := he
      rcases yesV_not.1 hy with h | h
      · exact h
      · rw [ltB_self] at h
        cases h
    have HLS := Lib.hid (fun a b c d Z => less_of a b c d Z)
    have HLW := Lib.hid (fun Z => less_of vx vy x y Z)
    generalize hyes : yesV ⟨px, py⟩ ⟨x, y⟩ = yes at *
    generalize hthen : thenV ⟨px, py⟩ ⟨x, y⟩ = Tn at *
    obtain ⟨tx, ty⟩ := Tn
    dsimp only at HP
    clear hyes hthen
    generalize doV ⟨px, py⟩ s ⟨x, y⟩ i = dd at *
    generalize nowV ⟨px, py⟩ s ⟨x, y⟩ i = U at *
    generalize errV s i = er at *
    obtain ⟨ux, uy⟩ := U
    dsimp only at HAC
    have HLT := Lib.hid (fun Z => less_of tx ty px py Z)
    rw [t1] at HLT
    clear t1
    obtain ⟨⟨a0, a1, a2, a3⟩, ⟨g0, g1, g2, g3⟩, ⟨d0, d1, d2⟩, e0, e1, _, _⟩ := HR.out.cells
    -- the ways
    have hw3 : i < 1 ∨ (¬ i < 1 ∧ 1099511627776 < i) ∨ (¬ i < 1 ∧ ¬ 1099511627776 < i) := by omega
    rcases hw3 with w1 | ⟨w1, w2⟩ | ⟨w1, w2⟩
    all_goals
      as_aux_lemma =>
        cases yes with
        | false =>
          obtain ⟨rfl, rfl⟩ : tx = px ∧ ty = py := by
            have h := t3 rfl
            injection h with h1 h2
            exact ⟨h1, h2⟩
          have hns := neq_selfV tx ty
          have hq : (∃ (bb : Bool), decide (tx = x ∧ ty = y) = bb ∧ (bb = true → x = 0 ∧ y = 0)) := ⟨_, rfl, fun h => hno rfl (of_decide_eq_true h)⟩
          obtain ⟨bb, hbb, hbz⟩ := hq
          have hqe := bal_eql tx ty x y
          rw [hbb] at hqe
          have hqn := bal_neq x y 0 0
          obtain ⟨lw, hlw⟩ : ∃ b, ltB ⟨vx, vy⟩ ⟨x, y⟩ = b := ⟨_, rfl⟩
          rw [hlw] at HLW
          have HRF := Lib.hid (hwr rfl)
          clear t2 t3 hwy hws hwr hno hbb hlw
          cases bb
          case' true => rw [decide_eq_true (hbz rfl)] at hqn
          all_goals
            clear hbz
            go_wp2_with fail
            first
              | (refine (HP.out _).mono ?_
                 rintro e w2 ⟨rfl, hx⟩
                 have HR := Lib.hid (HR.out.ext hx)
                 have HX := Lib.hid (HX.out.trans hx)
                 clear hx a0 a1 a2 a3 g0 g1 g2 g3 d0 d1 d2 e0 e1
                 obtain ⟨⟨a0, a1, a2, a3⟩, ⟨g0, g1, g2, g3⟩, ⟨d0, d1, d2⟩, e0, e1, _, _⟩ := HR.out.cells
                 have HX := Lib.hid (ext_two HX.out HB.out.2.1 (.int .i64 tx) (.int .i64 ty))
                 have HR := Lib.hid (HR.out.set HB.out.1 HQ.out.1 HQ.out.2.1 tx ty)
                 go_upto_region 17 with (fail)
                 generalize ((w2.setCell ⟨b5, 0, none⟩ (.int .i64 tx)).setCell ⟨b5, 1, none⟩ (.int .i64 ty)) = V2 at *)
              | (refine (HAC.out _ (HL.out.ext HX.out)).mono ?_
                 obtain ⟨hd1, hd2, rfl⟩ := hacc (by omega) (by omega)
                 injection hd2 with hd3 hd4
                 have hd3 := hd3.symm
                 have hd4 := hd4.symm
                 subst hd3 hd4
                 rintro e w2 ⟨rfl, hx⟩
                 have hx := hx.alloc (bo tx ty)
                 have HR := Lib.hid (HR.out.ext hx)
                 have HX := Lib.hid (HX.out.trans hx)
                 have F := Lib.hid (bal_one w2 tx ty 23)
                 clear hx a0 a1 a2 a3 g0 g1 g2 g3 d0 d1 d2 e0 e1
                 go_upto_region 14 with (fail)
                 generalize (w2.alloc (.cells #[.int .i64 tx, .int .i64 ty] 23)) = V1 at *
                 obtain ⟨f0, f1⟩ := F.out
                 obtain ⟨⟨a0, a1, a2, a3⟩, ⟨g0, g1, g2, g3⟩, ⟨d0, d1, d2⟩, e0, e1, _, _⟩ := HR.out.cells
                 have HX := Lib.hid (ext_two HX.out HB.out.2.1 (.int .i64 tx) (.int .i64 ty))
                 have HR := Lib.hid (HR.out.set HB.out.1 HQ.out.1 HQ.out.2.1 tx ty)
                 go_upto_region 17 with (fail)
                 generalize ((V1.setCell ⟨b5, 0, none⟩ (.int .i64 tx)).setCell ⟨b5, 1, none⟩ (.int .i64 ty)) = V2 at *
                 clear f0 f1 F)
            clear a0 a1 a2 a3 g0 g1 g2 g3 d0 d1 d2 e0 e1
            obtain ⟨⟨a0, a1, a2, a3⟩, ⟨g0, g1, g2, g3⟩, ⟨d0, d1, d2⟩, e0, e1, _, _⟩ := HR.out.cells
            go_wp2_with fail
            refine (HLT.out _).mono ?_
            rintro e v1 ⟨rfl, hx⟩
            have HR := Lib.hid (HR.out.ext hx)
            have HX := Lib.hid (HX.out.trans hx)
            clear a0 a1 a2 a3 g0 g1 g2 g3 d0 d1 d2 e0 e1
            obtain ⟨⟨a0, a1, a2, a3⟩, ⟨g0, g1, g2, g3⟩, ⟨d0, d1, d2⟩, e0, e1, _, _⟩ := HR.out.cells
            clear hx
            go_wp2_with fail
            refine (HLW.out _).mono ?_
            rintro e v2 ⟨rfl, hx⟩
            have HR := Lib.hid (HR.out.ext hx)
            have HX := Lib.hid (HX.out.trans hx)
            clear a0 a1 a2 a3 g0 g1 g2 g3 d0 d1 d2 e0 e1
            obtain ⟨⟨a0, a1, a2, a3⟩, ⟨g0, g1, g2, g3⟩, ⟨d0, d1, d2⟩, e0, e1, _, _⟩ := HR.out.cells
            clear hx
            cases lw with
            | false =>
              go_wp2_with fail
              go_roundw
              case rel => exact ⟨k + 1, tx, ty, vx, vy, by omega, by go_num, Lib.hid HR.out.now, Lib.hid HR.out.worst, HW, HX⟩
              case measure => simp [intOf]; omega
            | true =>
              have HX := Lib.hid (ext_two HX.out HB.out.2.2 (.int .i64 x) (.int .i64 y))
              have HS6 := Lib.hid (bal_store x y HR.out.worst)
              have HS5 := Lib.hid (bal_stored x y (Ne.symm HB.out.1) HR.out.now)
              go_wp2_with fail
              go_roundw
              case rel => exact ⟨k + 1, tx, ty, x, y, by omega, by go_num, HS5, HS6, HRF, HX⟩
              case measure => simp [intOf]; omega
        | true =>
          obtain ⟨t4, t5, t6⟩ := t2 rfl
          obtain ⟨rfl, rfl⟩ : tx = x ∧ ty = y := by
            injection t4 with h1 h2
            exact ⟨h1, h2⟩
          have hns := eql_selfV tx ty
          have hqn := bal_neq tx ty 0 0
          rw [decide_eq_false t5] at hqn
          have HWS := Lib.hid (hws rfl)
          have hqv := bal_neq vx vy 0 0
          obtain ⟨z0, hz0⟩ : ∃ b, decide (vx = 0 ∧ vy = 0) = b := ⟨_, rfl⟩
          rw [hz0] at hqv
          have hlw : z0 = false → ltB ⟨vx, vy⟩ ⟨tx, ty⟩ = true := fun hz => hwy rfl (of_decide_eq_false (hz0.trans hz))
          clear t2 t3 t4 t5 t6 hwy hws hwr hno hz0
          cases z0
          case' false => rw [hlw rfl] at HLW
          all_goals
            clear hlw
            go_wp2_with fail
            first
              | (refine (HP.out _).mono ?_
                 rintro e w2 ⟨rfl, hx⟩
                 have HR := Lib.hid (HR.out.ext hx)
                 have HX := Lib.hid (HX.out.trans hx)
                 clear hx a0 a1 a2 a3 g0 g1 g2 g3 d0 d1 d2 e0 e1
                 obtain ⟨⟨a0, a1, a2, a3⟩, ⟨g0, g1, g2, g3⟩, ⟨d0, d1, d2⟩, e0, e1, _, _⟩ := HR.out.cells
                 have HX := Lib.hid (ext_two HX.out HB.out.2.1 (.int .i64 tx) (.int .i64 ty))
                 have HR := Lib.hid (HR.out.set HB.out.1 HQ.out.1 HQ.out.2.1 tx ty)
                 go_upto_region 17 with (fail)
                 generalize ((w2.setCell ⟨b5, 0, none⟩ (.int .i64 tx)).setCell ⟨b5, 1, none⟩ (.int .i64 ty)) = V2 at *)
              | (refine (HAC.out _ (HL.out.ext HX.out)).mono ?_
                 obtain ⟨hd1, hd2, rfl⟩ := hacc (by omega) (by omega)
                 injection hd2 with hd3 hd4
                 have hd3 := hd3.symm
                 have hd4 := hd4.symm
                 subst hd3 hd4
                 rintro e w2 ⟨rfl, hx⟩
                 have hx := hx.alloc (bo tx ty)
                 have HR := Lib.hid (HR.out.ext hx)
                 have HX := Lib.hid (HX.out.trans hx)
                 have F := Lib.hid (bal_one w2 tx ty 23)
                 clear hx a0 a1 a2 a3 g0 g1 g2 g3 d0 d1 d2 e0 e1
                 go_upto_region 14 with (fail)
                 generalize (w2.alloc (.cells #[.int .i64 tx, .int .i64 ty] 23)) = V1 at *
                 obtain ⟨f0, f1⟩ := F.out
                 obtain ⟨⟨a0, a1, a2, a3⟩, ⟨g0, g1, g2, g3⟩, ⟨d0, d1, d2⟩, e0, e1, _, _⟩ := HR.out.cells
                 have HX := Lib.hid (ext_two HX.out HB.out.2.1 (.int .i64 tx) (.int .i64 ty))
                 have HR := Lib.hid (HR.out.set HB.out.1 HQ.out.1 HQ.out.2.1 tx ty)
                 go_upto_region 17 with (fail)
                 generalize ((V1.setCell ⟨b5, 0, none⟩ (.int .i64 tx)).setCell ⟨b5, 1, none⟩ (.int .i64 ty)) = V2 at *
                 clear f0 f1 F)
            clear a0 a1 a2 a3 g0 g1 g2 g3 d0 d1 d2 e0 e1
            obtain ⟨⟨a0, a1, a2, a3⟩, ⟨g0, g1, g2, g3⟩, ⟨d0, d1, d2⟩, e0, e1, _, _⟩ := HR.out.cells
            go_wp2_with fail
            refine (HLT.out _).mono ?_
            rintro e v1 ⟨rfl, hx⟩
            have HR := Lib.hid (HR.out.ext hx)
            have HX := Lib.hid (HX.out.trans hx)
            clear a0 a1 a2 a3 g0 g1 g2 g3 d0 d1 d2 e0 e1
            obtain ⟨⟨a0, a1, a2, a3⟩, ⟨g0, g1, g2, g3⟩, ⟨d0, d1, d2⟩, e0, e1, _, _⟩ := HR.out.cells
            clear hx
            go_wp2_with fail
            refine (HLT.out _).mono ?_
            rintro e v2 ⟨rfl, hx⟩
            have HR := Lib.hid (HR.out.ext hx)
            have HX := Lib.hid (HX.out.trans hx)
            clear a0 a1 a2 a3 g0 g1 g2 g3 d0 d1 d2 e0 e1
            obtain ⟨⟨a0, a1, a2, a3⟩, ⟨g0, g1, g2, g3⟩, ⟨d0, d1, d2⟩, e0, e1, _, _⟩ := HR.out.cells
            clear hx
            first
              | (go_wp2_with fail
                 refine (HLW.out _).mono ?_
                 rintro e v3 ⟨rfl, hx⟩
                 have HR := Lib.hid (HR.out.ext hx)
                 have HX := Lib.hid (HX.out.trans hx)
                 clear hx
                 go_wp2_with fail
                 go_roundw
                 case rel => exact ⟨k + 1, tx, ty, vx, vy, by omega, by go_num, Lib.hid HR.out.now, Lib.hid HR.out.worst, HWS, HX⟩
                 case measure => simp [intOf]; omega)
              | (go_wp2_with fail
                 go_roundw
                 case rel => exact ⟨k + 1, tx, ty, vx, vy, by omega, by go_num, Lib.hid HR.out.now, Lib.hid HR.out.worst, HWS, HX⟩
                 case measure => simp [intOf]; omega)
end Go.Proofs.YtdbpdhlecgoclaaDoor
