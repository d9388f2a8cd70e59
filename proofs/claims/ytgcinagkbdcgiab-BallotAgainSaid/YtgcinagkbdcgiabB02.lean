/-
  The contract of ballot's Next.
-/
import Derived.Test.YtgcinagkbdcgiabB00
import Derived.Test.YtgcinagkbdcgiabB01
import Derived.Laws.AppendOwnNone
import Derived.Laws.AppendOwn
namespace Go.Proofs.Ytgcinagkbdcgiab
set_option maxRecDepth 100000
section
open Go Go.RowKit
theorem one_stored {w : World} {b b' i : Nat} {v : Value} {o : Obj} (hb : b' ≠ b) (h' : w.heap[b']? = some o) : (w.setCell ⟨b, i, none⟩ v).heap[b']? = some o :=
  heap_mod h' (Mod.setCell (F := fun k => k = b) (Mod.refl (fun k => k = b) w) (p := ⟨b, i, none⟩) (.inl rfl) v) hb
set_option maxHeartbeats 800000 in
theorem nextB_of (x y r n : Int) (w : World) : Calls Try.prog 5 #[.agg #[.int .i64 x, .int .i64 y], .int .i64 r, .int .i64 n] w fun e w' => e = .returned (.tuple #[.agg #[.int .i64 (nextB ⟨x, y⟩ r n).x, .int .i64 (nextB ⟨x, y⟩ r n).y], .int .i64 (errB ⟨x, y⟩ r n)]) ∧ Ext w w' := by
  have HX := Lib.hid ((Ext.refl w).alloc (.cells #[.int .i64 x, .int .i64 y] 26))
  have HX2 := Lib.hid (((Ext.refl w).alloc (.cells #[.int .i64 x, .int .i64 y] 26)).alloc (.cells #[.int .i64 0, .int .i64 0] 26))
  have hrow := heap_alloc_new w (.cells #[.int .i64 x, .int .i64 y] 26)
  have hrow2 := heap_alloc_new (w.alloc (.cells #[.int .i64 x, .int .i64 y] 26)) (.cells #[.int .i64 0, .int .i64 0] 26)
  have hrow1 := keep_rowB ((Ext.refl (w.alloc (.cells #[.int .i64 x, .int .i64 y] 26))).alloc (.cells #[.int .i64 0, .int .i64 0] 26)) hrow
  have e1 : (w.alloc (.cells #[.int .i64 x, .int .i64 y] 26)).heap.size = w.heap.size + 1 := by simp
  rw [e1] at hrow2
  have HR1 := Lib.hid hrow1
  have HR2 := Lib.hid hrow2
  clear hrow hrow1 hrow2 e1
  by_cases hok : okB ⟨x, y⟩ r n = true
  case neg =>
    have hok : okB ⟨x, y⟩ r n = false := by simpa using hok
    have hn : nextB ⟨x, y⟩ r n = ⟨0, 0⟩ := by unfold nextB; rw [hok]; rfl
    have he : errB ⟨x, y⟩ r n = 2 := by unfold errB; rw [hok]; rfl
    rw [hn, he]
    rw [okB_rep] at hok
    clear hn he
    have HREP := Lib.hid (fun V => isreplica_of r n V)
    have HMAY := Lib.hid (fun V => mayB_of x y n V)
    cases h1 : repB r n with
    | false =>
      rw [h1] at HREP
      clear hok h1
      go_enter Try.func5, Try.ntmps5
      go_wp2_with fail
      refine (HREP.out _).mono ?_
      rintro e w1 ⟨rfl, rfl⟩
      go_wp2_with fail
      obtain ⟨f0, f1, _, _⟩ := bal_row HR2.out
      refine bodyPost_ret (v := .tuple #[.agg #[.int .i64 0, .int .i64 0], .int .i64 2]) (by simp [results, Try.results5, go_sem, f0, f1]) rfl ?_
      exact ⟨rfl, HX2.out⟩
    | true =>
      rw [h1, Bool.true_and] at hok
      rw [h1] at HREP
      rw [hok] at HMAY
      clear hok h1
      go_enter Try.func5, Try.ntmps5
      go_wp2_with fail
      refine (HREP.out _).mono ?_
      rintro e w1 ⟨rfl, rfl⟩
      go_wp2_with fail
      refine (HMAY.out _).mono ?_
      rintro e w1 ⟨rfl, hx⟩
      have HXA := Lib.hid (HX2.out.trans hx)
      have HR2 := Lib.hid (keep_rowB hx HR2.out)
      obtain ⟨d0, d1, d2, d3⟩ := bal_row HR2.out
      clear hx
      go_wp2_with fail
      obtain ⟨f0, f1, _, _⟩ := bal_row (bal_store 0 0 HR2.out)
      refine bodyPost_ret (v := .tuple #[.agg #[.int .i64 0, .int .i64 0], .int .i64 2]) (by simp [results, Try.results5, go_sem, f0, f1]) rfl ?_
      exact ⟨rfl, (HXA.out.setCell (p := ⟨w.heap.size + 1, 0, none⟩) (by show w.heap.size ≤ w.heap.size + 1; omega) _).setCell (p := ⟨w.heap.size + 1, 1, none⟩) (by show w.heap.size ≤ w.heap.size + 1; omega) _⟩
  case pos =>
    have hk := okB_iff.1 hok
    rw [okB_rep, Bool.and_eq_true] at hok
    obtain ⟨h1, h2⟩ := hok
    have HREP := Lib.hid (fun V => isreplica_of r n V)
    have HMAY := Lib.hid (fun V => mayB_of x y n V)
    rw [h1] at HREP
    rw [h2] at HMAY
    obtain ⟨B, hB⟩ : ∃ B, nextB ⟨x, y⟩ r n = B := ⟨_, rfl⟩
    obtain ⟨E, hE⟩ : ∃ E, errB ⟨x, y⟩ r n = E := ⟨_, rfl⟩
    rw [hB, hE]
    have hnx : (if roundB ⟨x, y⟩ r ≤ 1099511627776 then (⟨roundB ⟨x, y⟩ r, r⟩ : Bal) else ⟨0, 0⟩) = B := by rw [← hB]; unfold nextB; rw [if_pos (okB_iff.2 hk)]
    have her : (if roundB ⟨x, y⟩ r ≤ 1099511627776 then (0 : Int) else 4) = E := by rw [← hE]; unfold errB; rw [if_pos (okB_iff.2 hk)]
    have HNX := Lib.hid (And.intro hnx her)
    clear h1 h2 hB hE hnx her
    go_enter Try.func5, Try.ntmps5
    go_wp2_with fail
    refine (HREP.out _).mono ?_
    rintro e w1 ⟨rfl, rfl⟩
    go_wp2_with fail
    refine (HMAY.out _).mono ?_
    rintro e w1 ⟨rfl, hx⟩
    have HXA := Lib.hid (HX2.out.trans hx)
    have HR2 := Lib.hid (keep_rowB hx HR2.out)
    have HR1 := Lib.hid (keep_rowB hx HR1.out)
    clear hx
    obtain ⟨b0, hb0⟩ : ∃ b0, w.heap.size = b0 := ⟨_, rfl⟩
    rw [hb0] at HR1 HR2 ⊢
    have HB0 := Lib.hid hb0
    clear hb0
    have hlt1 : b0 + 1 < w1.heap.size := (Array.getElem?_eq_some_iff.1 HR2.out).1
    obtain ⟨nb, hnb⟩ : ∃ nb, w1.heap.size = nb := ⟨_, rfl⟩
    obtain ⟨c0, c1, c2, c3⟩ := bal_row HR1.out
    have q0 := fun ob => (bal_row (keep_rowB ((Ext.refl w1).alloc ob) HR1.out)).1
    have q1 := fun ob => (bal_row (keep_rowB ((Ext.refl w1).alloc ob) HR1.out)).2.1
    have HNEW := Lib.hid (fun ob => heap_alloc_new w1 ob)
    rw [hnb] at HNEW
    by_cases hx0 : x = 0
    · have hy0 : y = 0 := by omega
      have HAN : Hid ((⟨1, r⟩ : Bal) = B ∧ (0 : Int) = E) := Lib.hid (by
        have h1 : roundB ⟨x, y⟩ r = 1 := by unfold roundB; rw [if_pos hx0]
        have := HNX.out
        rw [h1] at this
        exact this)
      have hl : ltB ⟨x, y⟩ ⟨1, r⟩ = true := ltB_iff.2 (.inl (by dsimp only; omega))
      have hx1 : x < 1 := by omega
      have HXN := Lib.hid (HXA.out.alloc (.cells #[.int .i64 1, .int .i64 r] 26))
      have HLS := Lib.hid (less_of x y 1 r (w1.alloc (.cells #[.int .i64 1, .int .i64 r] 26)))
      rw [hl] at HLS
      have HN := Lib.hid (HNEW.out (.cells #[.int .i64 1, .int .i64 r] 26))
      have HR2 := Lib.hid (keep_rowB ((Ext.refl w1).alloc (.cells #[.int .i64 1, .int .i64 r] 26)) HR2.out)
      clear hx0 hy0
      clear hl hk
      go_wp2_with fail
      refine HLS.out.mono ?_
      rintro e w2 ⟨rfl, hx⟩
      have HN := Lib.hid (keep_rowB hx HN.out)
      have HR2 := Lib.hid (keep_rowB hx HR2.out)
      have HXN := Lib.hid (HXN.out.trans hx)
      clear hx q0 q1 c0 c1 c2 c3
      obtain ⟨n0, n1, n2, n3⟩ := bal_row HN.out
      obtain ⟨d0, d1, d2, d3⟩ := bal_row HR2.out
      go_wp2_with fail
      obtain ⟨f0, f1, _, _⟩ := bal_row (bal_store 1 r HR2.out)
      refine bodyPost_ret (v := .tuple #[.agg #[.int .i64 1, .int .i64 r], .int .i64 0]) (by simp [results, Try.results5, go_sem, f0, f1]) rfl ?_
      have hbb := HB0.out
      exact ⟨by rw [← HAN.out.1, ← HAN.out.2], (HXN.out.setCell (p := ⟨b0 + 1, 0, none⟩) (by show w.heap.size ≤ b0 + 1; omega) _).setCell (p := ⟨b0 + 1, 1, none⟩) (by show w.heap.size ≤ b0 + 1; omega) _⟩
    · have hx1 : ¬ x < 1 := by omega
      have hxm : x ≤ 1099511627776 := by omega
      have hgt : ¬ 1099511627776 < x := by omega
      by_cases hyr : y < r
      · have HAN : Hid ((⟨x, r⟩ : Bal) = B ∧ (0 : Int) = E) := Lib.hid (by
          have h1 : roundB ⟨x, y⟩ r = x := by unfold roundB; rw [if_neg hx0, if_pos hyr]
          have := HNX.out
          rw [h1, if_pos hxm, if_pos hxm] at this
          exact this)
        have hl : ltB ⟨x, y⟩ ⟨x, r⟩ = true := ltB_iff.2 (.inr ⟨rfl, hyr⟩)
        have HXN := Lib.hid (HXA.out.alloc (.cells #[.int .i64 x, .int .i64 r] 26))
        have HLS := Lib.hid (less_of x y x r (w1.alloc (.cells #[.int .i64 x, .int .i64 r] 26)))
        rw [hl] at HLS
        have HN := Lib.hid (HNEW.out (.cells #[.int .i64 x, .int .i64 r] 26))
        have HR2 := Lib.hid (keep_rowB ((Ext.refl w1).alloc (.cells #[.int .i64 x, .int .i64 r] 26)) HR2.out)
        clear hx0 hyr
        clear hl hk
        go_wp2_with fail
        refine HLS.out.mono ?_
        rintro e w2 ⟨rfl, hx⟩
        have HN := Lib.hid (keep_rowB hx HN.out)
        have HR2 := Lib.hid (keep_rowB hx HR2.out)
        have HXN := Lib.hid (HXN.out.trans hx)
        clear hx q0 q1 c0 c1 c2 c3
        obtain ⟨n0, n1, n2, n3⟩ := bal_row HN.out
        obtain ⟨d0, d1, d2, d3⟩ := bal_row HR2.out
        go_wp2_with fail
        obtain ⟨f0, f1, _, _⟩ := bal_row (bal_store x r HR2.out)
        refine bodyPost_ret (v := .tuple #[.agg #[.int .i64 x, .int .i64 r], .int .i64 0]) (by simp [results, Try.results5, go_sem, f0, f1]) rfl ?_
        have hbb := HB0.out
        exact ⟨by rw [← HAN.out.1, ← HAN.out.2], (HXN.out.setCell (p := ⟨b0 + 1, 0, none⟩) (by show w.heap.size ≤ b0 + 1; omega) _).setCell (p := ⟨b0 + 1, 1, none⟩) (by show w.heap.size ≤ b0 + 1; omega) _⟩
      · have hl : ltB ⟨x, y⟩ ⟨x, r⟩ = false := ltB_not.2 (by dsimp only; omega)
        have h1 : roundB ⟨x, y⟩ r = x + 1 := by unfold roundB; rw [if_neg hx0, if_neg hyr]
        have HNX2 := HNX.out
        rw [h1] at HNX2
        have HN2 := Lib.hid HNX2
        clear HNX2 h1
        by_cases hm : x + 1 ≤ 1099511627776
        · have hm2 : ¬ 1099511627776 < x + 1 := by omega
          have HAN : Hid ((⟨x + 1, r⟩ : Bal) = B ∧ (0 : Int) = E) := Lib.hid (by
            have := HN2.out
            rw [if_pos hm, if_pos hm] at this
            exact this)
          have HXN := Lib.hid (HXA.out.alloc (.cells #[.int .i64 x, .int .i64 r] 26))
          have HLS := Lib.hid (less_of x y x r (w1.alloc (.cells #[.int .i64 x, .int .i64 r] 26)))
          rw [hl] at HLS
          have HN := Lib.hid (HNEW.out (.cells #[.int .i64 x, .int .i64 r] 26))
          have HR2 := Lib.hid (keep_rowB ((Ext.refl w1).alloc (.cells #[.int .i64 x, .int .i64 r] 26)) HR2.out)
          clear hx0 hyr hm
          clear hl hk
          go_wp2_with fail
          refine HLS.out.mono ?_
          rintro e w2 ⟨rfl, hx⟩
          have HN := Lib.hid (keep_rowB hx HN.out)
          have HR2 := Lib.hid (keep_rowB hx HR2.out)
          have HXN := Lib.hid (HXN.out.trans hx)
          clear hx q0 q1 c0 c1 c2 c3
          obtain ⟨n0, n1, n2, n3⟩ := bal_row HN.out
          obtain ⟨d0, d1, d2, d3⟩ := bal_row HR2.out
          go_wp2_with fail
          have HR2n := Lib.hid (one_stored (v := .int .i64 (x + 1)) (i := 0) (show b0 + 1 ≠ nb by omega) HR2.out)
          obtain ⟨f0, f1, _, _⟩ := bal_row (bal_store (x + 1) r HR2n.out)
          refine bodyPost_ret (v := .tuple #[.agg #[.int .i64 (x + 1), .int .i64 r], .int .i64 0]) (by simp [results, Try.results5, go_sem, f0, f1]) rfl ?_
          have hbb := HB0.out
          exact ⟨by rw [← HAN.out.1, ← HAN.out.2], ((HXN.out.setCell (p := ⟨nb, 0, none⟩) (by show w.heap.size ≤ nb; omega) _).setCell (p := ⟨b0 + 1, 0, none⟩) (by show w.heap.size ≤ b0 + 1; omega) _).setCell (p := ⟨b0 + 1, 1, none⟩) (by show w.heap.size ≤ b0 + 1; omega) _⟩
        · have hm2 : 1099511627776 < x + 1 := by omega
          have HAN : Hid ((⟨0, 0⟩ : Bal) = B ∧ (4 : Int) = E) := Lib.hid (by
            have := HN2.out
            rw [if_neg hm, if_neg hm] at this
            exact this)
          have HXN := Lib.hid (HXA.out.alloc (.cells #[.int .i64 x, .int .i64 r] 26))
          have HLS := Lib.hid (less_of x y x r (w1.alloc (.cells #[.int .i64 x, .int .i64 r] 26)))
          rw [hl] at HLS
          have HN := Lib.hid (HNEW.out (.cells #[.int .i64 x, .int .i64 r] 26))
          have HR2 := Lib.hid (keep_rowB ((Ext.refl w1).alloc (.cells #[.int .i64 x, .int .i64 r] 26)) HR2.out)
          clear hx0 hyr hm
          clear hl hk
          go_wp2_with fail
          refine HLS.out.mono ?_
          rintro e w2 ⟨rfl, hx⟩
          have HN := Lib.hid (keep_rowB hx HN.out)
          have HR2 := Lib.hid (keep_rowB hx HR2.out)
          have HXN := Lib.hid (HXN.out.trans hx)
          clear hx q0 q1 c0 c1 c2 c3
          obtain ⟨n0, n1, n2, n3⟩ := bal_row HN.out
          obtain ⟨d0, d1, d2, d3⟩ := bal_row HR2.out
          go_wp2_with fail
          have HR2n := Lib.hid (one_stored (v := .int .i64 (x + 1)) (i := 0) (show b0 + 1 ≠ nb by omega) HR2.out)
          obtain ⟨f0, f1, _, _⟩ := bal_row (bal_store 0 0 HR2n.out)
          refine bodyPost_ret (v := .tuple #[.agg #[.int .i64 0, .int .i64 0], .int .i64 4]) (by simp [results, Try.results5, go_sem, f0, f1]) rfl ?_
          have hbb := HB0.out
          exact ⟨by rw [← HAN.out.1, ← HAN.out.2], ((HXN.out.setCell (p := ⟨nb, 0, none⟩) (by show w.heap.size ≤ nb; omega) _).setCell (p := ⟨b0 + 1, 0, none⟩) (by show w.heap.size ≤ b0 + 1; omega) _).setCell (p := ⟨b0 + 1, 1, none⟩) (by show w.heap.size ≤ b0 + 1; omega) _⟩
end
section
open Go Go.RowKit
abbrev BC (w : World) (g : Nat) (x y : Int) : Prop := w.cell? ⟨g, 0, none⟩ = some (.int .i64 x) ∧ w.cell? ⟨g, 1, none⟩ = some (.int .i64 y)
theorem BC.ext {w w' : World} {g : Nat} {x y : Int} (hx : Ext w w') (h : BC w g x y) : BC w' g x y := ⟨ext_of_cellB hx h.1, ext_of_cellB hx h.2⟩
theorem BC.new (w : World) (x y : Int) (t : TypeId) : BC (w.alloc (.cells #[.int .i64 x, .int .i64 y] t)) w.heap.size x y := bal_one w x y t
theorem bal_eql (x y x' y' : Int) (w : World) : (binOp .eql 26 (.agg #[.int .i64 x, .int .i64 y]) (.agg #[.int .i64 x', .int .i64 y'])).run Try.prog w = .ok (.bool (decide (x = x' ∧ y = y'))) w := by
  have hf : Try.prog.stoodInHeld 26 = false := by kernel_rfl
  have hu := Try.underlying26
  rw [run_eql_struct, run_equalIn_agg _ _ _ _ _ (by rw [Program.fieldsOf, hu]) hf, Program.fieldsOf, hu]
  simp [Op.eqFields, go_sem]
  by_cases h1 : x = x'
  · by_cases h2 : y = y'
    · simp [h1, h2]
    · simp [h1, h2]
  · simp [h1]
theorem ballot_guard : Try.prog.eqGuardType Try.prog.depth 26 = false := by kernel_rfl
end
section
open Go Go.RowKit
theorem flat_get {α : Type} {cells : α → List Value} {N : Nat} (hN : ∀ a, (cells a).length = N) (h0 : 0 < N) : ∀ (l : List α) (k j : Nat), j < N → (l.flatMap cells)[k * N + j]? = (l[k]?).bind fun a => (cells a)[j]?
  | [], k, j, _ => by simp
  | a :: l, 0, j, hj => by
    rw [List.flatMap_cons, List.getElem?_append_left (by rw [hN]; omega)]
    simp
  | a :: l, k + 1, j, hj => by
    rw [List.flatMap_cons, List.getElem?_append_right (by rw [hN, Nat.succ_mul]; omega), hN, show (k + 1) * N + j - N = k * N + j by rw [Nat.succ_mul]; omega, flat_get hN h0 l k j hj]
    simp
end
section
open Go Go.RowKit
theorem bof_of (x y : Int) (w : World) : Calls Try.prog 7 #[.int .i64 x, .int .i64 y] w fun e w' => e = .returned (.agg #[.int .i64 x, .int .i64 y]) ∧ Ext w w' := by
  obtain ⟨f0, f1⟩ := bal_one w x y 26
  go_enter Try.func7, Try.ntmps7
  go_wp2_with fail
  refine bodyPost_ret (v := .agg #[.int .i64 x, .int .i64 y]) (by simp [results, Try.results7, go_sem, f0, f1]) rfl ?_
  exact ⟨rfl, (Ext.refl w).alloc _⟩
theorem nextB_lit (x y r n zx zy e : Int) (h : (nextB ⟨x, y⟩ r n).x = zx ∧ (nextB ⟨x, y⟩ r n).y = zy ∧ errB ⟨x, y⟩ r n = e) (w : World) : Calls Try.prog 5 #[.agg #[.int .i64 x, .int .i64 y], .int .i64 r, .int .i64 n] w fun e' w' => e' = .returned (.tuple #[.agg #[.int .i64 zx, .int .i64 zy], .int .i64 e]) ∧ Ext w w' := by
  have := nextB_of x y r n w
  rw [h.1, h.2.1, h.2.2] at this
  exact this
theorem less_lit (x y x' y' : Int) (b : Bool) (h : ltB ⟨x, y⟩ ⟨x', y'⟩ = b) (w : World) : Calls Try.prog 6 #[.agg #[.int .i64 x, .int .i64 y], .agg #[.int .i64 x', .int .i64 y']] w fun e w' => e = .returned (.bool b) ∧ Ext w w' := by
  have := less_of x y x' y' w
  rw [h] at this
  exact this
set_option maxHeartbeats 600000 in
theorem bnext_yes (x y r zx zy : Int) (h : (nextB ⟨x, y⟩ r 3).x = zx ∧ (nextB ⟨x, y⟩ r 3).y = zy ∧ errB ⟨x, y⟩ r 3 = 0) (w : World) : Calls Try.prog 9 #[.agg #[.int .i64 x, .int .i64 y], .int .i64 r, .agg #[.int .i64 zx, .int .i64 zy]] w fun e w' => e = .returned (.bool true) ∧ Ext w w' := by
  have HN := Lib.hid (fun V => nextB_lit x y r 3 zx zy 0 h V)
  have hq := bal_eql zx zy zx zy
  rw [decide_eq_true (p := zx = zx ∧ zy = zy) ⟨rfl, rfl⟩] at hq
  have hg := ballot_guard
  have HX := Lib.hid (((Ext.refl w).alloc (.cells #[.int .i64 x, .int .i64 y] 26)).alloc (.cells #[.int .i64 zx, .int .i64 zy] 26))
  have hn := BC.new (w.alloc (.cells #[.int .i64 x, .int .i64 y] 26)) zx zy 26
  have e1 : (w.alloc (.cells #[.int .i64 x, .int .i64 y] 26)).heap.size = w.heap.size + 1 := by simp
  rw [e1] at hn
  have HZ := Lib.hid hn
  clear h hn e1
  go_enter Try.func9, Try.ntmps9
  go_wp2_with fail
  refine (HN.out _).mono ?_
  rintro e w1 ⟨rfl, hx⟩
  have HZ := Lib.hid (BC.ext (hx.alloc (.cells #[.int .i64 zx, .int .i64 zy] 26)) HZ.out)
  have HX := Lib.hid ((HX.out.trans hx).alloc (.cells #[.int .i64 zx, .int .i64 zy] 26))
  obtain ⟨c0, c1⟩ := HZ.out
  obtain ⟨d0, d1⟩ := BC.new w1 zx zy 26
  clear hx
  go_wp2_with fail
  go_ret
  exact ⟨rfl, HX.out⟩
theorem ls_rowB {w : World} {b : Nat} {cs : Array Value} {t : TypeId} (l : List Bal) (hl : (l.flatMap Bal.cells).toArray = cs) (hlen : l.length ≤ 1000) (h : w.heap[b]? = some (.cells cs t (0, 0))) : Ls Bal.cells 2 w w.heap.size (some ⟨b, 0, none⟩) l.length l.length l := by
  refine ⟨rfl, Nat.le_refl _, by omega, fun _ => ⟨b, 0, rfl, (Array.getElem?_eq_some_iff.1 h).1, fun j a ha k v hv => ?_⟩, fun e => by cases e⟩
  have hk : k < 2 := by have := (List.getElem?_eq_some_iff.1 hv).1; exact this
  rw [Nat.zero_add, cell_of_row w b _ _ _ _ h, ← hl, List.getElem?_toArray, flat_get (cells := Bal.cells) (fun _ => rfl) (by omega) l j k hk, ha]
  exact hv
theorem max3_lit (w : World) : Calls Try.prog 8 #[.slice (some ⟨w.heap.size, 0, none⟩) 3 3] (w.alloc (.cells #[.int .i64 1, .int .i64 2, .int .i64 2, .int .i64 0, .int .i64 1, .int .i64 0] 26)) fun e w' => e = .returned (.agg #[.int .i64 2, .int .i64 0]) ∧ Ext w w' := by
  have hl := ls_rowB (t := 26) [⟨1, 2⟩, ⟨2, 0⟩, ⟨1, 0⟩] rfl (by decide) (heap_alloc_new w (.cells #[.int .i64 1, .int .i64 2, .int .i64 2, .int .i64 0, .int .i64 1, .int .i64 0] 26))
  have := maxB_of _ _ _ _ _ hl
  have e : maxB [⟨1, 2⟩, ⟨2, 0⟩, ⟨1, 0⟩] = ⟨2, 0⟩ := rfl
  rw [e] at this
  exact this.mono fun _ _ ⟨h, hx⟩ => ⟨h, ((Ext.refl w).alloc _).trans hx⟩
theorem max0_lit (w : World) : Calls Try.prog 8 #[.slice none 0 0] w fun e w' => e = .returned (.agg #[.int .i64 0, .int .i64 0]) ∧ Ext w w' :=
  maxB_of none 0 0 [] w ⟨rfl, Nat.le_refl _, by omega, fun h => absurd h (Nat.not_lt_zero _), fun _ => rfl⟩
set_option maxHeartbeats 3200000 in
theorem bawake_any (w : World) : Calls Try.prog 4 #[] w fun e w' => e = .returned (.bool true) ∧ Ext w w' := by
  have hq2 := bal_eql 2 0 2 0
  rw [decide_eq_true (p := (2 : Int) = 2 ∧ (0 : Int) = 0) ⟨rfl, rfl⟩] at hq2
  have hq0 := bal_eql 0 0 0 0
  rw [decide_eq_true (p := (0 : Int) = 0 ∧ (0 : Int) = 0) ⟨rfl, rfl⟩] at hq0
  have hg := ballot_guard
  have HX := Lib.hid (Ext.refl w)
  go_enter Try.func4, Try.ntmps4
  go_wp2_with fail
  refine (bof_of 0 0 _).mono ?_
  rintro e w1 ⟨rfl, hx⟩
  have HX := Lib.hid (HX.out.trans (by first | exact hx | exact ((Ext.refl _).alloc _).trans hx))
  clear hx
  go_wp2_with fail
  refine (nextB_lit 0 0 3 3 0 0 2 (by decide +kernel) _).mono ?_
  rintro e w2 ⟨rfl, hx⟩
  have HX := Lib.hid (HX.out.trans (by first | exact hx | exact ((Ext.refl _).alloc _).trans hx))
  clear hx
  go_wp2_with fail
  refine (bof_of 0 0 _).mono ?_
  rintro e w3 ⟨rfl, hx⟩
  have HX := Lib.hid (HX.out.trans (by first | exact hx | exact ((Ext.refl _).alloc _).trans hx))
  clear hx
  go_wp2_with fail
  refine (nextB_lit 0 0 0 4 0 0 2 (by decide +kernel) _).mono ?_
  rintro e w4 ⟨rfl, hx⟩
  have HX := Lib.hid (HX.out.trans (by first | exact hx | exact ((Ext.refl _).alloc _).trans hx))
  clear hx
  go_wp2_with fail
  refine (bof_of 1099511627776 1 _).mono ?_
  rintro e w5 ⟨rfl, hx⟩
  have HX := Lib.hid (HX.out.trans (by first | exact hx | exact ((Ext.refl _).alloc _).trans hx))
  clear hx
  go_wp2_with fail
  refine (nextB_lit 1099511627776 1 0 3 0 0 4 (by decide +kernel) _).mono ?_
  rintro e w6 ⟨rfl, hx⟩
  have HX := Lib.hid (HX.out.trans (by first | exact hx | exact ((Ext.refl _).alloc _).trans hx))
  clear hx
  go_wp2_with fail
  refine (bof_of 1 2 _).mono ?_
  rintro e w7 ⟨rfl, hx⟩
  have HX := Lib.hid (HX.out.trans (by first | exact hx | exact ((Ext.refl _).alloc _).trans hx))
  clear hx
  go_wp2_with fail
  refine (bof_of 2 0 _).mono ?_
  rintro e w8 ⟨rfl, hx⟩
  have HX := Lib.hid (HX.out.trans (by first | exact hx | exact ((Ext.refl _).alloc _).trans hx))
  clear hx
  go_wp2_with fail
  refine (less_lit 1 2 2 0 true (by decide +kernel) _).mono ?_
  rintro e w9 ⟨rfl, hx⟩
  have HX := Lib.hid (HX.out.trans (by first | exact hx | exact ((Ext.refl _).alloc _).trans hx))
  clear hx
  go_wp2_with fail
  refine (bof_of 2 0 _).mono ?_
  rintro e w10 ⟨rfl, hx⟩
  have HX := Lib.hid (HX.out.trans (by first | exact hx | exact ((Ext.refl _).alloc _).trans hx))
  clear hx
  go_wp2_with fail
  refine (bof_of 1 2 _).mono ?_
  rintro e w11 ⟨rfl, hx⟩
  have HX := Lib.hid (HX.out.trans (by first | exact hx | exact ((Ext.refl _).alloc _).trans hx))
  clear hx
  go_wp2_with fail
  refine (less_lit 2 0 1 2 false (by decide +kernel) _).mono ?_
  rintro e w12 ⟨rfl, hx⟩
  have HX := Lib.hid (HX.out.trans (by first | exact hx | exact ((Ext.refl _).alloc _).trans hx))
  clear hx
  go_wp2_with fail
  refine (bof_of 1 0 _).mono ?_
  rintro e w13 ⟨rfl, hx⟩
  have HX := Lib.hid (HX.out.trans (by first | exact hx | exact ((Ext.refl _).alloc _).trans hx))
  clear hx
  go_wp2_with fail
  refine (bof_of 1 2 _).mono ?_
  rintro e w14 ⟨rfl, hx⟩
  have HX := Lib.hid (HX.out.trans (by first | exact hx | exact ((Ext.refl _).alloc _).trans hx))
  clear hx
  go_wp2_with fail
  refine (less_lit 1 0 1 2 true (by decide +kernel) _).mono ?_
  rintro e w15 ⟨rfl, hx⟩
  have HX := Lib.hid (HX.out.trans (by first | exact hx | exact ((Ext.refl _).alloc _).trans hx))
  clear hx
  go_wp2_with fail
  refine (bof_of 0 0 _).mono ?_
  rintro e w16 ⟨rfl, hx⟩
  have HX := Lib.hid (HX.out.trans (by first | exact hx | exact ((Ext.refl _).alloc _).trans hx))
  clear hx
  go_wp2_with fail
  refine (bof_of 1 0 _).mono ?_
  rintro e w17 ⟨rfl, hx⟩
  have HX := Lib.hid (HX.out.trans (by first | exact hx | exact ((Ext.refl _).alloc _).trans hx))
  clear hx
  go_wp2_with fail
  refine (less_lit 0 0 1 0 true (by decide +kernel) _).mono ?_
  rintro e w18 ⟨rfl, hx⟩
  have HX := Lib.hid (HX.out.trans (by first | exact hx | exact ((Ext.refl _).alloc _).trans hx))
  clear hx
  go_wp2_with fail
  refine (bof_of 1 2 _).mono ?_
  rintro e w19 ⟨rfl, hx⟩
  have HX := Lib.hid (HX.out.trans (by first | exact hx | exact ((Ext.refl _).alloc _).trans hx))
  clear hx
  go_wp2_with fail
  refine (bof_of 2 0 _).mono ?_
  rintro e w20 ⟨rfl, hx⟩
  have HX := Lib.hid (HX.out.trans (by first | exact hx | exact ((Ext.refl _).alloc _).trans hx))
  clear hx
  go_wp2_with fail
  refine (bof_of 1 0 _).mono ?_
  rintro e w21 ⟨rfl, hx⟩
  have HX := Lib.hid (HX.out.trans (by first | exact hx | exact ((Ext.refl _).alloc _).trans hx))
  clear hx
  go_wp2_with fail
  refine (max3_lit _).mono ?_
  rintro e w22 ⟨rfl, hx⟩
  have HX := Lib.hid (HX.out.trans (by first | exact hx | exact ((Ext.refl _).alloc _).trans hx))
  clear hx
  go_wp2_with fail
  refine (bof_of 2 0 _).mono ?_
  rintro e w23 ⟨rfl, hx⟩
  have HX := Lib.hid (HX.out.trans (by first | exact hx | exact ((Ext.refl _).alloc _).trans hx))
  clear hx
  go_wp2_with fail
  refine (max0_lit _).mono ?_
  rintro e w24 ⟨rfl, hx⟩
  have HX := Lib.hid (HX.out.trans (by first | exact hx | exact ((Ext.refl _).alloc _).trans hx))
  clear hx
  go_wp2_with fail
  refine (bof_of 0 0 _).mono ?_
  rintro e w25 ⟨rfl, hx⟩
  have HX := Lib.hid (HX.out.trans (by first | exact hx | exact ((Ext.refl _).alloc _).trans hx))
  clear hx
  go_wp2_with fail
  refine (bof_of 0 0 _).mono ?_
  rintro e w26 ⟨rfl, hx⟩
  have HX := Lib.hid (HX.out.trans (by first | exact hx | exact ((Ext.refl _).alloc _).trans hx))
  clear hx
  go_wp2_with fail
  refine (bof_of 1 0 _).mono ?_
  rintro e w27 ⟨rfl, hx⟩
  have HX := Lib.hid (HX.out.trans (by first | exact hx | exact ((Ext.refl _).alloc _).trans hx))
  clear hx
  go_wp2_with fail
  refine (bnext_yes 0 0 0 1 0 (by decide +kernel) _).mono ?_
  rintro e w28 ⟨rfl, hx⟩
  have HX := Lib.hid (HX.out.trans (by first | exact hx | exact ((Ext.refl _).alloc _).trans hx))
  clear hx
  go_wp2_with fail
  refine (bof_of 0 0 _).mono ?_
  rintro e w29 ⟨rfl, hx⟩
  have HX := Lib.hid (HX.out.trans (by first | exact hx | exact ((Ext.refl _).alloc _).trans hx))
  clear hx
  go_wp2_with fail
  refine (bof_of 1 2 _).mono ?_
  rintro e w30 ⟨rfl, hx⟩
  have HX := Lib.hid (HX.out.trans (by first | exact hx | exact ((Ext.refl _).alloc _).trans hx))
  clear hx
  go_wp2_with fail
  refine (bnext_yes 0 0 2 1 2 (by decide +kernel) _).mono ?_
  rintro e w31 ⟨rfl, hx⟩
  have HX := Lib.hid (HX.out.trans (by first | exact hx | exact ((Ext.refl _).alloc _).trans hx))
  clear hx
  go_wp2_with fail
  refine (bof_of 4 1 _).mono ?_
  rintro e w32 ⟨rfl, hx⟩
  have HX := Lib.hid (HX.out.trans (by first | exact hx | exact ((Ext.refl _).alloc _).trans hx))
  clear hx
  go_wp2_with fail
  refine (bof_of 4 2 _).mono ?_
  rintro e w33 ⟨rfl, hx⟩
  have HX := Lib.hid (HX.out.trans (by first | exact hx | exact ((Ext.refl _).alloc _).trans hx))
  clear hx
  go_wp2_with fail
  refine (bnext_yes 4 1 2 4 2 (by decide +kernel) _).mono ?_
  rintro e w34 ⟨rfl, hx⟩
  have HX := Lib.hid (HX.out.trans (by first | exact hx | exact ((Ext.refl _).alloc _).trans hx))
  clear hx
  go_wp2_with fail
  refine (bof_of 4 1 _).mono ?_
  rintro e w35 ⟨rfl, hx⟩
  have HX := Lib.hid (HX.out.trans (by first | exact hx | exact ((Ext.refl _).alloc _).trans hx))
  clear hx
  go_wp2_with fail
  refine (bof_of 5 1 _).mono ?_
  rintro e w36 ⟨rfl, hx⟩
  have HX := Lib.hid (HX.out.trans (by first | exact hx | exact ((Ext.refl _).alloc _).trans hx))
  clear hx
  go_wp2_with fail
  refine (bnext_yes 4 1 1 5 1 (by decide +kernel) _).mono ?_
  rintro e w37 ⟨rfl, hx⟩
  have HX := Lib.hid (HX.out.trans (by first | exact hx | exact ((Ext.refl _).alloc _).trans hx))
  clear hx
  go_wp2_with fail
  refine (bof_of 4 1 _).mono ?_
  rintro e w38 ⟨rfl, hx⟩
  have HX := Lib.hid (HX.out.trans (by first | exact hx | exact ((Ext.refl _).alloc _).trans hx))
  clear hx
  go_wp2_with fail
  refine (bof_of 5 0 _).mono ?_
  rintro e w39 ⟨rfl, hx⟩
  have HX := Lib.hid (HX.out.trans (by first | exact hx | exact ((Ext.refl _).alloc _).trans hx))
  clear hx
  go_wp2_with fail
  refine (bnext_yes 4 1 0 5 0 (by decide +kernel) _).mono ?_
  rintro e w40 ⟨rfl, hx⟩
  have HX := Lib.hid (HX.out.trans (by first | exact hx | exact ((Ext.refl _).alloc _).trans hx))
  clear hx
  go_wp2_with fail
  go_ret
  exact ⟨rfl, HX.out⟩
end
section
open Go Go.RowKit
theorem next_facts {b : Bal} {i n : Int} (h : errB b i n = 0) : mayB_ (nextB b i n) n = true ∧ (nextB b i n).y = i ∧ 1 ≤ (nextB b i n).x ∧ (nextB b i n).x ≤ 1099511627776 ∧ ltB b (nextB b i n) = true ∧ (1 < (nextB b i n).x → ltB b ⟨(nextB b i n).x - 1, i⟩ = false) := by
  unfold errB at h
  unfold nextB
  by_cases hok : okB b i n = true
  · rw [if_pos hok] at h ⊢
    have hk := okB_iff.1 hok
    by_cases hr : roundB b i ≤ 1099511627776
    · rw [if_pos hr]
      dsimp only
      have hcase : (b.x = 0 ∧ b.y = 0 ∧ roundB b i = 1) ∨ (1 ≤ b.x ∧ b.y < i ∧ roundB b i = b.x) ∨ (1 ≤ b.x ∧ i ≤ b.y ∧ roundB b i = b.x + 1) := by
        unfold roundB
        by_cases h0 : b.x = 0
        · rw [if_pos h0]; omega
        · rw [if_neg h0]
          by_cases h1 : b.y < i
          · rw [if_pos h1]; omega
          · rw [if_neg h1]; omega
      refine ⟨mayB_iff.2 ⟨hk.1.1, .inr (by dsimp only; omega)⟩, rfl, by omega, hr, ltB_iff.2 (by dsimp only; omega), fun h1 => ltB_not.2 (by dsimp only; omega)⟩
    · rw [if_neg hr] at h
      omega
  · rw [if_neg hok] at h
    omega
end
end Go.Proofs.Ytgcinagkbdcgiab
