/-
  The contract of the document's Next of ballots.
-/
import Derived.Test.YtgcinagkbdcgiaaB00
import Derived.Test.YtgcinagkbdcgiaaB01
import Derived.Test.YtgcinagkbdcgiaaB03
namespace Go.Proofs.Ytgcinagkbdcgiaa
set_option maxRecDepth 100000
section
open Go Go.RowKit
set_option maxHeartbeats 1200000 in
theorem rnextB_of (x y r n : Int) (w : World) : Calls Try.prog 29 #[.agg #[.int .i64 x, .int .i64 y], .int .i64 r, .int .i64 n] w fun e w' => e = .returned (.tuple #[.agg #[.int .i64 (nextB ⟨x, y⟩ r n).x, .int .i64 (nextB ⟨x, y⟩ r n).y], .int .i64 (errB ⟨x, y⟩ r n)]) ∧ Ext w w' := by
  have HX2 := Lib.hid (((Ext.refl w).alloc (.cells #[.int .i64 x, .int .i64 y] 50)).alloc (.cells #[.int .i64 0, .int .i64 0] 50))
  have hrow := heap_alloc_new w (.cells #[.int .i64 x, .int .i64 y] 50)
  have hrow2 := heap_alloc_new (w.alloc (.cells #[.int .i64 x, .int .i64 y] 50)) (.cells #[.int .i64 0, .int .i64 0] 50)
  have hrow1 := keep_rowB ((Ext.refl (w.alloc (.cells #[.int .i64 x, .int .i64 y] 50))).alloc (.cells #[.int .i64 0, .int .i64 0] 50)) hrow
  have e1 : (w.alloc (.cells #[.int .i64 x, .int .i64 y] 50)).heap.size = w.heap.size + 1 := by simp
  rw [e1] at hrow2
  have HR1 := Lib.hid hrow1
  have HR2 := Lib.hid hrow2
  have HMAY := Lib.hid (fun V => rmay_of x y n V)
  obtain ⟨B, hB⟩ : ∃ B, nextB ⟨x, y⟩ r n = B := ⟨_, rfl⟩
  obtain ⟨E, hE⟩ : ∃ E, errB ⟨x, y⟩ r n = E := ⟨_, rfl⟩
  rw [hB, hE]
  have hfst : (if okB ⟨x, y⟩ r n = true then (if roundB ⟨x, y⟩ r ≤ 1099511627776 then (⟨roundB ⟨x, y⟩ r, r⟩ : Bal) else ⟨0, 0⟩) else ⟨0, 0⟩) = B := hB
  have hsnd : (if okB ⟨x, y⟩ r n = true then (if roundB ⟨x, y⟩ r ≤ 1099511627776 then (0 : Int) else 4) else 2) = E := hE
  have HNX := Lib.hid (And.intro hfst hsnd)
  clear hrow hrow1 hrow2 e1 hB hE hfst hsnd
  by_cases hok : okB ⟨x, y⟩ r n = true
  case neg =>
    have HAN : Hid ((⟨0, 0⟩ : Bal) = B ∧ (2 : Int) = E) := Lib.hid (by
      have := HNX.out
      rw [if_neg hok, if_neg hok] at this
      exact this)
    have hok2 : ¬ (mayB_ ⟨x, y⟩ n = true ∧ 0 ≤ r ∧ r < n) := fun h => hok (by unfold okB; rw [h.1, Bool.true_and]; exact decide_eq_true h.2)
    clear hok
    cases hm : mayB_ ⟨x, y⟩ n with
    | false =>
      rw [hm] at HMAY
      clear hok2 hm
      go_enter Try.func29, Try.ntmps29
      go_wp2_with fail
      refine (HMAY.out _).mono ?_
      rintro e w1 ⟨rfl, hx⟩
      have HXA := Lib.hid (HX2.out.trans hx)
      have HR2 := Lib.hid (keep_rowB hx HR2.out)
      obtain ⟨d0, d1, d2, d3⟩ := bal_row HR2.out
      clear hx
      go_wp2_with fail
      obtain ⟨f0, f1, _, _⟩ := bal_row (bal_store 0 0 HR2.out)
      refine bodyPost_ret (v := .tuple #[.agg #[.int .i64 0, .int .i64 0], .int .i64 2]) (by simp [results, Try.results29, go_sem, f0, f1]) rfl ?_
      exact ⟨by rw [← HAN.out.1, ← HAN.out.2], (HXA.out.setCell (p := ⟨w.heap.size + 1, 0, none⟩) (by show w.heap.size ≤ w.heap.size + 1; omega) _).setCell (p := ⟨w.heap.size + 1, 1, none⟩) (by show w.heap.size ≤ w.heap.size + 1; omega) _⟩
    | true =>
      rw [hm] at HMAY hok2
      have hor : r < 0 ∨ (¬ r < 0 ∧ n ≤ r) := by
        by_cases h0 : r < 0
        · exact .inl h0
        · exact .inr ⟨h0, by
            by_cases h1 : r < n
            · exact absurd ⟨rfl, by omega, h1⟩ hok2
            · omega⟩
      clear hok2 hm
      rcases hor with h0 | ⟨h0, h1⟩
      all_goals
        go_enter Try.func29, Try.ntmps29
        go_wp2_with fail
        refine (HMAY.out _).mono ?_
        rintro e w1 ⟨rfl, hx⟩
        have HXA := Lib.hid (HX2.out.trans hx)
        have HR2 := Lib.hid (keep_rowB hx HR2.out)
        obtain ⟨d0, d1, d2, d3⟩ := bal_row HR2.out
        clear hx
        go_wp2_with fail
        obtain ⟨f0, f1, _, _⟩ := bal_row (bal_store 0 0 HR2.out)
        refine bodyPost_ret (v := .tuple #[.agg #[.int .i64 0, .int .i64 0], .int .i64 2]) (by simp [results, Try.results29, go_sem, f0, f1]) rfl ?_
        exact ⟨by rw [← HAN.out.1, ← HAN.out.2], (HXA.out.setCell (p := ⟨w.heap.size + 1, 0, none⟩) (by show w.heap.size ≤ w.heap.size + 1; omega) _).setCell (p := ⟨w.heap.size + 1, 1, none⟩) (by show w.heap.size ≤ w.heap.size + 1; omega) _⟩
  case pos =>
    have hk := okB_iff.1 hok
    dsimp only at hk
    have hmm : mayB_ ⟨x, y⟩ n = true := mayB_iff.2 hk.1
    rw [hmm] at HMAY
    have hnx := HNX.out
    rw [if_pos hok, if_pos hok] at hnx
    have HNX := Lib.hid hnx
    have hr0 : ¬ r < 0 := by omega
    have hrn : ¬ n ≤ r := by omega
    have hxm : x ≤ 1099511627776 := by omega
    have hx00 : 0 ≤ x := by omega
    clear hok hmm hnx
    go_enter Try.func29, Try.ntmps29
    go_wp2_with fail
    refine (HMAY.out _).mono ?_
    rintro e w1 ⟨rfl, hx⟩
    have HXA := Lib.hid (HX2.out.trans hx)
    replace HR2 := Lib.hid (keep_rowB hx HR2.out)
    replace HR1 := Lib.hid (keep_rowB hx HR1.out)
    clear hx
    obtain ⟨b0, hb0⟩ : ∃ b0, w.heap.size = b0 := ⟨_, rfl⟩
    rw [hb0] at HR1 HR2 ⊢
    have HB0 := Lib.hid hb0
    clear hb0
    have hlt1 : b0 + 1 < w1.heap.size := (Array.getElem?_eq_some_iff.1 HR2.out).1
    obtain ⟨c0, c1, c2, c3⟩ := bal_row HR1.out
    have q0 := fun ob => (bal_row (keep_rowB ((Ext.refl w1).alloc ob) HR1.out)).1
    have q1 := fun ob => (bal_row (keep_rowB ((Ext.refl w1).alloc ob) HR1.out)).2.1
    by_cases hx0 : x = 0
    · have hy0 : y = 0 := by omega
      subst hx0 hy0
      have HAN : Hid ((⟨1, r⟩ : Bal) = B ∧ (0 : Int) = E) := Lib.hid (by
        have h1 : roundB ⟨0, 0⟩ r = 1 := rfl
        have := HNX.out
        rw [h1] at this
        exact this)
      have hl : ltB ⟨0, 0⟩ ⟨1, r⟩ = true := ltB_iff.2 (.inl (by dsimp only; omega))
      have qq0 := fun ob ob' => (bal_row (keep_rowB (((Ext.refl w1).alloc ob).alloc ob') HR1.out)).1
      have qq1 := fun ob ob' => (bal_row (keep_rowB (((Ext.refl w1).alloc ob).alloc ob') HR1.out)).2.1
      go_wp2_with fail
      refine wp_loop_rounds 3 ?_
      rw [rounds_succ]
      go_wp2_with fail
      rw [rounds_succ]
      have hsz : (w1.alloc (.cells #[.int .i64 0, .int .i64 r] 50)).heap.size = w1.heap.size + 1 := by simp
      have hn := heap_alloc_new (w1.alloc (.cells #[.int .i64 0, .int .i64 r] 50)) (.cells #[.int .i64 1, .int .i64 r] 50)
      rw [hsz] at hn
      have HN := Lib.hid hn
      have HR1 := Lib.hid (keep_rowB (((Ext.refl w1).alloc (.cells #[.int .i64 0, .int .i64 r] 50)).alloc (.cells #[.int .i64 1, .int .i64 r] 50)) HR1.out)
      have HR2 := Lib.hid (keep_rowB (((Ext.refl w1).alloc (.cells #[.int .i64 0, .int .i64 r] 50)).alloc (.cells #[.int .i64 1, .int .i64 r] 50)) HR2.out)
      have HXA := Lib.hid ((HXA.out.alloc (.cells #[.int .i64 0, .int .i64 r] 50)).alloc (.cells #[.int .i64 1, .int .i64 r] 50))
      clear hsz hn
      have HLS := Lib.hid (rless_of 0 0 1 r ((w1.alloc (.cells #[.int .i64 0, .int .i64 r] 50)).alloc (.cells #[.int .i64 1, .int .i64 r] 50)))
      rw [hl] at HLS
      clear hl
      go_wp2_with fail
      refine HLS.out.mono ?_
      rintro e w2 ⟨rfl, hx⟩
      have HN := Lib.hid (keep_rowB hx HN.out)
      have HR1 := Lib.hid (keep_rowB hx HR1.out)
      have HR2 := Lib.hid (keep_rowB hx HR2.out)
      have HXA := Lib.hid (HXA.out.trans hx)
      clear hx q0 q1 qq0 qq1 c0 c1 c2 c3
      obtain ⟨n0, n1, n2, n3⟩ := bal_row HN.out
      obtain ⟨d0, d1, d2, d3⟩ := bal_row HR2.out
      go_wp2_with fail
      obtain ⟨f0, f1, _, _⟩ := bal_row (bal_store (1) r HR2.out)
      refine bodyPost_ret (v := .tuple #[.agg #[.int .i64 (1), .int .i64 r], .int .i64 0]) (by simp [results, Try.results29, go_sem, f0, f1]) rfl ?_
      have hbb := HB0.out
      exact ⟨by rw [← HAN.out.1, ← HAN.out.2], (HXA.out.setCell (p := ⟨b0 + 1, 0, none⟩) (by show w.heap.size ≤ b0 + 1; omega) _).setCell (p := ⟨b0 + 1, 1, none⟩) (by show w.heap.size ≤ b0 + 1; omega) _⟩
    · have hx1 : 1 ≤ x := by omega
      have hgt : ¬ 1099511627776 < x := by omega
      clear hx00
      by_cases hyr : y < r
      · have HAN : Hid ((⟨x, r⟩ : Bal) = B ∧ (0 : Int) = E) := Lib.hid (by
          have h1 : roundB ⟨x, y⟩ r = x := by unfold roundB; rw [if_neg hx0, if_pos hyr]
          have := HNX.out
          rw [h1, if_pos hxm, if_pos hxm] at this
          exact this)
        have hl : ltB ⟨x, y⟩ ⟨x, r⟩ = true := ltB_iff.2 (.inr ⟨rfl, hyr⟩)
        clear hx0 hyr hk
        go_wp2_with fail
        refine wp_loop_rounds 3 ?_
        rw [rounds_succ]
        have HN := Lib.hid (heap_alloc_new w1 (.cells #[.int .i64 x, .int .i64 r] 50))
        have HR1 := Lib.hid (keep_rowB ((Ext.refl w1).alloc (.cells #[.int .i64 x, .int .i64 r] 50)) HR1.out)
        have HR2 := Lib.hid (keep_rowB ((Ext.refl w1).alloc (.cells #[.int .i64 x, .int .i64 r] 50)) HR2.out)
        have HXA := Lib.hid (HXA.out.alloc (.cells #[.int .i64 x, .int .i64 r] 50))
        have HLS := Lib.hid (rless_of x y x r (w1.alloc (.cells #[.int .i64 x, .int .i64 r] 50)))
        rw [hl] at HLS
        clear hl
        go_wp2_with fail
        refine HLS.out.mono ?_
        rintro e w2 ⟨rfl, hx⟩
        have HN := Lib.hid (keep_rowB hx HN.out)
        have HR1 := Lib.hid (keep_rowB hx HR1.out)
        have HR2 := Lib.hid (keep_rowB hx HR2.out)
        have HXA := Lib.hid (HXA.out.trans hx)
        clear hx q0 q1 c0 c1 c2 c3
        obtain ⟨n0, n1, n2, n3⟩ := bal_row HN.out
        obtain ⟨d0, d1, d2, d3⟩ := bal_row HR2.out
        go_wp2_with fail
        obtain ⟨f0, f1, _, _⟩ := bal_row (bal_store (x) r HR2.out)
        refine bodyPost_ret (v := .tuple #[.agg #[.int .i64 (x), .int .i64 r], .int .i64 0]) (by simp [results, Try.results29, go_sem, f0, f1]) rfl ?_
        have hbb := HB0.out
        exact ⟨by rw [← HAN.out.1, ← HAN.out.2], (HXA.out.setCell (p := ⟨b0 + 1, 0, none⟩) (by show w.heap.size ≤ b0 + 1; omega) _).setCell (p := ⟨b0 + 1, 1, none⟩) (by show w.heap.size ≤ b0 + 1; omega) _⟩
      · have hl : ltB ⟨x, y⟩ ⟨x, r⟩ = false := ltB_not.2 (by dsimp only; omega)
        have h1 : roundB ⟨x, y⟩ r = x + 1 := by unfold roundB; rw [if_neg hx0, if_neg hyr]
        have HNX2 := HNX.out
        rw [h1] at HNX2
        have HN2 := Lib.hid HNX2
        have hl2 : ltB ⟨x, y⟩ ⟨x + 1, r⟩ = true := ltB_iff.2 (.inl (by dsimp only; omega))
        clear HNX2 h1 hx0 hyr hk
        go_wp2_with fail
        refine wp_loop_rounds 3 ?_
        rw [rounds_succ]
        have HN := Lib.hid (heap_alloc_new w1 (.cells #[.int .i64 x, .int .i64 r] 50))
        have HR1 := Lib.hid (keep_rowB ((Ext.refl w1).alloc (.cells #[.int .i64 x, .int .i64 r] 50)) HR1.out)
        have HR2 := Lib.hid (keep_rowB ((Ext.refl w1).alloc (.cells #[.int .i64 x, .int .i64 r] 50)) HR2.out)
        have HXA := Lib.hid (HXA.out.alloc (.cells #[.int .i64 x, .int .i64 r] 50))
        have HLS := Lib.hid (rless_of x y x r (w1.alloc (.cells #[.int .i64 x, .int .i64 r] 50)))
        rw [hl] at HLS
        clear hl
        go_wp2_with fail
        refine HLS.out.mono ?_
        rintro e w2 ⟨rfl, hx⟩
        have HN := Lib.hid (keep_rowB hx HN.out)
        have HR1 := Lib.hid (keep_rowB hx HR1.out)
        have HR2 := Lib.hid (keep_rowB hx HR2.out)
        have HXA := Lib.hid (HXA.out.trans hx)
        clear hx q0 q1 c0 c1 c2 c3
        obtain ⟨c0, c1, c2, c3⟩ := bal_row HR1.out
        have q0 := fun ob => (bal_row (keep_rowB ((Ext.refl w2).alloc ob) HR1.out)).1
        have q1 := fun ob => (bal_row (keep_rowB ((Ext.refl w2).alloc ob) HR1.out)).2.1
        go_wp2_with fail
        rw [rounds_succ]
        have hl := hl2
        clear hl2
        have HN := Lib.hid (heap_alloc_new w2 (.cells #[.int .i64 (x + 1), .int .i64 r] 50))
        have HR1 := Lib.hid (keep_rowB ((Ext.refl w2).alloc (.cells #[.int .i64 (x + 1), .int .i64 r] 50)) HR1.out)
        have HR2 := Lib.hid (keep_rowB ((Ext.refl w2).alloc (.cells #[.int .i64 (x + 1), .int .i64 r] 50)) HR2.out)
        have HXA := Lib.hid (HXA.out.alloc (.cells #[.int .i64 (x + 1), .int .i64 r] 50))
        have HLS := Lib.hid (rless_of x y (x + 1) r (w2.alloc (.cells #[.int .i64 (x + 1), .int .i64 r] 50)))
        rw [hl] at HLS
        clear hl
        go_wp2_with fail
        refine HLS.out.mono ?_
        rintro e w3 ⟨rfl, hx⟩
        have HN := Lib.hid (keep_rowB hx HN.out)
        have HR1 := Lib.hid (keep_rowB hx HR1.out)
        have HR2 := Lib.hid (keep_rowB hx HR2.out)
        have HXA := Lib.hid (HXA.out.trans hx)
        clear hx q0 q1 c0 c1 c2 c3
        by_cases hm : x + 1 ≤ 1099511627776
        · have hm2 : ¬ 1099511627776 < x + 1 := by omega
          have HAN : Hid ((⟨x + 1, r⟩ : Bal) = B ∧ (0 : Int) = E) := Lib.hid (by
            have := HN2.out
            rw [if_pos hm, if_pos hm] at this
            exact this)
          clear hm
          obtain ⟨n0, n1, n2, n3⟩ := bal_row HN.out
          obtain ⟨d0, d1, d2, d3⟩ := bal_row HR2.out
          go_wp2_with fail
          obtain ⟨f0, f1, _, _⟩ := bal_row (bal_store (x + 1) r HR2.out)
          refine bodyPost_ret (v := .tuple #[.agg #[.int .i64 (x + 1), .int .i64 r], .int .i64 0]) (by simp [results, Try.results29, go_sem, f0, f1]) rfl ?_
          have hbb := HB0.out
          exact ⟨by rw [← HAN.out.1, ← HAN.out.2], (HXA.out.setCell (p := ⟨b0 + 1, 0, none⟩) (by show w.heap.size ≤ b0 + 1; omega) _).setCell (p := ⟨b0 + 1, 1, none⟩) (by show w.heap.size ≤ b0 + 1; omega) _⟩
        · have hm2 : 1099511627776 < x + 1 := by omega
          have HAN : Hid ((⟨0, 0⟩ : Bal) = B ∧ (4 : Int) = E) := Lib.hid (by
            have := HN2.out
            rw [if_neg hm, if_neg hm] at this
            exact this)
          clear hm
          obtain ⟨n0, n1, n2, n3⟩ := bal_row HN.out
          obtain ⟨d0, d1, d2, d3⟩ := bal_row HR2.out
          go_wp2_with fail
          obtain ⟨f0, f1, _, _⟩ := bal_row (bal_store 0 0 HR2.out)
          refine bodyPost_ret (v := .tuple #[.agg #[.int .i64 0, .int .i64 0], .int .i64 4]) (by simp [results, Try.results29, go_sem, f0, f1]) rfl ?_
          have hbb := HB0.out
          exact ⟨by rw [← HAN.out.1, ← HAN.out.2], (HXA.out.setCell (p := ⟨b0 + 1, 0, none⟩) (by show w.heap.size ≤ b0 + 1; omega) _).setCell (p := ⟨b0 + 1, 1, none⟩) (by show w.heap.size ≤ b0 + 1; omega) _⟩
end
section
open Go Go.RowKit
theorem next_facts {b : Bal} {i n : Int} (h : errB b i n = 0) : mayB_ (nextB b i n) n = true ∧ (nextB b i n).y = i ∧ 1 ≤ (nextB b i n).x ∧ (nextB b i n).x ≤ 1099511627776 ∧ ltB b (nextB b i n) = true ∧ (1 < (nextB b i n).x → ltB b ⟨(nextB b i n).x - 1, i⟩ = false) := by
  unfold errB at h
  unfold nextB
  by_cases hok : okB b i n = true
  · rw [if_pos hok] at h ⊢
    have hk := okB_iff.1 hok
    by_cases hr : roundB b i ≤ 1099511627776
    · rw [if_pos hr]
      dsimp only
      have hcase : (b.x = 0 ∧ b.y = 0 ∧ roundB b i = 1) ∨ (1 ≤ b.x ∧ b.y < i ∧ roundB b i = b.x) ∨ (1 ≤ b.x ∧ i ≤ b.y ∧ roundB b i = b.x + 1) := by
        unfold roundB
        by_cases h0 : b.x = 0
        · rw [if_pos h0]; omega
        · rw [if_neg h0]
          by_cases h1 : b.y < i
          · rw [if_pos h1]; omega
          · rw [if_neg h1]; omega
      refine ⟨mayB_iff.2 ⟨hk.1.1, .inr (by dsimp only; omega)⟩, rfl, by omega, hr, ltB_iff.2 (by dsimp only; omega), fun h1 => ltB_not.2 (by dsimp only; omega)⟩
    · rw [if_neg hr] at h
      omega
  · rw [if_neg hok] at h
    omega
theorem next_none {b : Bal} {i n : Int} (h : errB b i n ≠ 0) : (nextB b i n).x = 0 ∧ (nextB b i n).y = 0 ∧ (errB b i n = 2 ∨ errB b i n = 4) := by
  unfold errB at h ⊢
  unfold nextB
  by_cases hok : okB b i n = true
  · rw [if_pos hok] at h ⊢
    rw [if_pos hok]
    by_cases hr : roundB b i ≤ 1099511627776
    · rw [if_pos hr] at h
      exact absurd rfl h
    · rw [if_neg hr, if_neg hr]
      exact ⟨rfl, rfl, .inr rfl⟩
  · rw [if_neg hok, if_neg hok]
    exact ⟨rfl, rfl, .inl rfl⟩
end
end Go.Proofs.Ytgcinagkbdcgiaa
