/-
  The contracts of meta's store and load at a disk.
-/
import Derived.Test.YtlikhmhomkiadaaDoorQ19
import Derived.Test.YtlikhmhomkiadaaDoorQ27
import Derived.Test.YtlikhmhomkiadaaDoorQ32
namespace Go.Proofs.YtlikhmhomkiadaaDoor
open Go Go.RowKit

/-- A step, told by its end: the disk's blocks then are its own or new. -/
theorem Step.fin {d : Nat} {F F' : Nat → Prop} {w w' : World} {m' : DM} (hp : PDisk w' d F' m') (hm : Mod F w w') (hs : ∀ k, F' k → F k ∨ w.heap.size ≤ k) (hF : ∀ k, F k → k < w.heap.size) : Step d F w m' w' :=
  ⟨hp.more (fun k hk => (hs k hk).imp id fun h => ⟨h, hp.lt k hk⟩) (fun i hi => hi.elim (fun h => Nat.lt_of_lt_of_le (hF i h) hm.size) fun h => h.2), hm⟩
theorem three_mod {w : World} (g : Nat) (x0 x1 x2 : Value) : Mod (fun k => k = g) w (((w.setCell ⟨g, 0, none⟩ x0).setCell ⟨g, 1, none⟩ x1).setCell ⟨g, 2, none⟩ x2) :=
  (((Mod.refl (fun k => k = g) w).setCell (p := ⟨g, 0, none⟩) (.inl rfl) x0).setCell (p := ⟨g, 1, none⟩) (.inl rfl) x1).setCell (p := ⟨g, 2, none⟩) (.inl rfl) x2
theorem storeU_zero {m m1 : DM} {r a b c E : Int} (h : m.store r 1 c (uL a b c) = (E, m1)) (h0 : E ≠ 0) : m.storeU r a b c = ⟨E, 0, 0, 0, m1⟩ := by
  unfold DM.storeU
  rw [h]
  simp [h0]
theorem storeU_good {m m1 : DM} {r a b c : Int} (h : m.store r 1 c (uL a b c) = (0, m1)) : m.storeU r a b c = ⟨0, a, b, c, m1⟩ := by
  unfold DM.storeU
  rw [h]
  simp

theorem loadB_len {m : DM} (h : m.Ok) (r g : Int) : (m.loadB r g).length ≤ 43 := by
  unfold DM.loadB
  split
  · unfold cellB
    split
    · rename_i ha
      exact (mine_copy (read_sect h _) (atC_zero ha)).2.2.2.2
    · split
      · rename_i ha
        exact (mine_copy (read_sect h _) (atC_one ha)).2.2.2.2
      · simp
  · simp
set_option maxRecDepth 100000 in
set_option maxHeartbeats 1600000 in
theorem storeU_of {w : World} {d : Nat} {F : Nat → Prop} {m : DM} (h : PDisk w d F m) (hL : LaidF w) (hLM : ∀ V, Mod F w V → LaidF V) (r a b c : Int) (hk : knownC m.size r 1 = 0) (hfew : m.waits.length + 2 ≤ 1000000) :
    Calls Tryd.prog 34 #[.pointer (some ⟨d, 0, none⟩), .int .i64 r, .agg #[.int .i64 a, .int .i64 b, .int .i64 c]] w fun e w' => e = .returned (.tuple #[.agg #[.int .i64 (m.storeU r a b c).a, .int .i64 (m.storeU r a b c).b, .int .i64 (m.storeU r a b c).c], .int .i64 (m.storeU r a b c).e]) ∧ Step d F w (m.storeU r a b c).m w' := by
  have hx := ((Ext.refl w).alloc (.cells #[.int .i64 a, .int .i64 b, .int .i64 c] 25)).alloc (.cells #[.int .i64 0, .int .i64 0, .int .i64 0] 25)
  have HT := Lib.hid (show ((w.alloc (.cells #[.int .i64 a, .int .i64 b, .int .i64 c] 25)).alloc (.cells #[.int .i64 0, .int .i64 0, .int .i64 0] 25)).heap[w.heap.size]? = some (.cells #[.int .i64 a, .int .i64 b, .int .i64 c] 25 (0, 0)) by
    rw [heap_alloc_old _ _ (by simp)]
    exact heap_alloc_new w _)
  have HZ := Lib.hid (heap_alloc2_new w (.cells #[.int .i64 a, .int .i64 b, .int .i64 c] 25) (.cells #[.int .i64 0, .int .i64 0, .int .i64 0] 25))
  have HX := Lib.hid hx
  have H := Lib.hid h
  have HL := Lib.hid hL
  have HLM := Lib.hid hLM
  have HK := Lib.hid hk
  have HW := Lib.hid hfew
  obtain ⟨E, hE⟩ : ∃ E, (m.store r 1 c (uL a b c)).1 = E := ⟨_, rfl⟩
  obtain ⟨m1, hm1⟩ : ∃ m1, (m.store r 1 c (uL a b c)).2 = m1 := ⟨_, rfl⟩
  have HQ : Hid (m.store r 1 c (uL a b c) = (E, m1)) := Lib.hid (by rw [← hE, ← hm1])
  clear hx h hL hLM hk hfew hE hm1
  have fin : ∀ (w1 w3 w4 : World) (x0 x1 x2 : Value), Ext w w1 → w.heap.size + 1 < w1.heap.size → Step d F w1 m1 w3 → w4 = (((w3.setCell ⟨w.heap.size + 1, 0, none⟩ x0).setCell ⟨w.heap.size + 1, 1, none⟩ x1).setCell ⟨w.heap.size + 1, 2, none⟩ x2) → Step d F w m1 w4 := by
    rintro w1 w3 w4 x0 x1 x2 hx hlt hs rfl
    have hmod := three_mod (w := w3) (w.heap.size + 1) x0 x1 x2
    refine Step.fin (F' := grow F w1 w3) (hs.1.mod hmod fun i hi hg => ?_) (((Mod.of_ext hx).trans hs.2 fun i hi => .inl hi).trans hmod fun i hi => .inr (by rw [hi]; omega)) (fun k hk => hk.imp id fun h => Nat.le_trans hx.size h.1) H.out.lt
    subst hg
    rcases hi with hi | hi
    · have := H.out.lt _ hi; omega
    · have := hi.1; omega
  have FIN := Lib.hid fin
  clear fin
  obtain ⟨⟨c0, c1, c2⟩, _⟩ := three_cells HT.out
  go_enter Tryd.func34, Tryd.ntmps34
  go_wp2_with fail
  refine (printU_any a b c _ (HL.out.ext HX.out).a.o).mono ?_
  rintro e w1 ⟨A, cp, rfl, hb, hf, hx⟩
  have HB := Lib.hid hb
  have HO : Hid (∀ g o, A = some ⟨g, o, none⟩ → 0 < (uL a b c).length → ¬ F g) := Lib.hid fun g o hA _ hF => by
    have h1 := hf g o hA
    have h2 := H.out.lt _ hF
    have h3 := HX.out.size
    omega
  have HLT : Hid (w.heap.size + 1 < w1.heap.size) := Lib.hid (by have := hx.size; simp at this; omega)
  have HT := Lib.hid ((hx.block _ (Array.getElem?_eq_some_iff.1 HT.out).1).trans HT.out)
  have HZ := Lib.hid ((hx.block _ (Array.getElem?_eq_some_iff.1 HZ.out).1).trans HZ.out)
  have HX := Lib.hid (HX.out.trans hx)
  clear hb hf hx c0 c1 c2
  obtain ⟨⟨c0, c1, c2⟩, _⟩ := three_cells HT.out
  go_wp2_with fail
  refine (Store_of (H.out.ext HX.out) (HL.out.ext HX.out) (fun V hV => HLM.out V ((Mod.of_ext HX.out).trans hV fun i hi => .inl hi)) r 1 c A _ cp _ HB.out HO.out HW.out HK.out).mono ?_
  rw [HQ.out]
  dsimp only
  rintro e w2 ⟨rfl, hs⟩
  have HS := Lib.hid hs
  have HT := Lib.hid (heap_mod HT.out hs.2 fun hF => by have := H.out.lt _ hF; omega)
  have HZ := Lib.hid (heap_mod HZ.out hs.2 fun hF => by have := H.out.lt _ hF; omega)
  clear hs c0 c1 c2
  by_cases h0 : E = 0
  · subst h0
    obtain ⟨⟨c0, c1, c2⟩, _⟩ := three_cells HT.out
    obtain ⟨⟨d0, d1, d2⟩, f0, f1, f2⟩ := three_cells HZ.out
    go_wp2_with fail
    refine bodyPost_ret (v := .tuple #[.agg #[.int .i64 a, .int .i64 b, .int .i64 c], .int .i64 0]) ?_ rfl ?_
    · simp [results, Tryd.results34, go_sem, d0, d1, d2]
    · rw [storeU_good HQ.out]
      refine ⟨rfl, ?_⟩
      exact FIN.out _ _ _ _ _ _ HX.out HLT.out HS.out rfl
  · have HU := Lib.hid (storeU_zero HQ.out h0)
    have hne : (E != 0) = true := by simpa using h0
    obtain ⟨⟨d0, d1, d2⟩, f0, f1, f2⟩ := three_cells HZ.out
    clear h0
    go_wp2_with fail
    refine bodyPost_ret (v := .tuple #[.agg #[.int .i64 0, .int .i64 0, .int .i64 0], .int .i64 E]) ?_ rfl ?_
    · simp [results, Tryd.results34, go_sem, d0, d1, d2]
    · rw [HU.out]
      refine ⟨rfl, ?_⟩
      exact FIN.out _ _ _ _ _ _ HX.out HLT.out HS.out rfl

set_option maxRecDepth 100000 in
set_option maxHeartbeats 1600000 in
theorem loadU_of {w : World} {d : Nat} {F : Nat → Prop} {m : DM} (h : PDisk w d F m) (hL : LaidF w) (r : Int) (hk : knownC m.size r 1 = 0) (hfew : m.waits.length ≤ 1000000) :
    Calls Tryd.prog 35 #[.pointer (some ⟨d, 0, none⟩), .int .i64 r] w fun e w' => e = .returned (.tuple #[.agg #[.int .i64 (m.ldF r 0 : Nat), .int .i64 (m.ldF r 1 : Nat), .int .i64 (m.ldF r 2 : Nat)], .int .i64 (m.ldE r)]) ∧ Ext w w' := by
  have hx := (Ext.refl w).alloc (.cells #[.int .i64 0, .int .i64 0, .int .i64 0] 25)
  have HZ := Lib.hid (heap_alloc_new w (.cells #[.int .i64 0, .int .i64 0, .int .i64 0] 25))
  have HX := Lib.hid hx
  have HL := Lib.hid hL
  have HLD := Lib.hid (Load_of (h.ext hx) (hL.ext hx) r 1 hfew hk)
  obtain ⟨E, hE⟩ : ∃ E, m.loadE r 1 = E := ⟨_, rfl⟩
  obtain ⟨V, hV⟩ : ∃ V, m.loadV r 1 = V := ⟨_, rfl⟩
  obtain ⟨B, hB⟩ : ∃ B, m.loadB r 1 = B := ⟨_, rfl⟩
  rw [hE, hV, hB] at HLD
  have HE : Hid (m.ldE r = if E ≠ 0 then E else if V = 0 then 0 else uE B) := Lib.hid (by unfold DM.ldE; rw [hE, hV, hB])
  have HF : Hid (∀ k, m.ldF r k = if E ≠ 0 then 0 else if V = 0 then 0 else uF B k) := Lib.hid (by intro k; unfold DM.ldF; rw [hE, hV, hB])
  have HBL : Hid (B.length ≤ 43) := Lib.hid (by rw [← hB]; exact loadB_len h.ok r 1)
  clear hx h hL hk hfew hE hV hB
  by_cases h0 : E = 0
  · subst h0
    by_cases hv : V = 0
    · subst hv
      go_enter Tryd.func35, Tryd.ntmps35
      go_wp2_with fail
      refine HLD.out.mono ?_
      rintro e w1 ⟨A, N, rfl, hb, hx⟩
      have HZ := Lib.hid ((hx.block _ (Array.getElem?_eq_some_iff.1 HZ.out).1).trans HZ.out)
      have HX := Lib.hid (HX.out.trans hx)
      clear hb hx
      obtain ⟨⟨d0, d1, d2⟩, f0, f1, f2⟩ := three_cells HZ.out
      go_wp2_with fail
      refine bodyPost_ret (v := .tuple #[.agg #[.int .i64 0, .int .i64 0, .int .i64 0], .int .i64 0]) ?_ rfl ⟨?_, three_ext HX.out (Nat.le_refl _) _ _ _⟩
      · simp [results, Tryd.results35, go_sem, d0, d1, d2]
      · rw [HE.out, HF.out, HF.out, HF.out]
        simp
    · have hv' : ((V : Int) == 0) = false := by simpa using hv
      have HV := Lib.hid hv
      clear hv
      go_enter Tryd.func35, Tryd.ntmps35
      go_wp2_with fail
      refine HLD.out.mono ?_
      rintro e w1 ⟨A, N, rfl, hb, hx⟩
      have HB := Lib.hid hb
      have hN : N ≤ 9000000000000000000 := by
        have h1 := hb.len
        have h2 := HBL.out
        omega
      have HZ := Lib.hid ((hx.block _ (Array.getElem?_eq_some_iff.1 HZ.out).1).trans HZ.out)
      have HX := Lib.hid (HX.out.trans hx)
      clear hb hx
      go_wp2_with fail
      refine (parseU A N N B _ (HL.out.ext HX.out).a.o HB.out hN).mono ?_
      rintro e w2 ⟨rfl, hx⟩
      have HZ := Lib.hid ((hx.block _ (Array.getElem?_eq_some_iff.1 HZ.out).1).trans HZ.out)
      have HX := Lib.hid (HX.out.trans hx)
      clear hx hN
      obtain ⟨⟨d0, d1, d2⟩, f0, f1, f2⟩ := three_cells HZ.out
      go_wp2_with fail
      refine bodyPost_ret (v := .tuple #[.agg #[.int .i64 (uF B 0), .int .i64 (uF B 1), .int .i64 (uF B 2)], .int .i64 (uE B)]) ?_ rfl ⟨?_, three_ext HX.out (Nat.le_refl _) _ _ _⟩
      · simp [results, Tryd.results35, go_sem, d0, d1, d2]
      · rw [HE.out, HF.out, HF.out, HF.out]
        simp [HV.out]
  · have hne : (E != 0) = true := by simpa using h0
    have HN := Lib.hid h0
    clear h0
    go_enter Tryd.func35, Tryd.ntmps35
    go_wp2_with fail
    refine HLD.out.mono ?_
    rintro e w1 ⟨A, N, rfl, hb, hx⟩
    have HZ := Lib.hid ((hx.block _ (Array.getElem?_eq_some_iff.1 HZ.out).1).trans HZ.out)
    have HX := Lib.hid (HX.out.trans hx)
    clear hb hx
    obtain ⟨⟨d0, d1, d2⟩, f0, f1, f2⟩ := three_cells HZ.out
    go_wp2_with fail
    refine bodyPost_ret (v := .tuple #[.agg #[.int .i64 0, .int .i64 0, .int .i64 0], .int .i64 E]) ?_ rfl ⟨?_, three_ext HX.out (Nat.le_refl _) _ _ _⟩
    · simp [results, Tryd.results35, go_sem, d0, d1, d2]
    · rw [HE.out, HF.out, HF.out, HF.out]
      simp [HN.out]
end Go.Proofs.YtlikhmhomkiadaaDoor
