/-
  The document's store, Begin and Promise of metadata over the document's disk.
  The document's Begin over the document's disk.
-/
import Derived.Test.YtlikhmhomkiadaaGreatDoorM28
import Derived.Test.YtlikhmhomkiadaaGreatDoorM29
import Derived.Test.YtlikhmhomkiadaaGreatDoorM36
import Derived.Deep.DeepCutAuto
namespace Go.Proofs.YtlikhmhomkiadaaGreatDoor
open Go Go.RowKit

theorem rout_three {d : Nat} {p : Nat → Nat} {w w1 w3 : World} {m m1 : DM} {g : Nat} (h : RD w d p m) (hx : Ext w w1) (hg : w.heap.size ≤ g) (hlt : g < w1.heap.size) (hs : ROut d p w1 m1 w3) (x0 x1 x2 : Value) :
    ROut d p w m1 (((w3.setCell ⟨g, 0, none⟩ x0).setCell ⟨g, 1, none⟩ x1).setCell ⟨g, 2, none⟩ x2) := by
  obtain ⟨p', h1, h2, h3⟩ := hs
  have hmod := three_mod (w := w3) g x0 x1 x2
  have hne : ∀ i, p' i ≠ 0 → ¬ i = g := fun i hi he => by
    subst he
    rcases h3 i hi with h4 | h4
    · have := h.2 _ h4; omega
    · omega
  exact ⟨p', h1.mod hmod hne, ((Mod.of_ext hx).trans h2 fun i hi => .inl hi).trans hmod fun i hi => .inr (by rw [hi]; exact hg), fun k hk => (h3 k hk).imp id fun h4 => Nat.le_trans hx.size h4⟩
theorem rd_new {d : Nat} {p : Nat → Nat} {w : World} {m : DM} (h : RD w d p m) {g : Nat} (hg : w.heap.size ≤ g) : p g = 0 := by
  by_cases hp : p g = 0
  · exact hp
  · have := h.2 g hp; omega
set_option maxRecDepth 100000 in
set_option maxHeartbeats 1600000 in
theorem rstoreU_of {w : World} {d : Nat} {p : Nat → Nat} {m : DM} (h : RD w d p m) (r a b c : Int) (hk : knownC m.size r 1 = 0) (hfew : m.waits.length + 2 ≤ 1000000) :
    Calls Tryz.prog 75 #[.pointer (some ⟨d, 0, none⟩), .int .i64 r, .agg #[.int .i64 a, .int .i64 b, .int .i64 c]] w fun e w' => e = .returned (.tuple #[.agg #[.int .i64 (m.storeU r a b c).a, .int .i64 (m.storeU r a b c).b, .int .i64 (m.storeU r a b c).c], .int .i64 (m.storeU r a b c).e]) ∧ ROut d p w (m.storeU r a b c).m w' := by
  have hx := ((Ext.refl w).alloc (.cells #[.int .i64 a, .int .i64 b, .int .i64 c] 76)).alloc (.cells #[.int .i64 0, .int .i64 0, .int .i64 0] 76)
  have HT := Lib.hid (show ((w.alloc (.cells #[.int .i64 a, .int .i64 b, .int .i64 c] 76)).alloc (.cells #[.int .i64 0, .int .i64 0, .int .i64 0] 76)).heap[w.heap.size]? = some (.cells #[.int .i64 a, .int .i64 b, .int .i64 c] 76 (0, 0)) by
    rw [heap_alloc_old _ _ (by simp)]
    exact heap_alloc_new w _)
  have HZ := Lib.hid (heap_alloc2_new w (.cells #[.int .i64 a, .int .i64 b, .int .i64 c] 76) (.cells #[.int .i64 0, .int .i64 0, .int .i64 0] 76))
  have HX := Lib.hid hx
  have H := Lib.hid h
  have HK := Lib.hid hk
  have HW := Lib.hid hfew
  obtain ⟨E, hE⟩ : ∃ E, (m.store r 1 c (uL a b c)).1 = E := ⟨_, rfl⟩
  obtain ⟨m1, hm1⟩ : ∃ m1, (m.store r 1 c (uL a b c)).2 = m1 := ⟨_, rfl⟩
  have HQ : Hid (m.store r 1 c (uL a b c) = (E, m1)) := Lib.hid (by rw [← hE, ← hm1])
  clear hx h hk hfew hE hm1
  obtain ⟨⟨c0, c1, c2⟩, _⟩ := three_cells HT.out
  go_enter Tryz.func75, Tryz.ntmps75
  go_wp2_with fail
  refine (rprintU_any a b c _).mono ?_
  rintro e w1 ⟨A, cp, rfl, hb, hf, hx⟩
  have HB := Lib.hid hb
  have HO : Hid (∀ g o, A = some ⟨g, o, none⟩ → 0 < (uL a b c).length → p g = 0) := Lib.hid fun g o hA _ => rd_new H.out (by
    have h1 := hf g o hA
    have h3 := HX.out.size
    omega)
  have HLT : Hid (w.heap.size + 1 < w1.heap.size) := Lib.hid (by have := hx.size; simp at this; omega)
  have HT := Lib.hid ((hx.block _ (Array.getElem?_eq_some_iff.1 HT.out).1).trans HT.out)
  have HZ := Lib.hid ((hx.block _ (Array.getElem?_eq_some_iff.1 HZ.out).1).trans HZ.out)
  have HX := Lib.hid (HX.out.trans hx)
  clear hb hf hx c0 c1 c2
  obtain ⟨⟨c0, c1, c2⟩, _⟩ := three_cells HT.out
  go_wp2_with fail
  refine (rstore_of (H.out.ext HX.out) r 1 c A _ cp _ HB.out HO.out HW.out HK.out).mono ?_
  rw [HQ.out]
  dsimp only
  rintro e w2 ⟨rfl, hs⟩
  have HS := Lib.hid hs
  have HT := Lib.hid (heap_mod HT.out hs.choose_spec.2.1 (by simp [rd_new H.out (Nat.le_refl _)]))
  have HZ := Lib.hid (heap_mod HZ.out hs.choose_spec.2.1 (by simp [rd_new H.out (show w.heap.size ≤ w.heap.size + 1 by omega)]))
  clear hs c0 c1 c2
  by_cases h0 : E = 0
  · subst h0
    obtain ⟨⟨c0, c1, c2⟩, _⟩ := three_cells HT.out
    obtain ⟨⟨d0, d1, d2⟩, f0, f1, f2⟩ := three_cells HZ.out
    go_wp2_with fail
    refine bodyPost_ret (v := .tuple #[.agg #[.int .i64 a, .int .i64 b, .int .i64 c], .int .i64 0]) ?_ rfl ?_
    · simp [results, Tryz.results75, go_sem, d0, d1, d2]
    · rw [storeU_good HQ.out]
      exact ⟨rfl, rout_three H.out HX.out (by omega) HLT.out HS.out _ _ _⟩
  · have HU := Lib.hid (storeU_zero HQ.out h0)
    have hne : (E != 0) = true := by simpa using h0
    obtain ⟨⟨d0, d1, d2⟩, f0, f1, f2⟩ := three_cells HZ.out
    clear h0
    go_wp2_with fail
    refine bodyPost_ret (v := .tuple #[.agg #[.int .i64 0, .int .i64 0, .int .i64 0], .int .i64 E]) ?_ rfl ?_
    · simp [results, Tryz.results75, go_sem, d0, d1, d2]
    · rw [HU.out]
      exact ⟨rfl, rout_three H.out HX.out (by omega) HLT.out HS.out _ _ _⟩
set_option maxRecDepth 100000 in
set_option maxHeartbeats 1600000 in
theorem rstoreU_no {w : World} {d : Nat} {p : Nat → Nat} {m : DM} (h : RD w d p m) (r a b c : Int) (hk : knownC m.size r 1 ≠ 0) :
    Calls Tryz.prog 75 #[.pointer (some ⟨d, 0, none⟩), .int .i64 r, .agg #[.int .i64 a, .int .i64 b, .int .i64 c]] w fun e w' => e = .returned (.tuple #[.agg #[.int .i64 0, .int .i64 0, .int .i64 0], .int .i64 2]) ∧ Ext w w' := by
  have hx := ((Ext.refl w).alloc (.cells #[.int .i64 a, .int .i64 b, .int .i64 c] 76)).alloc (.cells #[.int .i64 0, .int .i64 0, .int .i64 0] 76)
  have HT := Lib.hid (show ((w.alloc (.cells #[.int .i64 a, .int .i64 b, .int .i64 c] 76)).alloc (.cells #[.int .i64 0, .int .i64 0, .int .i64 0] 76)).heap[w.heap.size]? = some (.cells #[.int .i64 a, .int .i64 b, .int .i64 c] 76 (0, 0)) by
    rw [heap_alloc_old _ _ (by simp)]
    exact heap_alloc_new w _)
  have HZ := Lib.hid (heap_alloc2_new w (.cells #[.int .i64 a, .int .i64 b, .int .i64 c] 76) (.cells #[.int .i64 0, .int .i64 0, .int .i64 0] 76))
  have HX := Lib.hid hx
  have H := Lib.hid h
  have HK := Lib.hid hk
  clear hx h hk
  obtain ⟨⟨c0, c1, c2⟩, _⟩ := three_cells HT.out
  go_enter Tryz.func75, Tryz.ntmps75
  go_wp2_with fail
  refine (rprintU_any a b c _).mono ?_
  rintro e w1 ⟨A, cp, rfl, hb, hf, hx⟩
  have HT := Lib.hid ((hx.block _ (Array.getElem?_eq_some_iff.1 HT.out).1).trans HT.out)
  have HZ := Lib.hid ((hx.block _ (Array.getElem?_eq_some_iff.1 HZ.out).1).trans HZ.out)
  have HX := Lib.hid (HX.out.trans hx)
  clear hb hf hx c0 c1 c2
  obtain ⟨⟨c0, c1, c2⟩, _⟩ := three_cells HT.out
  go_wp2_with fail
  refine (rstore_no (H.out.ext HX.out) r 1 c A _ cp HK.out).mono ?_
  rintro e w2 ⟨rfl, rfl⟩
  obtain ⟨⟨d0, d1, d2⟩, f0, f1, f2⟩ := three_cells HZ.out
  go_wp2_with fail
  refine bodyPost_ret (v := .tuple #[.agg #[.int .i64 0, .int .i64 0, .int .i64 0], .int .i64 2]) ?_ rfl ?_
  · simp [results, Tryz.results75, go_sem, d0, d1, d2]
  · exact ⟨rfl, three_ext HX.out (by omega) _ _ _⟩
theorem rout_fin {d : Nat} {p p2 : Nat → Nat} {w W1 w3 w4 : World} {m m1 : DM} {g : Nat} (h : RD w d p m) (hg : w.heap.size ≤ g) (hlt : g < W1.heap.size) (hm : Mod (fun k => p k ≠ 0) w w3) (hn : ∀ k, p2 k ≠ 0 → p k ≠ 0 ∨ W1.heap.size ≤ k) (hWs : w.heap.size ≤ W1.heap.size) (hsz : W1.heap.size ≤ w3.heap.size) (hs : ROut d p2 w3 m1 w4) (x0 x1 x2 : Value) :
    ROut d p w m1 (((w4.setCell ⟨g, 0, none⟩ x0).setCell ⟨g, 1, none⟩ x1).setCell ⟨g, 2, none⟩ x2) := by
  obtain ⟨p', h1, h2, h3⟩ := hs
  have hmod := three_mod (w := w4) g x0 x1 x2
  have hne : ∀ i, p' i ≠ 0 → ¬ i = g := fun i hi he => by
    subst he
    rcases h3 i hi with h4 | h4
    · rcases hn i h4 with h5 | h5
      · have := h.2 _ h5; omega
      · omega
    · omega
  have hall : ∀ k, p' k ≠ 0 → p k ≠ 0 ∨ w.heap.size ≤ k := fun k hk => by
    rcases h3 k hk with h4 | h4
    · exact (hn k h4).imp id fun h5 => Nat.le_trans hWs h5
    · exact .inr (Nat.le_trans hWs (Nat.le_trans hsz h4))
  exact ⟨p', h1.mod hmod hne, (hm.trans h2 fun i hi => (hn i hi).imp id fun h5 => Nat.le_trans hWs h5).trans hmod fun i hi => .inr (by rw [hi]; exact hg), hall⟩
end Go.Proofs.YtlikhmhomkiadaaGreatDoor

namespace Go.Proofs.YtlikhmhomkiadaaGreatDoor
open Go Go.RowKit

theorem ld_of {m : DM} {r : Int} {V : Int} (hV : (m.loadV r 1 : Int) = V) (hE : m.loadE r 1 = 0) : (V = 0 → m.ldE r = 0 ∧ ∀ k, m.ldF r k = 0) ∧ (0 < V → m.ldE r = uE (m.loadB r 1) ∧ ∀ k, m.ldF r k = uF (m.loadB r 1) k) := by
  unfold DM.ldE DM.ldF
  rw [hE]
  refine ⟨fun h => ?_, fun h => ?_⟩
  · have h0 : m.loadV r 1 = 0 := by omega
    rw [h0]; simp
  · have h0 : ¬ m.loadV r 1 = 0 := by omega
    simp [h0]
set_option maxRecDepth 100000 in
set_option maxHeartbeats 1600000 in
theorem rbeginU_of {w : World} {d : Nat} {p : Nat → Nat} {m : DM} (h : RD w d p m) (r : Int) (hk : knownC m.size r 1 = 0) (hfew : m.waits.length + 3 ≤ 1000000) :
    Calls Tryz.prog 31 #[.pointer (some ⟨d, 0, none⟩), .int .i64 r] w fun e w' => e = .returned (.tuple #[.agg #[.int .i64 (m.beginU r).a, .int .i64 (m.beginU r).b, .int .i64 (m.beginU r).c], .int .i64 (m.beginU r).e]) ∧ ROut d p w (m.beginU r).m w' := by
  have hx := (Ext.refl w).alloc (.cells #[.int .i64 0, .int .i64 0, .int .i64 0] 76)
  have HZ := Lib.hid (heap_alloc_new w (.cells #[.int .i64 0, .int .i64 0, .int .i64 0] 76))
  have HX := Lib.hid hx
  have HLD := Lib.hid (rload_of (h.ext hx) r 1 (by omega) hk)
  have H := Lib.hid h
  have HK := Lib.hid hk
  have HW := Lib.hid hfew
  obtain ⟨E, hE⟩ : ∃ E, m.loadE r 1 = E := ⟨_, rfl⟩
  obtain ⟨V, hV⟩ : ∃ V : Int, (m.loadV r 1 : Int) = V := ⟨_, rfl⟩
  have hV0 : 0 ≤ V := by omega
  have hBl := loadB_len (rd_size h).2.2 r 1
  rw [hE, hV] at HLD
  clear hx h hk hfew
  by_cases h0 : E = 0
  · subst h0
    have HLO := Lib.hid (ld_of hV hE)
    clear hE hV
    by_cases hv : V = 0
    · subst hv
      clear hV0
      have LDE := (HLO.out.1 rfl).1
      have LDF0 := (HLO.out.1 rfl).2 0
      have LDF1 := (HLO.out.1 rfl).2 1
      have LDF2 := (HLO.out.1 rfl).2 2
      clear hBl
      obtain ⟨G, hG⟩ : ∃ G, (m.heal r 1).1 = G := ⟨_, rfl⟩
      obtain ⟨n, hn⟩ : ∃ n, (m.heal r 1).2 = n := ⟨_, rfl⟩
      have HH : Hid (m.heal r 1 = (G, n)) := Lib.hid (by rw [← hG, ← hn])
      clear hG hn
      by_cases hg : G = 0
      · subst hg
        have HU : Hid (m.beginU r = n.storeU r 0 0 (1)) := Lib.hid ((beginU_yes LDE (by rw [LDF2]; omega) HH.out).trans (by rw [LDF0, LDF1, LDF2]; rfl))
        clear LDE LDF0 LDF1 LDF2
        go_enter Tryz.func31, Tryz.ntmps31
        go_wp2_with fail
        refine HLD.out.mono ?_
        rintro e w1 ⟨A1, N1, k1, rfl, hb, hx⟩
        have HB := Lib.hid hb
        have HZ := Lib.hid ((hx.block _ (Array.getElem?_eq_some_iff.1 HZ.out).1).trans HZ.out)
        have HX := Lib.hid (HX.out.trans hx)
        have HLT : Hid (w.heap.size < w1.heap.size) := Lib.hid (by have := hx.size; simp at this; omega)
        clear hb hx
        have HM := Lib.hid (heap_alloc_new w1 (.cells #[.int .i64 0, .int .i64 0, .int .i64 0] 76))
        have HZ := Lib.hid ((heap_alloc_old w1 (.cells #[.int .i64 0, .int .i64 0, .int .i64 0] 76) (Array.getElem?_eq_some_iff.1 HZ.out).1).trans HZ.out)
        have HX := Lib.hid (HX.out.alloc (.cells #[.int .i64 0, .int .i64 0, .int .i64 0] 76))
        have HGM : Hid (w.heap.size < w1.heap.size ∧ w1.heap.size < (w1.alloc (.cells #[.int .i64 0, .int .i64 0, .int .i64 0] 76)).heap.size) := Lib.hid ⟨HLT.out, by simp⟩
        obtain ⟨⟨m0, m1, m2⟩, _⟩ := three_cells HM.out
        go_wp2_with fail
        refine (rheal_of (H.out.ext HX.out) r 1 (by have := HW.out; omega) HK.out).mono ?_
        rw [HH.out]
        dsimp only
        rintro e w5 ⟨rfl, ho⟩
        obtain ⟨p3, r3, hm3, hn3⟩ := ho
        have HR3 := Lib.hid r3
        have HM3 := Lib.hid hm3
        have HN3 := Lib.hid hn3
        have HZ := Lib.hid (heap_mod HZ.out hm3 (by simp [rd_new H.out (Nat.le_refl _)]))
        have HM := Lib.hid (heap_mod HM.out hm3 (by simp [rd_new H.out (Nat.le_of_lt HGM.out.1)]))
        clear r3 hm3 hn3 m0 m1 m2
        have HW2 : Hid (n.waits.length + 2 ≤ 1000000) := Lib.hid (by have h1 := heal_waits m r 1; rw [HH.out] at h1; dsimp only at h1; have := HW.out; omega)
        have HK2 : Hid (knownC n.size r 1 = 0) := Lib.hid (by have h1 := heal_size m r 1; rw [HH.out] at h1; dsimp only at h1; rw [h1]; exact HK.out)
        have hne3 : ∀ i, p3 i ≠ 0 → ¬ i = w1.heap.size := fun i hi he => by
          subst he
          rcases HN3.out _ hi with h4 | h4
          · have := H.out.2 _ h4; have := HGM.out.1; omega
          · have := HGM.out.2; omega
        have HR4 := Lib.hid (HR3.out.mod (mod_one w5 w1.heap.size 2 (.int .i64 (1))) hne3)
        have HM4 := Lib.hid (((Mod.of_ext HX.out).trans HM3.out fun i hi => .inl hi).trans (mod_one w5 w1.heap.size 2 (.int .i64 (1))) fun i hi => .inr (by rw [hi]; exact Nat.le_of_lt HGM.out.1))
        have HZ4 := Lib.hid (heap_mod HZ.out (mod_one w5 w1.heap.size 2 (.int .i64 (1))) (by have := HGM.out.1; omega))
        have HSZ : Hid ((w1.alloc (.cells #[.int .i64 0, .int .i64 0, .int .i64 0] 76)).heap.size ≤ (w5.setCell ⟨w1.heap.size, 2, none⟩ (.int .i64 (1))).heap.size) := Lib.hid (Nat.le_trans HM3.out.size (mod_one w5 w1.heap.size 2 (.int .i64 (1))).size)
        clear hne3
        obtain ⟨⟨m0, m1, m2⟩, q0, q1, q2⟩ := three_cells HM.out
        go_wp2_with fail
        generalize (w5.setCell ⟨w1.heap.size, 2, none⟩ (.int .i64 (1))) = w6 at *
        have hst := rstoreU_of HR4.out r 0 0 (1) HK2.out HW2.out
        generalize n.storeU r 0 0 (1) = U at hst HU
        refine hst.mono ?_
        rintro e w7 ⟨rfl, hs⟩
        have HS7 := Lib.hid hs
        have HZ7 := Lib.hid (heap_mod HZ4.out hs.choose_spec.2.1 (by
          intro hp
          rcases HN3.out _ hp with h4 | h4
          · have := H.out.2 _ h4; omega
          · have := HGM.out; omega))
        clear hs hst m0 m1 m2 q0 q1 q2
        obtain ⟨⟨d0, d1, d2⟩, f0, f1, f2⟩ := three_cells HZ7.out
        go_wp2_with fail
        refine bodyPost_ret (v := .tuple #[.agg #[.int .i64 U.a, .int .i64 U.b, .int .i64 U.c], .int .i64 U.e]) ?_ rfl ?_
        · simp [results, Tryz.results31, go_sem, d0, d1, d2]
        · rw [HU.out]
          exact ⟨rfl, rout_fin H.out (Nat.le_refl _) (by have := HGM.out; omega) HM4.out HN3.out HX.out.size HSZ.out HS7.out _ _ _⟩
      · have hne : (G != 0) = true := by simpa using hg
        have HU := Lib.hid (beginU_ill LDE (by rw [LDF2]; omega) HH.out hg)
        clear hg LDE LDF0 LDF1 LDF2
        go_enter Tryz.func31, Tryz.ntmps31
        go_wp2_with fail
        refine HLD.out.mono ?_
        rintro e w1 ⟨A1, N1, k1, rfl, hb, hx⟩
        have HB := Lib.hid hb
        have HZ := Lib.hid ((hx.block _ (Array.getElem?_eq_some_iff.1 HZ.out).1).trans HZ.out)
        have HX := Lib.hid (HX.out.trans hx)
        have HLT : Hid (w.heap.size < w1.heap.size) := Lib.hid (by have := hx.size; simp at this; omega)
        clear hb hx
        have HM := Lib.hid (heap_alloc_new w1 (.cells #[.int .i64 0, .int .i64 0, .int .i64 0] 76))
        have HZ := Lib.hid ((heap_alloc_old w1 (.cells #[.int .i64 0, .int .i64 0, .int .i64 0] 76) (Array.getElem?_eq_some_iff.1 HZ.out).1).trans HZ.out)
        have HX := Lib.hid (HX.out.alloc (.cells #[.int .i64 0, .int .i64 0, .int .i64 0] 76))
        have HGM : Hid (w.heap.size < w1.heap.size ∧ w1.heap.size < (w1.alloc (.cells #[.int .i64 0, .int .i64 0, .int .i64 0] 76)).heap.size) := Lib.hid ⟨HLT.out, by simp⟩
        obtain ⟨⟨m0, m1, m2⟩, _⟩ := three_cells HM.out
        go_wp2_with fail
        refine (rheal_of (H.out.ext HX.out) r 1 (by have := HW.out; omega) HK.out).mono ?_
        rw [HH.out]
        dsimp only
        rintro e w5 ⟨rfl, ho⟩
        obtain ⟨p3, r3, hm3, hn3⟩ := ho
        have HR3 := Lib.hid r3
        have HM3 := Lib.hid hm3
        have HN3 := Lib.hid hn3
        have HZ := Lib.hid (heap_mod HZ.out hm3 (by simp [rd_new H.out (Nat.le_refl _)]))
        have HM := Lib.hid (heap_mod HM.out hm3 (by simp [rd_new H.out (Nat.le_of_lt HGM.out.1)]))
        clear r3 hm3 hn3 m0 m1 m2
        obtain ⟨⟨d0, d1, d2⟩, f0, f1, f2⟩ := three_cells HZ.out
        go_wp2_with fail
        refine bodyPost_ret (v := .tuple #[.agg #[.int .i64 0, .int .i64 0, .int .i64 0], .int .i64 G]) ?_ rfl ?_
        · simp [results, Tryz.results31, go_sem, d0, d1, d2]
        · rw [HU.out]
          exact ⟨rfl, rout_three H.out HX.out (Nat.le_refl _) (by have := HGM.out; omega) ⟨p3, HR3.out, HM3.out, HN3.out⟩ _ _ _⟩
    · have hvp : 0 < V := by omega
      clear hv hV0
      have hBl2 := hBl
      generalize hBB : m.loadB r 1 = B at *
      have LDE0 := (HLO.out.2 hvp).1
      have LDFA := (HLO.out.2 hvp).2
      clear hBB HLO hBl
      by_cases hu : uV B = true
      · have HUE := Lib.hid (uE_yes hu)
        have hle : uF B 2 ≤ 1099511627776 := by have := (mayU_iff.1 (uF_may hu)).2; omega
        have LDE : m.ldE r = 0 := by rw [LDE0, HUE.out]
        have LDF0 := LDFA 0
        have LDF1 := LDFA 1
        have LDF2 := LDFA 2
        clear hu LDE0 LDFA
        by_cases hf : uF B 2 = 1099511627776
        · have hcf : ((uF B 2 : Nat) : Int) == 1099511627776 := by simp; omega
          have HU := Lib.hid (beginU_full (m := m) (r := r) LDE (by rw [LDF2]; exact hf))
          clear LDE LDF0 LDF1 LDF2 hf
          go_enter Tryz.func31, Tryz.ntmps31
          go_wp2_with fail
          refine HLD.out.mono ?_
          rintro e w1 ⟨A1, N1, k1, rfl, hb, hx⟩
          have HB := Lib.hid hb
          have HZ := Lib.hid ((hx.block _ (Array.getElem?_eq_some_iff.1 HZ.out).1).trans HZ.out)
          have HX := Lib.hid (HX.out.trans hx)
          have HLT : Hid (w.heap.size < w1.heap.size) := Lib.hid (by have := hx.size; simp at this; omega)
          clear hb hx
          have hN : N1 ≤ 9000000000000000000 := by
            have h1 := HB.out.len
            omega
          have HB := Lib.hid (HB.out.ext ((Ext.refl w1).alloc (.cells #[.int .i64 0, .int .i64 0, .int .i64 0] 76)))
          have HM := Lib.hid (heap_alloc_new w1 (.cells #[.int .i64 0, .int .i64 0, .int .i64 0] 76))
          have HZ := Lib.hid ((heap_alloc_old w1 (.cells #[.int .i64 0, .int .i64 0, .int .i64 0] 76) (Array.getElem?_eq_some_iff.1 HZ.out).1).trans HZ.out)
          have HX := Lib.hid (HX.out.alloc (.cells #[.int .i64 0, .int .i64 0, .int .i64 0] 76))
          have HG1 : Hid (w1.heap.size < (w1.alloc (.cells #[.int .i64 0, .int .i64 0, .int .i64 0] 76)).heap.size) := Lib.hid (by simp)
          go_wp2_with fail
          refine (rparseU A1 N1 k1 B _ HB.out hN).mono ?_
          rw [HUE.out]
          rintro e w2 ⟨rfl, hx⟩
          have HM := Lib.hid ((hx.block _ (Array.getElem?_eq_some_iff.1 HM.out).1).trans HM.out)
          have HZ := Lib.hid ((hx.block _ (Array.getElem?_eq_some_iff.1 HZ.out).1).trans HZ.out)
          have HX := Lib.hid (HX.out.trans hx)
          have HM := Lib.hid ((heap_alloc_old w2 (.cells #[.int .i64 (uF B 0 : Nat), .int .i64 (uF B 1 : Nat), .int .i64 (uF B 2 : Nat)] 76) (Array.getElem?_eq_some_iff.1 HM.out).1).trans HM.out)
          have HZ := Lib.hid ((heap_alloc_old w2 (.cells #[.int .i64 (uF B 0 : Nat), .int .i64 (uF B 1 : Nat), .int .i64 (uF B 2 : Nat)] 76) (Array.getElem?_eq_some_iff.1 HZ.out).1).trans HZ.out)
          have HO2 := Lib.hid (heap_alloc_new w2 (.cells #[.int .i64 (uF B 0 : Nat), .int .i64 (uF B 1 : Nat), .int .i64 (uF B 2 : Nat)] 76))
          have HG2 : Hid (w1.heap.size < (w2.alloc (.cells #[.int .i64 (uF B 0 : Nat), .int .i64 (uF B 1 : Nat), .int .i64 (uF B 2 : Nat)] 76)).heap.size) := Lib.hid (by have := HG1.out; have := hx.size; simp at *; omega)
          have HX := Lib.hid (HX.out.alloc (.cells #[.int .i64 (uF B 0 : Nat), .int .i64 (uF B 1 : Nat), .int .i64 (uF B 2 : Nat)] 76))
          clear hx hN
          obtain ⟨⟨o0, o1, o2⟩, _⟩ := three_cells HO2.out
          obtain ⟨⟨z0, z1, z2⟩, y0, y1, y2⟩ := three_cells HM.out
          have HMb := Lib.hid (three_row HM.out (.int .i64 (uF B 0 : Nat)) (.int .i64 (uF B 1 : Nat)) (.int .i64 (uF B 2 : Nat)))
          have hmd := three_mod (w := (w2.alloc (.cells #[.int .i64 (uF B 0 : Nat), .int .i64 (uF B 1 : Nat), .int .i64 (uF B 2 : Nat)] 76))) w1.heap.size (.int .i64 (uF B 0 : Nat)) (.int .i64 (uF B 1 : Nat)) (.int .i64 (uF B 2 : Nat))
          have HZb := Lib.hid (heap_mod HZ.out hmd (by have := HLT.out; omega))
          have HXb := Lib.hid (three_ext HX.out (Nat.le_of_lt HLT.out) (.int .i64 (uF B 0 : Nat)) (.int .i64 (uF B 1 : Nat)) (.int .i64 (uF B 2 : Nat)))
          have HGM : Hid (w.heap.size < w1.heap.size ∧ w1.heap.size < ((((w2.alloc (.cells #[.int .i64 (uF B 0 : Nat), .int .i64 (uF B 1 : Nat), .int .i64 (uF B 2 : Nat)] 76)).setCell ⟨w1.heap.size, 0, none⟩ (.int .i64 (uF B 0 : Nat))).setCell ⟨w1.heap.size, 1, none⟩ (.int .i64 (uF B 1 : Nat))).setCell ⟨w1.heap.size, 2, none⟩ (.int .i64 (uF B 2 : Nat))).heap.size) := Lib.hid ⟨HLT.out, Nat.lt_of_lt_of_le HG2.out hmd.size⟩
          clear hmd
          go_upto_region 10 with (fail)
          generalize ((((w2.alloc (.cells #[.int .i64 (uF B 0 : Nat), .int .i64 (uF B 1 : Nat), .int .i64 (uF B 2 : Nat)] 76)).setCell ⟨w1.heap.size, 0, none⟩ (.int .i64 (uF B 0 : Nat))).setCell ⟨w1.heap.size, 1, none⟩ (.int .i64 (uF B 1 : Nat))).setCell ⟨w1.heap.size, 2, none⟩ (.int .i64 (uF B 2 : Nat))) = WM at *
          have HM := HMb
          have HX := HXb
          have HZ := HZb
          clear o0 o1 o2 z0 z1 z2 y0 y1 y2
          obtain ⟨⟨m0, m1, m2⟩, _⟩ := three_cells HM.out
          obtain ⟨⟨d0, d1, d2⟩, f0, f1, f2⟩ := three_cells HZ.out
          go_wp2_with fail
          refine bodyPost_ret (v := .tuple #[.agg #[.int .i64 0, .int .i64 0, .int .i64 0], .int .i64 4]) ?_ rfl ?_
          · simp [results, Tryz.results31, go_sem, d0, d1, d2]
          · rw [HU.out]
            exact ⟨rfl, rout_refl H.out (three_ext HX.out (Nat.le_refl _) _ _ _)⟩
        · have hlt : uF B 2 < 1099511627776 := by omega
          clear hf
          obtain ⟨G, hG⟩ : ∃ G, (m.heal r 1).1 = G := ⟨_, rfl⟩
          obtain ⟨n, hn⟩ : ∃ n, (m.heal r 1).2 = n := ⟨_, rfl⟩
          have HH : Hid (m.heal r 1 = (G, n)) := Lib.hid (by rw [← hG, ← hn])
          clear hG hn
          by_cases hg : G = 0
          · subst hg
            have HU : Hid (m.beginU r = n.storeU r (uF B 0 : Nat) (uF B 1 : Nat) (((uF B 2 : Nat) : Int) + 1)) := Lib.hid ((beginU_yes LDE (by rw [LDF2]; omega) HH.out).trans (by rw [LDF0, LDF1, LDF2]; rw [Int.add_comm]))
            clear LDE LDF0 LDF1 LDF2
            go_enter Tryz.func31, Tryz.ntmps31
            go_wp2_with fail
            refine HLD.out.mono ?_
            rintro e w1 ⟨A1, N1, k1, rfl, hb, hx⟩
            have HB := Lib.hid hb
            have HZ := Lib.hid ((hx.block _ (Array.getElem?_eq_some_iff.1 HZ.out).1).trans HZ.out)
            have HX := Lib.hid (HX.out.trans hx)
            have HLT : Hid (w.heap.size < w1.heap.size) := Lib.hid (by have := hx.size; simp at this; omega)
            clear hb hx
            have hN : N1 ≤ 9000000000000000000 := by
              have h1 := HB.out.len
              omega
            have HB := Lib.hid (HB.out.ext ((Ext.refl w1).alloc (.cells #[.int .i64 0, .int .i64 0, .int .i64 0] 76)))
            have HM := Lib.hid (heap_alloc_new w1 (.cells #[.int .i64 0, .int .i64 0, .int .i64 0] 76))
            have HZ := Lib.hid ((heap_alloc_old w1 (.cells #[.int .i64 0, .int .i64 0, .int .i64 0] 76) (Array.getElem?_eq_some_iff.1 HZ.out).1).trans HZ.out)
            have HX := Lib.hid (HX.out.alloc (.cells #[.int .i64 0, .int .i64 0, .int .i64 0] 76))
            have HG1 : Hid (w1.heap.size < (w1.alloc (.cells #[.int .i64 0, .int .i64 0, .int .i64 0] 76)).heap.size) := Lib.hid (by simp)
            go_wp2_with fail
            refine (rparseU A1 N1 k1 B _ HB.out hN).mono ?_
            rw [HUE.out]
            rintro e w2 ⟨rfl, hx⟩
            have HM := Lib.hid ((hx.block _ (Array.getElem?_eq_some_iff.1 HM.out).1).trans HM.out)
            have HZ := Lib.hid ((hx.block _ (Array.getElem?_eq_some_iff.1 HZ.out).1).trans HZ.out)
            have HX := Lib.hid (HX.out.trans hx)
            have HM := Lib.hid ((heap_alloc_old w2 (.cells #[.int .i64 (uF B 0 : Nat), .int .i64 (uF B 1 : Nat), .int .i64 (uF B 2 : Nat)] 76) (Array.getElem?_eq_some_iff.1 HM.out).1).trans HM.out)
            have HZ := Lib.hid ((heap_alloc_old w2 (.cells #[.int .i64 (uF B 0 : Nat), .int .i64 (uF B 1 : Nat), .int .i64 (uF B 2 : Nat)] 76) (Array.getElem?_eq_some_iff.1 HZ.out).1).trans HZ.out)
            have HO2 := Lib.hid (heap_alloc_new w2 (.cells #[.int .i64 (uF B 0 : Nat), .int .i64 (uF B 1 : Nat), .int .i64 (uF B 2 : Nat)] 76))
            have HG2 : Hid (w1.heap.size < (w2.alloc (.cells #[.int .i64 (uF B 0 : Nat), .int .i64 (uF B 1 : Nat), .int .i64 (uF B 2 : Nat)] 76)).heap.size) := Lib.hid (by have := HG1.out; have := hx.size; simp at *; omega)
            have HX := Lib.hid (HX.out.alloc (.cells #[.int .i64 (uF B 0 : Nat), .int .i64 (uF B 1 : Nat), .int .i64 (uF B 2 : Nat)] 76))
            clear hx hN
            obtain ⟨⟨o0, o1, o2⟩, _⟩ := three_cells HO2.out
            obtain ⟨⟨z0, z1, z2⟩, y0, y1, y2⟩ := three_cells HM.out
            have HMb := Lib.hid (three_row HM.out (.int .i64 (uF B 0 : Nat)) (.int .i64 (uF B 1 : Nat)) (.int .i64 (uF B 2 : Nat)))
            have hmd := three_mod (w := (w2.alloc (.cells #[.int .i64 (uF B 0 : Nat), .int .i64 (uF B 1 : Nat), .int .i64 (uF B 2 : Nat)] 76))) w1.heap.size (.int .i64 (uF B 0 : Nat)) (.int .i64 (uF B 1 : Nat)) (.int .i64 (uF B 2 : Nat))
            have HZb := Lib.hid (heap_mod HZ.out hmd (by have := HLT.out; omega))
            have HXb := Lib.hid (three_ext HX.out (Nat.le_of_lt HLT.out) (.int .i64 (uF B 0 : Nat)) (.int .i64 (uF B 1 : Nat)) (.int .i64 (uF B 2 : Nat)))
            have HGM : Hid (w.heap.size < w1.heap.size ∧ w1.heap.size < ((((w2.alloc (.cells #[.int .i64 (uF B 0 : Nat), .int .i64 (uF B 1 : Nat), .int .i64 (uF B 2 : Nat)] 76)).setCell ⟨w1.heap.size, 0, none⟩ (.int .i64 (uF B 0 : Nat))).setCell ⟨w1.heap.size, 1, none⟩ (.int .i64 (uF B 1 : Nat))).setCell ⟨w1.heap.size, 2, none⟩ (.int .i64 (uF B 2 : Nat))).heap.size) := Lib.hid ⟨HLT.out, Nat.lt_of_lt_of_le HG2.out hmd.size⟩
            clear hmd
            go_upto_region 10 with (fail)
            generalize ((((w2.alloc (.cells #[.int .i64 (uF B 0 : Nat), .int .i64 (uF B 1 : Nat), .int .i64 (uF B 2 : Nat)] 76)).setCell ⟨w1.heap.size, 0, none⟩ (.int .i64 (uF B 0 : Nat))).setCell ⟨w1.heap.size, 1, none⟩ (.int .i64 (uF B 1 : Nat))).setCell ⟨w1.heap.size, 2, none⟩ (.int .i64 (uF B 2 : Nat))) = WM at *
            have HM := HMb
            have HX := HXb
            have HZ := HZb
            clear o0 o1 o2 z0 z1 z2 y0 y1 y2
            obtain ⟨⟨m0, m1, m2⟩, _⟩ := three_cells HM.out
            go_wp2_with fail
            refine (rheal_of (H.out.ext HX.out) r 1 (by have := HW.out; omega) HK.out).mono ?_
            rw [HH.out]
            dsimp only
            rintro e w5 ⟨rfl, ho⟩
            obtain ⟨p3, r3, hm3, hn3⟩ := ho
            have HR3 := Lib.hid r3
            have HM3 := Lib.hid hm3
            have HN3 := Lib.hid hn3
            have HZ := Lib.hid (heap_mod HZ.out hm3 (by simp [rd_new H.out (Nat.le_refl _)]))
            have HM := Lib.hid (heap_mod HM.out hm3 (by simp [rd_new H.out (Nat.le_of_lt HGM.out.1)]))
            clear r3 hm3 hn3 m0 m1 m2
            have HW2 : Hid (n.waits.length + 2 ≤ 1000000) := Lib.hid (by have h1 := heal_waits m r 1; rw [HH.out] at h1; dsimp only at h1; have := HW.out; omega)
            have HK2 : Hid (knownC n.size r 1 = 0) := Lib.hid (by have h1 := heal_size m r 1; rw [HH.out] at h1; dsimp only at h1; rw [h1]; exact HK.out)
            have hne3 : ∀ i, p3 i ≠ 0 → ¬ i = w1.heap.size := fun i hi he => by
              subst he
              rcases HN3.out _ hi with h4 | h4
              · have := H.out.2 _ h4; have := HGM.out.1; omega
              · have := HGM.out.2; omega
            have HR4 := Lib.hid (HR3.out.mod (mod_one w5 w1.heap.size 2 (.int .i64 (((uF B 2 : Nat) : Int) + 1))) hne3)
            have HM4 := Lib.hid (((Mod.of_ext HX.out).trans HM3.out fun i hi => .inl hi).trans (mod_one w5 w1.heap.size 2 (.int .i64 (((uF B 2 : Nat) : Int) + 1))) fun i hi => .inr (by rw [hi]; exact Nat.le_of_lt HGM.out.1))
            have HZ4 := Lib.hid (heap_mod HZ.out (mod_one w5 w1.heap.size 2 (.int .i64 (((uF B 2 : Nat) : Int) + 1))) (by have := HGM.out.1; omega))
            have HSZ : Hid (WM.heap.size ≤ (w5.setCell ⟨w1.heap.size, 2, none⟩ (.int .i64 (((uF B 2 : Nat) : Int) + 1))).heap.size) := Lib.hid (Nat.le_trans HM3.out.size (mod_one w5 w1.heap.size 2 (.int .i64 (((uF B 2 : Nat) : Int) + 1))).size)
            clear hne3
            obtain ⟨⟨m0, m1, m2⟩, q0, q1, q2⟩ := three_cells HM.out
            go_wp2_with fail
            generalize (w5.setCell ⟨w1.heap.size, 2, none⟩ (.int .i64 (((uF B 2 : Nat) : Int) + 1))) = w6 at *
            have hst := rstoreU_of HR4.out r (uF B 0 : Nat) (uF B 1 : Nat) (((uF B 2 : Nat) : Int) + 1) HK2.out HW2.out
            generalize n.storeU r (uF B 0 : Nat) (uF B 1 : Nat) (((uF B 2 : Nat) : Int) + 1) = U at hst HU
            refine hst.mono ?_
            rintro e w7 ⟨rfl, hs⟩
            have HS7 := Lib.hid hs
            have HZ7 := Lib.hid (heap_mod HZ4.out hs.choose_spec.2.1 (by
              intro hp
              rcases HN3.out _ hp with h4 | h4
              · have := H.out.2 _ h4; omega
              · have := HGM.out; omega))
            clear hs hst m0 m1 m2 q0 q1 q2
            obtain ⟨⟨d0, d1, d2⟩, f0, f1, f2⟩ := three_cells HZ7.out
            go_wp2_with fail
            refine bodyPost_ret (v := .tuple #[.agg #[.int .i64 U.a, .int .i64 U.b, .int .i64 U.c], .int .i64 U.e]) ?_ rfl ?_
            · simp [results, Tryz.results31, go_sem, d0, d1, d2]
            · rw [HU.out]
              exact ⟨rfl, rout_fin H.out (Nat.le_refl _) (by have := HGM.out; omega) HM4.out HN3.out HX.out.size HSZ.out HS7.out _ _ _⟩
          · have hne : (G != 0) = true := by simpa using hg
            have HU := Lib.hid (beginU_ill LDE (by rw [LDF2]; omega) HH.out hg)
            clear hg LDE LDF0 LDF1 LDF2
            go_enter Tryz.func31, Tryz.ntmps31
            go_wp2_with fail
            refine HLD.out.mono ?_
            rintro e w1 ⟨A1, N1, k1, rfl, hb, hx⟩
            have HB := Lib.hid hb
            have HZ := Lib.hid ((hx.block _ (Array.getElem?_eq_some_iff.1 HZ.out).1).trans HZ.out)
            have HX := Lib.hid (HX.out.trans hx)
            have HLT : Hid (w.heap.size < w1.heap.size) := Lib.hid (by have := hx.size; simp at this; omega)
            clear hb hx
            have hN : N1 ≤ 9000000000000000000 := by
              have h1 := HB.out.len
              omega
            have HB := Lib.hid (HB.out.ext ((Ext.refl w1).alloc (.cells #[.int .i64 0, .int .i64 0, .int .i64 0] 76)))
            have HM := Lib.hid (heap_alloc_new w1 (.cells #[.int .i64 0, .int .i64 0, .int .i64 0] 76))
            have HZ := Lib.hid ((heap_alloc_old w1 (.cells #[.int .i64 0, .int .i64 0, .int .i64 0] 76) (Array.getElem?_eq_some_iff.1 HZ.out).1).trans HZ.out)
            have HX := Lib.hid (HX.out.alloc (.cells #[.int .i64 0, .int .i64 0, .int .i64 0] 76))
            have HG1 : Hid (w1.heap.size < (w1.alloc (.cells #[.int .i64 0, .int .i64 0, .int .i64 0] 76)).heap.size) := Lib.hid (by simp)
            go_wp2_with fail
            refine (rparseU A1 N1 k1 B _ HB.out hN).mono ?_
            rw [HUE.out]
            rintro e w2 ⟨rfl, hx⟩
            have HM := Lib.hid ((hx.block _ (Array.getElem?_eq_some_iff.1 HM.out).1).trans HM.out)
            have HZ := Lib.hid ((hx.block _ (Array.getElem?_eq_some_iff.1 HZ.out).1).trans HZ.out)
            have HX := Lib.hid (HX.out.trans hx)
            have HM := Lib.hid ((heap_alloc_old w2 (.cells #[.int .i64 (uF B 0 : Nat), .int .i64 (uF B 1 : Nat), .int .i64 (uF B 2 : Nat)] 76) (Array.getElem?_eq_some_iff.1 HM.out).1).trans HM.out)
            have HZ := Lib.hid ((heap_alloc_old w2 (.cells #[.int .i64 (uF B 0 : Nat), .int .i64 (uF B 1 : Nat), .int .i64 (uF B 2 : Nat)] 76) (Array.getElem?_eq_some_iff.1 HZ.out).1).trans HZ.out)
            have HO2 := Lib.hid (heap_alloc_new w2 (.cells #[.int .i64 (uF B 0 : Nat), .int .i64 (uF B 1 : Nat), .int .i64 (uF B 2 : Nat)] 76))
            have HG2 : Hid (w1.heap.size < (w2.alloc (.cells #[.int .i64 (uF B 0 : Nat), .int .i64 (uF B 1 : Nat), .int .i64 (uF B 2 : Nat)] 76)).heap.size) := Lib.hid (by have := HG1.out; have := hx.size; simp at *; omega)
            have HX := Lib.hid (HX.out.alloc (.cells #[.int .i64 (uF B 0 : Nat), .int .i64 (uF B 1 : Nat), .int .i64 (uF B 2 : Nat)] 76))
            clear hx hN
            obtain ⟨⟨o0, o1, o2⟩, _⟩ := three_cells HO2.out
            obtain ⟨⟨z0, z1, z2⟩, y0, y1, y2⟩ := three_cells HM.out
            have HMb := Lib.hid (three_row HM.out (.int .i64 (uF B 0 : Nat)) (.int .i64 (uF B 1 : Nat)) (.int .i64 (uF B 2 : Nat)))
            have hmd := three_mod (w := (w2.alloc (.cells #[.int .i64 (uF B 0 : Nat), .int .i64 (uF B 1 : Nat), .int .i64 (uF B 2 : Nat)] 76))) w1.heap.size (.int .i64 (uF B 0 : Nat)) (.int .i64 (uF B 1 : Nat)) (.int .i64 (uF B 2 : Nat))
            have HZb := Lib.hid (heap_mod HZ.out hmd (by have := HLT.out; omega))
            have HXb := Lib.hid (three_ext HX.out (Nat.le_of_lt HLT.out) (.int .i64 (uF B 0 : Nat)) (.int .i64 (uF B 1 : Nat)) (.int .i64 (uF B 2 : Nat)))
            have HGM : Hid (w.heap.size < w1.heap.size ∧ w1.heap.size < ((((w2.alloc (.cells #[.int .i64 (uF B 0 : Nat), .int .i64 (uF B 1 : Nat), .int .i64 (uF B 2 : Nat)] 76)).setCell ⟨w1.heap.size, 0, none⟩ (.int .i64 (uF B 0 : Nat))).setCell ⟨w1.heap.size, 1, none⟩ (.int .i64 (uF B 1 : Nat))).setCell ⟨w1.heap.size, 2, none⟩ (.int .i64 (uF B 2 : Nat))).heap.size) := Lib.hid ⟨HLT.out, Nat.lt_of_lt_of_le HG2.out hmd.size⟩
            clear hmd
            go_upto_region 10 with (fail)
            generalize ((((w2.alloc (.cells #[.int .i64 (uF B 0 : Nat), .int .i64 (uF B 1 : Nat), .int .i64 (uF B 2 : Nat)] 76)).setCell ⟨w1.heap.size, 0, none⟩ (.int .i64 (uF B 0 : Nat))).setCell ⟨w1.heap.size, 1, none⟩ (.int .i64 (uF B 1 : Nat))).setCell ⟨w1.heap.size, 2, none⟩ (.int .i64 (uF B 2 : Nat))) = WM at *
            have HM := HMb
            have HX := HXb
            have HZ := HZb
            clear o0 o1 o2 z0 z1 z2 y0 y1 y2
            obtain ⟨⟨m0, m1, m2⟩, _⟩ := three_cells HM.out
            go_wp2_with fail
            refine (rheal_of (H.out.ext HX.out) r 1 (by have := HW.out; omega) HK.out).mono ?_
            rw [HH.out]
            dsimp only
            rintro e w5 ⟨rfl, ho⟩
            obtain ⟨p3, r3, hm3, hn3⟩ := ho
            have HR3 := Lib.hid r3
            have HM3 := Lib.hid hm3
            have HN3 := Lib.hid hn3
            have HZ := Lib.hid (heap_mod HZ.out hm3 (by simp [rd_new H.out (Nat.le_refl _)]))
            have HM := Lib.hid (heap_mod HM.out hm3 (by simp [rd_new H.out (Nat.le_of_lt HGM.out.1)]))
            clear r3 hm3 hn3 m0 m1 m2
            obtain ⟨⟨d0, d1, d2⟩, f0, f1, f2⟩ := three_cells HZ.out
            go_wp2_with fail
            refine bodyPost_ret (v := .tuple #[.agg #[.int .i64 0, .int .i64 0, .int .i64 0], .int .i64 G]) ?_ rfl ?_
            · simp [results, Tryz.results31, go_sem, d0, d1, d2]
            · rw [HU.out]
              exact ⟨rfl, rout_three H.out HX.out (Nat.le_refl _) (by have := HGM.out; omega) ⟨p3, HR3.out, HM3.out, HN3.out⟩ _ _ _⟩
      · have hu' : uV B = false := by simpa using hu
        have HUE := Lib.hid (uE_no hu')
        have HU := Lib.hid (beginU_zero (m := m) (r := r) (E := 80) (by rw [LDE0, HUE.out]) (by omega))
        clear hu hu' LDE0 LDFA
        go_enter Tryz.func31, Tryz.ntmps31
        go_wp2_with fail
        refine HLD.out.mono ?_
        rintro e w1 ⟨A1, N1, k1, rfl, hb, hx⟩
        have HB := Lib.hid hb
        have HZ := Lib.hid ((hx.block _ (Array.getElem?_eq_some_iff.1 HZ.out).1).trans HZ.out)
        have HX := Lib.hid (HX.out.trans hx)
        have HLT : Hid (w.heap.size < w1.heap.size) := Lib.hid (by have := hx.size; simp at this; omega)
        clear hb hx
        have hN : N1 ≤ 9000000000000000000 := by
          have h1 := HB.out.len
          omega
        have HB := Lib.hid (HB.out.ext ((Ext.refl w1).alloc (.cells #[.int .i64 0, .int .i64 0, .int .i64 0] 76)))
        have HM := Lib.hid (heap_alloc_new w1 (.cells #[.int .i64 0, .int .i64 0, .int .i64 0] 76))
        have HZ := Lib.hid ((heap_alloc_old w1 (.cells #[.int .i64 0, .int .i64 0, .int .i64 0] 76) (Array.getElem?_eq_some_iff.1 HZ.out).1).trans HZ.out)
        have HX := Lib.hid (HX.out.alloc (.cells #[.int .i64 0, .int .i64 0, .int .i64 0] 76))
        have HG1 : Hid (w1.heap.size < (w1.alloc (.cells #[.int .i64 0, .int .i64 0, .int .i64 0] 76)).heap.size) := Lib.hid (by simp)
        go_wp2_with fail
        refine (rparseU A1 N1 k1 B _ HB.out hN).mono ?_
        rw [HUE.out]
        rintro e w2 ⟨rfl, hx⟩
        have HM := Lib.hid ((hx.block _ (Array.getElem?_eq_some_iff.1 HM.out).1).trans HM.out)
        have HZ := Lib.hid ((hx.block _ (Array.getElem?_eq_some_iff.1 HZ.out).1).trans HZ.out)
        have HX := Lib.hid (HX.out.trans hx)
        have HM := Lib.hid ((heap_alloc_old w2 (.cells #[.int .i64 (uF B 0 : Nat), .int .i64 (uF B 1 : Nat), .int .i64 (uF B 2 : Nat)] 76) (Array.getElem?_eq_some_iff.1 HM.out).1).trans HM.out)
        have HZ := Lib.hid ((heap_alloc_old w2 (.cells #[.int .i64 (uF B 0 : Nat), .int .i64 (uF B 1 : Nat), .int .i64 (uF B 2 : Nat)] 76) (Array.getElem?_eq_some_iff.1 HZ.out).1).trans HZ.out)
        have HO2 := Lib.hid (heap_alloc_new w2 (.cells #[.int .i64 (uF B 0 : Nat), .int .i64 (uF B 1 : Nat), .int .i64 (uF B 2 : Nat)] 76))
        have HG2 : Hid (w1.heap.size < (w2.alloc (.cells #[.int .i64 (uF B 0 : Nat), .int .i64 (uF B 1 : Nat), .int .i64 (uF B 2 : Nat)] 76)).heap.size) := Lib.hid (by have := HG1.out; have := hx.size; simp at *; omega)
        have HX := Lib.hid (HX.out.alloc (.cells #[.int .i64 (uF B 0 : Nat), .int .i64 (uF B 1 : Nat), .int .i64 (uF B 2 : Nat)] 76))
        clear hx hN
        obtain ⟨⟨d0, d1, d2⟩, f0, f1, f2⟩ := three_cells HZ.out
        go_wp2_with fail
        refine bodyPost_ret (v := .tuple #[.agg #[.int .i64 0, .int .i64 0, .int .i64 0], .int .i64 80]) ?_ rfl ?_
        · simp [results, Tryz.results31, go_sem, d0, d1, d2]
        · rw [HU.out]
          exact ⟨rfl, rout_refl H.out (three_ext HX.out (Nat.le_refl _) _ _ _)⟩
  · have hne : (E != 0) = true := by simpa using h0
    have HU := Lib.hid (beginU_zero (m := m) (r := r) (E := E) (by unfold DM.ldE; rw [if_pos (by rw [hE]; exact h0), hE]) h0)
    clear h0 hE hV hV0 hBl
    go_enter Tryz.func31, Tryz.ntmps31
    go_wp2_with fail
    refine HLD.out.mono ?_
    rintro e w1 ⟨A1, N1, k1, rfl, hb, hx⟩
    have HB := Lib.hid hb
    have HZ := Lib.hid ((hx.block _ (Array.getElem?_eq_some_iff.1 HZ.out).1).trans HZ.out)
    have HX := Lib.hid (HX.out.trans hx)
    have HLT : Hid (w.heap.size < w1.heap.size) := Lib.hid (by have := hx.size; simp at this; omega)
    clear hb hx
    obtain ⟨⟨d0, d1, d2⟩, f0, f1, f2⟩ := three_cells HZ.out
    go_wp2_with fail
    refine bodyPost_ret (v := .tuple #[.agg #[.int .i64 0, .int .i64 0, .int .i64 0], .int .i64 E]) ?_ rfl ?_
    · simp [results, Tryz.results31, go_sem, d0, d1, d2]
    · rw [HU.out]
      exact ⟨rfl, rout_refl H.out (three_ext HX.out (Nat.le_refl _) _ _ _)⟩
end Go.Proofs.YtlikhmhomkiadaaGreatDoor
