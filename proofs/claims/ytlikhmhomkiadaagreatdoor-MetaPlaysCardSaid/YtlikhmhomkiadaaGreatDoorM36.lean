/-
  The contracts of meta's store and load at a disk.
  The contracts of meta's Begin and Promise at a disk.
-/
import Derived.Test.YtlikhmhomkiadaaGreatDoorM29
import Derived.Test.YtlikhmhomkiadaaGreatDoorM30
import Derived.Test.YtlikhmhomkiadaaGreatDoorM35
namespace Go.Proofs.YtlikhmhomkiadaaGreatDoor
open Go Go.RowKit

/-- A step, told by its end: the disk's blocks then are its own or new. -/
theorem Step.fin {d : Nat} {F F' : Nat → Prop} {w w' : World} {m' : DM} (hp : PDisk w' d F' m') (hm : Mod F w w') (hs : ∀ k, F' k → F k ∨ w.heap.size ≤ k) (hF : ∀ k, F k → k < w.heap.size) : Step d F w m' w' :=
  ⟨hp.more (fun k hk => (hs k hk).imp id fun h => ⟨h, hp.lt k hk⟩) (fun i hi => hi.elim (fun h => Nat.lt_of_lt_of_le (hF i h) hm.size) fun h => h.2), hm⟩
theorem three_mod {w : World} (g : Nat) (x0 x1 x2 : Value) : Mod (fun k => k = g) w (((w.setCell ⟨g, 0, none⟩ x0).setCell ⟨g, 1, none⟩ x1).setCell ⟨g, 2, none⟩ x2) :=
  (((Mod.refl (fun k => k = g) w).setCell (p := ⟨g, 0, none⟩) (.inl rfl) x0).setCell (p := ⟨g, 1, none⟩) (.inl rfl) x1).setCell (p := ⟨g, 2, none⟩) (.inl rfl) x2
theorem storeU_zero {m m1 : DM} {r a b c E : Int} (h : m.store r 1 c (uL a b c) = (E, m1)) (h0 : E ≠ 0) : m.storeU r a b c = ⟨E, 0, 0, 0, m1⟩ := by
  unfold DM.storeU
  rw [h]
  simp [h0]
theorem storeU_good {m m1 : DM} {r a b c : Int} (h : m.store r 1 c (uL a b c) = (0, m1)) : m.storeU r a b c = ⟨0, a, b, c, m1⟩ := by
  unfold DM.storeU
  rw [h]
  simp

theorem loadB_len {m : DM} (h : m.Ok) (r g : Int) : (m.loadB r g).length ≤ 43 := by
  unfold DM.loadB
  split
  · unfold cellB
    split
    · rename_i ha
      exact (mine_copy (read_sect h _) (atC_zero ha)).2.2.2.2
    · split
      · rename_i ha
        exact (mine_copy (read_sect h _) (atC_one ha)).2.2.2.2
      · simp
  · simp
set_option maxRecDepth 100000 in
set_option maxHeartbeats 1600000 in
theorem storeU_of {w : World} {d : Nat} {F : Nat → Prop} {m : DM} (h : PDisk w d F m) (hL : LaidF w) (hLM : ∀ V, Mod F w V → LaidF V) (r a b c : Int) (hk : knownC m.size r 1 = 0) (hfew : m.waits.length + 2 ≤ 1000000) :
    Calls Tryz.prog 73 #[.pointer (some ⟨d, 0, none⟩), .int .i64 r, .agg #[.int .i64 a, .int .i64 b, .int .i64 c]] w fun e w' => e = .returned (.tuple #[.agg #[.int .i64 (m.storeU r a b c).a, .int .i64 (m.storeU r a b c).b, .int .i64 (m.storeU r a b c).c], .int .i64 (m.storeU r a b c).e]) ∧ Step d F w (m.storeU r a b c).m w' := by
  have hx := ((Ext.refl w).alloc (.cells #[.int .i64 a, .int .i64 b, .int .i64 c] 76)).alloc (.cells #[.int .i64 0, .int .i64 0, .int .i64 0] 76)
  have HT := Lib.hid (show ((w.alloc (.cells #[.int .i64 a, .int .i64 b, .int .i64 c] 76)).alloc (.cells #[.int .i64 0, .int .i64 0, .int .i64 0] 76)).heap[w.heap.size]? = some (.cells #[.int .i64 a, .int .i64 b, .int .i64 c] 76 (0, 0)) by
    rw [heap_alloc_old _ _ (by simp)]
    exact heap_alloc_new w _)
  have HZ := Lib.hid (heap_alloc2_new w (.cells #[.int .i64 a, .int .i64 b, .int .i64 c] 76) (.cells #[.int .i64 0, .int .i64 0, .int .i64 0] 76))
  have HX := Lib.hid hx
  have H := Lib.hid h
  have HL := Lib.hid hL
  have HLM := Lib.hid hLM
  have HK := Lib.hid hk
  have HW := Lib.hid hfew
  obtain ⟨E, hE⟩ : ∃ E, (m.store r 1 c (uL a b c)).1 = E := ⟨_, rfl⟩
  obtain ⟨m1, hm1⟩ : ∃ m1, (m.store r 1 c (uL a b c)).2 = m1 := ⟨_, rfl⟩
  have HQ : Hid (m.store r 1 c (uL a b c) = (E, m1)) := Lib.hid (by rw [← hE, ← hm1])
  clear hx h hL hLM hk hfew hE hm1
  have fin : ∀ (w1 w3 w4 : World) (x0 x1 x2 : Value), Ext w w1 → w.heap.size + 1 < w1.heap.size → Step d F w1 m1 w3 → w4 = (((w3.setCell ⟨w.heap.size + 1, 0, none⟩ x0).setCell ⟨w.heap.size + 1, 1, none⟩ x1).setCell ⟨w.heap.size + 1, 2, none⟩ x2) → Step d F w m1 w4 := by
    rintro w1 w3 w4 x0 x1 x2 hx hlt hs rfl
    have hmod := three_mod (w := w3) (w.heap.size + 1) x0 x1 x2
    refine Step.fin (F' := grow F w1 w3) (hs.1.mod hmod fun i hi hg => ?_) (((Mod.of_ext hx).trans hs.2 fun i hi => .inl hi).trans hmod fun i hi => .inr (by rw [hi]; omega)) (fun k hk => hk.imp id fun h => Nat.le_trans hx.size h.1) H.out.lt
    subst hg
    rcases hi with hi | hi
    · have := H.out.lt _ hi; omega
    · have := hi.1; omega
  have FIN := Lib.hid fin
  clear fin
  obtain ⟨⟨c0, c1, c2⟩, _⟩ := three_cells HT.out
  go_enter Tryz.func73, Tryz.ntmps73
  go_wp2_with fail
  refine (printU_any a b c _ (HL.out.ext HX.out).a.o).mono ?_
  rintro e w1 ⟨A, cp, rfl, hb, hf, hx⟩
  have HB := Lib.hid hb
  have HO : Hid (∀ g o, A = some ⟨g, o, none⟩ → 0 < (uL a b c).length → ¬ F g) := Lib.hid fun g o hA _ hF => by
    have h1 := hf g o hA
    have h2 := H.out.lt _ hF
    have h3 := HX.out.size
    omega
  have HLT : Hid (w.heap.size + 1 < w1.heap.size) := Lib.hid (by have := hx.size; simp at this; omega)
  have HT := Lib.hid ((hx.block _ (Array.getElem?_eq_some_iff.1 HT.out).1).trans HT.out)
  have HZ := Lib.hid ((hx.block _ (Array.getElem?_eq_some_iff.1 HZ.out).1).trans HZ.out)
  have HX := Lib.hid (HX.out.trans hx)
  clear hb hf hx c0 c1 c2
  obtain ⟨⟨c0, c1, c2⟩, _⟩ := three_cells HT.out
  go_wp2_with fail
  refine (Store_of (H.out.ext HX.out) (HL.out.ext HX.out) (fun V hV => HLM.out V ((Mod.of_ext HX.out).trans hV fun i hi => .inl hi)) r 1 c A _ cp _ HB.out HO.out HW.out HK.out).mono ?_
  rw [HQ.out]
  dsimp only
  rintro e w2 ⟨rfl, hs⟩
  have HS := Lib.hid hs
  have HT := Lib.hid (heap_mod HT.out hs.2 fun hF => by have := H.out.lt _ hF; omega)
  have HZ := Lib.hid (heap_mod HZ.out hs.2 fun hF => by have := H.out.lt _ hF; omega)
  clear hs c0 c1 c2
  by_cases h0 : E = 0
  · subst h0
    obtain ⟨⟨c0, c1, c2⟩, _⟩ := three_cells HT.out
    obtain ⟨⟨d0, d1, d2⟩, f0, f1, f2⟩ := three_cells HZ.out
    go_wp2_with fail
    refine bodyPost_ret (v := .tuple #[.agg #[.int .i64 a, .int .i64 b, .int .i64 c], .int .i64 0]) ?_ rfl ?_
    · simp [results, Tryz.results73, go_sem, d0, d1, d2]
    · rw [storeU_good HQ.out]
      refine ⟨rfl, ?_⟩
      exact FIN.out _ _ _ _ _ _ HX.out HLT.out HS.out rfl
  · have HU := Lib.hid (storeU_zero HQ.out h0)
    have hne : (E != 0) = true := by simpa using h0
    obtain ⟨⟨d0, d1, d2⟩, f0, f1, f2⟩ := three_cells HZ.out
    clear h0
    go_wp2_with fail
    refine bodyPost_ret (v := .tuple #[.agg #[.int .i64 0, .int .i64 0, .int .i64 0], .int .i64 E]) ?_ rfl ?_
    · simp [results, Tryz.results73, go_sem, d0, d1, d2]
    · rw [HU.out]
      refine ⟨rfl, ?_⟩
      exact FIN.out _ _ _ _ _ _ HX.out HLT.out HS.out rfl

set_option maxRecDepth 100000 in
set_option maxHeartbeats 1600000 in
theorem loadU_of {w : World} {d : Nat} {F : Nat → Prop} {m : DM} (h : PDisk w d F m) (hL : LaidF w) (r : Int) (hk : knownC m.size r 1 = 0) (hfew : m.waits.length ≤ 1000000) :
    Calls Tryz.prog 72 #[.pointer (some ⟨d, 0, none⟩), .int .i64 r] w fun e w' => e = .returned (.tuple #[.agg #[.int .i64 (m.ldF r 0 : Nat), .int .i64 (m.ldF r 1 : Nat), .int .i64 (m.ldF r 2 : Nat)], .int .i64 (m.ldE r)]) ∧ Ext w w' := by
  have hx := (Ext.refl w).alloc (.cells #[.int .i64 0, .int .i64 0, .int .i64 0] 76)
  have HZ := Lib.hid (heap_alloc_new w (.cells #[.int .i64 0, .int .i64 0, .int .i64 0] 76))
  have HX := Lib.hid hx
  have HL := Lib.hid hL
  have HLD := Lib.hid (Load_of (h.ext hx) (hL.ext hx) r 1 hfew hk)
  obtain ⟨E, hE⟩ : ∃ E, m.loadE r 1 = E := ⟨_, rfl⟩
  obtain ⟨V, hV⟩ : ∃ V, m.loadV r 1 = V := ⟨_, rfl⟩
  obtain ⟨B, hB⟩ : ∃ B, m.loadB r 1 = B := ⟨_, rfl⟩
  rw [hE, hV, hB] at HLD
  have HE : Hid (m.ldE r = if E ≠ 0 then E else if V = 0 then 0 else uE B) := Lib.hid (by unfold DM.ldE; rw [hE, hV, hB])
  have HF : Hid (∀ k, m.ldF r k = if E ≠ 0 then 0 else if V = 0 then 0 else uF B k) := Lib.hid (by intro k; unfold DM.ldF; rw [hE, hV, hB])
  have HBL : Hid (B.length ≤ 43) := Lib.hid (by rw [← hB]; exact loadB_len h.ok r 1)
  clear hx h hL hk hfew hE hV hB
  by_cases h0 : E = 0
  · subst h0
    by_cases hv : V = 0
    · subst hv
      go_enter Tryz.func72, Tryz.ntmps72
      go_wp2_with fail
      refine HLD.out.mono ?_
      rintro e w1 ⟨A, N, rfl, hb, hx⟩
      have HZ := Lib.hid ((hx.block _ (Array.getElem?_eq_some_iff.1 HZ.out).1).trans HZ.out)
      have HX := Lib.hid (HX.out.trans hx)
      clear hb hx
      obtain ⟨⟨d0, d1, d2⟩, f0, f1, f2⟩ := three_cells HZ.out
      go_wp2_with fail
      refine bodyPost_ret (v := .tuple #[.agg #[.int .i64 0, .int .i64 0, .int .i64 0], .int .i64 0]) ?_ rfl ⟨?_, three_ext HX.out (Nat.le_refl _) _ _ _⟩
      · simp [results, Tryz.results72, go_sem, d0, d1, d2]
      · rw [HE.out, HF.out, HF.out, HF.out]
        simp
    · have hv' : ((V : Int) == 0) = false := by simpa using hv
      have HV := Lib.hid hv
      clear hv
      go_enter Tryz.func72, Tryz.ntmps72
      go_wp2_with fail
      refine HLD.out.mono ?_
      rintro e w1 ⟨A, N, rfl, hb, hx⟩
      have HB := Lib.hid hb
      have hN : N ≤ 9000000000000000000 := by
        have h1 := hb.len
        have h2 := HBL.out
        omega
      have HZ := Lib.hid ((hx.block _ (Array.getElem?_eq_some_iff.1 HZ.out).1).trans HZ.out)
      have HX := Lib.hid (HX.out.trans hx)
      clear hb hx
      go_wp2_with fail
      refine (parseU A N N B _ (HL.out.ext HX.out).a.o HB.out hN).mono ?_
      rintro e w2 ⟨rfl, hx⟩
      have HZ := Lib.hid ((hx.block _ (Array.getElem?_eq_some_iff.1 HZ.out).1).trans HZ.out)
      have HX := Lib.hid (HX.out.trans hx)
      clear hx hN
      obtain ⟨⟨d0, d1, d2⟩, f0, f1, f2⟩ := three_cells HZ.out
      go_wp2_with fail
      refine bodyPost_ret (v := .tuple #[.agg #[.int .i64 (uF B 0), .int .i64 (uF B 1), .int .i64 (uF B 2)], .int .i64 (uE B)]) ?_ rfl ⟨?_, three_ext HX.out (Nat.le_refl _) _ _ _⟩
      · simp [results, Tryz.results72, go_sem, d0, d1, d2]
      · rw [HE.out, HF.out, HF.out, HF.out]
        simp [HV.out]
  · have hne : (E != 0) = true := by simpa using h0
    have HN := Lib.hid h0
    clear h0
    go_enter Tryz.func72, Tryz.ntmps72
    go_wp2_with fail
    refine HLD.out.mono ?_
    rintro e w1 ⟨A, N, rfl, hb, hx⟩
    have HZ := Lib.hid ((hx.block _ (Array.getElem?_eq_some_iff.1 HZ.out).1).trans HZ.out)
    have HX := Lib.hid (HX.out.trans hx)
    clear hb hx
    obtain ⟨⟨d0, d1, d2⟩, f0, f1, f2⟩ := three_cells HZ.out
    go_wp2_with fail
    refine bodyPost_ret (v := .tuple #[.agg #[.int .i64 0, .int .i64 0, .int .i64 0], .int .i64 E]) ?_ rfl ⟨?_, three_ext HX.out (Nat.le_refl _) _ _ _⟩
    · simp [results, Tryz.results72, go_sem, d0, d1, d2]
    · rw [HE.out, HF.out, HF.out, HF.out]
      simp [HN.out]
end Go.Proofs.YtlikhmhomkiadaaGreatDoor

namespace Go.Proofs.YtlikhmhomkiadaaGreatDoor
open Go Go.RowKit

theorem beginU_zero {m : DM} {r E : Int} (h : m.ldE r = E) (h0 : E ≠ 0) : m.beginU r = ⟨E, 0, 0, 0, m⟩ := by
  unfold DM.beginU
  rw [if_pos (by rw [h]; exact h0), h]
theorem beginU_full {m : DM} {r : Int} (h : m.ldE r = 0) (hf : m.ldF r 2 = 1099511627776) : m.beginU r = ⟨4, 0, 0, 0, m⟩ := by
  unfold DM.beginU
  rw [if_neg (by rw [h]; simp), if_pos hf]
theorem beginU_ill {m m1 : DM} {r E : Int} (h : m.ldE r = 0) (hf : m.ldF r 2 ≠ 1099511627776) (hh : m.heal r 1 = (E, m1)) (h0 : E ≠ 0) : m.beginU r = ⟨E, 0, 0, 0, m1⟩ := by
  unfold DM.beginU
  rw [if_neg (by rw [h]; simp), if_neg hf, hh]
  simp [h0]
theorem beginU_yes {m m1 : DM} {r : Int} (h : m.ldE r = 0) (hf : m.ldF r 2 ≠ 1099511627776) (hh : m.heal r 1 = (0, m1)) : m.beginU r = m1.storeU r (m.ldF r 0) (m.ldF r 1) (1 + (m.ldF r 2 : Int)) := by
  unfold DM.beginU
  rw [if_neg (by rw [h]; simp), if_neg hf, hh]
  simp
theorem ldF_le (m : DM) (r : Int) : m.ldF r 2 ≤ 1099511627776 := by
  unfold DM.ldF
  (repeat' split) <;> try omega
  by_cases h : uV (m.loadB r 1) = true
  · have := (mayU_iff.1 (uF_may h)).2
    omega
  · rw [uF_no (by simpa using h)]; omega
theorem rows4 (w : World) (a b c d : Obj) : ((((w.alloc a).alloc b).alloc c).alloc d).heap[w.heap.size]? = some a ∧ ((((w.alloc a).alloc b).alloc c).alloc d).heap[w.heap.size + 1]? = some b ∧ ((((w.alloc a).alloc b).alloc c).alloc d).heap[w.heap.size + 1 + 1]? = some c ∧ ((((w.alloc a).alloc b).alloc c).alloc d).heap[w.heap.size + 1 + 1 + 1]? = some d := by
  have s1 : (w.alloc a).heap.size = w.heap.size + 1 := by simp
  have s2 : ((w.alloc a).alloc b).heap.size = w.heap.size + 1 + 1 := by simp
  have s3 : (((w.alloc a).alloc b).alloc c).heap.size = w.heap.size + 1 + 1 + 1 := by simp
  refine ⟨?_, ?_, ?_, ?_⟩
  · rw [heap_alloc_old _ _ (by omega), heap_alloc_old _ _ (by omega), heap_alloc_old _ _ (by omega)]; exact heap_alloc_new _ _
  · rw [heap_alloc_old _ _ (by omega), heap_alloc_old _ _ (by omega), ← s1]; exact heap_alloc_new _ _
  · rw [heap_alloc_old _ _ (by omega), ← s2]; exact heap_alloc_new _ _
  · rw [← s3]; exact heap_alloc_new _ _
theorem two_cells {w : World} {g : Nat} {x0 x1 : Value} {t : TypeId} (h : w.heap[g]? = some (.cells #[x0, x1] t (0, 0))) : w.cell? ⟨g, 0, none⟩ = some x0 ∧ w.cell? ⟨g, 1, none⟩ = some x1 :=
  ⟨cell_of_row w g 0 _ _ _ h, cell_of_row w g 1 _ _ _ h⟩
/-- A step whose answer is stored into a block of the call's own. -/
theorem step_three {d : Nat} {F : Nat → Prop} {w w1 w3 : World} {m m1 : DM} {g : Nat} (h : PDisk w d F m) (hx : Ext w w1) (hg : w.heap.size ≤ g) (hlt : g < w1.heap.size) (hs : Step d F w1 m1 w3) (x0 x1 x2 : Value) :
    Step d F w m1 (((w3.setCell ⟨g, 0, none⟩ x0).setCell ⟨g, 1, none⟩ x1).setCell ⟨g, 2, none⟩ x2) := by
  have hmod := three_mod (w := w3) g x0 x1 x2
  refine Step.fin (F' := grow F w1 w3) (hs.1.mod hmod fun i hi he => ?_) (((Mod.of_ext hx).trans hs.2 fun i hi => .inl hi).trans hmod fun i hi => .inr (by rw [hi]; exact hg)) (fun k hk => hk.imp id fun h => Nat.le_trans hx.size h.1) h.lt
  subst he
  rcases hi with hi | hi
  · have := h.lt _ hi; omega
  · have := hi.1; omega
set_option maxRecDepth 100000 in
set_option maxHeartbeats 1600000 in
theorem promU_of {w : World} {d : Nat} {F : Nat → Prop} {m : DM} (h : PDisk w d F m) (hL : LaidF w) (hLM : ∀ V, Mod F w V → LaidF V) (r a b c x y : Int) (hk : knownC m.size r 1 = 0) (hfew : m.waits.length + 2 ≤ 1000000) :
    Calls Tryz.prog 32 #[.pointer (some ⟨d, 0, none⟩), .int .i64 r, .agg #[.int .i64 a, .int .i64 b, .int .i64 c], .agg #[.int .i64 x, .int .i64 y]] w fun e w' => e = .returned (.tuple #[.agg #[.int .i64 (m.promU r a b c x y).a, .int .i64 (m.promU r a b c x y).b, .int .i64 (m.promU r a b c x y).c], .int .i64 (m.promU r a b c x y).e]) ∧ Step d F w (m.promU r a b c x y).m w' := by
  have hx := ((((Ext.refl w).alloc (.cells #[.int .i64 a, .int .i64 b, .int .i64 c] 76)).alloc (.cells #[.int .i64 x, .int .i64 y] 74)).alloc (.cells #[.int .i64 0, .int .i64 0, .int .i64 0] 76)).alloc (.cells #[.int .i64 x, .int .i64 y, .int .i64 c] 76)
  obtain ⟨hT, hB, hZ, hN⟩ := rows4 w (.cells #[.int .i64 a, .int .i64 b, .int .i64 c] 76) (.cells #[.int .i64 x, .int .i64 y] 74) (.cells #[.int .i64 0, .int .i64 0, .int .i64 0] 76) (.cells #[.int .i64 x, .int .i64 y, .int .i64 c] 76)
  have HLT : Hid (w.heap.size + 1 + 1 < (((((w.alloc (.cells #[.int .i64 a, .int .i64 b, .int .i64 c] 76)).alloc (.cells #[.int .i64 x, .int .i64 y] 74)).alloc (.cells #[.int .i64 0, .int .i64 0, .int .i64 0] 76)).alloc (.cells #[.int .i64 x, .int .i64 y, .int .i64 c] 76)).heap.size)) := Lib.hid (by simp)
  have HT := Lib.hid hT
  have HB := Lib.hid hB
  have HZ := Lib.hid hZ
  have HN := Lib.hid hN
  have HX := Lib.hid hx
  have H := Lib.hid h
  have HL := Lib.hid hL
  have HLM := Lib.hid hLM
  have HK := Lib.hid hk
  have HW := Lib.hid hfew
  have HP : Hid (m.promU r a b c x y = if promOk a b c x y = true then m.storeU r x y c else ⟨2, 0, 0, 0, m⟩) := Lib.hid rfl
  clear hx h hL hLM hk hfew hT hB hZ hN
  by_cases h1 : mayU a b c = true
  · have H1 := Lib.hid h1
    clear h1
    by_cases h2 : mayU x y c = true
    · have H2 := Lib.hid h2
      clear h2
      obtain ⟨⟨t0, t1, t2⟩, _⟩ := three_cells HT.out
      obtain ⟨b0, b1⟩ := two_cells HB.out
      obtain ⟨⟨n0, n1, n2⟩, _⟩ := three_cells HN.out
      by_cases h3 : abvB x y a b = true
      · have H3 := Lib.hid h3
        clear h3
        go_enter Tryz.func32, Tryz.ntmps32
        go_wp2_with fail
        refine (mayU_any a b c _).mono ?_
        rw [H1.out]
        rintro e w1 ⟨rfl, hx⟩
        have HLT := Lib.hid (Nat.lt_of_lt_of_le HLT.out hx.size)
        have HT := Lib.hid ((hx.block _ (Array.getElem?_eq_some_iff.1 HT.out).1).trans HT.out)
        have HB := Lib.hid ((hx.block _ (Array.getElem?_eq_some_iff.1 HB.out).1).trans HB.out)
        have HZ := Lib.hid ((hx.block _ (Array.getElem?_eq_some_iff.1 HZ.out).1).trans HZ.out)
        have HN := Lib.hid ((hx.block _ (Array.getElem?_eq_some_iff.1 HN.out).1).trans HN.out)
        have HX := Lib.hid (HX.out.trans hx)
        clear hx t0 t1 t2 b0 b1 n0 n1 n2
        obtain ⟨⟨t0, t1, t2⟩, _⟩ := three_cells HT.out
        obtain ⟨b0, b1⟩ := two_cells HB.out
        obtain ⟨⟨n0, n1, n2⟩, _⟩ := three_cells HN.out
        go_wp2_with fail
        refine (mayU_any x y c _).mono ?_
        rw [H2.out]
        rintro e w1 ⟨rfl, hx⟩
        have HLT := Lib.hid (Nat.lt_of_lt_of_le HLT.out hx.size)
        have HT := Lib.hid ((hx.block _ (Array.getElem?_eq_some_iff.1 HT.out).1).trans HT.out)
        have HB := Lib.hid ((hx.block _ (Array.getElem?_eq_some_iff.1 HB.out).1).trans HB.out)
        have HZ := Lib.hid ((hx.block _ (Array.getElem?_eq_some_iff.1 HZ.out).1).trans HZ.out)
        have HN := Lib.hid ((hx.block _ (Array.getElem?_eq_some_iff.1 HN.out).1).trans HN.out)
        have HX := Lib.hid (HX.out.trans hx)
        clear hx t0 t1 t2 b0 b1 n0 n1 n2
        obtain ⟨⟨t0, t1, t2⟩, _⟩ := three_cells HT.out
        obtain ⟨b0, b1⟩ := two_cells HB.out
        obtain ⟨⟨n0, n1, n2⟩, _⟩ := three_cells HN.out
        go_wp2_with fail
        refine (isAboveU x y a b _).mono ?_
        rw [H3.out]
        rintro e w1 ⟨rfl, hx⟩
        have HLT := Lib.hid (Nat.lt_of_lt_of_le HLT.out hx.size)
        have HT := Lib.hid ((hx.block _ (Array.getElem?_eq_some_iff.1 HT.out).1).trans HT.out)
        have HB := Lib.hid ((hx.block _ (Array.getElem?_eq_some_iff.1 HB.out).1).trans HB.out)
        have HZ := Lib.hid ((hx.block _ (Array.getElem?_eq_some_iff.1 HZ.out).1).trans HZ.out)
        have HN := Lib.hid ((hx.block _ (Array.getElem?_eq_some_iff.1 HN.out).1).trans HN.out)
        have HX := Lib.hid (HX.out.trans hx)
        clear hx t0 t1 t2 b0 b1 n0 n1 n2
        obtain ⟨⟨t0, t1, t2⟩, _⟩ := three_cells HT.out
        obtain ⟨b0, b1⟩ := two_cells HB.out
        obtain ⟨⟨n0, n1, n2⟩, _⟩ := three_cells HN.out
        obtain ⟨⟨d0, d1, d2⟩, f0, f1, f2⟩ := three_cells HZ.out
        clear t0 t1 t2 b0 b1 d0 d1 d2 f0 f1 f2
        go_wp2_with fail
        have hst := storeU_of (H.out.ext HX.out) (HL.out.ext HX.out) (fun V hV => HLM.out V ((Mod.of_ext HX.out).trans hV fun i hi => .inl hi)) r x y c HK.out HW.out
        have HQ : Hid (m.promU r a b c x y = m.storeU r x y c) := Lib.hid (by rw [HP.out, if_pos (by unfold promOk; simp [H1.out, H2.out, H3.out])])
        generalize m.storeU r x y c = U at hst HQ
        refine hst.mono ?_
        rintro e w2 ⟨rfl, hs⟩
        have HS := Lib.hid hs
        have HZ := Lib.hid (heap_mod HZ.out hs.2 fun hF => by have := H.out.lt _ hF; omega)
        clear hs hst n0 n1 n2
        obtain ⟨⟨d0, d1, d2⟩, f0, f1, f2⟩ := three_cells HZ.out
        go_wp2_with fail
        refine bodyPost_ret (v := .tuple #[.agg #[.int .i64 U.a, .int .i64 U.b, .int .i64 U.c], .int .i64 U.e]) ?_ rfl ?_
        · simp [results, Tryz.results32, go_sem, d0, d1, d2]
        · rw [HQ.out]
          exact ⟨rfl, step_three H.out HX.out (by omega) HLT.out HS.out _ _ _⟩
      · have H3 := Lib.hid (show abvB x y a b = false by simpa using h3)
        have HNO := Lib.hid h3
        clear h3
        go_enter Tryz.func32, Tryz.ntmps32
        go_wp2_with fail
        refine (mayU_any a b c _).mono ?_
        rw [H1.out]
        rintro e w1 ⟨rfl, hx⟩
        have HLT := Lib.hid (Nat.lt_of_lt_of_le HLT.out hx.size)
        have HT := Lib.hid ((hx.block _ (Array.getElem?_eq_some_iff.1 HT.out).1).trans HT.out)
        have HB := Lib.hid ((hx.block _ (Array.getElem?_eq_some_iff.1 HB.out).1).trans HB.out)
        have HZ := Lib.hid ((hx.block _ (Array.getElem?_eq_some_iff.1 HZ.out).1).trans HZ.out)
        have HN := Lib.hid ((hx.block _ (Array.getElem?_eq_some_iff.1 HN.out).1).trans HN.out)
        have HX := Lib.hid (HX.out.trans hx)
        clear hx t0 t1 t2 b0 b1 n0 n1 n2
        obtain ⟨⟨t0, t1, t2⟩, _⟩ := three_cells HT.out
        obtain ⟨b0, b1⟩ := two_cells HB.out
        obtain ⟨⟨n0, n1, n2⟩, _⟩ := three_cells HN.out
        go_wp2_with fail
        refine (mayU_any x y c _).mono ?_
        rw [H2.out]
        rintro e w1 ⟨rfl, hx⟩
        have HLT := Lib.hid (Nat.lt_of_lt_of_le HLT.out hx.size)
        have HT := Lib.hid ((hx.block _ (Array.getElem?_eq_some_iff.1 HT.out).1).trans HT.out)
        have HB := Lib.hid ((hx.block _ (Array.getElem?_eq_some_iff.1 HB.out).1).trans HB.out)
        have HZ := Lib.hid ((hx.block _ (Array.getElem?_eq_some_iff.1 HZ.out).1).trans HZ.out)
        have HN := Lib.hid ((hx.block _ (Array.getElem?_eq_some_iff.1 HN.out).1).trans HN.out)
        have HX := Lib.hid (HX.out.trans hx)
        clear hx t0 t1 t2 b0 b1 n0 n1 n2
        obtain ⟨⟨t0, t1, t2⟩, _⟩ := three_cells HT.out
        obtain ⟨b0, b1⟩ := two_cells HB.out
        obtain ⟨⟨n0, n1, n2⟩, _⟩ := three_cells HN.out
        go_wp2_with fail
        refine (isAboveU x y a b _).mono ?_
        rw [H3.out]
        rintro e w1 ⟨rfl, hx⟩
        have HLT := Lib.hid (Nat.lt_of_lt_of_le HLT.out hx.size)
        have HT := Lib.hid ((hx.block _ (Array.getElem?_eq_some_iff.1 HT.out).1).trans HT.out)
        have HB := Lib.hid ((hx.block _ (Array.getElem?_eq_some_iff.1 HB.out).1).trans HB.out)
        have HZ := Lib.hid ((hx.block _ (Array.getElem?_eq_some_iff.1 HZ.out).1).trans HZ.out)
        have HN := Lib.hid ((hx.block _ (Array.getElem?_eq_some_iff.1 HN.out).1).trans HN.out)
        have HX := Lib.hid (HX.out.trans hx)
        clear hx t0 t1 t2 b0 b1 n0 n1 n2
        obtain ⟨⟨d0, d1, d2⟩, f0, f1, f2⟩ := three_cells HZ.out
        go_wp2_with fail
        refine bodyPost_ret (v := .tuple #[.agg #[.int .i64 0, .int .i64 0, .int .i64 0], .int .i64 2]) ?_ rfl ?_
        · simp [results, Tryz.results32, go_sem, d0, d1, d2]
        · rw [HP.out, if_neg (by unfold promOk; simp [HNO.out])]
          exact ⟨rfl, Step.of_ext H.out (three_ext HX.out (by omega) _ _ _)⟩
    · have H2 := Lib.hid (show mayU x y c = false by simpa using h2)
      have HNO := Lib.hid h2
      clear h2
      obtain ⟨⟨t0, t1, t2⟩, _⟩ := three_cells HT.out
      obtain ⟨b0, b1⟩ := two_cells HB.out
      obtain ⟨⟨n0, n1, n2⟩, _⟩ := three_cells HN.out
      go_enter Tryz.func32, Tryz.ntmps32
      go_wp2_with fail
      refine (mayU_any a b c _).mono ?_
      rw [H1.out]
      rintro e w1 ⟨rfl, hx⟩
      have HLT := Lib.hid (Nat.lt_of_lt_of_le HLT.out hx.size)
      have HT := Lib.hid ((hx.block _ (Array.getElem?_eq_some_iff.1 HT.out).1).trans HT.out)
      have HB := Lib.hid ((hx.block _ (Array.getElem?_eq_some_iff.1 HB.out).1).trans HB.out)
      have HZ := Lib.hid ((hx.block _ (Array.getElem?_eq_some_iff.1 HZ.out).1).trans HZ.out)
      have HN := Lib.hid ((hx.block _ (Array.getElem?_eq_some_iff.1 HN.out).1).trans HN.out)
      have HX := Lib.hid (HX.out.trans hx)
      clear hx t0 t1 t2 b0 b1 n0 n1 n2
      obtain ⟨⟨t0, t1, t2⟩, _⟩ := three_cells HT.out
      obtain ⟨b0, b1⟩ := two_cells HB.out
      obtain ⟨⟨n0, n1, n2⟩, _⟩ := three_cells HN.out
      go_wp2_with fail
      refine (mayU_any x y c _).mono ?_
      rw [H2.out]
      rintro e w1 ⟨rfl, hx⟩
      have HLT := Lib.hid (Nat.lt_of_lt_of_le HLT.out hx.size)
      have HT := Lib.hid ((hx.block _ (Array.getElem?_eq_some_iff.1 HT.out).1).trans HT.out)
      have HB := Lib.hid ((hx.block _ (Array.getElem?_eq_some_iff.1 HB.out).1).trans HB.out)
      have HZ := Lib.hid ((hx.block _ (Array.getElem?_eq_some_iff.1 HZ.out).1).trans HZ.out)
      have HN := Lib.hid ((hx.block _ (Array.getElem?_eq_some_iff.1 HN.out).1).trans HN.out)
      have HX := Lib.hid (HX.out.trans hx)
      clear hx t0 t1 t2 b0 b1 n0 n1 n2
      obtain ⟨⟨d0, d1, d2⟩, f0, f1, f2⟩ := three_cells HZ.out
      go_wp2_with fail
      refine bodyPost_ret (v := .tuple #[.agg #[.int .i64 0, .int .i64 0, .int .i64 0], .int .i64 2]) ?_ rfl ?_
      · simp [results, Tryz.results32, go_sem, d0, d1, d2]
      · rw [HP.out, if_neg (by unfold promOk; simp [HNO.out])]
        exact ⟨rfl, Step.of_ext H.out (three_ext HX.out (by omega) _ _ _)⟩
  · have H1 := Lib.hid (show mayU a b c = false by simpa using h1)
    have HNO := Lib.hid h1
    clear h1
    obtain ⟨⟨t0, t1, t2⟩, _⟩ := three_cells HT.out
    obtain ⟨b0, b1⟩ := two_cells HB.out
    obtain ⟨⟨n0, n1, n2⟩, _⟩ := three_cells HN.out
    go_enter Tryz.func32, Tryz.ntmps32
    go_wp2_with fail
    refine (mayU_any a b c _).mono ?_
    rw [H1.out]
    rintro e w1 ⟨rfl, hx⟩
    have HLT := Lib.hid (Nat.lt_of_lt_of_le HLT.out hx.size)
    have HT := Lib.hid ((hx.block _ (Array.getElem?_eq_some_iff.1 HT.out).1).trans HT.out)
    have HB := Lib.hid ((hx.block _ (Array.getElem?_eq_some_iff.1 HB.out).1).trans HB.out)
    have HZ := Lib.hid ((hx.block _ (Array.getElem?_eq_some_iff.1 HZ.out).1).trans HZ.out)
    have HN := Lib.hid ((hx.block _ (Array.getElem?_eq_some_iff.1 HN.out).1).trans HN.out)
    have HX := Lib.hid (HX.out.trans hx)
    clear hx t0 t1 t2 b0 b1 n0 n1 n2
    obtain ⟨⟨d0, d1, d2⟩, f0, f1, f2⟩ := three_cells HZ.out
    go_wp2_with fail
    refine bodyPost_ret (v := .tuple #[.agg #[.int .i64 0, .int .i64 0, .int .i64 0], .int .i64 2]) ?_ rfl ?_
    · simp [results, Tryz.results32, go_sem, d0, d1, d2]
    · rw [HP.out, if_neg (by unfold promOk; simp [HNO.out])]
      exact ⟨rfl, Step.of_ext H.out (three_ext HX.out (by omega) _ _ _)⟩

set_option maxRecDepth 100000 in
set_option maxHeartbeats 1600000 in
theorem beginU_of {w : World} {d : Nat} {F : Nat → Prop} {m : DM} (h : PDisk w d F m) (hL : LaidF w) (hLM : ∀ V, Mod F w V → LaidF V) (r : Int) (hk : knownC m.size r 1 = 0) (hfew : m.waits.length + 3 ≤ 1000000) :
    Calls Tryz.prog 30 #[.pointer (some ⟨d, 0, none⟩), .int .i64 r] w fun e w' => e = .returned (.tuple #[.agg #[.int .i64 (m.beginU r).a, .int .i64 (m.beginU r).b, .int .i64 (m.beginU r).c], .int .i64 (m.beginU r).e]) ∧ Step d F w (m.beginU r).m w' := by
  have hx := (Ext.refl w).alloc (.cells #[.int .i64 0, .int .i64 0, .int .i64 0] 76)
  have HZ := Lib.hid (heap_alloc_new w (.cells #[.int .i64 0, .int .i64 0, .int .i64 0] 76))
  have HX := Lib.hid hx
  have HLD := Lib.hid (loadU_of (h.ext hx) (hL.ext hx) r hk (by omega))
  obtain ⟨E, hE⟩ : ∃ E, m.ldE r = E := ⟨_, rfl⟩
  obtain ⟨A, hA⟩ : ∃ A, m.ldF r 0 = A := ⟨_, rfl⟩
  obtain ⟨B, hB⟩ : ∃ B, m.ldF r 1 = B := ⟨_, rfl⟩
  obtain ⟨C, hC⟩ : ∃ C, m.ldF r 2 = C := ⟨_, rfl⟩
  have hle : C ≤ 1099511627776 := by rw [← hC]; exact ldF_le m r
  rw [hE, hA, hB, hC] at HLD
  have H := Lib.hid h
  have HL := Lib.hid hL
  have HLM := Lib.hid hLM
  have HK := Lib.hid hk
  have HW := Lib.hid hfew
  have HQ : Hid (m.ldE r = E ∧ m.ldF r 0 = A ∧ m.ldF r 1 = B ∧ m.ldF r 2 = C) := Lib.hid ⟨hE, hA, hB, hC⟩
  clear hx h hL hLM hk hfew hE hA hB hC
  by_cases h0 : E = 0
  · subst h0
    by_cases hf : C = 1099511627776
    · have hcf : ((C : Int) == 1099511627776) = true := by simp; omega
      have HU := Lib.hid (beginU_full HQ.out.1 (HQ.out.2.2.2.trans hf))
      clear hf hle
      go_enter Tryz.func30, Tryz.ntmps30
      go_wp2_with fail
      refine HLD.out.mono ?_
      rintro e w1 ⟨rfl, hx⟩
      have HZ := Lib.hid ((hx.block _ (Array.getElem?_eq_some_iff.1 HZ.out).1).trans HZ.out)
      have HX := Lib.hid (HX.out.trans hx)
      have HLT : Hid (w.heap.size < w1.heap.size) := Lib.hid (by have := hx.size; simp at this; omega)
      have HM := Lib.hid (heap_alloc_new w1 (.cells #[.int .i64 A, .int .i64 B, .int .i64 C] 76))
      have HZ := Lib.hid ((heap_alloc_old w1 (.cells #[.int .i64 A, .int .i64 B, .int .i64 C] 76) (Array.getElem?_eq_some_iff.1 HZ.out).1).trans HZ.out)
      have HX := Lib.hid (HX.out.alloc (.cells #[.int .i64 A, .int .i64 B, .int .i64 C] 76))
      clear hx
      obtain ⟨⟨m0, m1, m2⟩, _⟩ := three_cells HM.out
      obtain ⟨⟨d0, d1, d2⟩, f0, f1, f2⟩ := three_cells HZ.out
      go_wp2_with fail
      refine bodyPost_ret (v := .tuple #[.agg #[.int .i64 0, .int .i64 0, .int .i64 0], .int .i64 4]) ?_ rfl ?_
      · simp [results, Tryz.results30, go_sem, d0, d1, d2]
      · rw [HU.out]
        exact ⟨rfl, Step.of_ext H.out (three_ext HX.out (Nat.le_refl _) _ _ _)⟩
    · obtain ⟨G, hG⟩ : ∃ G, (m.heal r 1).1 = G := ⟨_, rfl⟩
      obtain ⟨n, hn⟩ : ∃ n, (m.heal r 1).2 = n := ⟨_, rfl⟩
      have HH : Hid (m.heal r 1 = (G, n)) := Lib.hid (by rw [← hG, ← hn])
      clear hG hn
      have hlt : C < 1099511627776 := by omega
      clear hle hf
      by_cases hg : G = 0
      · subst hg
        have HU := Lib.hid (beginU_yes HQ.out.1 (by rw [HQ.out.2.2.2]; omega) HH.out)
        rw [HQ.out.2.1, HQ.out.2.2.1, HQ.out.2.2.2] at HU
        go_enter Tryz.func30, Tryz.ntmps30
        go_wp2_with fail
        refine HLD.out.mono ?_
        rintro e w1 ⟨rfl, hx⟩
        have HZ := Lib.hid ((hx.block _ (Array.getElem?_eq_some_iff.1 HZ.out).1).trans HZ.out)
        have HX := Lib.hid (HX.out.trans hx)
        have HLT : Hid (w.heap.size < w1.heap.size) := Lib.hid (by have := hx.size; simp at this; omega)
        have HM := Lib.hid (heap_alloc_new w1 (.cells #[.int .i64 A, .int .i64 B, .int .i64 C] 76))
        have HZ := Lib.hid ((heap_alloc_old w1 (.cells #[.int .i64 A, .int .i64 B, .int .i64 C] 76) (Array.getElem?_eq_some_iff.1 HZ.out).1).trans HZ.out)
        have HX := Lib.hid (HX.out.alloc (.cells #[.int .i64 A, .int .i64 B, .int .i64 C] 76))
        clear hx
        obtain ⟨⟨m0, m1, m2⟩, _⟩ := three_cells HM.out
        go_wp2_with fail
        refine (Heal_of (H.out.ext HX.out) (HL.out.ext HX.out) r 1 (by have := HW.out; omega) HK.out).mono ?_
        rw [HH.out]
        dsimp only
        rintro e w2 ⟨rfl, hs⟩
        have HS := Lib.hid hs
        have HZ := Lib.hid (heap_mod HZ.out hs.2 fun hF => by have := H.out.lt _ hF; omega)
        have HM := Lib.hid (heap_mod HM.out hs.2 fun hF => by have := H.out.lt _ hF; have := HLT.out; omega)
        clear hs m0 m1 m2
        obtain ⟨⟨m0, m1, m2⟩, q0, q1, q2⟩ := three_cells HM.out
        have hcc : (1 + (C : Int)) = (C : Int) + 1 := by omega
        rw [hcc] at HU
        clear hcc
        have hszW : (w1.alloc (.cells #[.int .i64 A, .int .i64 B, .int .i64 C] 76)).heap.size = w1.heap.size + 1 := by simp
        have hwr := (Mod.refl (fun k => k = w1.heap.size) w2).setCell (p := ⟨w1.heap.size, 2, none⟩) (.inl rfl) (.int .i64 ((C : Int) + 1))
        have hnot : ∀ i, grow F (w1.alloc (.cells #[.int .i64 A, .int .i64 B, .int .i64 C] 76)) w2 i → ¬ i = w1.heap.size := fun i hi he => by
          subst he
          rcases hi with hi | hi
          · have := H.out.lt _ hi; have := HLT.out; omega
          · have := hi.1; omega
        have hzn : ∀ i, grow F (w1.alloc (.cells #[.int .i64 A, .int .i64 B, .int .i64 C] 76)) w2 i → ¬ i = w.heap.size := fun i hi he => by
          subst he
          rcases hi with hi | hi
          · have := H.out.lt _ hi; omega
          · have := hi.1; have := HLT.out; omega
        have HP3 := Lib.hid (HS.out.1.mod hwr hnot)
        have hm3 : Mod F w (w2.setCell ⟨w1.heap.size, 2, none⟩ (.int .i64 ((C : Int) + 1))) := ((Mod.of_ext HX.out).trans HS.out.2 fun i hi => .inl hi).trans hwr fun i hi => .inr (by rw [hi]; have := HLT.out; omega)
        have HM3 := Lib.hid hm3
        have HG : Hid (∀ i, grow F (w1.alloc (.cells #[.int .i64 A, .int .i64 B, .int .i64 C] 76)) w2 i → F i ∨ w.heap.size ≤ i) := Lib.hid fun i hi => hi.imp id fun h1 => by have := h1.1; have := HLT.out; omega
        have HZ3 := Lib.hid (heap_mod HZ.out hwr (by have := HLT.out; omega))
        have HZN := Lib.hid hzn
        have HW2 : Hid (n.waits.length + 2 ≤ 1000000) := Lib.hid (by have h1 := heal_waits m r 1; rw [HH.out] at h1; dsimp only at h1; have := HW.out; omega)
        have HK2 : Hid (knownC n.size r 1 = 0) := Lib.hid (by have h1 := heal_size m r 1; rw [HH.out] at h1; dsimp only at h1; rw [h1]; exact HK.out)
        clear hwr hnot hzn hm3 hszW
        go_wp2_with fail
        generalize (w2.setCell ⟨w1.heap.size, 2, none⟩ (.int .i64 ((C : Int) + 1))) = w3 at *
        have hst := storeU_of HP3.out (HLM.out _ HM3.out) (fun V hV => HLM.out V (HM3.out.trans hV HG.out)) r A B ((C : Int) + 1) HK2.out HW2.out
        generalize n.storeU r A B ((C : Int) + 1) = U at hst HU
        refine hst.mono ?_
        rintro e w4 ⟨rfl, hs⟩
        have HS4 := Lib.hid hs
        have HZ4 := Lib.hid (heap_mod HZ3.out hs.2 fun hF => HZN.out _ hF rfl)
        have HLT3 : Hid (w.heap.size < w3.heap.size) := Lib.hid (Array.getElem?_eq_some_iff.1 HZ3.out).1
        clear hs hst m0 m1 m2 q0 q1 q2
        obtain ⟨⟨d0, d1, d2⟩, f0, f1, f2⟩ := three_cells HZ4.out
        go_wp2_with fail
        refine bodyPost_ret (v := .tuple #[.agg #[.int .i64 U.a, .int .i64 U.b, .int .i64 U.c], .int .i64 U.e]) ?_ rfl ?_
        · simp [results, Tryz.results30, go_sem, d0, d1, d2]
        · rw [HU.out]
          refine ⟨rfl, ?_⟩
          have hmod := three_mod (w := w4) w.heap.size (.int .i64 U.a) (.int .i64 U.b) (.int .i64 U.c)
          refine Step.fin (HS4.out.1.mod hmod fun i hi he => ?_) ((HM3.out.trans HS4.out.2 HG.out).trans hmod fun i hi => .inr (by rw [hi]; omega)) (fun k hk => ?_) H.out.lt
          · rcases hi with hi | hi
            · exact HZN.out i hi he
            · have := hi.1; have := HLT3.out; omega
          · rcases hk with hk | hk
            · exact HG.out k hk
            · have := hk.1; have := HLT3.out; exact .inr (by omega)
      · have hne : (G != 0) = true := by simpa using hg
        have HU := Lib.hid (beginU_ill HQ.out.1 (by rw [HQ.out.2.2.2]; omega) HH.out hg)
        clear hg
        go_enter Tryz.func30, Tryz.ntmps30
        go_wp2_with fail
        refine HLD.out.mono ?_
        rintro e w1 ⟨rfl, hx⟩
        have HZ := Lib.hid ((hx.block _ (Array.getElem?_eq_some_iff.1 HZ.out).1).trans HZ.out)
        have HX := Lib.hid (HX.out.trans hx)
        have HLT : Hid (w.heap.size < w1.heap.size) := Lib.hid (by have := hx.size; simp at this; omega)
        have HM := Lib.hid (heap_alloc_new w1 (.cells #[.int .i64 A, .int .i64 B, .int .i64 C] 76))
        have HZ := Lib.hid ((heap_alloc_old w1 (.cells #[.int .i64 A, .int .i64 B, .int .i64 C] 76) (Array.getElem?_eq_some_iff.1 HZ.out).1).trans HZ.out)
        have HX := Lib.hid (HX.out.alloc (.cells #[.int .i64 A, .int .i64 B, .int .i64 C] 76))
        clear hx
        obtain ⟨⟨m0, m1, m2⟩, _⟩ := three_cells HM.out
        go_wp2_with fail
        refine (Heal_of (H.out.ext HX.out) (HL.out.ext HX.out) r 1 (by have := HW.out; omega) HK.out).mono ?_
        rw [HH.out]
        dsimp only
        rintro e w2 ⟨rfl, hs⟩
        have HS := Lib.hid hs
        have HZ := Lib.hid (heap_mod HZ.out hs.2 fun hF => by have := H.out.lt _ hF; omega)
        have HM := Lib.hid (heap_mod HM.out hs.2 fun hF => by have := H.out.lt _ hF; have := HLT.out; omega)
        clear hs m0 m1 m2
        obtain ⟨⟨d0, d1, d2⟩, f0, f1, f2⟩ := three_cells HZ.out
        go_wp2_with fail
        refine bodyPost_ret (v := .tuple #[.agg #[.int .i64 0, .int .i64 0, .int .i64 0], .int .i64 G]) ?_ rfl ?_
        · simp [results, Tryz.results30, go_sem, d0, d1, d2]
        · rw [HU.out]
          exact ⟨rfl, step_three H.out HX.out (Nat.le_refl _) (by have := HLT.out; simp; omega) HS.out _ _ _⟩
  · have hne : (E != 0) = true := by simpa using h0
    have HU := Lib.hid (beginU_zero HQ.out.1 h0)
    clear h0
    go_enter Tryz.func30, Tryz.ntmps30
    go_wp2_with fail
    refine HLD.out.mono ?_
    rintro e w1 ⟨rfl, hx⟩
    have HZ := Lib.hid ((hx.block _ (Array.getElem?_eq_some_iff.1 HZ.out).1).trans HZ.out)
    have HX := Lib.hid (HX.out.trans hx)
    have HLT : Hid (w.heap.size < w1.heap.size) := Lib.hid (by have := hx.size; simp at this; omega)
    have HM := Lib.hid (heap_alloc_new w1 (.cells #[.int .i64 A, .int .i64 B, .int .i64 C] 76))
    have HZ := Lib.hid ((heap_alloc_old w1 (.cells #[.int .i64 A, .int .i64 B, .int .i64 C] 76) (Array.getElem?_eq_some_iff.1 HZ.out).1).trans HZ.out)
    have HX := Lib.hid (HX.out.alloc (.cells #[.int .i64 A, .int .i64 B, .int .i64 C] 76))
    clear hx
    obtain ⟨⟨d0, d1, d2⟩, f0, f1, f2⟩ := three_cells HZ.out
    go_wp2_with fail
    refine bodyPost_ret (v := .tuple #[.agg #[.int .i64 0, .int .i64 0, .int .i64 0], .int .i64 E]) ?_ rfl ?_
    · simp [results, Tryz.results30, go_sem, d0, d1, d2]
    · rw [HU.out]
      exact ⟨rfl, Step.of_ext H.out (three_ext HX.out (Nat.le_refl _) _ _ _)⟩
end Go.Proofs.YtlikhmhomkiadaaGreatDoor
