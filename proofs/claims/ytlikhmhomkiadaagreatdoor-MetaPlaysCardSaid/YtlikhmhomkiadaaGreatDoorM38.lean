/-
  The document's Promise over the document's disk.
  Lists of lists of bytes that came in, opened; arrays of two integers, of two bools; over any program with such types.
  The cells' calls at a disk made since a world; the statements' own loads, stored, great.
  The cells' calls, the program's and the document's, in one form for any replica and region of a disk of 156 sectors.
-/
import Derived.Test.YtlikhmhomkiadaaGreatDoorM03
import Derived.Test.YtlikhmhomkiadaaGreatDoorM23
import Derived.Test.YtlikhmhomkiadaaGreatDoorM24
import Derived.Test.YtlikhmhomkiadaaGreatDoorM28
import Derived.Test.YtlikhmhomkiadaaGreatDoorM29
import Derived.Test.YtlikhmhomkiadaaGreatDoorM35
import Derived.Test.YtlikhmhomkiadaaGreatDoorM37
import Derived.Laws.IdiomArrays
namespace Go.Proofs.YtlikhmhomkiadaaGreatDoor
open Go Go.RowKit

theorem raboveU (x y a b : Int) (w : World) :
    Calls Tryz.prog 80 #[.agg #[.int .i64 x, .int .i64 y], .agg #[.int .i64 a, .int .i64 b]] w fun e w' => e = .returned (.bool (abvB x y a b)) ∧ Ext w w' := by
  have hE := ((Ext.refl w).alloc (.cells #[.int .i64 x, .int .i64 y] 74)).alloc (.cells #[.int .i64 a, .int .i64 b] 74)
  have HE := Lib.hid hE
  have HA : Hid (x = a → abvB x y a b = decide (b < y)) := Lib.hid fun h => by unfold abvB; rw [if_pos h]
  have HB : Hid (x ≠ a → abvB x y a b = decide (a < x)) := Lib.hid fun h => by unfold abvB; rw [if_neg h]
  clear hE
  by_cases hxa : x = a
  · subst hxa
    rw [HA.out rfl]
    go_enter Tryz.func80, Tryz.ntmps80
    go_wp2_with fail
    go_ret
    exact ⟨rfl, HE.out⟩
  · have hne : (x == a) = false := by rw [beq_eq_false_iff_ne]; exact hxa
    rw [HB.out hxa]
    go_enter Tryz.func80, Tryz.ntmps80
    go_wp2_with fail
    go_ret
    exact ⟨rfl, HE.out⟩
theorem promOk_bal (a b c x y : Int) : promOk a b c x y = (mayU a b c && (balU x y && abvB x y a b)) := by
  unfold promOk
  cases hm : mayU a b c with
  | false => rfl
  | true =>
    have hc := mayU_iff.1 hm
    have h2 : mayU x y c = (x == 0 && y == 0 || balU x y) := by
      rw [mayU_split, decide_eq_true (p := 1 ≤ c) (by omega), decide_eq_true (p := c ≤ 1099511627776) (by omega)]
      simp
    rw [h2]
    by_cases h0 : x = 0 ∧ y = 0
    · obtain ⟨rfl, rfl⟩ := h0
      have hb : balU 0 0 = false := by decide
      rw [hb]
      have ha : abvB 0 0 a b = false := by
        unfold abvB
        split
        · rw [decide_eq_false_iff_not]; omega
        · rw [decide_eq_false_iff_not]; omega
      rw [ha]
      rfl
    · have : (x == 0 && y == 0) = false := by
        cases hx : (x == 0 && y == 0) with
        | false => rfl
        | true => simp at hx; exact absurd hx h0
      rw [this]
      simp
theorem rows3 (w : World) (a b c : Obj) : (((w.alloc a).alloc b).alloc c).heap[w.heap.size]? = some a ∧ (((w.alloc a).alloc b).alloc c).heap[w.heap.size + 1]? = some b ∧ (((w.alloc a).alloc b).alloc c).heap[w.heap.size + 1 + 1]? = some c := by
  have s1 : (w.alloc a).heap.size = w.heap.size + 1 := by simp
  have s2 : ((w.alloc a).alloc b).heap.size = w.heap.size + 1 + 1 := by simp
  refine ⟨?_, ?_, ?_⟩
  · rw [heap_alloc_old _ _ (by omega), heap_alloc_old _ _ (by omega)]; exact heap_alloc_new _ _
  · rw [heap_alloc_old _ _ (by omega), ← s1]; exact heap_alloc_new _ _
  · rw [← s2]; exact heap_alloc_new _ _
theorem two_modR {w : World} (g : Nat) (x0 x1 : Value) : Mod (fun k => k = g) w ((w.setCell ⟨g, 0, none⟩ x0).setCell ⟨g, 1, none⟩ x1) :=
  ((Mod.refl (fun k => k = g) w).setCell (p := ⟨g, 0, none⟩) (.inl rfl) x0).setCell (p := ⟨g, 1, none⟩) (.inl rfl) x1
set_option maxRecDepth 100000 in
set_option maxHeartbeats 1600000 in
theorem rpromU_of {w : World} {d : Nat} {p : Nat → Nat} {m : DM} (h : RD w d p m) (r a b c x y : Int) (hk : knownC m.size r 1 = 0) (hfew : m.waits.length + 2 ≤ 1000000) :
    Calls Tryz.prog 33 #[.pointer (some ⟨d, 0, none⟩), .int .i64 r, .agg #[.int .i64 a, .int .i64 b, .int .i64 c], .agg #[.int .i64 x, .int .i64 y]] w fun e w' => e = .returned (.tuple #[.agg #[.int .i64 (m.promU r a b c x y).a, .int .i64 (m.promU r a b c x y).b, .int .i64 (m.promU r a b c x y).c], .int .i64 (m.promU r a b c x y).e]) ∧ ROut d p w (m.promU r a b c x y).m w' := by
  have HW := Lib.hid hfew
  clear hfew
  have HP : Hid (m.promU r a b c x y = if promOk a b c x y = true then m.storeU r x y c else ⟨2, 0, 0, 0, m⟩) := Lib.hid rfl
  have hx := (((Ext.refl w).alloc (.cells #[.int .i64 a, .int .i64 b, .int .i64 c] 76)).alloc (.cells #[.int .i64 x, .int .i64 y] 74)).alloc (.cells #[.int .i64 0, .int .i64 0, .int .i64 0] 76)
  obtain ⟨hT, hB, hZ⟩ := rows3 w (.cells #[.int .i64 a, .int .i64 b, .int .i64 c] 76) (.cells #[.int .i64 x, .int .i64 y] 74) (.cells #[.int .i64 0, .int .i64 0, .int .i64 0] 76)
  have HLT : Hid (w.heap.size + 1 + 1 < ((((w.alloc (.cells #[.int .i64 a, .int .i64 b, .int .i64 c] 76)).alloc (.cells #[.int .i64 x, .int .i64 y] 74)).alloc (.cells #[.int .i64 0, .int .i64 0, .int .i64 0] 76)).heap.size)) := Lib.hid (by simp)
  have HT := Lib.hid hT
  have HB := Lib.hid hB
  have HZ := Lib.hid hZ
  have HX := Lib.hid hx
  have H := Lib.hid h
  have HK := Lib.hid hk
  clear hx h hk hT hB hZ
  by_cases h1 : mayU a b c = true
  · have H1 := Lib.hid h1
    clear h1
    by_cases h2 : balU x y = true
    · have H2 := Lib.hid h2
      clear h2
      obtain ⟨⟨t0, t1, t2⟩, _⟩ := three_cells HT.out
      obtain ⟨b0, b1⟩ := two_cells HB.out
      by_cases h3 : abvB x y a b = true
      · have H3 := Lib.hid h3
        clear h3
        go_enter Tryz.func33, Tryz.ntmps33
        go_wp2_with fail
        refine (rmayU a b c _).mono ?_
        rw [H1.out]
        rintro e w1 ⟨rfl, hx⟩
        have HLT := Lib.hid (Nat.lt_of_lt_of_le HLT.out hx.size)
        have HT := Lib.hid ((hx.block _ (Array.getElem?_eq_some_iff.1 HT.out).1).trans HT.out)
        have HB := Lib.hid ((hx.block _ (Array.getElem?_eq_some_iff.1 HB.out).1).trans HB.out)
        have HZ := Lib.hid ((hx.block _ (Array.getElem?_eq_some_iff.1 HZ.out).1).trans HZ.out)
        have HX := Lib.hid (HX.out.trans hx)
        clear hx t0 t1 t2 b0 b1
        obtain ⟨⟨t0, t1, t2⟩, _⟩ := three_cells HT.out
        obtain ⟨b0, b1⟩ := two_cells HB.out
        go_wp2_with fail
        refine (rballotU x y _).mono ?_
        rw [H2.out]
        rintro e w1 ⟨rfl, hx⟩
        have HLT := Lib.hid (Nat.lt_of_lt_of_le HLT.out hx.size)
        have HT := Lib.hid ((hx.block _ (Array.getElem?_eq_some_iff.1 HT.out).1).trans HT.out)
        have HB := Lib.hid ((hx.block _ (Array.getElem?_eq_some_iff.1 HB.out).1).trans HB.out)
        have HZ := Lib.hid ((hx.block _ (Array.getElem?_eq_some_iff.1 HZ.out).1).trans HZ.out)
        have HX := Lib.hid (HX.out.trans hx)
        clear hx t0 t1 t2 b0 b1
        obtain ⟨⟨t0, t1, t2⟩, _⟩ := three_cells HT.out
        obtain ⟨b0, b1⟩ := two_cells HB.out
        go_wp2_with fail
        refine (raboveU x y a b _).mono ?_
        rw [H3.out]
        rintro e w1 ⟨rfl, hx⟩
        have HLT := Lib.hid (Nat.lt_of_lt_of_le HLT.out hx.size)
        have HT := Lib.hid ((hx.block _ (Array.getElem?_eq_some_iff.1 HT.out).1).trans HT.out)
        have HB := Lib.hid ((hx.block _ (Array.getElem?_eq_some_iff.1 HB.out).1).trans HB.out)
        have HZ := Lib.hid ((hx.block _ (Array.getElem?_eq_some_iff.1 HZ.out).1).trans HZ.out)
        have HX := Lib.hid (HX.out.trans hx)
        clear hx t0 t1 t2 b0 b1
        obtain ⟨⟨t0, t1, t2⟩, tf0, tf1, tf2⟩ := three_cells HT.out
        obtain ⟨b0, b1⟩ := two_cells HB.out
        have hmod := two_modR (w := w1) w.heap.size (.int .i64 x) (.int .i64 y)
        have HX2 : Hid (Ext w ((w1.setCell ⟨w.heap.size, 0, none⟩ (.int .i64 x)).setCell ⟨w.heap.size, 1, none⟩ (.int .i64 y))) := Lib.hid ((HX.out.setCell (p := ⟨w.heap.size, 0, none⟩) (Nat.le_refl _) _).setCell (p := ⟨w.heap.size, 1, none⟩) (Nat.le_refl _) _)
        have HZ2 := Lib.hid (heap_mod HZ.out hmod (by omega))
        have HLT2 : Hid (w.heap.size + 1 + 1 < ((w1.setCell ⟨w.heap.size, 0, none⟩ (.int .i64 x)).setCell ⟨w.heap.size, 1, none⟩ (.int .i64 y)).heap.size) := Lib.hid (Nat.lt_of_lt_of_le HLT.out hmod.size)
        clear hmod
        go_wp2_with fail
        generalize ((w1.setCell ⟨w.heap.size, 0, none⟩ (.int .i64 x)).setCell ⟨w.heap.size, 1, none⟩ (.int .i64 y)) = w2 at *
        have hst := rstoreU_of (H.out.ext HX2.out) r x y c HK.out HW.out
        have HQ : Hid (m.promU r a b c x y = m.storeU r x y c) := Lib.hid (by rw [HP.out, if_pos (by rw [promOk_bal]; simp [H1.out, H2.out, H3.out])])
        generalize m.storeU r x y c = U at hst HQ
        refine hst.mono ?_
        rintro e w3 ⟨rfl, hs⟩
        have HS := Lib.hid hs
        have HZ := Lib.hid (heap_mod HZ2.out hs.choose_spec.2.1 (by simp [rd_new H.out (show w.heap.size ≤ w.heap.size + 1 + 1 by omega)]))
        clear hs hst t0 t1 t2 b0 b1 tf0 tf1 tf2
        obtain ⟨⟨d0, d1, d2⟩, f0, f1, f2⟩ := three_cells HZ.out
        go_wp2_with fail
        refine bodyPost_ret (v := .tuple #[.agg #[.int .i64 U.a, .int .i64 U.b, .int .i64 U.c], .int .i64 U.e]) ?_ rfl ?_
        · simp [results, Tryz.results33, go_sem, d0, d1, d2]
        · rw [HQ.out]
          exact ⟨rfl, rout_three H.out HX2.out (by omega) HLT2.out HS.out _ _ _⟩
      · have H3 := Lib.hid (show abvB x y a b = false by simpa using h3)
        have HNO := Lib.hid h3
        clear h3
        go_enter Tryz.func33, Tryz.ntmps33
        go_wp2_with fail
        refine (rmayU a b c _).mono ?_
        rw [H1.out]
        rintro e w1 ⟨rfl, hx⟩
        have HLT := Lib.hid (Nat.lt_of_lt_of_le HLT.out hx.size)
        have HT := Lib.hid ((hx.block _ (Array.getElem?_eq_some_iff.1 HT.out).1).trans HT.out)
        have HB := Lib.hid ((hx.block _ (Array.getElem?_eq_some_iff.1 HB.out).1).trans HB.out)
        have HZ := Lib.hid ((hx.block _ (Array.getElem?_eq_some_iff.1 HZ.out).1).trans HZ.out)
        have HX := Lib.hid (HX.out.trans hx)
        clear hx t0 t1 t2 b0 b1
        obtain ⟨⟨t0, t1, t2⟩, _⟩ := three_cells HT.out
        obtain ⟨b0, b1⟩ := two_cells HB.out
        go_wp2_with fail
        refine (rballotU x y _).mono ?_
        rw [H2.out]
        rintro e w1 ⟨rfl, hx⟩
        have HLT := Lib.hid (Nat.lt_of_lt_of_le HLT.out hx.size)
        have HT := Lib.hid ((hx.block _ (Array.getElem?_eq_some_iff.1 HT.out).1).trans HT.out)
        have HB := Lib.hid ((hx.block _ (Array.getElem?_eq_some_iff.1 HB.out).1).trans HB.out)
        have HZ := Lib.hid ((hx.block _ (Array.getElem?_eq_some_iff.1 HZ.out).1).trans HZ.out)
        have HX := Lib.hid (HX.out.trans hx)
        clear hx t0 t1 t2 b0 b1
        obtain ⟨⟨t0, t1, t2⟩, _⟩ := three_cells HT.out
        obtain ⟨b0, b1⟩ := two_cells HB.out
        go_wp2_with fail
        refine (raboveU x y a b _).mono ?_
        rw [H3.out]
        rintro e w1 ⟨rfl, hx⟩
        have HLT := Lib.hid (Nat.lt_of_lt_of_le HLT.out hx.size)
        have HT := Lib.hid ((hx.block _ (Array.getElem?_eq_some_iff.1 HT.out).1).trans HT.out)
        have HB := Lib.hid ((hx.block _ (Array.getElem?_eq_some_iff.1 HB.out).1).trans HB.out)
        have HZ := Lib.hid ((hx.block _ (Array.getElem?_eq_some_iff.1 HZ.out).1).trans HZ.out)
        have HX := Lib.hid (HX.out.trans hx)
        clear hx t0 t1 t2 b0 b1
        obtain ⟨⟨d0, d1, d2⟩, f0, f1, f2⟩ := three_cells HZ.out
        go_wp2_with fail
        refine bodyPost_ret (v := .tuple #[.agg #[.int .i64 0, .int .i64 0, .int .i64 0], .int .i64 2]) ?_ rfl ?_
        · simp [results, Tryz.results33, go_sem, d0, d1, d2]
        · rw [HP.out, if_neg (by rw [promOk_bal]; simp [HNO.out])]
          exact ⟨rfl, rout_refl H.out (three_ext HX.out (by omega) _ _ _)⟩
    · have H2 := Lib.hid (show balU x y = false by simpa using h2)
      have HNO := Lib.hid h2
      clear h2
      obtain ⟨⟨t0, t1, t2⟩, _⟩ := three_cells HT.out
      obtain ⟨b0, b1⟩ := two_cells HB.out
      go_enter Tryz.func33, Tryz.ntmps33
      go_wp2_with fail
      refine (rmayU a b c _).mono ?_
      rw [H1.out]
      rintro e w1 ⟨rfl, hx⟩
      have HLT := Lib.hid (Nat.lt_of_lt_of_le HLT.out hx.size)
      have HT := Lib.hid ((hx.block _ (Array.getElem?_eq_some_iff.1 HT.out).1).trans HT.out)
      have HB := Lib.hid ((hx.block _ (Array.getElem?_eq_some_iff.1 HB.out).1).trans HB.out)
      have HZ := Lib.hid ((hx.block _ (Array.getElem?_eq_some_iff.1 HZ.out).1).trans HZ.out)
      have HX := Lib.hid (HX.out.trans hx)
      clear hx t0 t1 t2 b0 b1
      obtain ⟨⟨t0, t1, t2⟩, _⟩ := three_cells HT.out
      obtain ⟨b0, b1⟩ := two_cells HB.out
      go_wp2_with fail
      refine (rballotU x y _).mono ?_
      rw [H2.out]
      rintro e w1 ⟨rfl, hx⟩
      have HLT := Lib.hid (Nat.lt_of_lt_of_le HLT.out hx.size)
      have HT := Lib.hid ((hx.block _ (Array.getElem?_eq_some_iff.1 HT.out).1).trans HT.out)
      have HB := Lib.hid ((hx.block _ (Array.getElem?_eq_some_iff.1 HB.out).1).trans HB.out)
      have HZ := Lib.hid ((hx.block _ (Array.getElem?_eq_some_iff.1 HZ.out).1).trans HZ.out)
      have HX := Lib.hid (HX.out.trans hx)
      clear hx t0 t1 t2 b0 b1
      obtain ⟨⟨d0, d1, d2⟩, f0, f1, f2⟩ := three_cells HZ.out
      go_wp2_with fail
      refine bodyPost_ret (v := .tuple #[.agg #[.int .i64 0, .int .i64 0, .int .i64 0], .int .i64 2]) ?_ rfl ?_
      · simp [results, Tryz.results33, go_sem, d0, d1, d2]
      · rw [HP.out, if_neg (by rw [promOk_bal]; simp [HNO.out])]
        exact ⟨rfl, rout_refl H.out (three_ext HX.out (by omega) _ _ _)⟩
  · have H1 := Lib.hid (show mayU a b c = false by simpa using h1)
    have HNO := Lib.hid h1
    clear h1
    obtain ⟨⟨t0, t1, t2⟩, _⟩ := three_cells HT.out
    obtain ⟨b0, b1⟩ := two_cells HB.out
    go_enter Tryz.func33, Tryz.ntmps33
    go_wp2_with fail
    refine (rmayU a b c _).mono ?_
    rw [H1.out]
    rintro e w1 ⟨rfl, hx⟩
    have HLT := Lib.hid (Nat.lt_of_lt_of_le HLT.out hx.size)
    have HT := Lib.hid ((hx.block _ (Array.getElem?_eq_some_iff.1 HT.out).1).trans HT.out)
    have HB := Lib.hid ((hx.block _ (Array.getElem?_eq_some_iff.1 HB.out).1).trans HB.out)
    have HZ := Lib.hid ((hx.block _ (Array.getElem?_eq_some_iff.1 HZ.out).1).trans HZ.out)
    have HX := Lib.hid (HX.out.trans hx)
    clear hx t0 t1 t2 b0 b1
    obtain ⟨⟨d0, d1, d2⟩, f0, f1, f2⟩ := three_cells HZ.out
    go_wp2_with fail
    refine bodyPost_ret (v := .tuple #[.agg #[.int .i64 0, .int .i64 0, .int .i64 0], .int .i64 2]) ?_ rfl ?_
    · simp [results, Tryz.results33, go_sem, d0, d1, d2]
    · rw [HP.out, if_neg (by rw [promOk_bal]; simp [HNO.out])]
      exact ⟨rfl, rout_refl H.out (three_ext HX.out (by omega) _ _ _)⟩
set_option maxRecDepth 100000 in
set_option maxHeartbeats 1600000 in
theorem rpromU_no {w : World} {d : Nat} {p : Nat → Nat} {m : DM} (h : RD w d p m) (r a b c x y : Int) (hk : knownC m.size r 1 ≠ 0) :
    Calls Tryz.prog 33 #[.pointer (some ⟨d, 0, none⟩), .int .i64 r, .agg #[.int .i64 a, .int .i64 b, .int .i64 c], .agg #[.int .i64 x, .int .i64 y]] w fun e w' => e = .returned (.tuple #[.agg #[.int .i64 0, .int .i64 0, .int .i64 0], .int .i64 2]) ∧ Ext w w' := by
  have hx := (((Ext.refl w).alloc (.cells #[.int .i64 a, .int .i64 b, .int .i64 c] 76)).alloc (.cells #[.int .i64 x, .int .i64 y] 74)).alloc (.cells #[.int .i64 0, .int .i64 0, .int .i64 0] 76)
  obtain ⟨hT, hB, hZ⟩ := rows3 w (.cells #[.int .i64 a, .int .i64 b, .int .i64 c] 76) (.cells #[.int .i64 x, .int .i64 y] 74) (.cells #[.int .i64 0, .int .i64 0, .int .i64 0] 76)
  have HLT : Hid (w.heap.size + 1 + 1 < ((((w.alloc (.cells #[.int .i64 a, .int .i64 b, .int .i64 c] 76)).alloc (.cells #[.int .i64 x, .int .i64 y] 74)).alloc (.cells #[.int .i64 0, .int .i64 0, .int .i64 0] 76)).heap.size)) := Lib.hid (by simp)
  have HT := Lib.hid hT
  have HB := Lib.hid hB
  have HZ := Lib.hid hZ
  have HX := Lib.hid hx
  have H := Lib.hid h
  have HK := Lib.hid hk
  clear hx h hk hT hB hZ
  by_cases h1 : mayU a b c = true
  · have H1 := Lib.hid h1
    clear h1
    by_cases h2 : balU x y = true
    · have H2 := Lib.hid h2
      clear h2
      obtain ⟨⟨t0, t1, t2⟩, _⟩ := three_cells HT.out
      obtain ⟨b0, b1⟩ := two_cells HB.out
      by_cases h3 : abvB x y a b = true
      · have H3 := Lib.hid h3
        clear h3
        go_enter Tryz.func33, Tryz.ntmps33
        go_wp2_with fail
        refine (rmayU a b c _).mono ?_
        rw [H1.out]
        rintro e w1 ⟨rfl, hx⟩
        have HLT := Lib.hid (Nat.lt_of_lt_of_le HLT.out hx.size)
        have HT := Lib.hid ((hx.block _ (Array.getElem?_eq_some_iff.1 HT.out).1).trans HT.out)
        have HB := Lib.hid ((hx.block _ (Array.getElem?_eq_some_iff.1 HB.out).1).trans HB.out)
        have HZ := Lib.hid ((hx.block _ (Array.getElem?_eq_some_iff.1 HZ.out).1).trans HZ.out)
        have HX := Lib.hid (HX.out.trans hx)
        clear hx t0 t1 t2 b0 b1
        obtain ⟨⟨t0, t1, t2⟩, _⟩ := three_cells HT.out
        obtain ⟨b0, b1⟩ := two_cells HB.out
        go_wp2_with fail
        refine (rballotU x y _).mono ?_
        rw [H2.out]
        rintro e w1 ⟨rfl, hx⟩
        have HLT := Lib.hid (Nat.lt_of_lt_of_le HLT.out hx.size)
        have HT := Lib.hid ((hx.block _ (Array.getElem?_eq_some_iff.1 HT.out).1).trans HT.out)
        have HB := Lib.hid ((hx.block _ (Array.getElem?_eq_some_iff.1 HB.out).1).trans HB.out)
        have HZ := Lib.hid ((hx.block _ (Array.getElem?_eq_some_iff.1 HZ.out).1).trans HZ.out)
        have HX := Lib.hid (HX.out.trans hx)
        clear hx t0 t1 t2 b0 b1
        obtain ⟨⟨t0, t1, t2⟩, _⟩ := three_cells HT.out
        obtain ⟨b0, b1⟩ := two_cells HB.out
        go_wp2_with fail
        refine (raboveU x y a b _).mono ?_
        rw [H3.out]
        rintro e w1 ⟨rfl, hx⟩
        have HLT := Lib.hid (Nat.lt_of_lt_of_le HLT.out hx.size)
        have HT := Lib.hid ((hx.block _ (Array.getElem?_eq_some_iff.1 HT.out).1).trans HT.out)
        have HB := Lib.hid ((hx.block _ (Array.getElem?_eq_some_iff.1 HB.out).1).trans HB.out)
        have HZ := Lib.hid ((hx.block _ (Array.getElem?_eq_some_iff.1 HZ.out).1).trans HZ.out)
        have HX := Lib.hid (HX.out.trans hx)
        clear hx t0 t1 t2 b0 b1
        obtain ⟨⟨t0, t1, t2⟩, tf0, tf1, tf2⟩ := three_cells HT.out
        obtain ⟨b0, b1⟩ := two_cells HB.out
        have hmod := two_modR (w := w1) w.heap.size (.int .i64 x) (.int .i64 y)
        have HX2 : Hid (Ext w ((w1.setCell ⟨w.heap.size, 0, none⟩ (.int .i64 x)).setCell ⟨w.heap.size, 1, none⟩ (.int .i64 y))) := Lib.hid ((HX.out.setCell (p := ⟨w.heap.size, 0, none⟩) (Nat.le_refl _) _).setCell (p := ⟨w.heap.size, 1, none⟩) (Nat.le_refl _) _)
        have HZ2 := Lib.hid (heap_mod HZ.out hmod (by omega))
        have HLT2 : Hid (w.heap.size + 1 + 1 < ((w1.setCell ⟨w.heap.size, 0, none⟩ (.int .i64 x)).setCell ⟨w.heap.size, 1, none⟩ (.int .i64 y)).heap.size) := Lib.hid (Nat.lt_of_lt_of_le HLT.out hmod.size)
        clear hmod
        go_wp2_with fail
        generalize ((w1.setCell ⟨w.heap.size, 0, none⟩ (.int .i64 x)).setCell ⟨w.heap.size, 1, none⟩ (.int .i64 y)) = w2 at *
        refine (rstoreU_no (H.out.ext HX2.out) r x y c HK.out).mono ?_
        rintro e w3 ⟨rfl, hx⟩
        have HZ := Lib.hid ((hx.block _ (Array.getElem?_eq_some_iff.1 HZ2.out).1).trans HZ2.out)
        have HX := Lib.hid (HX2.out.trans hx)
        clear hx t0 t1 t2 b0 b1 tf0 tf1 tf2
        obtain ⟨⟨d0, d1, d2⟩, f0, f1, f2⟩ := three_cells HZ.out
        go_wp2_with fail
        refine bodyPost_ret (v := .tuple #[.agg #[.int .i64 0, .int .i64 0, .int .i64 0], .int .i64 2]) ?_ rfl ?_
        · simp [results, Tryz.results33, go_sem, d0, d1, d2]
        · exact ⟨rfl, three_ext HX.out (by omega) _ _ _⟩
      · have H3 := Lib.hid (show abvB x y a b = false by simpa using h3)
        clear h3
        go_enter Tryz.func33, Tryz.ntmps33
        go_wp2_with fail
        refine (rmayU a b c _).mono ?_
        rw [H1.out]
        rintro e w1 ⟨rfl, hx⟩
        have HLT := Lib.hid (Nat.lt_of_lt_of_le HLT.out hx.size)
        have HT := Lib.hid ((hx.block _ (Array.getElem?_eq_some_iff.1 HT.out).1).trans HT.out)
        have HB := Lib.hid ((hx.block _ (Array.getElem?_eq_some_iff.1 HB.out).1).trans HB.out)
        have HZ := Lib.hid ((hx.block _ (Array.getElem?_eq_some_iff.1 HZ.out).1).trans HZ.out)
        have HX := Lib.hid (HX.out.trans hx)
        clear hx t0 t1 t2 b0 b1
        obtain ⟨⟨t0, t1, t2⟩, _⟩ := three_cells HT.out
        obtain ⟨b0, b1⟩ := two_cells HB.out
        go_wp2_with fail
        refine (rballotU x y _).mono ?_
        rw [H2.out]
        rintro e w1 ⟨rfl, hx⟩
        have HLT := Lib.hid (Nat.lt_of_lt_of_le HLT.out hx.size)
        have HT := Lib.hid ((hx.block _ (Array.getElem?_eq_some_iff.1 HT.out).1).trans HT.out)
        have HB := Lib.hid ((hx.block _ (Array.getElem?_eq_some_iff.1 HB.out).1).trans HB.out)
        have HZ := Lib.hid ((hx.block _ (Array.getElem?_eq_some_iff.1 HZ.out).1).trans HZ.out)
        have HX := Lib.hid (HX.out.trans hx)
        clear hx t0 t1 t2 b0 b1
        obtain ⟨⟨t0, t1, t2⟩, _⟩ := three_cells HT.out
        obtain ⟨b0, b1⟩ := two_cells HB.out
        go_wp2_with fail
        refine (raboveU x y a b _).mono ?_
        rw [H3.out]
        rintro e w1 ⟨rfl, hx⟩
        have HLT := Lib.hid (Nat.lt_of_lt_of_le HLT.out hx.size)
        have HT := Lib.hid ((hx.block _ (Array.getElem?_eq_some_iff.1 HT.out).1).trans HT.out)
        have HB := Lib.hid ((hx.block _ (Array.getElem?_eq_some_iff.1 HB.out).1).trans HB.out)
        have HZ := Lib.hid ((hx.block _ (Array.getElem?_eq_some_iff.1 HZ.out).1).trans HZ.out)
        have HX := Lib.hid (HX.out.trans hx)
        clear hx t0 t1 t2 b0 b1
        obtain ⟨⟨d0, d1, d2⟩, f0, f1, f2⟩ := three_cells HZ.out
        go_wp2_with fail
        refine bodyPost_ret (v := .tuple #[.agg #[.int .i64 0, .int .i64 0, .int .i64 0], .int .i64 2]) ?_ rfl ?_
        · simp [results, Tryz.results33, go_sem, d0, d1, d2]
        · exact ⟨rfl, three_ext HX.out (by omega) _ _ _⟩
    · have H2 := Lib.hid (show balU x y = false by simpa using h2)
      clear h2
      obtain ⟨⟨t0, t1, t2⟩, _⟩ := three_cells HT.out
      obtain ⟨b0, b1⟩ := two_cells HB.out
      go_enter Tryz.func33, Tryz.ntmps33
      go_wp2_with fail
      refine (rmayU a b c _).mono ?_
      rw [H1.out]
      rintro e w1 ⟨rfl, hx⟩
      have HLT := Lib.hid (Nat.lt_of_lt_of_le HLT.out hx.size)
      have HT := Lib.hid ((hx.block _ (Array.getElem?_eq_some_iff.1 HT.out).1).trans HT.out)
      have HB := Lib.hid ((hx.block _ (Array.getElem?_eq_some_iff.1 HB.out).1).trans HB.out)
      have HZ := Lib.hid ((hx.block _ (Array.getElem?_eq_some_iff.1 HZ.out).1).trans HZ.out)
      have HX := Lib.hid (HX.out.trans hx)
      clear hx t0 t1 t2 b0 b1
      obtain ⟨⟨t0, t1, t2⟩, _⟩ := three_cells HT.out
      obtain ⟨b0, b1⟩ := two_cells HB.out
      go_wp2_with fail
      refine (rballotU x y _).mono ?_
      rw [H2.out]
      rintro e w1 ⟨rfl, hx⟩
      have HLT := Lib.hid (Nat.lt_of_lt_of_le HLT.out hx.size)
      have HT := Lib.hid ((hx.block _ (Array.getElem?_eq_some_iff.1 HT.out).1).trans HT.out)
      have HB := Lib.hid ((hx.block _ (Array.getElem?_eq_some_iff.1 HB.out).1).trans HB.out)
      have HZ := Lib.hid ((hx.block _ (Array.getElem?_eq_some_iff.1 HZ.out).1).trans HZ.out)
      have HX := Lib.hid (HX.out.trans hx)
      clear hx t0 t1 t2 b0 b1
      obtain ⟨⟨d0, d1, d2⟩, f0, f1, f2⟩ := three_cells HZ.out
      go_wp2_with fail
      refine bodyPost_ret (v := .tuple #[.agg #[.int .i64 0, .int .i64 0, .int .i64 0], .int .i64 2]) ?_ rfl ?_
      · simp [results, Tryz.results33, go_sem, d0, d1, d2]
      · exact ⟨rfl, three_ext HX.out (by omega) _ _ _⟩
  · have H1 := Lib.hid (show mayU a b c = false by simpa using h1)
    clear h1
    obtain ⟨⟨t0, t1, t2⟩, _⟩ := three_cells HT.out
    obtain ⟨b0, b1⟩ := two_cells HB.out
    go_enter Tryz.func33, Tryz.ntmps33
    go_wp2_with fail
    refine (rmayU a b c _).mono ?_
    rw [H1.out]
    rintro e w1 ⟨rfl, hx⟩
    have HLT := Lib.hid (Nat.lt_of_lt_of_le HLT.out hx.size)
    have HT := Lib.hid ((hx.block _ (Array.getElem?_eq_some_iff.1 HT.out).1).trans HT.out)
    have HB := Lib.hid ((hx.block _ (Array.getElem?_eq_some_iff.1 HB.out).1).trans HB.out)
    have HZ := Lib.hid ((hx.block _ (Array.getElem?_eq_some_iff.1 HZ.out).1).trans HZ.out)
    have HX := Lib.hid (HX.out.trans hx)
    clear hx t0 t1 t2 b0 b1
    obtain ⟨⟨d0, d1, d2⟩, f0, f1, f2⟩ := three_cells HZ.out
    go_wp2_with fail
    refine bodyPost_ret (v := .tuple #[.agg #[.int .i64 0, .int .i64 0, .int .i64 0], .int .i64 2]) ?_ rfl ?_
    · simp [results, Tryz.results33, go_sem, d0, d1, d2]
    · exact ⟨rfl, three_ext HX.out (by omega) _ _ _⟩
theorem rbeginU_no {w : World} {d : Nat} {p : Nat → Nat} {m : DM} (h : RD w d p m) (r : Int) (hk : knownC m.size r 1 ≠ 0) :
    Calls Tryz.prog 31 #[.pointer (some ⟨d, 0, none⟩), .int .i64 r] w fun e w' => e = .returned (.tuple #[.agg #[.int .i64 0, .int .i64 0, .int .i64 0], .int .i64 2]) ∧ Ext w w' := by
  have hx := (Ext.refl w).alloc (.cells #[.int .i64 0, .int .i64 0, .int .i64 0] 76)
  have HZ := Lib.hid (heap_alloc_new w (.cells #[.int .i64 0, .int .i64 0, .int .i64 0] 76))
  have HX := Lib.hid hx
  have HLD := Lib.hid (rload_no (h.ext hx) r 1 hk)
  clear h hx hk
  go_enter Tryz.func31, Tryz.ntmps31
  go_wp2_with fail
  refine HLD.out.mono ?_
  rintro e w1 ⟨rfl, hx⟩
  have HZ := Lib.hid ((hx.block _ (Array.getElem?_eq_some_iff.1 HZ.out).1).trans HZ.out)
  have HX := Lib.hid (HX.out.trans hx)
  clear hx
  obtain ⟨⟨d0, d1, d2⟩, f0, f1, f2⟩ := three_cells HZ.out
  go_wp2_with fail
  refine bodyPost_ret (v := .tuple #[.agg #[.int .i64 0, .int .i64 0, .int .i64 0], .int .i64 2]) ?_ rfl ?_
  · simp [results, Tryz.results31, go_sem, d0, d1, d2]
  · exact ⟨rfl, three_ext HX.out (Nat.le_refl _) _ _ _⟩
end Go.Proofs.YtlikhmhomkiadaaGreatDoor

namespace Go.Proofs.YtlikhmhomkiadaaGreatDoor
set_option maxRecDepth 100000
open Go Go.RowKit Go.ChangeShapes Go.WideShapes Go.Deep

/-- A list of bytes: where it lies, and what it holds. -/
structure Lst where
  A : Option Addr := none
  n : Nat := 0
  c : Nat := 0
  l : List Nat := []
instance : Inhabited Lst := ⟨{}⟩
def Lst.Ok (a : Lst) (w : World) (B : Nat) : Prop := Bs w B a.A a.n a.c a.l
/-- A list of them. -/
structure Lsts (w : World) (B : Nat) (A : Option Addr) (n c : Nat) (l : List Lst) : Prop where
  len : l.length = n
  cap : n ≤ c
  most : c ≤ 9223372036854775807
  each : ∀ a ∈ l, a.Ok w B
  rd : 0 < n → ∃ g o, A = some ⟨g, o, none⟩ ∧ g < B ∧ ∀ j a, l[j]? = some a → w.cell? ⟨g, o + j, none⟩ = some (.slice a.A a.n a.c)
  nil_ : A = none → c = 0
theorem Lsts.below {w w' : World} {B : Nat} {A : Option Addr} {n c : Nat} {l : List Lst} (h : Lsts w B A n c l) (hb : Below B w w') : Lsts w' B A n c l :=
  ⟨h.len, h.cap, h.most, fun a ha => (h.each a ha).below hb, fun hn => by
    obtain ⟨g, o, e, hg, hc⟩ := h.rd hn
    exact ⟨g, o, e, hg, fun j a ha => (hb.cell (p := ⟨g, o + j, none⟩) hg).trans (hc j a ha)⟩, h.nil_⟩
theorem Lsts.more {w : World} {B B' : Nat} {A : Option Addr} {n c : Nat} {l : List Lst} (h : Lsts w B A n c l) (hB : B ≤ B') : Lsts w B' A n c l :=
  ⟨h.len, h.cap, h.most, fun a ha => (h.each a ha).more hB, fun hn => by
    obtain ⟨g, o, e, hg, hc⟩ := h.rd hn
    exact ⟨g, o, e, by omega, hc⟩, h.nil_⟩
theorem Lsts.at_ {w : World} {B : Nat} {A : Option Addr} {n c : Nat} {l : List Lst} (h : Lsts w B A n c l) {j : Nat} (hj : j < n) : ∃ g o a, A = some ⟨g, o, none⟩ ∧ g < B ∧ l[j]? = some a ∧ Bs w B a.A a.n a.c a.l ∧
    w.cell? ⟨g, o + j, none⟩ = some (.slice a.A a.n a.c) := by
  obtain ⟨g, o, e, hg, hc⟩ := h.rd (by omega)
  have hj' : j < l.length := by rw [h.len]; exact hj
  have ha : l[j]? = some l[j] := List.getElem?_eq_getElem hj'
  exact ⟨g, o, l[j], e, hg, ha, h.each _ (List.getElem_mem hj'), hc j _ ha⟩

section
variable {H : Type} {enc : TypeId × Value → H} {P : Program} {w : World} {base : Nat} {spare : Nat → Bool} {held : Bool}

end
end Go.Proofs.YtlikhmhomkiadaaGreatDoor

namespace Go.Proofs.YtlikhmhomkiadaaGreatDoor
set_option maxRecDepth 100000
open Go Go.RowKit

section
variable {w0 w : World} {d : Nat} {F : Nat → Prop} {m : DM}
theorem DK.st (h : DK w0 w d F m) {m' : DM} {w' : World} (k : Step d F w m' w') : DK w0 w' d (grow F w w') m' := h.step k.1 k.2
theorem DK.laid (h : DK w0 w d F m) (hL : LaidF w0) : ∀ V, Mod F w V → LaidF V := fun _ hm => hL.ext (Below.mod h.bel hm h.bel.size h.low)
end
end Go.Proofs.YtlikhmhomkiadaaGreatDoor

namespace Go.Proofs.YtlikhmhomkiadaaGreatDoor
open Go Go.RowKit

theorem known_twoK {sz : Nat} {r g : Int} (hs : sz = 156) (h : knownC sz r g ≠ 0) : knownC sz r g = 2 := (askC_no (by omega) h).2
section
variable {w : World} {d : Nat} {F : Nat → Prop} {p : Nat → Nat} {m : DM}
end
end Go.Proofs.YtlikhmhomkiadaaGreatDoor
