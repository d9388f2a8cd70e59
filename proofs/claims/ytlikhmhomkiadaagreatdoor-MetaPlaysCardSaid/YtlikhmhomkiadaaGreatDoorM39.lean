/-
  Meta's calls, the program's and the document's, in one form for any replica of a disk of 156 sectors.
  An act of ghost's at the program's disk, told by its step: nothing but the disk's blocks is written.
  A call's own blocks beside a disk: what they hold, and that they are none of the disk's.
  An act of ghost's at the document's disk, told by what it leaves; a call's own blocks beside both disks.
  The contract of Great of the cells great statement; the cells of its acts.
  The contract of Great of the metadata's great statement; the cells of its acts.
-/
import Derived.Test.YtlikhmhomkiadaaGreatDoorM12
import Derived.Test.YtlikhmhomkiadaaGreatDoorM23
import Derived.Test.YtlikhmhomkiadaaGreatDoorM25
import Derived.Test.YtlikhmhomkiadaaGreatDoorM38
namespace Go.Proofs.YtlikhmhomkiadaaGreatDoor
open Go Go.RowKit

set_option maxRecDepth 100000 in
set_option maxHeartbeats 1600000 in
theorem storeU_no {w : World} {d : Nat} {F : Nat → Prop} {m : DM} (h : PDisk w d F m) (hL : LaidF w) (hs : m.size = 156) (r a b c : Int) (hk : knownC m.size r 1 ≠ 0) :
    Calls Tryz.prog 73 #[.pointer (some ⟨d, 0, none⟩), .int .i64 r, .agg #[.int .i64 a, .int .i64 b, .int .i64 c]] w fun e w' => e = .returned (.tuple #[.agg #[.int .i64 0, .int .i64 0, .int .i64 0], .int .i64 2]) ∧ Ext w w' := by
  have hx := ((Ext.refl w).alloc (.cells #[.int .i64 a, .int .i64 b, .int .i64 c] 76)).alloc (.cells #[.int .i64 0, .int .i64 0, .int .i64 0] 76)
  have HT := Lib.hid (show ((w.alloc (.cells #[.int .i64 a, .int .i64 b, .int .i64 c] 76)).alloc (.cells #[.int .i64 0, .int .i64 0, .int .i64 0] 76)).heap[w.heap.size]? = some (.cells #[.int .i64 a, .int .i64 b, .int .i64 c] 76 (0, 0)) by
    rw [heap_alloc_old _ _ (by simp)]
    exact heap_alloc_new w _)
  have HZ := Lib.hid (heap_alloc2_new w (.cells #[.int .i64 a, .int .i64 b, .int .i64 c] 76) (.cells #[.int .i64 0, .int .i64 0, .int .i64 0] 76))
  have HX := Lib.hid hx
  have H := Lib.hid h
  have HL := Lib.hid hL
  have HK := Lib.hid hk
  have H2 := Lib.hid (known_twoK hs hk)
  clear hx h hk hL hs
  obtain ⟨⟨c0, c1, c2⟩, _⟩ := three_cells HT.out
  go_enter Tryz.func73, Tryz.ntmps73
  go_wp2_with fail
  refine (printU_any a b c _ (HL.out.ext HX.out).a.o).mono ?_
  rintro e w1 ⟨A, cp, rfl, hb, hf, hx⟩
  have HT := Lib.hid ((hx.block _ (Array.getElem?_eq_some_iff.1 HT.out).1).trans HT.out)
  have HZ := Lib.hid ((hx.block _ (Array.getElem?_eq_some_iff.1 HZ.out).1).trans HZ.out)
  have HX := Lib.hid (HX.out.trans hx)
  clear hb hf hx c0 c1 c2
  obtain ⟨⟨c0, c1, c2⟩, _⟩ := three_cells HT.out
  go_wp2_with fail
  refine (Store_unknown (Sized.of (H.out.ext HX.out)) (HL.out.ext HX.out).a.t r 1 c A _ cp HK.out).mono ?_
  rw [H2.out]
  rintro e w2 ⟨rfl, hx⟩
  have HZ := Lib.hid ((hx.block _ (Array.getElem?_eq_some_iff.1 HZ.out).1).trans HZ.out)
  have HX := Lib.hid (HX.out.trans hx)
  clear hx c0 c1 c2
  obtain ⟨⟨d0, d1, d2⟩, f0, f1, f2⟩ := three_cells HZ.out
  go_wp2_with fail
  refine bodyPost_ret (v := .tuple #[.agg #[.int .i64 0, .int .i64 0, .int .i64 0], .int .i64 2]) ?_ rfl ?_
  · simp [results, Tryz.results73, go_sem, d0, d1, d2]
  · exact ⟨rfl, three_ext HX.out (by omega) _ _ _⟩
set_option maxRecDepth 100000 in
theorem loadU_no {w : World} {d : Nat} {F : Nat → Prop} {m : DM} (h : PDisk w d F m) (hL : LaidF w) (hs : m.size = 156) (r : Int) (hk : knownC m.size r 1 ≠ 0) :
    Calls Tryz.prog 72 #[.pointer (some ⟨d, 0, none⟩), .int .i64 r] w fun e w' => e = .returned (.tuple #[.agg #[.int .i64 0, .int .i64 0, .int .i64 0], .int .i64 2]) ∧ Ext w w' := by
  have hx := (Ext.refl w).alloc (.cells #[.int .i64 0, .int .i64 0, .int .i64 0] 76)
  have HZ := Lib.hid (heap_alloc_new w (.cells #[.int .i64 0, .int .i64 0, .int .i64 0] 76))
  have HX := Lib.hid hx
  have HLD := Lib.hid (Load_unknown (Sized.of (h.ext hx)) (hL.ext hx).a.t r 1 hk)
  rw [known_twoK hs hk] at HLD
  clear h hx hk hL hs
  go_enter Tryz.func72, Tryz.ntmps72
  go_wp2_with fail
  refine HLD.out.mono ?_
  rintro e w1 ⟨rfl, hx⟩
  have HZ := Lib.hid ((hx.block _ (Array.getElem?_eq_some_iff.1 HZ.out).1).trans HZ.out)
  have HX := Lib.hid (HX.out.trans hx)
  clear hx
  obtain ⟨⟨d0, d1, d2⟩, f0, f1, f2⟩ := three_cells HZ.out
  go_wp2_with fail
  refine bodyPost_ret (v := .tuple #[.agg #[.int .i64 0, .int .i64 0, .int .i64 0], .int .i64 2]) ?_ rfl ?_
  · simp [results, Tryz.results72, go_sem, d0, d1, d2]
  · exact ⟨rfl, three_ext HX.out (Nat.le_refl _) _ _ _⟩
set_option maxRecDepth 100000 in
theorem beginU_no {w : World} {d : Nat} {F : Nat → Prop} {m : DM} (h : PDisk w d F m) (hL : LaidF w) (hs : m.size = 156) (r : Int) (hk : knownC m.size r 1 ≠ 0) :
    Calls Tryz.prog 30 #[.pointer (some ⟨d, 0, none⟩), .int .i64 r] w fun e w' => e = .returned (.tuple #[.agg #[.int .i64 0, .int .i64 0, .int .i64 0], .int .i64 2]) ∧ Ext w w' := by
  have hx := (Ext.refl w).alloc (.cells #[.int .i64 0, .int .i64 0, .int .i64 0] 76)
  have HZ := Lib.hid (heap_alloc_new w (.cells #[.int .i64 0, .int .i64 0, .int .i64 0] 76))
  have HX := Lib.hid hx
  have HLD := Lib.hid (loadU_no (h.ext hx) (hL.ext hx) hs r hk)
  clear h hx hk hL hs
  go_enter Tryz.func30, Tryz.ntmps30
  go_wp2_with fail
  refine HLD.out.mono ?_
  rintro e w1 ⟨rfl, hx⟩
  have HZ := Lib.hid ((hx.block _ (Array.getElem?_eq_some_iff.1 HZ.out).1).trans HZ.out)
  have HX := Lib.hid (HX.out.trans hx)
  have HZ := Lib.hid ((heap_alloc_old w1 (.cells #[.int .i64 0, .int .i64 0, .int .i64 0] 76) (Array.getElem?_eq_some_iff.1 HZ.out).1).trans HZ.out)
  have HX := Lib.hid (HX.out.alloc (.cells #[.int .i64 0, .int .i64 0, .int .i64 0] 76))
  clear hx
  obtain ⟨⟨d0, d1, d2⟩, f0, f1, f2⟩ := three_cells HZ.out
  go_wp2_with fail
  refine bodyPost_ret (v := .tuple #[.agg #[.int .i64 0, .int .i64 0, .int .i64 0], .int .i64 2]) ?_ rfl ?_
  · simp [results, Tryz.results30, go_sem, d0, d1, d2]
  · exact ⟨rfl, three_ext HX.out (Nat.le_refl _) _ _ _⟩
set_option maxRecDepth 100000 in
set_option maxHeartbeats 1600000 in
theorem promU_noK {w : World} {d : Nat} {F : Nat → Prop} {m : DM} (h : PDisk w d F m) (hL : LaidF w) (hs : m.size = 156) (r a b c x y : Int) (hk : knownC m.size r 1 ≠ 0) :
    Calls Tryz.prog 32 #[.pointer (some ⟨d, 0, none⟩), .int .i64 r, .agg #[.int .i64 a, .int .i64 b, .int .i64 c], .agg #[.int .i64 x, .int .i64 y]] w fun e w' => e = .returned (.tuple #[.agg #[.int .i64 0, .int .i64 0, .int .i64 0], .int .i64 2]) ∧ Ext w w' := by
  have hx := ((((Ext.refl w).alloc (.cells #[.int .i64 a, .int .i64 b, .int .i64 c] 76)).alloc (.cells #[.int .i64 x, .int .i64 y] 74)).alloc (.cells #[.int .i64 0, .int .i64 0, .int .i64 0] 76)).alloc (.cells #[.int .i64 x, .int .i64 y, .int .i64 c] 76)
  obtain ⟨hT, hB, hZ, hN⟩ := rows4 w (.cells #[.int .i64 a, .int .i64 b, .int .i64 c] 76) (.cells #[.int .i64 x, .int .i64 y] 74) (.cells #[.int .i64 0, .int .i64 0, .int .i64 0] 76) (.cells #[.int .i64 x, .int .i64 y, .int .i64 c] 76)
  have HT := Lib.hid hT
  have HB := Lib.hid hB
  have HZ := Lib.hid hZ
  have HN := Lib.hid hN
  have HX := Lib.hid hx
  have H := Lib.hid h
  have HL := Lib.hid hL
  have HS := Lib.hid hs
  have HK := Lib.hid hk
  clear hx h hL hk hs hT hB hZ hN
  by_cases h1 : mayU a b c = true
  · have H1 := Lib.hid h1
    clear h1
    by_cases h2 : mayU x y c = true
    · have H2 := Lib.hid h2
      clear h2
      obtain ⟨⟨t0, t1, t2⟩, _⟩ := three_cells HT.out
      obtain ⟨b0, b1⟩ := two_cells HB.out
      obtain ⟨⟨n0, n1, n2⟩, _⟩ := three_cells HN.out
      by_cases h3 : abvB x y a b = true
      · have H3 := Lib.hid h3
        clear h3
        go_enter Tryz.func32, Tryz.ntmps32
        go_wp2_with fail
        refine (mayU_any a b c _).mono ?_
        rw [H1.out]
        rintro e w1 ⟨rfl, hx⟩
        have HT := Lib.hid ((hx.block _ (Array.getElem?_eq_some_iff.1 HT.out).1).trans HT.out)
        have HB := Lib.hid ((hx.block _ (Array.getElem?_eq_some_iff.1 HB.out).1).trans HB.out)
        have HZ := Lib.hid ((hx.block _ (Array.getElem?_eq_some_iff.1 HZ.out).1).trans HZ.out)
        have HN := Lib.hid ((hx.block _ (Array.getElem?_eq_some_iff.1 HN.out).1).trans HN.out)
        have HX := Lib.hid (HX.out.trans hx)
        clear hx t0 t1 t2 b0 b1 n0 n1 n2
        obtain ⟨⟨t0, t1, t2⟩, _⟩ := three_cells HT.out
        obtain ⟨b0, b1⟩ := two_cells HB.out
        obtain ⟨⟨n0, n1, n2⟩, _⟩ := three_cells HN.out
        go_wp2_with fail
        refine (mayU_any x y c _).mono ?_
        rw [H2.out]
        rintro e w1 ⟨rfl, hx⟩
        have HT := Lib.hid ((hx.block _ (Array.getElem?_eq_some_iff.1 HT.out).1).trans HT.out)
        have HB := Lib.hid ((hx.block _ (Array.getElem?_eq_some_iff.1 HB.out).1).trans HB.out)
        have HZ := Lib.hid ((hx.block _ (Array.getElem?_eq_some_iff.1 HZ.out).1).trans HZ.out)
        have HN := Lib.hid ((hx.block _ (Array.getElem?_eq_some_iff.1 HN.out).1).trans HN.out)
        have HX := Lib.hid (HX.out.trans hx)
        clear hx t0 t1 t2 b0 b1 n0 n1 n2
        obtain ⟨⟨t0, t1, t2⟩, _⟩ := three_cells HT.out
        obtain ⟨b0, b1⟩ := two_cells HB.out
        obtain ⟨⟨n0, n1, n2⟩, _⟩ := three_cells HN.out
        go_wp2_with fail
        refine (isAboveU x y a b _).mono ?_
        rw [H3.out]
        rintro e w1 ⟨rfl, hx⟩
        have HT := Lib.hid ((hx.block _ (Array.getElem?_eq_some_iff.1 HT.out).1).trans HT.out)
        have HB := Lib.hid ((hx.block _ (Array.getElem?_eq_some_iff.1 HB.out).1).trans HB.out)
        have HZ := Lib.hid ((hx.block _ (Array.getElem?_eq_some_iff.1 HZ.out).1).trans HZ.out)
        have HN := Lib.hid ((hx.block _ (Array.getElem?_eq_some_iff.1 HN.out).1).trans HN.out)
        have HX := Lib.hid (HX.out.trans hx)
        clear hx t0 t1 t2 b0 b1 n0 n1 n2
        obtain ⟨⟨t0, t1, t2⟩, _⟩ := three_cells HT.out
        obtain ⟨b0, b1⟩ := two_cells HB.out
        obtain ⟨⟨n0, n1, n2⟩, _⟩ := three_cells HN.out
        clear t0 t1 t2 b0 b1
        go_wp2_with fail
        refine (storeU_no (H.out.ext HX.out) (HL.out.ext HX.out) HS.out r x y c HK.out).mono ?_
        rintro e w1 ⟨rfl, hx⟩
        have HT := Lib.hid ((hx.block _ (Array.getElem?_eq_some_iff.1 HT.out).1).trans HT.out)
        have HB := Lib.hid ((hx.block _ (Array.getElem?_eq_some_iff.1 HB.out).1).trans HB.out)
        have HZ := Lib.hid ((hx.block _ (Array.getElem?_eq_some_iff.1 HZ.out).1).trans HZ.out)
        have HN := Lib.hid ((hx.block _ (Array.getElem?_eq_some_iff.1 HN.out).1).trans HN.out)
        have HX := Lib.hid (HX.out.trans hx)
        clear hx n0 n1 n2
        obtain ⟨⟨d0, d1, d2⟩, f0, f1, f2⟩ := three_cells HZ.out
        go_wp2_with fail
        refine bodyPost_ret (v := .tuple #[.agg #[.int .i64 0, .int .i64 0, .int .i64 0], .int .i64 2]) ?_ rfl ?_
        · simp [results, Tryz.results32, go_sem, d0, d1, d2]
        · exact ⟨rfl, three_ext HX.out (by omega) _ _ _⟩
      · have H3 := Lib.hid (show abvB x y a b = false by simpa using h3)
        clear h3
        go_enter Tryz.func32, Tryz.ntmps32
        go_wp2_with fail
        refine (mayU_any a b c _).mono ?_
        rw [H1.out]
        rintro e w1 ⟨rfl, hx⟩
        have HT := Lib.hid ((hx.block _ (Array.getElem?_eq_some_iff.1 HT.out).1).trans HT.out)
        have HB := Lib.hid ((hx.block _ (Array.getElem?_eq_some_iff.1 HB.out).1).trans HB.out)
        have HZ := Lib.hid ((hx.block _ (Array.getElem?_eq_some_iff.1 HZ.out).1).trans HZ.out)
        have HN := Lib.hid ((hx.block _ (Array.getElem?_eq_some_iff.1 HN.out).1).trans HN.out)
        have HX := Lib.hid (HX.out.trans hx)
        clear hx t0 t1 t2 b0 b1 n0 n1 n2
        obtain ⟨⟨t0, t1, t2⟩, _⟩ := three_cells HT.out
        obtain ⟨b0, b1⟩ := two_cells HB.out
        obtain ⟨⟨n0, n1, n2⟩, _⟩ := three_cells HN.out
        go_wp2_with fail
        refine (mayU_any x y c _).mono ?_
        rw [H2.out]
        rintro e w1 ⟨rfl, hx⟩
        have HT := Lib.hid ((hx.block _ (Array.getElem?_eq_some_iff.1 HT.out).1).trans HT.out)
        have HB := Lib.hid ((hx.block _ (Array.getElem?_eq_some_iff.1 HB.out).1).trans HB.out)
        have HZ := Lib.hid ((hx.block _ (Array.getElem?_eq_some_iff.1 HZ.out).1).trans HZ.out)
        have HN := Lib.hid ((hx.block _ (Array.getElem?_eq_some_iff.1 HN.out).1).trans HN.out)
        have HX := Lib.hid (HX.out.trans hx)
        clear hx t0 t1 t2 b0 b1 n0 n1 n2
        obtain ⟨⟨t0, t1, t2⟩, _⟩ := three_cells HT.out
        obtain ⟨b0, b1⟩ := two_cells HB.out
        obtain ⟨⟨n0, n1, n2⟩, _⟩ := three_cells HN.out
        go_wp2_with fail
        refine (isAboveU x y a b _).mono ?_
        rw [H3.out]
        rintro e w1 ⟨rfl, hx⟩
        have HT := Lib.hid ((hx.block _ (Array.getElem?_eq_some_iff.1 HT.out).1).trans HT.out)
        have HB := Lib.hid ((hx.block _ (Array.getElem?_eq_some_iff.1 HB.out).1).trans HB.out)
        have HZ := Lib.hid ((hx.block _ (Array.getElem?_eq_some_iff.1 HZ.out).1).trans HZ.out)
        have HN := Lib.hid ((hx.block _ (Array.getElem?_eq_some_iff.1 HN.out).1).trans HN.out)
        have HX := Lib.hid (HX.out.trans hx)
        clear hx t0 t1 t2 b0 b1 n0 n1 n2
        obtain ⟨⟨d0, d1, d2⟩, f0, f1, f2⟩ := three_cells HZ.out
        go_wp2_with fail
        refine bodyPost_ret (v := .tuple #[.agg #[.int .i64 0, .int .i64 0, .int .i64 0], .int .i64 2]) ?_ rfl ?_
        · simp [results, Tryz.results32, go_sem, d0, d1, d2]
        · exact ⟨rfl, three_ext HX.out (by omega) _ _ _⟩
    · have H2 := Lib.hid (show mayU x y c = false by simpa using h2)
      clear h2
      obtain ⟨⟨t0, t1, t2⟩, _⟩ := three_cells HT.out
      obtain ⟨b0, b1⟩ := two_cells HB.out
      obtain ⟨⟨n0, n1, n2⟩, _⟩ := three_cells HN.out
      go_enter Tryz.func32, Tryz.ntmps32
      go_wp2_with fail
      refine (mayU_any a b c _).mono ?_
      rw [H1.out]
      rintro e w1 ⟨rfl, hx⟩
      have HT := Lib.hid ((hx.block _ (Array.getElem?_eq_some_iff.1 HT.out).1).trans HT.out)
      have HB := Lib.hid ((hx.block _ (Array.getElem?_eq_some_iff.1 HB.out).1).trans HB.out)
      have HZ := Lib.hid ((hx.block _ (Array.getElem?_eq_some_iff.1 HZ.out).1).trans HZ.out)
      have HN := Lib.hid ((hx.block _ (Array.getElem?_eq_some_iff.1 HN.out).1).trans HN.out)
      have HX := Lib.hid (HX.out.trans hx)
      clear hx t0 t1 t2 b0 b1 n0 n1 n2
      obtain ⟨⟨t0, t1, t2⟩, _⟩ := three_cells HT.out
      obtain ⟨b0, b1⟩ := two_cells HB.out
      obtain ⟨⟨n0, n1, n2⟩, _⟩ := three_cells HN.out
      go_wp2_with fail
      refine (mayU_any x y c _).mono ?_
      rw [H2.out]
      rintro e w1 ⟨rfl, hx⟩
      have HT := Lib.hid ((hx.block _ (Array.getElem?_eq_some_iff.1 HT.out).1).trans HT.out)
      have HB := Lib.hid ((hx.block _ (Array.getElem?_eq_some_iff.1 HB.out).1).trans HB.out)
      have HZ := Lib.hid ((hx.block _ (Array.getElem?_eq_some_iff.1 HZ.out).1).trans HZ.out)
      have HN := Lib.hid ((hx.block _ (Array.getElem?_eq_some_iff.1 HN.out).1).trans HN.out)
      have HX := Lib.hid (HX.out.trans hx)
      clear hx t0 t1 t2 b0 b1 n0 n1 n2
      obtain ⟨⟨d0, d1, d2⟩, f0, f1, f2⟩ := three_cells HZ.out
      go_wp2_with fail
      refine bodyPost_ret (v := .tuple #[.agg #[.int .i64 0, .int .i64 0, .int .i64 0], .int .i64 2]) ?_ rfl ?_
      · simp [results, Tryz.results32, go_sem, d0, d1, d2]
      · exact ⟨rfl, three_ext HX.out (by omega) _ _ _⟩
  · have H1 := Lib.hid (show mayU a b c = false by simpa using h1)
    clear h1
    obtain ⟨⟨t0, t1, t2⟩, _⟩ := three_cells HT.out
    obtain ⟨b0, b1⟩ := two_cells HB.out
    obtain ⟨⟨n0, n1, n2⟩, _⟩ := three_cells HN.out
    go_enter Tryz.func32, Tryz.ntmps32
    go_wp2_with fail
    refine (mayU_any a b c _).mono ?_
    rw [H1.out]
    rintro e w1 ⟨rfl, hx⟩
    have HT := Lib.hid ((hx.block _ (Array.getElem?_eq_some_iff.1 HT.out).1).trans HT.out)
    have HB := Lib.hid ((hx.block _ (Array.getElem?_eq_some_iff.1 HB.out).1).trans HB.out)
    have HZ := Lib.hid ((hx.block _ (Array.getElem?_eq_some_iff.1 HZ.out).1).trans HZ.out)
    have HN := Lib.hid ((hx.block _ (Array.getElem?_eq_some_iff.1 HN.out).1).trans HN.out)
    have HX := Lib.hid (HX.out.trans hx)
    clear hx t0 t1 t2 b0 b1 n0 n1 n2
    obtain ⟨⟨d0, d1, d2⟩, f0, f1, f2⟩ := three_cells HZ.out
    go_wp2_with fail
    refine bodyPost_ret (v := .tuple #[.agg #[.int .i64 0, .int .i64 0, .int .i64 0], .int .i64 2]) ?_ rfl ?_
    · simp [results, Tryz.results32, go_sem, d0, d1, d2]
    · exact ⟨rfl, three_ext HX.out (by omega) _ _ _⟩
theorem puts2_more (m : DM) (r g p : Int) (i c : Nat) (b : List Nat) : (m.puts2 r g p i c b).2.waits.length ≤ m.waits.length + 2 ∧ (m.puts2 r g p i c b).2.size = m.size := by
  unfold DM.puts2
  have h1 := rputC_waits m (firstS g p) (sealC r g p i c b)
  have s1 := putC_size m (firstS g p) (sealC r g p i c b)
  split
  · exact ⟨by omega, s1⟩
  · have h2 := rputC_waits (m.putC (firstS g p) (sealC r g p i c b)).2 (firstS g (otherP p)) (sealC r g (otherP p) i c b)
    have s2 := putC_size (m.putC (firstS g p) (sealC r g p i c b)).2 (firstS g (otherP p)) (sealC r g (otherP p) i c b)
    exact ⟨by omega, s2.trans s1⟩
theorem store8_more (m : DM) (r g c : Int) (b : List Nat) : (m.store r g c b).2.waits.length ≤ m.waits.length + 2 ∧ (m.store r g c b).2.size = m.size := by
  unfold DM.store
  split
  · exact ⟨Nat.le_add_right _ _, rfl⟩
  · exact puts2_more _ _ _ _ _ _ _

def DM.beginK (m : DM) (r : Int) : UO := if knownC m.size r 1 = 0 then m.beginU r else ⟨2, 0, 0, 0, m⟩
def DM.promK (m : DM) (r a b c x y : Int) : UO := if knownC m.size r 1 = 0 then m.promU r a b c x y else ⟨2, 0, 0, 0, m⟩
section
variable {w : World} {d : Nat} {F : Nat → Prop} {p : Nat → Nat} {m : DM}
theorem Begin_anyK (h : PDisk w d F m) (hL : LaidF w) (hLM : ∀ V, Mod F w V → LaidF V) (hs : m.size = 156) (r : Int) (hfew : m.waits.length + 3 ≤ 1000000) :
    Calls Tryz.prog 30 #[.pointer (some ⟨d, 0, none⟩), .int .i64 r] w fun e w' => e = .returned (.tuple #[.agg #[.int .i64 (m.beginK r).a, .int .i64 (m.beginK r).b, .int .i64 (m.beginK r).c], .int .i64 (m.beginK r).e]) ∧ Step d F w (m.beginK r).m w' := by
  unfold DM.beginK
  by_cases hk : knownC m.size r 1 = 0
  · rw [if_pos hk]
    exact beginU_of h hL hLM r hk hfew
  · rw [if_neg hk]
    exact (beginU_no h hL hs r hk).mono fun e w' ⟨h1, h2⟩ => ⟨h1, Step.of_ext h h2⟩
theorem Promise_anyK (h : PDisk w d F m) (hL : LaidF w) (hLM : ∀ V, Mod F w V → LaidF V) (hs : m.size = 156) (r a b c x y : Int) (hfew : m.waits.length + 2 ≤ 1000000) :
    Calls Tryz.prog 32 #[.pointer (some ⟨d, 0, none⟩), .int .i64 r, .agg #[.int .i64 a, .int .i64 b, .int .i64 c], .agg #[.int .i64 x, .int .i64 y]] w fun e w' => e = .returned (.tuple #[.agg #[.int .i64 (m.promK r a b c x y).a, .int .i64 (m.promK r a b c x y).b, .int .i64 (m.promK r a b c x y).c], .int .i64 (m.promK r a b c x y).e]) ∧ Step d F w (m.promK r a b c x y).m w' := by
  unfold DM.promK
  by_cases hk : knownC m.size r 1 = 0
  · rw [if_pos hk]
    exact promU_of h hL hLM r a b c x y hk hfew
  · rw [if_neg hk]
    exact (promU_noK h hL hs r a b c x y hk).mono fun e w' ⟨h1, h2⟩ => ⟨h1, Step.of_ext h h2⟩
theorem rbegin_anyK (h : RD w d p m) (r : Int) (hfew : m.waits.length + 3 ≤ 1000000) :
    Calls Tryz.prog 31 #[.pointer (some ⟨d, 0, none⟩), .int .i64 r] w fun e w' => e = .returned (.tuple #[.agg #[.int .i64 (m.beginK r).a, .int .i64 (m.beginK r).b, .int .i64 (m.beginK r).c], .int .i64 (m.beginK r).e]) ∧ ROut d p w (m.beginK r).m w' := by
  unfold DM.beginK
  by_cases hk : knownC m.size r 1 = 0
  · rw [if_pos hk]
    exact rbeginU_of h r hk hfew
  · rw [if_neg hk]
    exact (rbeginU_no h r hk).mono fun e w' ⟨h1, h2⟩ => ⟨h1, rout_refl h h2⟩
theorem rprom_anyK (h : RD w d p m) (r a b c x y : Int) (hfew : m.waits.length + 2 ≤ 1000000) :
    Calls Tryz.prog 33 #[.pointer (some ⟨d, 0, none⟩), .int .i64 r, .agg #[.int .i64 a, .int .i64 b, .int .i64 c], .agg #[.int .i64 x, .int .i64 y]] w fun e w' => e = .returned (.tuple #[.agg #[.int .i64 (m.promK r a b c x y).a, .int .i64 (m.promK r a b c x y).b, .int .i64 (m.promK r a b c x y).c], .int .i64 (m.promK r a b c x y).e]) ∧ ROut d p w (m.promK r a b c x y).m w' := by
  unfold DM.promK
  by_cases hk : knownC m.size r 1 = 0
  · rw [if_pos hk]
    exact rpromU_of h r a b c x y hk hfew
  · rw [if_neg hk]
    exact (rpromU_no h r a b c x y hk).mono fun e w' ⟨h1, h2⟩ => ⟨h1, rout_refl h h2⟩
theorem storeU_more (m : DM) (r a b c : Int) : (m.storeU r a b c).m.waits.length ≤ m.waits.length + 2 ∧ (m.storeU r a b c).m.size = m.size := by
  have h := store8_more m r 1 c (uL a b c)
  unfold DM.storeU
  split
  · exact h
  · exact h
theorem beginK_more (m : DM) (r : Int) : (m.beginK r).m.waits.length ≤ m.waits.length + 3 ∧ (m.beginK r).m.size = m.size := by
  unfold DM.beginK DM.beginU
  (repeat' split)
  · exact ⟨Nat.le_add_right _ _, rfl⟩
  · exact ⟨Nat.le_add_right _ _, rfl⟩
  · exact ⟨Nat.le_trans (heal_waits m r 1) (by omega), heal_size m r 1⟩
  · have h1 := storeU_more (m.heal r 1).2 r (m.ldF r 0) (m.ldF r 1) (1 + (m.ldF r 2 : Int))
    have h2 := heal_waits m r 1
    exact ⟨by omega, h1.2.trans (heal_size m r 1)⟩
  · exact ⟨Nat.le_add_right _ _, rfl⟩
theorem promK_more (m : DM) (r a b c x y : Int) : (m.promK r a b c x y).m.waits.length ≤ m.waits.length + 3 ∧ (m.promK r a b c x y).m.size = m.size := by
  unfold DM.promK DM.promU
  (repeat' split)
  · have h1 := storeU_more m r x y c
    exact ⟨by omega, h1.2⟩
  · exact ⟨Nat.le_add_right _ _, rfl⟩
  · exact ⟨Nat.le_add_right _ _, rfl⟩
end
end Go.Proofs.YtlikhmhomkiadaaGreatDoor

namespace Go.Proofs.YtlikhmhomkiadaaGreatDoor
open Go Go.RowKit

theorem do5_step {w0 w : World} {d : Nat} {F : Nat → Prop} {m m2 : DM} (h : DK w0 w d F m) (a : Act5) (ha : a.Ok w0 w0.heap.size) (hn : a.bn ≤ 200) (hfew : m.waits.length ≤ 1000) {E : Int} (hact : m.act a.kind a.sec a.num a.bl a.kl = (E, m2)) :
    Calls Tryz.prog 38 #[.pointer (some ⟨d, 0, none⟩), .agg #[.int .u8 (a.kind : Int), .int .i64 a.sec, .int .i64 a.num, .slice a.bA a.bn a.bc, .slice a.kA a.kn a.kc]] w fun e w' => e = .returned (.int .i64 E) ∧ Step d F w m2 w' := by
  have hd := do_of h.disk a ((ha.below h.bel).more h.bel.size) (h.vs ha.keep) (by omega) (by omega)
  unfold actV at hd
  rw [hact] at hd
  exact hd.mono fun e w' ⟨h1, h2, h3⟩ => ⟨h1, h2, h3⟩
set_option maxRecDepth 100000 in
set_option maxHeartbeats 1600000 in
theorem do6_step_no {w0 w : World} {d : Nat} {F : Nat → Prop} {m : DM} (h : DK w0 w d F m) (x : Act6) (hx : x.Ok w0 w0.heap.size) (hs : x.sl = false) (hn : x.act.bn ≤ 200) (hfew : m.waits.length ≤ 1000) :
    Calls Tryz.prog 9 #[.pointer (some ⟨d, 0, none⟩), .agg #[.bool x.sl, .int .i64 x.ta, .int .i64 x.tb, .int .i64 x.tc, .int .i64 x.td, .int .i64 x.te, .slice x.bA x.bn x.bc, .int .u8 (x.act.kind : Int), .int .i64 x.act.sec, .int .i64 x.act.num, .slice x.act.bA x.act.bn x.act.bc, .slice x.act.kA x.act.kn x.act.kc]] w fun e w' => (∃ v, e = .returned v) ∧ Step d F w (m.act6 x) w' := by
  have hE := (Ext.refl w).alloc (box6 x)
  have hB := heap_alloc_new w (box6 x)
  obtain ⟨E, mz, hq⟩ : ∃ E mz, m.act x.act.kind x.act.sec x.act.num x.act.bl x.act.kl = (E, mz) := ⟨(m.act x.act.kind x.act.sec x.act.num x.act.bl x.act.kl).1, (m.act x.act.kind x.act.sec x.act.num x.act.bl x.act.kl).2, rfl⟩
  have hd := do5_step (h.ext hE) x.act hx.act hn hfew hq
  have HACT : Hid (m.act6 x = mz) := Lib.hid (by unfold DM.act6; rw [if_neg (by rw [hs]; simp), hq])
  obtain ⟨c0, _, _, _, _, _, _, c7, c8, c9, c10, c11⟩ := box6_cells hB
  rw [hs] at c0 ⊢
  have hBX : box6 x = .cells #[.bool false, .int .i64 x.ta, .int .i64 x.tb, .int .i64 x.tc, .int .i64 x.td, .int .i64 x.te, .slice x.bA x.bn x.bc, .int .u8 (x.act.kind : Int), .int .i64 x.act.sec, .int .i64 x.act.num, .slice x.act.bA x.act.bn x.act.bc, .slice x.act.kA x.act.kn x.act.kc] 39 := by unfold box6; rw [hs]
  rw [hBX] at c0 c7 c8 c9 c10 c11 hd hE
  have HD := Lib.hid hd
  have HE := Lib.hid hE
  clear hq
  clear h hx hd hE hB hBX
  go_enter Tryz.func9, Tryz.ntmps9
  go_wp2_with fail
  refine HD.out.mono ?_
  rintro e w1 ⟨rfl, hk⟩
  have HK := Lib.hid (Step.pre HE.out hk)
  clear hk
  go_wp2_with fail
  refine bodyPost_ret (results_none rfl _ _ _) rfl ?_
  exact ⟨⟨_, rfl⟩, by rw [HACT.out]; exact HK.out⟩
theorem do6_any {w0 w : World} {d : Nat} {F : Nat → Prop} {m : DM} (h : DK w0 w d F m) (hL : LaidT w0) (x : Act6) (hx : x.Ok w0 w0.heap.size) (hn : x.act.bn ≤ 200) (hfew : m.waits.length ≤ 1000) :
    Calls Tryz.prog 9 #[.pointer (some ⟨d, 0, none⟩), .agg #[.bool x.sl, .int .i64 x.ta, .int .i64 x.tb, .int .i64 x.tc, .int .i64 x.td, .int .i64 x.te, .slice x.bA x.bn x.bc, .int .u8 (x.act.kind : Int), .int .i64 x.act.sec, .int .i64 x.act.num, .slice x.act.bA x.act.bn x.act.bc, .slice x.act.kA x.act.kn x.act.kc]] w fun e w' => (∃ v, e = .returned v) ∧ Step d F w (m.act6 x) w' := by
  by_cases hs : x.sl = true
  · exact do6_step h hL x hx hs hfew
  · exact do6_step_no h x hx (by simpa using hs) hn hfew
end Go.Proofs.YtlikhmhomkiadaaGreatDoor

namespace Go.Proofs.YtlikhmhomkiadaaGreatDoor
open Go Go.RowKit

/-- The block g holds o, and is none of F. -/
structure Keep (w : World) (F : Nat → Prop) (g : Nat) (o : Obj) : Prop where
  row : w.heap[g]? = some o
  off : ¬ F g
section
variable {w w' : World} {F : Nat → Prop} {g d : Nat} {o : Obj} {m : DM}
theorem Keep.lt (h : Keep w F g o) : g < w.heap.size := (Array.getElem?_eq_some_iff.1 h.row).1
theorem Keep.new (h : PDisk w d F m) (o : Obj) : Keep (w.alloc o) F w.heap.size o := ⟨heap_alloc_new w o, fun hf => Nat.lt_irrefl _ (h.lt _ hf)⟩
theorem Keep.ext (h : Keep w F g o) (k : Ext w w') : Keep w' F g o := ⟨(k.block g h.lt).trans h.row, h.off⟩
theorem Keep.step (h : Keep w F g o) (k : Mod F w w') : Keep w' (grow F w w') g o := ⟨heap_mod h.row k h.off, fun hf => hf.elim h.off fun h2 => absurd h2.1 (Nat.not_le.2 h.lt)⟩
theorem Keep.mod {G : Nat → Prop} (h : Keep w F g o) (k : Mod G w w') (hg : ¬ G g) : Keep w' F g o := ⟨heap_mod h.row k hg, h.off⟩
end
end Go.Proofs.YtlikhmhomkiadaaGreatDoor

namespace Go.Proofs.YtlikhmhomkiadaaGreatDoor
open Go Go.RowKit

theorem same5_out {w0 w : World} {d : Nat} {p : Nat → Nat} {m m2 : DM} (h : RD w d p m) (hbel : Ext w0 w) (hlow : ∀ i, p i ≠ 0 → w0.heap.size ≤ i) (a : Act5) (ha : a.Ok w0 w0.heap.size) (hn : a.bn ≤ 200) (hfew : m.waits.length ≤ 1000) {E : Int} (hact : m.act a.kind a.sec a.num a.bl a.kl = (E, m2)) :
    Calls Tryz.prog 43 #[.pointer (some ⟨d, 0, none⟩), .agg #[.int .u8 (a.kind : Int), .int .i64 a.sec, .int .i64 a.num, .slice a.bA a.bn a.bc, .slice a.kA a.kn a.kc]] w fun e w' => e = .returned (.int .i64 E) ∧ ROut d p w m2 w' := by
  have hk : 0 < a.kn → Off (fun i => p i ≠ 0) a.kA := fun hn q hq hf => by
    obtain ⟨g, o, e, hg, _⟩ := ha.keep.rd hn
    rw [e] at hq
    injection hq with hq
    subst hq
    have h1 := hlow _ hf
    have hg' : g < w0.heap.size := hg
    have h2 : w0.heap.size ≤ g := h1
    omega
  have hd := rsame_of h a ((ha.below hbel).more hbel.size) hk hn (by omega)
  rw [hact] at hd
  exact hd
set_option maxRecDepth 100000 in
set_option maxHeartbeats 1600000 in
theorem same6_out_no {w0 w : World} {d : Nat} {p : Nat → Nat} {m : DM} (h : RD w d p m) (hbel : Ext w0 w) (hlow : ∀ i, p i ≠ 0 → w0.heap.size ≤ i) (x : Act6) (hx : x.Ok w0 w0.heap.size) (hs : x.sl = false) (hn : x.act.bn ≤ 200) (hfew : m.waits.length ≤ 1000) :
    Calls Tryz.prog 10 #[.pointer (some ⟨d, 0, none⟩), .agg #[.bool x.sl, .int .i64 x.ta, .int .i64 x.tb, .int .i64 x.tc, .int .i64 x.td, .int .i64 x.te, .slice x.bA x.bn x.bc, .int .u8 (x.act.kind : Int), .int .i64 x.act.sec, .int .i64 x.act.num, .slice x.act.bA x.act.bn x.act.bc, .slice x.act.kA x.act.kn x.act.kc]] w fun e w' => (∃ v, e = .returned v) ∧ ROut d p w (m.act6 x) w' := by
  have hE := (Ext.refl w).alloc (box6 x)
  have hB := heap_alloc_new w (box6 x)
  obtain ⟨E, mz, hq⟩ : ∃ E mz, m.act x.act.kind x.act.sec x.act.num x.act.bl x.act.kl = (E, mz) := ⟨(m.act x.act.kind x.act.sec x.act.num x.act.bl x.act.kl).1, (m.act x.act.kind x.act.sec x.act.num x.act.bl x.act.kl).2, rfl⟩
  have hd := same5_out (h.ext hE) (hbel.trans hE) hlow x.act hx.act hn hfew hq
  have HACT : Hid (m.act6 x = mz) := Lib.hid (by unfold DM.act6; rw [if_neg (by rw [hs]; simp), hq])
  obtain ⟨c0, _, _, _, _, _, _, c7, c8, c9, c10, c11⟩ := box6_cells hB
  rw [hs] at c0 ⊢
  have hBX : box6 x = .cells #[.bool false, .int .i64 x.ta, .int .i64 x.tb, .int .i64 x.tc, .int .i64 x.td, .int .i64 x.te, .slice x.bA x.bn x.bc, .int .u8 (x.act.kind : Int), .int .i64 x.act.sec, .int .i64 x.act.num, .slice x.act.bA x.act.bn x.act.bc, .slice x.act.kA x.act.kn x.act.kc] 39 := by unfold box6; rw [hs]
  rw [hBX] at c0 c7 c8 c9 c10 c11 hd hE
  have HD := Lib.hid hd
  have HE := Lib.hid hE
  clear hq
  clear h hx hd hE hB hBX hbel hlow
  go_enter Tryz.func10, Tryz.ntmps10
  go_wp2_with fail
  refine HD.out.mono ?_
  rintro e w1 ⟨rfl, hk⟩
  have HK := Lib.hid (hk.from HE.out)
  clear hk
  go_wp2_with fail
  refine bodyPost_ret (results_none rfl _ _ _) rfl ?_
  exact ⟨⟨_, rfl⟩, by rw [HACT.out]; exact HK.out⟩
theorem same6_any {w0 w : World} {d : Nat} {p : Nat → Nat} {m : DM} (h : RD w d p m) (hbel : Ext w0 w) (hlow : ∀ i, p i ≠ 0 → w0.heap.size ≤ i) (hL : LaidT w0) (x : Act6) (hx : x.Ok w0 w0.heap.size) (hn : x.act.bn ≤ 200) (hfew : m.waits.length ≤ 1000) :
    Calls Tryz.prog 10 #[.pointer (some ⟨d, 0, none⟩), .agg #[.bool x.sl, .int .i64 x.ta, .int .i64 x.tb, .int .i64 x.tc, .int .i64 x.td, .int .i64 x.te, .slice x.bA x.bn x.bc, .int .u8 (x.act.kind : Int), .int .i64 x.act.sec, .int .i64 x.act.num, .slice x.act.bA x.act.bn x.act.bc, .slice x.act.kA x.act.kn x.act.kc]] w fun e w' => (∃ v, e = .returned v) ∧ ROut d p w (m.act6 x) w' := by
  by_cases hs : x.sl = true
  · exact same6_yes h hbel hlow hL x hx hs hfew
  · exact same6_out_no h hbel hlow x hx (by simpa using hs) hn hfew

/-- A block of the call's own beside both disks. -/
structure Kp (w : World) (F : Nat → Prop) (p : Nat → Nat) (g : Nat) (o : Obj) : Prop where
  row : w.heap[g]? = some o
  off : ¬ F g
  pz : p g = 0
section
variable {w0 w w' : World} {F : Nat → Prop} {p : Nat → Nat} {g d r : Nat} {o : Obj} {m m' m2 : DM}
theorem Kp.lt (h : Kp w F p g o) : g < w.heap.size := (Array.getElem?_eq_some_iff.1 h.row).1
theorem Kp.ext (h : Kp w F p g o) (k : Ext w w') : Kp w' F p g o := ⟨(k.block g h.lt).trans h.row, h.off, h.pz⟩
theorem Kp.new (h : Both w0 w d r F p m m') (o : Obj) : Kp (w.alloc o) F p w.heap.size o := ⟨heap_alloc_new w o, fun hf => Nat.lt_irrefl _ (h.dk.disk.lt _ hf), by
  by_cases hp : p w.heap.size = 0
  · exact hp
  · exact absurd (h.rd.2 _ hp) (Nat.lt_irrefl _)⟩
theorem Kp.step (h : Kp w F p g o) (k : Mod F w w') : Kp w' (grow F w w') p g o := ⟨heap_mod h.row k h.off, fun hf => hf.elim h.off fun h2 => absurd h2.1 (Nat.not_le.2 h.lt), h.pz⟩
theorem Kp.mod {G : Nat → Prop} (h : Kp w F p g o) (k : Mod G w w') (hg : ¬ G g) : Kp w' F p g o := ⟨heap_mod h.row k hg, h.off, h.pz⟩
/-- Behind a call at the document's disk. -/
theorem both_out (h : Both w0 w d r F p m m') (k : ROut r p w m2 w') : ∃ p', Both w0 w' d r F p' m m2 ∧ ∀ g o, Kp w F p g o → Kp w' F p' g o := by
  obtain ⟨p', h1, h2, h3⟩ := k
  refine ⟨p', ⟨h.dk.mod h2 (fun i hf hp => h.apart i hp hf) h.low, h1, fun i hi => (h3 i hi).elim (h.low i) fun h5 => Nat.le_trans h.dk.bel.size h5, fun i hi hf => (h3 i hi).elim (fun h5 => h.apart i h5 hf) fun h5 => ?_⟩, fun g o hk => ⟨heap_mod hk.row h2 (by simp [hk.pz]), hk.off, ?_⟩⟩
  · have := h.dk.disk.lt i hf
    omega
  · by_cases hp : p' g = 0
    · exact hp
    · rcases h3 g hp with h4 | h4
      · exact absurd hk.pz h4
      · exact absurd hk.lt (Nat.not_lt.2 h4)
/-- Stores into blocks of the call's own. -/
theorem Both.own {G : Nat → Prop} (h : Both w0 w d r F p m m') (k : Mod G w w') (hF : ∀ i, F i → ¬ G i) (hp : ∀ i, p i ≠ 0 → ¬ G i) (hl : ∀ i, G i → w0.heap.size ≤ i) : Both w0 w' d r F p m m' :=
  ⟨h.dk.mod k hF hl, h.rd.mod k hp, h.low, h.apart⟩
end
end Go.Proofs.YtlikhmhomkiadaaGreatDoor

namespace Go.Proofs.YtlikhmhomkiadaaGreatDoor
open Go Go.RowKit

theorem acts6_one (w : World) (a : Act6) (h : a.Ok w w.heap.size) : Acts6 (w.alloc (.cells #[.bool a.sl, .int .i64 a.ta, .int .i64 a.tb, .int .i64 a.tc, .int .i64 a.td, .int .i64 a.te, .slice a.bA a.bn a.bc, .int .u8 (a.act.kind : Int), .int .i64 a.act.sec, .int .i64 a.act.num, .slice a.act.bA a.act.bn a.act.bc, .slice a.act.kA a.act.kn a.act.kc] 39)) (w.alloc (.cells #[.bool a.sl, .int .i64 a.ta, .int .i64 a.tb, .int .i64 a.tc, .int .i64 a.td, .int .i64 a.te, .slice a.bA a.bn a.bc, .int .u8 (a.act.kind : Int), .int .i64 a.act.sec, .int .i64 a.act.num, .slice a.act.bA a.act.bn a.act.bc, .slice a.act.kA a.act.kn a.act.kc] 39)).heap.size (some ⟨w.heap.size, 0, none⟩) 1 1 [a] := by
  refine ⟨rfl, Nat.le_refl _, by omega, fun b hb => ?_, fun _ => ⟨w.heap.size, 0, rfl, by simp, fun j b hb k v hv => ?_⟩, fun h => by cases h⟩
  · obtain rfl := List.mem_singleton.1 hb
    exact (h.below ((Ext.refl w).alloc _)).more ((Ext.refl w).alloc _).size
  · match j, hb with
    | 0, hb =>
      injection hb with hb
      subst hb
      rw [World.cell?_alloc_new]
      rw [show 0 + (0 * 12 + k) = k by omega]
      exact (List.getElem?_toArray ..).trans hv

end Go.Proofs.YtlikhmhomkiadaaGreatDoor

namespace Go.Proofs.YtlikhmhomkiadaaGreatDoor
open Go Go.RowKit

/-- What Great answers. -/
def Great8E (n : Nat) (l : List Act8) (w : World) (e : Ending) (w' : World) : Prop := ∃ b : Bool, e = .returned (.bool b) ∧ Ext w w' ∧ (b = false → n ≤ 40 ∧ ∀ a ∈ l, a.o.bn ≤ 100 ∧ a.o.act.bn ≤ 200 ∧ a.o.act.kn ≤ 100)
set_option maxRecDepth 100000 in
set_option maxHeartbeats 1600000 in
theorem greatA8_of {w : World} (A : Option Addr) (n c : Nat) (l : List Act8) (h : Ls Act8.cells 15 w w.heap.size A n c l) (ho : ∀ a ∈ l, a.Ok w w.heap.size) :
    Calls Tryz.prog 29 #[.slice A n c] w (Great8E n l w) := by
  have HA := Lib.hid h
  have HO := Lib.hid ho
  have hcap := h.cap
  have hmost := h.most
  have hn := Nat.zero_le n
  clear h ho
  go_enter Tryz.func29, Tryz.ntmps29
  by_cases hn40 : 40 < n
  · go_wp2_with fail
    go_ret
    exact ⟨true, rfl, Ext.refl _, fun h => by cases h⟩
  go_wp2_with fail
  go_loopw [3] (fun i wr => ∃ k : Nat, k ≤ n ∧ i = .int .i64 k ∧ Hid (Ext w wr) ∧ Hid (∀ a ∈ l.take k, a.o.bn ≤ 100 ∧ a.o.act.bn ≤ 200 ∧ a.o.act.kn ≤ 100)) (fun i _ => n - (intOf i).toNat)
  case atStart => exact ⟨0, Nat.zero_le _, rfl, Lib.hid (Ext.refl _), Lib.hid fun a ha => by simp at ha⟩
  case round =>
    obtain ⟨k, hkn, rfl, HX, HT⟩ := hrel
    by_cases hlt : k < n
    · obtain ⟨g, o, a, rfl, hg, ha, hc⟩ := HA.out.at_ hlt
      have HAL := Lib.hid ha
      have HOK := Lib.hid (((HO.out a (List.mem_of_getElem? ha)).o.below HX.out).more HX.out.size)
      have c0 : wr.cell? ⟨g, o + k * 15, none⟩ = some (.int .u8 (a.k : Int)) := (Below.cell HX.out (p := ⟨g, o + k * 15, none⟩) hg).trans (hc 0 _ rfl)
      have c1 : wr.cell? ⟨g, o + k * 15 + 1, none⟩ = some (.int .i64 a.x) := (Below.cell HX.out (p := ⟨g, o + k * 15 + 1, none⟩) hg).trans (hc 1 _ rfl)
      have c2 : wr.cell? ⟨g, o + k * 15 + 2, none⟩ = some (.int .i64 a.y) := (Below.cell HX.out (p := ⟨g, o + k * 15 + 2, none⟩) hg).trans (hc 2 _ rfl)
      have c3 : wr.cell? ⟨g, o + k * 15 + 3, none⟩ = some (.bool a.o.sl) := (Below.cell HX.out (p := ⟨g, o + k * 15 + 3, none⟩) hg).trans (hc 3 _ rfl)
      have c4 : wr.cell? ⟨g, o + k * 15 + 4, none⟩ = some (.int .i64 a.o.ta) := (Below.cell HX.out (p := ⟨g, o + k * 15 + 4, none⟩) hg).trans (hc 4 _ rfl)
      have c5 : wr.cell? ⟨g, o + k * 15 + 5, none⟩ = some (.int .i64 a.o.tb) := (Below.cell HX.out (p := ⟨g, o + k * 15 + 5, none⟩) hg).trans (hc 5 _ rfl)
      have c6 : wr.cell? ⟨g, o + k * 15 + 6, none⟩ = some (.int .i64 a.o.tc) := (Below.cell HX.out (p := ⟨g, o + k * 15 + 6, none⟩) hg).trans (hc 6 _ rfl)
      have c7 : wr.cell? ⟨g, o + k * 15 + 7, none⟩ = some (.int .i64 a.o.td) := (Below.cell HX.out (p := ⟨g, o + k * 15 + 7, none⟩) hg).trans (hc 7 _ rfl)
      have c8 : wr.cell? ⟨g, o + k * 15 + 8, none⟩ = some (.int .i64 a.o.te) := (Below.cell HX.out (p := ⟨g, o + k * 15 + 8, none⟩) hg).trans (hc 8 _ rfl)
      have c9 : wr.cell? ⟨g, o + k * 15 + 9, none⟩ = some (.slice a.o.bA a.o.bn a.o.bc) := (Below.cell HX.out (p := ⟨g, o + k * 15 + 9, none⟩) hg).trans (hc 9 _ rfl)
      have c10 : wr.cell? ⟨g, o + k * 15 + 10, none⟩ = some (.int .u8 (a.o.act.kind : Int)) := (Below.cell HX.out (p := ⟨g, o + k * 15 + 10, none⟩) hg).trans (hc 10 _ rfl)
      have c11 : wr.cell? ⟨g, o + k * 15 + 11, none⟩ = some (.int .i64 a.o.act.sec) := (Below.cell HX.out (p := ⟨g, o + k * 15 + 11, none⟩) hg).trans (hc 11 _ rfl)
      have c12 : wr.cell? ⟨g, o + k * 15 + 12, none⟩ = some (.int .i64 a.o.act.num) := (Below.cell HX.out (p := ⟨g, o + k * 15 + 12, none⟩) hg).trans (hc 12 _ rfl)
      have c13 : wr.cell? ⟨g, o + k * 15 + 13, none⟩ = some (.slice a.o.act.bA a.o.act.bn a.o.act.bc) := (Below.cell HX.out (p := ⟨g, o + k * 15 + 13, none⟩) hg).trans (hc 13 _ rfl)
      have c14 : wr.cell? ⟨g, o + k * 15 + 14, none⟩ = some (.slice a.o.act.kA a.o.act.kn a.o.act.kc) := (Below.cell HX.out (p := ⟨g, o + k * 15 + 14, none⟩) hg).trans (hc 14 _ rfl)
      clear hc ha
      go_wp2_with fail
      refine (great6_of (Nat.le_refl _) _ 1 1 [a.o] (acts6_one wr a.o HOK.out)).mono ?_
      rintro e w2 ⟨b, rfl, hx, hgr⟩
      have HX2 := Lib.hid ((HX.out.alloc (.cells #[.bool a.o.sl, .int .i64 a.o.ta, .int .i64 a.o.tb, .int .i64 a.o.tc, .int .i64 a.o.td, .int .i64 a.o.te, .slice a.o.bA a.o.bn a.o.bc, .int .u8 (a.o.act.kind : Int), .int .i64 a.o.act.sec, .int .i64 a.o.act.num, .slice a.o.act.bA a.o.act.bn a.o.act.bc, .slice a.o.act.kA a.o.act.kn a.o.act.kc] 39)).trans hx)
      have HGR := Lib.hid hgr
      clear hgr hx c0 c1 c2 c3 c4 c5 c6 c7 c8 c9 c10 c11 c12 c13 c14
      cases b with
      | true =>
        go_wp2_with fail
        go_ret
        exact ⟨true, rfl, HX2.out, fun h => by cases h⟩
      | false =>
        go_wp2_with fail
        go_roundw
        case rel => exact ⟨k + 1, by omega, by go_num, HX2, Lib.hid fun b hb' => by
          rw [List.take_add_one, HAL.out] at hb'
          rcases List.mem_append.1 hb' with h | h
          · exact HT.out b h
          · simp only [Option.toList_some, List.mem_singleton] at h
            subst h
            have := (HGR.out (by trivial)).2 b.o (List.mem_singleton.2 rfl)
            exact this⟩
        case measure => simp [intOf]; omega
    · go_wp2_with fail
      go_ret
      refine ⟨false, rfl, HX.out, fun _ => ⟨by omega, fun a ha => HT.out a ?_⟩⟩
      rw [List.take_of_length_le (by have := HA.out.len; omega)]
      exact ha
end Go.Proofs.YtlikhmhomkiadaaGreatDoor
