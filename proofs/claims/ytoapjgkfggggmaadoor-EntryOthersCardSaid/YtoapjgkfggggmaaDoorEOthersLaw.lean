/-
  The walk of EntryOthers: an entry with a field that its kind hasn't, or a number or text beyond its bounds, may not be. (By program: geneoth.py.)
-/
import Derived.Test.YtoapjgkfggggmaaDoorEAwake
import Derived.Test.YtoapjgkfggggmaaDoorEOpen
namespace Go.Proofs.YtoapjgkfggggmaaDoor
open Go Go.RowKit Go.ChangeShapes Go.WideShapes

/-- Seventeen noughts. -/
def zrE : Obj := .cells (madeCells #[.int .u8 0] 17) 5
theorem mk_zeroE (w : World) : (Instr.makeSlice 29 (.int .i64 17) (.int .i64 17)).run Tryd.prog w = .ok (.slice (some ⟨w.heap.size, 0, none⟩) 17 17) (w.alloc zrE) := by
  obtain ⟨i0, hi, hz0, hz1, hz2⟩ := info_parts byte_info
  rw [run_make w 29 5 i0 (.int .u8 0) Tryd.underlying29 hi hz0 .i64 .i64 17 17 (by omega) (Int.le_refl _) (by rw [hz2]; omega) (by omega), hz1]
  rfl
theorem by_zrE (w : World) : By (w.alloc zrE) (some ⟨w.heap.size, 0, none⟩) 17 17 (List.replicate 17 0) := by
  refine By.of_row (heap_alloc_new w (.cells (madeCells #[.int .u8 0] 17) 5)) (fun j x hx => ?_) (by intro b hb; rw [(List.mem_replicate.1 hb).2]; omega) (by simp) (Nat.le_refl _) (by omega)
  have e : (madeCells #[Value.int .u8 0] 17).toList = List.replicate 17 (Value.int .u8 0) := toList_madeCells_one _ _
  rw [← Array.getElem?_toList, e]
  rw [List.getElem?_replicate] at hx ⊢
  split at hx
  · rename_i hj
    injection hx with hx
    subst hx
    rw [if_pos hj]
    rfl
  · cases hx
theorem bad_kind {e : Ent} (h : e.k = 1) (h2 : 1 ≤ e.sq) : enOk e = false := bad_of (by omega)
theorem bad_key0 {e : Ent} (h : e.k = 2) (h2 : e.key.size = 0) : enOk e = false := bad_of (by omega)
theorem bad_cl {e : Ent} (h : e.cl = 4) : enOk e = false := bad_of (by omega)
theorem bad_sq {e : Ent} (h : e.sq = 1099511627777) : enOk e = false := bad_of (by omega)
theorem bad_key {e : Ent} (h : 8 < e.key.size) : enOk e = false := bad_of (by omega)
theorem bad_val {e : Ent} (h : 16 < e.val.size) : enOk e = false := bad_of (by omega)
theorem bad_old {e : Ent} (h : 16 < e.old.size) : enOk e = false := bad_of (by omega)
theorem bad_ok {e : Ent} (h : e.ok = 5) : enOk e = false := bad_of (by omega)
theorem bad_get {e : Ent} (h : e.ok = 1) : enOk e = false := bad_of (by omega)
theorem bad_noop {e : Ent} (h : e.k = 1) (h2 : 0 < e.key.size) : enOk e = false := bad_of (by omega)
theorem laid_set {w : World} {g : Nat} (h : Laid w) (hg : 0 ≠ g) (i : Nat) (v : Value) : Laid (w.setCell ⟨g, i, none⟩ v) := laid_mod h (mod_set g i v) hg
theorem nine_ways (a : Int) (h : 0 ≤ a) : a.tmod 9 = 0 ∨ a.tmod 9 = 1 ∨ a.tmod 9 = 2 ∨ a.tmod 9 = 3 ∨ a.tmod 9 = 4 ∨ a.tmod 9 = 5 ∨ a.tmod 9 = 6 ∨ a.tmod 9 = 7 ∨ a.tmod 9 = 8 := by
  have h1 := Int.tmod_nonneg 9 h
  have h2 := Int.tmod_lt_of_pos a (show (0 : Int) < 9 by omega)
  omega
set_option maxRecDepth 100000 in
set_option maxHeartbeats 1000000 in
theorem entryOthers_law (e : Ent) (a : Int) (w : World) (hw : e.Wf) (ha : (Lit.int .u8 a).wf = true) (hL : Laid w) :
    Calls Tryd.prog 7 #[.agg #[.int .u8 (e.k : Nat), .int .i64 e.cl, .int .i64 e.sq, .int .u8 (e.ok : Nat), .string e.key, .string e.old, .string e.val], .int .u8 a] w fun r w' => r = .returned (.bool true) ∧ Below w.heap.size w w' := by
  show Calls Tryd.prog 7 #[.agg #[.int .u8 (e.k : Nat), .int .i64 e.cl, .int .i64 e.sq, .int .u8 (e.ok : Nat), .string e.key, .string e.old, .string e.val], .int .u8 a] w fun r w' => r = .returned (.bool true) ∧ Ext w w'
  obtain ⟨k, cl, sq, ok, key, old, val⟩ := e
  have hok : ok < 256 := hw.ok
  have hab := bounds_u8 ha
  have HW9 := Lib.hid (nine_ways a hab.1)
  clear hw ha
  dsimp only
  have hx := (Ext.refl w).alloc (.cells #[.int .u8 (k : Int), .int .i64 cl, .int .i64 sq, .int .u8 (ok : Int), .string key, .string old, .string val] 27)
  have HT := Lib.hid (heap_alloc_new w (.cells #[.int .u8 (k : Int), .int .i64 cl, .int .i64 sq, .int .u8 (ok : Int), .string key, .string old, .string val] 27))
  have HE := Lib.hid hx
  have HL := Lib.hid (hL.ext hx)
  clear hx hL
  cases hg : grE key old val with
  | true =>
    have HG := Lib.hid hg
    clear hg
    go_enter Tryd.func7, Tryd.ntmps7
    go_wp2_with fail
    refine (eawake_any _ HL.out).mono ?_
    rintro r w1 ⟨rfl, hx⟩
    have HT := Lib.hid (heap_ext HT.out hx)
    have HL := Lib.hid (HL.out.ext hx)
    have HE := Lib.hid (HE.out.trans hx)
    clear hx
    obtain ⟨i0, i1, i2, i3, i4, i5, i6⟩ := seven_cells HT.out
    go_wp2_with fail
    refine (great_any _ _ _ _ _ _ _ _).mono ?_
    rw [HG.out]
    rintro r w2 ⟨rfl, hx⟩
    have HT := Lib.hid (heap_ext HT.out hx)
    have HL := Lib.hid (HL.out.ext hx)
    have HE := Lib.hid (HE.out.trans hx)
    clear hx i0 i1 i2 i3 i4 i5 i6
    go_wp2_with fail
    go_ret
    exact ⟨rfl, HE.out⟩
  | false =>
    have HG := Lib.hid hg
    clear hg
    cases hk : enOk ⟨k, cl, sq, ok, key, old, val⟩ with
    | false =>
      have HK := Lib.hid hk
      clear hk
      go_enter Tryd.func7, Tryd.ntmps7
      go_wp2_with fail
      refine (eawake_any _ HL.out).mono ?_
      rintro r w1 ⟨rfl, hx⟩
      have HT := Lib.hid (heap_ext HT.out hx)
      have HL := Lib.hid (HL.out.ext hx)
      have HE := Lib.hid (HE.out.trans hx)
      clear hx
      obtain ⟨i0, i1, i2, i3, i4, i5, i6⟩ := seven_cells HT.out
      go_wp2_with fail
      refine (great_any _ _ _ _ _ _ _ _).mono ?_
      rw [HG.out]
      rintro r w2 ⟨rfl, hx⟩
      have HT := Lib.hid (heap_ext HT.out hx)
      have HL := Lib.hid (HL.out.ext hx)
      have HE := Lib.hid (HE.out.trans hx)
      clear hx i0 i1 i2 i3 i4 i5 i6
      obtain ⟨i0, i1, i2, i3, i4, i5, i6⟩ := seven_cells HT.out
      go_wp2_with fail
      refine (may_any _ _ _ _ _ _ _ _).mono ?_
      rw [HK.out]
      rintro r w3 ⟨rfl, hx⟩
      have HE := Lib.hid (HE.out.trans hx)
      clear hx
      go_wp2_with fail
      go_ret
      exact ⟨rfl, HE.out⟩
    | true =>
      have HK := Lib.hid hk
      have HKK := Lib.hid (good_of hk)
      clear hk
      go_enter Tryd.func7, Tryd.ntmps7
      go_wp2_with fail
      refine (eawake_any _ HL.out).mono ?_
      rintro r w1 ⟨rfl, hx⟩
      have HT := Lib.hid (heap_ext HT.out hx)
      have HL := Lib.hid (HL.out.ext hx)
      have HE := Lib.hid (HE.out.trans hx)
      clear hx
      obtain ⟨i0, i1, i2, i3, i4, i5, i6⟩ := seven_cells HT.out
      go_wp2_with fail
      refine (great_any _ _ _ _ _ _ _ _).mono ?_
      rw [HG.out]
      rintro r w2 ⟨rfl, hx⟩
      have HT := Lib.hid (heap_ext HT.out hx)
      have HL := Lib.hid (HL.out.ext hx)
      have HE := Lib.hid (HE.out.trans hx)
      clear hx i0 i1 i2 i3 i4 i5 i6
      obtain ⟨i0, i1, i2, i3, i4, i5, i6⟩ := seven_cells HT.out
      go_wp2_with fail
      refine (may_any _ _ _ _ _ _ _ _).mono ?_
      rw [HK.out]
      rintro r w3 ⟨rfl, hx⟩
      have HT := Lib.hid (heap_ext HT.out hx)
      have HL := Lib.hid (HL.out.ext hx)
      have HE := Lib.hid (HE.out.trans hx)
      clear hx i0 i1 i2 i3 i4 i5 i6
      obtain ⟨i0, i1, i2, i3, i4, i5, i6⟩ := seven_cells HT.out
      have hx := (Ext.refl w3).alloc (.cells #[.int .u8 (k : Int), .int .i64 cl, .int .i64 sq, .int .u8 (ok : Int), .string key, .string old, .string val] 27)
      have HX := Lib.hid (heap_alloc_new w3 (.cells #[.int .u8 (k : Int), .int .i64 cl, .int .i64 sq, .int .u8 (ok : Int), .string key, .string old, .string val] 27))
      have HT := Lib.hid (heap_ext HT.out hx)
      have HGL : Hid (0 ≠ w3.heap.size) := Lib.hid (Nat.ne_of_lt (World.block_lt_of_cell? w3 _ HL.out.1))
      have HGE : Hid (w.heap.size ≤ w3.heap.size) := Lib.hid HE.out.size
      have HL := Lib.hid (HL.out.ext hx)
      have HE := Lib.hid (HE.out.trans hx)
      clear hx
      go_upto_region 6 with (fail)
      generalize (w3.alloc (.cells #[.int .u8 (k : Int), .int .i64 cl, .int .i64 sq, .int .u8 (ok : Int), .string key, .string old, .string val] 27)) = w4 at *
      generalize w3.heap.size = g at *
      clear i0 i1 i2 i3 i4 i5 i6
      obtain ⟨t0, _⟩ := seven_cells HT.out
      go_upto_region 7 with (fail)
      clear t0
      have HX0 := Lib.hid HX.out
      have HE0 := Lib.hid HE.out
      have HL0 := Lib.hid HL.out
      clear HX HE HL HT
      rcases HKK.out with ⟨h1, hz⟩ | ⟨h1, hz1, hz2, h2, hz3⟩
      · try dsimp only at h1
        subst h1
        clear HKK HK hz
        obtain ⟨i0, i1, i2, i3, i4, i5, i6⟩ := seven_cells HX0.out
        obtain ⟨f0, f1, f2, f3, f4, f5, f6⟩ := seven_free HX0.out
        rcases HW9.out with hj | hj | hj | hj | hj | hj | hj | hj | hj
        · have hrow : (((((((w4.setCell ⟨g, 0, none⟩ (.int .u8 2)).setCell ⟨g, 1, none⟩ (.int .i64 0)).setCell ⟨g, 2, none⟩ (.int .i64 1)).setCell ⟨g, 3, none⟩ (.int .u8 2)).setCell ⟨g, 4, none⟩ (.string ⟨#[]⟩)).setCell ⟨g, 5, none⟩ (.string ⟨#[]⟩)).setCell ⟨g, 6, none⟩ (.string ⟨#[]⟩)).heap[g]? = some (.cells #[.int .u8 2, .int .i64 0, .int .i64 1, .int .u8 2, .string ⟨#[]⟩, .string ⟨#[]⟩, .string ⟨#[]⟩] 27 (0, 0)) := by
            have hs := HX0.out
            have hs : (w4.setCell ⟨g, 0, none⟩ (.int .u8 2)).heap[g]? = some (.cells #[.int .u8 2, .int .i64 cl, .int .i64 sq, .int .u8 (ok : Int), .string key, .string old, .string val] 27 (0, 0)) := rdr_set hs (.int .u8 2)
            have hs : ((w4.setCell ⟨g, 0, none⟩ (.int .u8 2)).setCell ⟨g, 1, none⟩ (.int .i64 0)).heap[g]? = some (.cells #[.int .u8 2, .int .i64 0, .int .i64 sq, .int .u8 (ok : Int), .string key, .string old, .string val] 27 (0, 0)) := rdr_set hs (.int .i64 0)
            have hs : (((w4.setCell ⟨g, 0, none⟩ (.int .u8 2)).setCell ⟨g, 1, none⟩ (.int .i64 0)).setCell ⟨g, 2, none⟩ (.int .i64 1)).heap[g]? = some (.cells #[.int .u8 2, .int .i64 0, .int .i64 1, .int .u8 (ok : Int), .string key, .string old, .string val] 27 (0, 0)) := rdr_set hs (.int .i64 1)
            have hs : ((((w4.setCell ⟨g, 0, none⟩ (.int .u8 2)).setCell ⟨g, 1, none⟩ (.int .i64 0)).setCell ⟨g, 2, none⟩ (.int .i64 1)).setCell ⟨g, 3, none⟩ (.int .u8 2)).heap[g]? = some (.cells #[.int .u8 2, .int .i64 0, .int .i64 1, .int .u8 2, .string key, .string old, .string val] 27 (0, 0)) := rdr_set hs (.int .u8 2)
            have hs : (((((w4.setCell ⟨g, 0, none⟩ (.int .u8 2)).setCell ⟨g, 1, none⟩ (.int .i64 0)).setCell ⟨g, 2, none⟩ (.int .i64 1)).setCell ⟨g, 3, none⟩ (.int .u8 2)).setCell ⟨g, 4, none⟩ (.string ⟨#[]⟩)).heap[g]? = some (.cells #[.int .u8 2, .int .i64 0, .int .i64 1, .int .u8 2, .string ⟨#[]⟩, .string old, .string val] 27 (0, 0)) := rdr_set hs (.string ⟨#[]⟩)
            have hs : ((((((w4.setCell ⟨g, 0, none⟩ (.int .u8 2)).setCell ⟨g, 1, none⟩ (.int .i64 0)).setCell ⟨g, 2, none⟩ (.int .i64 1)).setCell ⟨g, 3, none⟩ (.int .u8 2)).setCell ⟨g, 4, none⟩ (.string ⟨#[]⟩)).setCell ⟨g, 5, none⟩ (.string ⟨#[]⟩)).heap[g]? = some (.cells #[.int .u8 2, .int .i64 0, .int .i64 1, .int .u8 2, .string ⟨#[]⟩, .string ⟨#[]⟩, .string val] 27 (0, 0)) := rdr_set hs (.string ⟨#[]⟩)
            have hs : (((((((w4.setCell ⟨g, 0, none⟩ (.int .u8 2)).setCell ⟨g, 1, none⟩ (.int .i64 0)).setCell ⟨g, 2, none⟩ (.int .i64 1)).setCell ⟨g, 3, none⟩ (.int .u8 2)).setCell ⟨g, 4, none⟩ (.string ⟨#[]⟩)).setCell ⟨g, 5, none⟩ (.string ⟨#[]⟩)).setCell ⟨g, 6, none⟩ (.string ⟨#[]⟩)).heap[g]? = some (.cells #[.int .u8 2, .int .i64 0, .int .i64 1, .int .u8 2, .string ⟨#[]⟩, .string ⟨#[]⟩, .string ⟨#[]⟩] 27 (0, 0)) := rdr_set hs (.string ⟨#[]⟩)
            exact hs
          have HX := Lib.hid hrow
          have HE := Lib.hid (show Ext w (((((((w4.setCell ⟨g, 0, none⟩ (.int .u8 2)).setCell ⟨g, 1, none⟩ (.int .i64 0)).setCell ⟨g, 2, none⟩ (.int .i64 1)).setCell ⟨g, 3, none⟩ (.int .u8 2)).setCell ⟨g, 4, none⟩ (.string ⟨#[]⟩)).setCell ⟨g, 5, none⟩ (.string ⟨#[]⟩)).setCell ⟨g, 6, none⟩ (.string ⟨#[]⟩)) from Below.setCell (Below.setCell (Below.setCell (Below.setCell (Below.setCell (Below.setCell (Below.setCell HE0.out (p := ⟨g, 0, none⟩) HGE.out (.int .u8 2)) (p := ⟨g, 1, none⟩) HGE.out (.int .i64 0)) (p := ⟨g, 2, none⟩) HGE.out (.int .i64 1)) (p := ⟨g, 3, none⟩) HGE.out (.int .u8 2)) (p := ⟨g, 4, none⟩) HGE.out (.string ⟨#[]⟩)) (p := ⟨g, 5, none⟩) HGE.out (.string ⟨#[]⟩)) (p := ⟨g, 6, none⟩) HGE.out (.string ⟨#[]⟩))
          have HL := Lib.hid (laid_set (laid_set (laid_set (laid_set (laid_set (laid_set (laid_set HL0.out HGL.out 0 (.int .u8 2)) HGL.out 1 (.int .i64 0)) HGL.out 2 (.int .i64 1)) HGL.out 3 (.int .u8 2)) HGL.out 4 (.string ⟨#[]⟩)) HGL.out 5 (.string ⟨#[]⟩)) HGL.out 6 (.string ⟨#[]⟩))
          clear hrow
          go_upto_region 29 with (fail)
          generalize (((((((w4.setCell ⟨g, 0, none⟩ (.int .u8 2)).setCell ⟨g, 1, none⟩ (.int .i64 0)).setCell ⟨g, 2, none⟩ (.int .i64 1)).setCell ⟨g, 3, none⟩ (.int .u8 2)).setCell ⟨g, 4, none⟩ (.string ⟨#[]⟩)).setCell ⟨g, 5, none⟩ (.string ⟨#[]⟩)).setCell ⟨g, 6, none⟩ (.string ⟨#[]⟩)) = W at *
          clear i0 i1 i2 i3 i4 i5 i6 f0 f1 f2 f3 f4 f5 f6
          obtain ⟨j0, j1, j2, j3, j4, j5, j6⟩ := seven_cells HX.out
          have HBAD : Hid (enOk ⟨2, 0, 1, 2, ⟨#[]⟩, ⟨#[]⟩, ⟨#[]⟩⟩ = false) := Lib.hid (bad_key0 rfl rfl)
          go_wp2_with fail
          refine (bytes_any 2 0 1 2 ⟨#[]⟩ ⟨#[]⟩ ⟨#[]⟩ _ HL.out (by omega)).mono ?_
          rw [eL_no HBAD.out, eR_no HBAD.out]
          rintro r w5 ⟨A5, c5, rfl, _, hx⟩
          have HE := Lib.hid (HE.out.trans hx)
          have HX := Lib.hid (heap_ext HX.out hx)
          clear hx j0 j1 j2 j3 j4 j5 j6
          obtain ⟨j0, j1, j2, j3, j4, j5, j6⟩ := seven_cells HX.out
          go_wp2_with fail
          refine (may_any 2 0 1 2 ⟨#[]⟩ ⟨#[]⟩ ⟨#[]⟩ _).mono ?_
          rw [HBAD.out]
          rintro r w6 ⟨rfl, hx⟩
          have HE := Lib.hid (HE.out.trans hx)
          clear hx
          go_wp2_with fail
          go_ret
          exact ⟨rfl, HE.out⟩
        · have hrow : (w4.setCell ⟨g, 1, none⟩ (.int .i64 4)).heap[g]? = some (.cells #[.int .u8 1, .int .i64 4, .int .i64 sq, .int .u8 (ok : Int), .string key, .string old, .string val] 27 (0, 0)) := by
            have hs := HX0.out
            have hs : (w4.setCell ⟨g, 1, none⟩ (.int .i64 4)).heap[g]? = some (.cells #[.int .u8 1, .int .i64 4, .int .i64 sq, .int .u8 (ok : Int), .string key, .string old, .string val] 27 (0, 0)) := rdr_set hs (.int .i64 4)
            exact hs
          have HX := Lib.hid hrow
          have HE := Lib.hid (show Ext w (w4.setCell ⟨g, 1, none⟩ (.int .i64 4)) from Below.setCell HE0.out (p := ⟨g, 1, none⟩) HGE.out (.int .i64 4))
          have HL := Lib.hid (laid_set HL0.out HGL.out 1 (.int .i64 4))
          clear hrow
          go_upto_region 29 with (fail)
          generalize (w4.setCell ⟨g, 1, none⟩ (.int .i64 4)) = W at *
          clear i0 i1 i2 i3 i4 i5 i6 f0 f1 f2 f3 f4 f5 f6
          obtain ⟨j0, j1, j2, j3, j4, j5, j6⟩ := seven_cells HX.out
          have HBAD : Hid (enOk ⟨1, 4, sq, ok, key, old, val⟩ = false) := Lib.hid (bad_cl rfl)
          go_wp2_with fail
          refine (bytes_any 1 4 sq ok key old val _ HL.out (by omega)).mono ?_
          rw [eL_no HBAD.out, eR_no HBAD.out]
          rintro r w5 ⟨A5, c5, rfl, _, hx⟩
          have HE := Lib.hid (HE.out.trans hx)
          have HX := Lib.hid (heap_ext HX.out hx)
          clear hx j0 j1 j2 j3 j4 j5 j6
          obtain ⟨j0, j1, j2, j3, j4, j5, j6⟩ := seven_cells HX.out
          go_wp2_with fail
          refine (may_any 1 4 sq ok key old val _).mono ?_
          rw [HBAD.out]
          rintro r w6 ⟨rfl, hx⟩
          have HE := Lib.hid (HE.out.trans hx)
          clear hx
          go_wp2_with fail
          go_ret
          exact ⟨rfl, HE.out⟩
        · have hrow : (w4.setCell ⟨g, 2, none⟩ (.int .i64 1099511627777)).heap[g]? = some (.cells #[.int .u8 1, .int .i64 cl, .int .i64 1099511627777, .int .u8 (ok : Int), .string key, .string old, .string val] 27 (0, 0)) := by
            have hs := HX0.out
            have hs : (w4.setCell ⟨g, 2, none⟩ (.int .i64 1099511627777)).heap[g]? = some (.cells #[.int .u8 1, .int .i64 cl, .int .i64 1099511627777, .int .u8 (ok : Int), .string key, .string old, .string val] 27 (0, 0)) := rdr_set hs (.int .i64 1099511627777)
            exact hs
          have HX := Lib.hid hrow
          have HE := Lib.hid (show Ext w (w4.setCell ⟨g, 2, none⟩ (.int .i64 1099511627777)) from Below.setCell HE0.out (p := ⟨g, 2, none⟩) HGE.out (.int .i64 1099511627777))
          have HL := Lib.hid (laid_set HL0.out HGL.out 2 (.int .i64 1099511627777))
          clear hrow
          go_upto_region 29 with (fail)
          generalize (w4.setCell ⟨g, 2, none⟩ (.int .i64 1099511627777)) = W at *
          generalize hbig : (1099511627777 : Int) = big at *
          clear i0 i1 i2 i3 i4 i5 i6 f0 f1 f2 f3 f4 f5 f6
          obtain ⟨j0, j1, j2, j3, j4, j5, j6⟩ := seven_cells HX.out
          have HBAD : Hid (enOk ⟨1, cl, big, ok, key, old, val⟩ = false) := Lib.hid (bad_sq hbig.symm)
          go_wp2_with fail
          refine (bytes_any 1 cl big ok key old val _ HL.out (by omega)).mono ?_
          rw [eL_no HBAD.out, eR_no HBAD.out]
          rintro r w5 ⟨A5, c5, rfl, _, hx⟩
          have HE := Lib.hid (HE.out.trans hx)
          have HX := Lib.hid (heap_ext HX.out hx)
          clear hx j0 j1 j2 j3 j4 j5 j6
          obtain ⟨j0, j1, j2, j3, j4, j5, j6⟩ := seven_cells HX.out
          go_wp2_with fail
          refine (may_any 1 cl big ok key old val _).mono ?_
          rw [HBAD.out]
          rintro r w6 ⟨rfl, hx⟩
          have HE := Lib.hid (HE.out.trans hx)
          clear hx
          go_wp2_with fail
          go_ret
          exact ⟨rfl, HE.out⟩
        · have hrow : (w4.setCell ⟨g, 4, none⟩ (.string ⟨#[110, 105, 110, 101, 98, 121, 116, 101, 115]⟩)).heap[g]? = some (.cells #[.int .u8 1, .int .i64 cl, .int .i64 sq, .int .u8 (ok : Int), .string ⟨#[110, 105, 110, 101, 98, 121, 116, 101, 115]⟩, .string old, .string val] 27 (0, 0)) := by
            have hs := HX0.out
            have hs : (w4.setCell ⟨g, 4, none⟩ (.string ⟨#[110, 105, 110, 101, 98, 121, 116, 101, 115]⟩)).heap[g]? = some (.cells #[.int .u8 1, .int .i64 cl, .int .i64 sq, .int .u8 (ok : Int), .string ⟨#[110, 105, 110, 101, 98, 121, 116, 101, 115]⟩, .string old, .string val] 27 (0, 0)) := rdr_set hs (.string ⟨#[110, 105, 110, 101, 98, 121, 116, 101, 115]⟩)
            exact hs
          have HX := Lib.hid hrow
          have HE := Lib.hid (show Ext w (w4.setCell ⟨g, 4, none⟩ (.string ⟨#[110, 105, 110, 101, 98, 121, 116, 101, 115]⟩)) from Below.setCell HE0.out (p := ⟨g, 4, none⟩) HGE.out (.string ⟨#[110, 105, 110, 101, 98, 121, 116, 101, 115]⟩))
          have HL := Lib.hid (laid_set HL0.out HGL.out 4 (.string ⟨#[110, 105, 110, 101, 98, 121, 116, 101, 115]⟩))
          clear hrow
          go_upto_region 29 with (fail)
          generalize (w4.setCell ⟨g, 4, none⟩ (.string ⟨#[110, 105, 110, 101, 98, 121, 116, 101, 115]⟩)) = W at *
          clear i0 i1 i2 i3 i4 i5 i6 f0 f1 f2 f3 f4 f5 f6
          obtain ⟨j0, j1, j2, j3, j4, j5, j6⟩ := seven_cells HX.out
          have HBAD : Hid (enOk ⟨1, cl, sq, ok, ⟨#[110, 105, 110, 101, 98, 121, 116, 101, 115]⟩, old, val⟩ = false) := Lib.hid (bad_key (show 8 < (⟨#[110, 105, 110, 101, 98, 121, 116, 101, 115]⟩ : ByteArray).size by decide))
          go_wp2_with fail
          refine (bytes_any 1 cl sq ok ⟨#[110, 105, 110, 101, 98, 121, 116, 101, 115]⟩ old val _ HL.out (by omega)).mono ?_
          rw [eL_no HBAD.out, eR_no HBAD.out]
          rintro r w5 ⟨A5, c5, rfl, _, hx⟩
          have HE := Lib.hid (HE.out.trans hx)
          have HX := Lib.hid (heap_ext HX.out hx)
          clear hx j0 j1 j2 j3 j4 j5 j6
          obtain ⟨j0, j1, j2, j3, j4, j5, j6⟩ := seven_cells HX.out
          go_wp2_with fail
          refine (may_any 1 cl sq ok ⟨#[110, 105, 110, 101, 98, 121, 116, 101, 115]⟩ old val _).mono ?_
          rw [HBAD.out]
          rintro r w6 ⟨rfl, hx⟩
          have HE := Lib.hid (HE.out.trans hx)
          clear hx
          go_wp2_with fail
          go_ret
          exact ⟨rfl, HE.out⟩
        · have mk17 : (Instr.makeSlice 29 (.int .i64 17) (.int .i64 17)).run Tryd.prog w4 = .ok (.slice (some ⟨w4.heap.size, 0, none⟩) 17 17) (w4.alloc zrE) := mk_zeroE w4
          obtain ⟨zr, hzr⟩ : ∃ zr, str (List.replicate 17 0) = zr := ⟨_, rfl⟩
          have hcv := conv_some (P := Tryd.prog) (by_zrE w4).rd 17 17 (by simp) 29 9 5 Tryd.underlying29 Tryd.underlying5 Tryd.underlying9
          rw [hzr] at hcv
          have HZR : Hid (16 < zr.size) := Lib.hid (by rw [← hzr]; decide)
          have hx := (Ext.refl w4).alloc zrE
          have HX0 := Lib.hid (heap_ext HX0.out hx)
          have HE0 := Lib.hid (HE0.out.trans hx)
          have HL0 := Lib.hid (HL0.out.ext hx)
          clear i0 i1 i2 i3 i4 i5 i6 f0 f1 f2 f3 f4 f5 f6 hx hzr
          obtain ⟨i0, i1, i2, i3, i4, i5, i6⟩ := seven_cells HX0.out
          obtain ⟨f0, f1, f2, f3, f4, f5, f6⟩ := seven_free HX0.out
          have hrow : ((w4.alloc zrE).setCell ⟨g, 6, none⟩ (.string zr)).heap[g]? = some (.cells #[.int .u8 1, .int .i64 cl, .int .i64 sq, .int .u8 (ok : Int), .string key, .string old, .string zr] 27 (0, 0)) := by
            have hs := HX0.out
            have hs : ((w4.alloc zrE).setCell ⟨g, 6, none⟩ (.string zr)).heap[g]? = some (.cells #[.int .u8 1, .int .i64 cl, .int .i64 sq, .int .u8 (ok : Int), .string key, .string old, .string zr] 27 (0, 0)) := rdr_set hs (.string zr)
            exact hs
          have HX := Lib.hid hrow
          have HE := Lib.hid (show Ext w ((w4.alloc zrE).setCell ⟨g, 6, none⟩ (.string zr)) from Below.setCell HE0.out (p := ⟨g, 6, none⟩) HGE.out (.string zr))
          have HL := Lib.hid (laid_set HL0.out HGL.out 6 (.string zr))
          clear hrow
          go_upto_region 29 with (fail)
          generalize ((w4.alloc zrE).setCell ⟨g, 6, none⟩ (.string zr)) = W at *
          clear i0 i1 i2 i3 i4 i5 i6 f0 f1 f2 f3 f4 f5 f6
          obtain ⟨j0, j1, j2, j3, j4, j5, j6⟩ := seven_cells HX.out
          have HBAD : Hid (enOk ⟨1, cl, sq, ok, key, old, zr⟩ = false) := Lib.hid (bad_val HZR.out)
          go_wp2_with fail
          refine (bytes_any 1 cl sq ok key old zr _ HL.out (by omega)).mono ?_
          rw [eL_no HBAD.out, eR_no HBAD.out]
          rintro r w5 ⟨A5, c5, rfl, _, hx⟩
          have HE := Lib.hid (HE.out.trans hx)
          have HX := Lib.hid (heap_ext HX.out hx)
          clear hx j0 j1 j2 j3 j4 j5 j6
          obtain ⟨j0, j1, j2, j3, j4, j5, j6⟩ := seven_cells HX.out
          go_wp2_with fail
          refine (may_any 1 cl sq ok key old zr _).mono ?_
          rw [HBAD.out]
          rintro r w6 ⟨rfl, hx⟩
          have HE := Lib.hid (HE.out.trans hx)
          clear hx
          go_wp2_with fail
          go_ret
          exact ⟨rfl, HE.out⟩
        · have mk17 : (Instr.makeSlice 29 (.int .i64 17) (.int .i64 17)).run Tryd.prog w4 = .ok (.slice (some ⟨w4.heap.size, 0, none⟩) 17 17) (w4.alloc zrE) := mk_zeroE w4
          obtain ⟨zr, hzr⟩ : ∃ zr, str (List.replicate 17 0) = zr := ⟨_, rfl⟩
          have hcv := conv_some (P := Tryd.prog) (by_zrE w4).rd 17 17 (by simp) 29 9 5 Tryd.underlying29 Tryd.underlying5 Tryd.underlying9
          rw [hzr] at hcv
          have HZR : Hid (16 < zr.size) := Lib.hid (by rw [← hzr]; decide)
          have hx := (Ext.refl w4).alloc zrE
          have HX0 := Lib.hid (heap_ext HX0.out hx)
          have HE0 := Lib.hid (HE0.out.trans hx)
          have HL0 := Lib.hid (HL0.out.ext hx)
          clear i0 i1 i2 i3 i4 i5 i6 f0 f1 f2 f3 f4 f5 f6 hx hzr
          obtain ⟨i0, i1, i2, i3, i4, i5, i6⟩ := seven_cells HX0.out
          obtain ⟨f0, f1, f2, f3, f4, f5, f6⟩ := seven_free HX0.out
          have hrow : ((w4.alloc zrE).setCell ⟨g, 5, none⟩ (.string zr)).heap[g]? = some (.cells #[.int .u8 1, .int .i64 cl, .int .i64 sq, .int .u8 (ok : Int), .string key, .string zr, .string val] 27 (0, 0)) := by
            have hs := HX0.out
            have hs : ((w4.alloc zrE).setCell ⟨g, 5, none⟩ (.string zr)).heap[g]? = some (.cells #[.int .u8 1, .int .i64 cl, .int .i64 sq, .int .u8 (ok : Int), .string key, .string zr, .string val] 27 (0, 0)) := rdr_set hs (.string zr)
            exact hs
          have HX := Lib.hid hrow
          have HE := Lib.hid (show Ext w ((w4.alloc zrE).setCell ⟨g, 5, none⟩ (.string zr)) from Below.setCell HE0.out (p := ⟨g, 5, none⟩) HGE.out (.string zr))
          have HL := Lib.hid (laid_set HL0.out HGL.out 5 (.string zr))
          clear hrow
          go_upto_region 29 with (fail)
          generalize ((w4.alloc zrE).setCell ⟨g, 5, none⟩ (.string zr)) = W at *
          clear i0 i1 i2 i3 i4 i5 i6 f0 f1 f2 f3 f4 f5 f6
          obtain ⟨j0, j1, j2, j3, j4, j5, j6⟩ := seven_cells HX.out
          have HBAD : Hid (enOk ⟨1, cl, sq, ok, key, zr, val⟩ = false) := Lib.hid (bad_old HZR.out)
          go_wp2_with fail
          refine (bytes_any 1 cl sq ok key zr val _ HL.out (by omega)).mono ?_
          rw [eL_no HBAD.out, eR_no HBAD.out]
          rintro r w5 ⟨A5, c5, rfl, _, hx⟩
          have HE := Lib.hid (HE.out.trans hx)
          have HX := Lib.hid (heap_ext HX.out hx)
          clear hx j0 j1 j2 j3 j4 j5 j6
          obtain ⟨j0, j1, j2, j3, j4, j5, j6⟩ := seven_cells HX.out
          go_wp2_with fail
          refine (may_any 1 cl sq ok key zr val _).mono ?_
          rw [HBAD.out]
          rintro r w6 ⟨rfl, hx⟩
          have HE := Lib.hid (HE.out.trans hx)
          clear hx
          go_wp2_with fail
          go_ret
          exact ⟨rfl, HE.out⟩
        · have hrow : (w4.setCell ⟨g, 3, none⟩ (.int .u8 5)).heap[g]? = some (.cells #[.int .u8 1, .int .i64 cl, .int .i64 sq, .int .u8 5, .string key, .string old, .string val] 27 (0, 0)) := by
            have hs := HX0.out
            have hs : (w4.setCell ⟨g, 3, none⟩ (.int .u8 5)).heap[g]? = some (.cells #[.int .u8 1, .int .i64 cl, .int .i64 sq, .int .u8 5, .string key, .string old, .string val] 27 (0, 0)) := rdr_set hs (.int .u8 5)
            exact hs
          have HX := Lib.hid hrow
          have HE := Lib.hid (show Ext w (w4.setCell ⟨g, 3, none⟩ (.int .u8 5)) from Below.setCell HE0.out (p := ⟨g, 3, none⟩) HGE.out (.int .u8 5))
          have HL := Lib.hid (laid_set HL0.out HGL.out 3 (.int .u8 5))
          clear hrow
          go_upto_region 29 with (fail)
          generalize (w4.setCell ⟨g, 3, none⟩ (.int .u8 5)) = W at *
          clear i0 i1 i2 i3 i4 i5 i6 f0 f1 f2 f3 f4 f5 f6
          obtain ⟨j0, j1, j2, j3, j4, j5, j6⟩ := seven_cells HX.out
          have HBAD : Hid (enOk ⟨1, cl, sq, 5, key, old, val⟩ = false) := Lib.hid (bad_ok rfl)
          go_wp2_with fail
          refine (bytes_any 1 cl sq 5 key old val _ HL.out (by omega)).mono ?_
          rw [eL_no HBAD.out, eR_no HBAD.out]
          rintro r w5 ⟨A5, c5, rfl, _, hx⟩
          have HE := Lib.hid (HE.out.trans hx)
          have HX := Lib.hid (heap_ext HX.out hx)
          clear hx j0 j1 j2 j3 j4 j5 j6
          obtain ⟨j0, j1, j2, j3, j4, j5, j6⟩ := seven_cells HX.out
          go_wp2_with fail
          refine (may_any 1 cl sq 5 key old val _).mono ?_
          rw [HBAD.out]
          rintro r w6 ⟨rfl, hx⟩
          have HE := Lib.hid (HE.out.trans hx)
          clear hx
          go_wp2_with fail
          go_ret
          exact ⟨rfl, HE.out⟩
        · have hrow : (w4.setCell ⟨g, 3, none⟩ (.int .u8 1)).heap[g]? = some (.cells #[.int .u8 1, .int .i64 cl, .int .i64 sq, .int .u8 1, .string key, .string old, .string val] 27 (0, 0)) := by
            have hs := HX0.out
            have hs : (w4.setCell ⟨g, 3, none⟩ (.int .u8 1)).heap[g]? = some (.cells #[.int .u8 1, .int .i64 cl, .int .i64 sq, .int .u8 1, .string key, .string old, .string val] 27 (0, 0)) := rdr_set hs (.int .u8 1)
            exact hs
          have HX := Lib.hid hrow
          have HE := Lib.hid (show Ext w (w4.setCell ⟨g, 3, none⟩ (.int .u8 1)) from Below.setCell HE0.out (p := ⟨g, 3, none⟩) HGE.out (.int .u8 1))
          have HL := Lib.hid (laid_set HL0.out HGL.out 3 (.int .u8 1))
          clear hrow
          go_upto_region 29 with (fail)
          generalize (w4.setCell ⟨g, 3, none⟩ (.int .u8 1)) = W at *
          clear i0 i1 i2 i3 i4 i5 i6 f0 f1 f2 f3 f4 f5 f6
          obtain ⟨j0, j1, j2, j3, j4, j5, j6⟩ := seven_cells HX.out
          have HBAD : Hid (enOk ⟨1, cl, sq, 1, key, old, val⟩ = false) := Lib.hid (bad_get rfl)
          go_wp2_with fail
          refine (bytes_any 1 cl sq 1 key old val _ HL.out (by omega)).mono ?_
          rw [eL_no HBAD.out, eR_no HBAD.out]
          rintro r w5 ⟨A5, c5, rfl, _, hx⟩
          have HE := Lib.hid (HE.out.trans hx)
          have HX := Lib.hid (heap_ext HX.out hx)
          clear hx j0 j1 j2 j3 j4 j5 j6
          obtain ⟨j0, j1, j2, j3, j4, j5, j6⟩ := seven_cells HX.out
          go_wp2_with fail
          refine (may_any 1 cl sq 1 key old val _).mono ?_
          rw [HBAD.out]
          rintro r w6 ⟨rfl, hx⟩
          have HE := Lib.hid (HE.out.trans hx)
          clear hx
          go_wp2_with fail
          go_ret
          exact ⟨rfl, HE.out⟩
        · have hrow : (w4.setCell ⟨g, 4, none⟩ (.string ⟨#[107]⟩)).heap[g]? = some (.cells #[.int .u8 1, .int .i64 cl, .int .i64 sq, .int .u8 (ok : Int), .string ⟨#[107]⟩, .string old, .string val] 27 (0, 0)) := by
            have hs := HX0.out
            have hs : (w4.setCell ⟨g, 4, none⟩ (.string ⟨#[107]⟩)).heap[g]? = some (.cells #[.int .u8 1, .int .i64 cl, .int .i64 sq, .int .u8 (ok : Int), .string ⟨#[107]⟩, .string old, .string val] 27 (0, 0)) := rdr_set hs (.string ⟨#[107]⟩)
            exact hs
          have HX := Lib.hid hrow
          have HE := Lib.hid (show Ext w (w4.setCell ⟨g, 4, none⟩ (.string ⟨#[107]⟩)) from Below.setCell HE0.out (p := ⟨g, 4, none⟩) HGE.out (.string ⟨#[107]⟩))
          have HL := Lib.hid (laid_set HL0.out HGL.out 4 (.string ⟨#[107]⟩))
          clear hrow
          go_upto_region 29 with (fail)
          generalize (w4.setCell ⟨g, 4, none⟩ (.string ⟨#[107]⟩)) = W at *
          clear i0 i1 i2 i3 i4 i5 i6 f0 f1 f2 f3 f4 f5 f6
          obtain ⟨j0, j1, j2, j3, j4, j5, j6⟩ := seven_cells HX.out
          have HBAD : Hid (enOk ⟨1, cl, sq, ok, ⟨#[107]⟩, old, val⟩ = false) := Lib.hid (bad_noop rfl (show 0 < (⟨#[107]⟩ : ByteArray).size by decide))
          go_wp2_with fail
          refine (bytes_any 1 cl sq ok ⟨#[107]⟩ old val _ HL.out (by omega)).mono ?_
          rw [eL_no HBAD.out, eR_no HBAD.out]
          rintro r w5 ⟨A5, c5, rfl, _, hx⟩
          have HE := Lib.hid (HE.out.trans hx)
          have HX := Lib.hid (heap_ext HX.out hx)
          clear hx j0 j1 j2 j3 j4 j5 j6
          obtain ⟨j0, j1, j2, j3, j4, j5, j6⟩ := seven_cells HX.out
          go_wp2_with fail
          refine (may_any 1 cl sq ok ⟨#[107]⟩ old val _).mono ?_
          rw [HBAD.out]
          rintro r w6 ⟨rfl, hx⟩
          have HE := Lib.hid (HE.out.trans hx)
          clear hx
          go_wp2_with fail
          go_ret
          exact ⟨rfl, HE.out⟩
      · try dsimp only at h1 h2
        subst h1
        have HSQ := Lib.hid h2
        clear HKK HK h2 hz1 hz2 hz3
        obtain ⟨i0, i1, i2, i3, i4, i5, i6⟩ := seven_cells HX0.out
        obtain ⟨f0, f1, f2, f3, f4, f5, f6⟩ := seven_free HX0.out
        rcases HW9.out with hj | hj | hj | hj | hj | hj | hj | hj | hj
        · have hrow : (w4.setCell ⟨g, 0, none⟩ (.int .u8 1)).heap[g]? = some (.cells #[.int .u8 1, .int .i64 cl, .int .i64 sq, .int .u8 (ok : Int), .string key, .string old, .string val] 27 (0, 0)) := by
            have hs := HX0.out
            have hs : (w4.setCell ⟨g, 0, none⟩ (.int .u8 1)).heap[g]? = some (.cells #[.int .u8 1, .int .i64 cl, .int .i64 sq, .int .u8 (ok : Int), .string key, .string old, .string val] 27 (0, 0)) := rdr_set hs (.int .u8 1)
            exact hs
          have HX := Lib.hid hrow
          have HE := Lib.hid (show Ext w (w4.setCell ⟨g, 0, none⟩ (.int .u8 1)) from Below.setCell HE0.out (p := ⟨g, 0, none⟩) HGE.out (.int .u8 1))
          have HL := Lib.hid (laid_set HL0.out HGL.out 0 (.int .u8 1))
          clear hrow
          go_upto_region 29 with (fail)
          generalize (w4.setCell ⟨g, 0, none⟩ (.int .u8 1)) = W at *
          clear i0 i1 i2 i3 i4 i5 i6 f0 f1 f2 f3 f4 f5 f6
          obtain ⟨j0, j1, j2, j3, j4, j5, j6⟩ := seven_cells HX.out
          have HBAD : Hid (enOk ⟨1, cl, sq, ok, key, old, val⟩ = false) := Lib.hid (bad_kind rfl HSQ.out)
          go_wp2_with fail
          refine (bytes_any 1 cl sq ok key old val _ HL.out (by omega)).mono ?_
          rw [eL_no HBAD.out, eR_no HBAD.out]
          rintro r w5 ⟨A5, c5, rfl, _, hx⟩
          have HE := Lib.hid (HE.out.trans hx)
          have HX := Lib.hid (heap_ext HX.out hx)
          clear hx j0 j1 j2 j3 j4 j5 j6
          obtain ⟨j0, j1, j2, j3, j4, j5, j6⟩ := seven_cells HX.out
          go_wp2_with fail
          refine (may_any 1 cl sq ok key old val _).mono ?_
          rw [HBAD.out]
          rintro r w6 ⟨rfl, hx⟩
          have HE := Lib.hid (HE.out.trans hx)
          clear hx
          go_wp2_with fail
          go_ret
          exact ⟨rfl, HE.out⟩
        · have hrow : (w4.setCell ⟨g, 1, none⟩ (.int .i64 4)).heap[g]? = some (.cells #[.int .u8 2, .int .i64 4, .int .i64 sq, .int .u8 (ok : Int), .string key, .string old, .string val] 27 (0, 0)) := by
            have hs := HX0.out
            have hs : (w4.setCell ⟨g, 1, none⟩ (.int .i64 4)).heap[g]? = some (.cells #[.int .u8 2, .int .i64 4, .int .i64 sq, .int .u8 (ok : Int), .string key, .string old, .string val] 27 (0, 0)) := rdr_set hs (.int .i64 4)
            exact hs
          have HX := Lib.hid hrow
          have HE := Lib.hid (show Ext w (w4.setCell ⟨g, 1, none⟩ (.int .i64 4)) from Below.setCell HE0.out (p := ⟨g, 1, none⟩) HGE.out (.int .i64 4))
          have HL := Lib.hid (laid_set HL0.out HGL.out 1 (.int .i64 4))
          clear hrow
          go_upto_region 29 with (fail)
          generalize (w4.setCell ⟨g, 1, none⟩ (.int .i64 4)) = W at *
          clear i0 i1 i2 i3 i4 i5 i6 f0 f1 f2 f3 f4 f5 f6
          obtain ⟨j0, j1, j2, j3, j4, j5, j6⟩ := seven_cells HX.out
          have HBAD : Hid (enOk ⟨2, 4, sq, ok, key, old, val⟩ = false) := Lib.hid (bad_cl rfl)
          go_wp2_with fail
          refine (bytes_any 2 4 sq ok key old val _ HL.out (by omega)).mono ?_
          rw [eL_no HBAD.out, eR_no HBAD.out]
          rintro r w5 ⟨A5, c5, rfl, _, hx⟩
          have HE := Lib.hid (HE.out.trans hx)
          have HX := Lib.hid (heap_ext HX.out hx)
          clear hx j0 j1 j2 j3 j4 j5 j6
          obtain ⟨j0, j1, j2, j3, j4, j5, j6⟩ := seven_cells HX.out
          go_wp2_with fail
          refine (may_any 2 4 sq ok key old val _).mono ?_
          rw [HBAD.out]
          rintro r w6 ⟨rfl, hx⟩
          have HE := Lib.hid (HE.out.trans hx)
          clear hx
          go_wp2_with fail
          go_ret
          exact ⟨rfl, HE.out⟩
        · have hrow : (w4.setCell ⟨g, 2, none⟩ (.int .i64 1099511627777)).heap[g]? = some (.cells #[.int .u8 2, .int .i64 cl, .int .i64 1099511627777, .int .u8 (ok : Int), .string key, .string old, .string val] 27 (0, 0)) := by
            have hs := HX0.out
            have hs : (w4.setCell ⟨g, 2, none⟩ (.int .i64 1099511627777)).heap[g]? = some (.cells #[.int .u8 2, .int .i64 cl, .int .i64 1099511627777, .int .u8 (ok : Int), .string key, .string old, .string val] 27 (0, 0)) := rdr_set hs (.int .i64 1099511627777)
            exact hs
          have HX := Lib.hid hrow
          have HE := Lib.hid (show Ext w (w4.setCell ⟨g, 2, none⟩ (.int .i64 1099511627777)) from Below.setCell HE0.out (p := ⟨g, 2, none⟩) HGE.out (.int .i64 1099511627777))
          have HL := Lib.hid (laid_set HL0.out HGL.out 2 (.int .i64 1099511627777))
          clear hrow
          go_upto_region 29 with (fail)
          generalize (w4.setCell ⟨g, 2, none⟩ (.int .i64 1099511627777)) = W at *
          generalize hbig : (1099511627777 : Int) = big at *
          clear i0 i1 i2 i3 i4 i5 i6 f0 f1 f2 f3 f4 f5 f6
          obtain ⟨j0, j1, j2, j3, j4, j5, j6⟩ := seven_cells HX.out
          have HBAD : Hid (enOk ⟨2, cl, big, ok, key, old, val⟩ = false) := Lib.hid (bad_sq hbig.symm)
          go_wp2_with fail
          refine (bytes_any 2 cl big ok key old val _ HL.out (by omega)).mono ?_
          rw [eL_no HBAD.out, eR_no HBAD.out]
          rintro r w5 ⟨A5, c5, rfl, _, hx⟩
          have HE := Lib.hid (HE.out.trans hx)
          have HX := Lib.hid (heap_ext HX.out hx)
          clear hx j0 j1 j2 j3 j4 j5 j6
          obtain ⟨j0, j1, j2, j3, j4, j5, j6⟩ := seven_cells HX.out
          go_wp2_with fail
          refine (may_any 2 cl big ok key old val _).mono ?_
          rw [HBAD.out]
          rintro r w6 ⟨rfl, hx⟩
          have HE := Lib.hid (HE.out.trans hx)
          clear hx
          go_wp2_with fail
          go_ret
          exact ⟨rfl, HE.out⟩
        · have hrow : (w4.setCell ⟨g, 4, none⟩ (.string ⟨#[110, 105, 110, 101, 98, 121, 116, 101, 115]⟩)).heap[g]? = some (.cells #[.int .u8 2, .int .i64 cl, .int .i64 sq, .int .u8 (ok : Int), .string ⟨#[110, 105, 110, 101, 98, 121, 116, 101, 115]⟩, .string old, .string val] 27 (0, 0)) := by
            have hs := HX0.out
            have hs : (w4.setCell ⟨g, 4, none⟩ (.string ⟨#[110, 105, 110, 101, 98, 121, 116, 101, 115]⟩)).heap[g]? = some (.cells #[.int .u8 2, .int .i64 cl, .int .i64 sq, .int .u8 (ok : Int), .string ⟨#[110, 105, 110, 101, 98, 121, 116, 101, 115]⟩, .string old, .string val] 27 (0, 0)) := rdr_set hs (.string ⟨#[110, 105, 110, 101, 98, 121, 116, 101, 115]⟩)
            exact hs
          have HX := Lib.hid hrow
          have HE := Lib.hid (show Ext w (w4.setCell ⟨g, 4, none⟩ (.string ⟨#[110, 105, 110, 101, 98, 121, 116, 101, 115]⟩)) from Below.setCell HE0.out (p := ⟨g, 4, none⟩) HGE.out (.string ⟨#[110, 105, 110, 101, 98, 121, 116, 101, 115]⟩))
          have HL := Lib.hid (laid_set HL0.out HGL.out 4 (.string ⟨#[110, 105, 110, 101, 98, 121, 116, 101, 115]⟩))
          clear hrow
          go_upto_region 29 with (fail)
          generalize (w4.setCell ⟨g, 4, none⟩ (.string ⟨#[110, 105, 110, 101, 98, 121, 116, 101, 115]⟩)) = W at *
          clear i0 i1 i2 i3 i4 i5 i6 f0 f1 f2 f3 f4 f5 f6
          obtain ⟨j0, j1, j2, j3, j4, j5, j6⟩ := seven_cells HX.out
          have HBAD : Hid (enOk ⟨2, cl, sq, ok, ⟨#[110, 105, 110, 101, 98, 121, 116, 101, 115]⟩, old, val⟩ = false) := Lib.hid (bad_key (show 8 < (⟨#[110, 105, 110, 101, 98, 121, 116, 101, 115]⟩ : ByteArray).size by decide))
          go_wp2_with fail
          refine (bytes_any 2 cl sq ok ⟨#[110, 105, 110, 101, 98, 121, 116, 101, 115]⟩ old val _ HL.out (by omega)).mono ?_
          rw [eL_no HBAD.out, eR_no HBAD.out]
          rintro r w5 ⟨A5, c5, rfl, _, hx⟩
          have HE := Lib.hid (HE.out.trans hx)
          have HX := Lib.hid (heap_ext HX.out hx)
          clear hx j0 j1 j2 j3 j4 j5 j6
          obtain ⟨j0, j1, j2, j3, j4, j5, j6⟩ := seven_cells HX.out
          go_wp2_with fail
          refine (may_any 2 cl sq ok ⟨#[110, 105, 110, 101, 98, 121, 116, 101, 115]⟩ old val _).mono ?_
          rw [HBAD.out]
          rintro r w6 ⟨rfl, hx⟩
          have HE := Lib.hid (HE.out.trans hx)
          clear hx
          go_wp2_with fail
          go_ret
          exact ⟨rfl, HE.out⟩
        · have mk17 : (Instr.makeSlice 29 (.int .i64 17) (.int .i64 17)).run Tryd.prog w4 = .ok (.slice (some ⟨w4.heap.size, 0, none⟩) 17 17) (w4.alloc zrE) := mk_zeroE w4
          obtain ⟨zr, hzr⟩ : ∃ zr, str (List.replicate 17 0) = zr := ⟨_, rfl⟩
          have hcv := conv_some (P := Tryd.prog) (by_zrE w4).rd 17 17 (by simp) 29 9 5 Tryd.underlying29 Tryd.underlying5 Tryd.underlying9
          rw [hzr] at hcv
          have HZR : Hid (16 < zr.size) := Lib.hid (by rw [← hzr]; decide)
          have hx := (Ext.refl w4).alloc zrE
          have HX0 := Lib.hid (heap_ext HX0.out hx)
          have HE0 := Lib.hid (HE0.out.trans hx)
          have HL0 := Lib.hid (HL0.out.ext hx)
          clear i0 i1 i2 i3 i4 i5 i6 f0 f1 f2 f3 f4 f5 f6 hx hzr
          obtain ⟨i0, i1, i2, i3, i4, i5, i6⟩ := seven_cells HX0.out
          obtain ⟨f0, f1, f2, f3, f4, f5, f6⟩ := seven_free HX0.out
          have hrow : ((w4.alloc zrE).setCell ⟨g, 6, none⟩ (.string zr)).heap[g]? = some (.cells #[.int .u8 2, .int .i64 cl, .int .i64 sq, .int .u8 (ok : Int), .string key, .string old, .string zr] 27 (0, 0)) := by
            have hs := HX0.out
            have hs : ((w4.alloc zrE).setCell ⟨g, 6, none⟩ (.string zr)).heap[g]? = some (.cells #[.int .u8 2, .int .i64 cl, .int .i64 sq, .int .u8 (ok : Int), .string key, .string old, .string zr] 27 (0, 0)) := rdr_set hs (.string zr)
            exact hs
          have HX := Lib.hid hrow
          have HE := Lib.hid (show Ext w ((w4.alloc zrE).setCell ⟨g, 6, none⟩ (.string zr)) from Below.setCell HE0.out (p := ⟨g, 6, none⟩) HGE.out (.string zr))
          have HL := Lib.hid (laid_set HL0.out HGL.out 6 (.string zr))
          clear hrow
          go_upto_region 29 with (fail)
          generalize ((w4.alloc zrE).setCell ⟨g, 6, none⟩ (.string zr)) = W at *
          clear i0 i1 i2 i3 i4 i5 i6 f0 f1 f2 f3 f4 f5 f6
          obtain ⟨j0, j1, j2, j3, j4, j5, j6⟩ := seven_cells HX.out
          have HBAD : Hid (enOk ⟨2, cl, sq, ok, key, old, zr⟩ = false) := Lib.hid (bad_val HZR.out)
          go_wp2_with fail
          refine (bytes_any 2 cl sq ok key old zr _ HL.out (by omega)).mono ?_
          rw [eL_no HBAD.out, eR_no HBAD.out]
          rintro r w5 ⟨A5, c5, rfl, _, hx⟩
          have HE := Lib.hid (HE.out.trans hx)
          have HX := Lib.hid (heap_ext HX.out hx)
          clear hx j0 j1 j2 j3 j4 j5 j6
          obtain ⟨j0, j1, j2, j3, j4, j5, j6⟩ := seven_cells HX.out
          go_wp2_with fail
          refine (may_any 2 cl sq ok key old zr _).mono ?_
          rw [HBAD.out]
          rintro r w6 ⟨rfl, hx⟩
          have HE := Lib.hid (HE.out.trans hx)
          clear hx
          go_wp2_with fail
          go_ret
          exact ⟨rfl, HE.out⟩
        · have mk17 : (Instr.makeSlice 29 (.int .i64 17) (.int .i64 17)).run Tryd.prog w4 = .ok (.slice (some ⟨w4.heap.size, 0, none⟩) 17 17) (w4.alloc zrE) := mk_zeroE w4
          obtain ⟨zr, hzr⟩ : ∃ zr, str (List.replicate 17 0) = zr := ⟨_, rfl⟩
          have hcv := conv_some (P := Tryd.prog) (by_zrE w4).rd 17 17 (by simp) 29 9 5 Tryd.underlying29 Tryd.underlying5 Tryd.underlying9
          rw [hzr] at hcv
          have HZR : Hid (16 < zr.size) := Lib.hid (by rw [← hzr]; decide)
          have hx := (Ext.refl w4).alloc zrE
          have HX0 := Lib.hid (heap_ext HX0.out hx)
          have HE0 := Lib.hid (HE0.out.trans hx)
          have HL0 := Lib.hid (HL0.out.ext hx)
          clear i0 i1 i2 i3 i4 i5 i6 f0 f1 f2 f3 f4 f5 f6 hx hzr
          obtain ⟨i0, i1, i2, i3, i4, i5, i6⟩ := seven_cells HX0.out
          obtain ⟨f0, f1, f2, f3, f4, f5, f6⟩ := seven_free HX0.out
          have hrow : ((w4.alloc zrE).setCell ⟨g, 5, none⟩ (.string zr)).heap[g]? = some (.cells #[.int .u8 2, .int .i64 cl, .int .i64 sq, .int .u8 (ok : Int), .string key, .string zr, .string val] 27 (0, 0)) := by
            have hs := HX0.out
            have hs : ((w4.alloc zrE).setCell ⟨g, 5, none⟩ (.string zr)).heap[g]? = some (.cells #[.int .u8 2, .int .i64 cl, .int .i64 sq, .int .u8 (ok : Int), .string key, .string zr, .string val] 27 (0, 0)) := rdr_set hs (.string zr)
            exact hs
          have HX := Lib.hid hrow
          have HE := Lib.hid (show Ext w ((w4.alloc zrE).setCell ⟨g, 5, none⟩ (.string zr)) from Below.setCell HE0.out (p := ⟨g, 5, none⟩) HGE.out (.string zr))
          have HL := Lib.hid (laid_set HL0.out HGL.out 5 (.string zr))
          clear hrow
          go_upto_region 29 with (fail)
          generalize ((w4.alloc zrE).setCell ⟨g, 5, none⟩ (.string zr)) = W at *
          clear i0 i1 i2 i3 i4 i5 i6 f0 f1 f2 f3 f4 f5 f6
          obtain ⟨j0, j1, j2, j3, j4, j5, j6⟩ := seven_cells HX.out
          have HBAD : Hid (enOk ⟨2, cl, sq, ok, key, zr, val⟩ = false) := Lib.hid (bad_old HZR.out)
          go_wp2_with fail
          refine (bytes_any 2 cl sq ok key zr val _ HL.out (by omega)).mono ?_
          rw [eL_no HBAD.out, eR_no HBAD.out]
          rintro r w5 ⟨A5, c5, rfl, _, hx⟩
          have HE := Lib.hid (HE.out.trans hx)
          have HX := Lib.hid (heap_ext HX.out hx)
          clear hx j0 j1 j2 j3 j4 j5 j6
          obtain ⟨j0, j1, j2, j3, j4, j5, j6⟩ := seven_cells HX.out
          go_wp2_with fail
          refine (may_any 2 cl sq ok key zr val _).mono ?_
          rw [HBAD.out]
          rintro r w6 ⟨rfl, hx⟩
          have HE := Lib.hid (HE.out.trans hx)
          clear hx
          go_wp2_with fail
          go_ret
          exact ⟨rfl, HE.out⟩
        · have hrow : (w4.setCell ⟨g, 3, none⟩ (.int .u8 5)).heap[g]? = some (.cells #[.int .u8 2, .int .i64 cl, .int .i64 sq, .int .u8 5, .string key, .string old, .string val] 27 (0, 0)) := by
            have hs := HX0.out
            have hs : (w4.setCell ⟨g, 3, none⟩ (.int .u8 5)).heap[g]? = some (.cells #[.int .u8 2, .int .i64 cl, .int .i64 sq, .int .u8 5, .string key, .string old, .string val] 27 (0, 0)) := rdr_set hs (.int .u8 5)
            exact hs
          have HX := Lib.hid hrow
          have HE := Lib.hid (show Ext w (w4.setCell ⟨g, 3, none⟩ (.int .u8 5)) from Below.setCell HE0.out (p := ⟨g, 3, none⟩) HGE.out (.int .u8 5))
          have HL := Lib.hid (laid_set HL0.out HGL.out 3 (.int .u8 5))
          clear hrow
          go_upto_region 29 with (fail)
          generalize (w4.setCell ⟨g, 3, none⟩ (.int .u8 5)) = W at *
          clear i0 i1 i2 i3 i4 i5 i6 f0 f1 f2 f3 f4 f5 f6
          obtain ⟨j0, j1, j2, j3, j4, j5, j6⟩ := seven_cells HX.out
          have HBAD : Hid (enOk ⟨2, cl, sq, 5, key, old, val⟩ = false) := Lib.hid (bad_ok rfl)
          go_wp2_with fail
          refine (bytes_any 2 cl sq 5 key old val _ HL.out (by omega)).mono ?_
          rw [eL_no HBAD.out, eR_no HBAD.out]
          rintro r w5 ⟨A5, c5, rfl, _, hx⟩
          have HE := Lib.hid (HE.out.trans hx)
          have HX := Lib.hid (heap_ext HX.out hx)
          clear hx j0 j1 j2 j3 j4 j5 j6
          obtain ⟨j0, j1, j2, j3, j4, j5, j6⟩ := seven_cells HX.out
          go_wp2_with fail
          refine (may_any 2 cl sq 5 key old val _).mono ?_
          rw [HBAD.out]
          rintro r w6 ⟨rfl, hx⟩
          have HE := Lib.hid (HE.out.trans hx)
          clear hx
          go_wp2_with fail
          go_ret
          exact ⟨rfl, HE.out⟩
        · have hrow : (w4.setCell ⟨g, 3, none⟩ (.int .u8 1)).heap[g]? = some (.cells #[.int .u8 2, .int .i64 cl, .int .i64 sq, .int .u8 1, .string key, .string old, .string val] 27 (0, 0)) := by
            have hs := HX0.out
            have hs : (w4.setCell ⟨g, 3, none⟩ (.int .u8 1)).heap[g]? = some (.cells #[.int .u8 2, .int .i64 cl, .int .i64 sq, .int .u8 1, .string key, .string old, .string val] 27 (0, 0)) := rdr_set hs (.int .u8 1)
            exact hs
          have HX := Lib.hid hrow
          have HE := Lib.hid (show Ext w (w4.setCell ⟨g, 3, none⟩ (.int .u8 1)) from Below.setCell HE0.out (p := ⟨g, 3, none⟩) HGE.out (.int .u8 1))
          have HL := Lib.hid (laid_set HL0.out HGL.out 3 (.int .u8 1))
          clear hrow
          go_upto_region 29 with (fail)
          generalize (w4.setCell ⟨g, 3, none⟩ (.int .u8 1)) = W at *
          clear i0 i1 i2 i3 i4 i5 i6 f0 f1 f2 f3 f4 f5 f6
          obtain ⟨j0, j1, j2, j3, j4, j5, j6⟩ := seven_cells HX.out
          have HBAD : Hid (enOk ⟨2, cl, sq, 1, key, old, val⟩ = false) := Lib.hid (bad_get rfl)
          go_wp2_with fail
          refine (bytes_any 2 cl sq 1 key old val _ HL.out (by omega)).mono ?_
          rw [eL_no HBAD.out, eR_no HBAD.out]
          rintro r w5 ⟨A5, c5, rfl, _, hx⟩
          have HE := Lib.hid (HE.out.trans hx)
          have HX := Lib.hid (heap_ext HX.out hx)
          clear hx j0 j1 j2 j3 j4 j5 j6
          obtain ⟨j0, j1, j2, j3, j4, j5, j6⟩ := seven_cells HX.out
          go_wp2_with fail
          refine (may_any 2 cl sq 1 key old val _).mono ?_
          rw [HBAD.out]
          rintro r w6 ⟨rfl, hx⟩
          have HE := Lib.hid (HE.out.trans hx)
          clear hx
          go_wp2_with fail
          go_ret
          exact ⟨rfl, HE.out⟩
        · have hrow : (w4.setCell ⟨g, 4, none⟩ (.string ⟨#[]⟩)).heap[g]? = some (.cells #[.int .u8 2, .int .i64 cl, .int .i64 sq, .int .u8 (ok : Int), .string ⟨#[]⟩, .string old, .string val] 27 (0, 0)) := by
            have hs := HX0.out
            have hs : (w4.setCell ⟨g, 4, none⟩ (.string ⟨#[]⟩)).heap[g]? = some (.cells #[.int .u8 2, .int .i64 cl, .int .i64 sq, .int .u8 (ok : Int), .string ⟨#[]⟩, .string old, .string val] 27 (0, 0)) := rdr_set hs (.string ⟨#[]⟩)
            exact hs
          have HX := Lib.hid hrow
          have HE := Lib.hid (show Ext w (w4.setCell ⟨g, 4, none⟩ (.string ⟨#[]⟩)) from Below.setCell HE0.out (p := ⟨g, 4, none⟩) HGE.out (.string ⟨#[]⟩))
          have HL := Lib.hid (laid_set HL0.out HGL.out 4 (.string ⟨#[]⟩))
          clear hrow
          go_upto_region 29 with (fail)
          generalize (w4.setCell ⟨g, 4, none⟩ (.string ⟨#[]⟩)) = W at *
          clear i0 i1 i2 i3 i4 i5 i6 f0 f1 f2 f3 f4 f5 f6
          obtain ⟨j0, j1, j2, j3, j4, j5, j6⟩ := seven_cells HX.out
          have HBAD : Hid (enOk ⟨2, cl, sq, ok, ⟨#[]⟩, old, val⟩ = false) := Lib.hid (bad_key0 rfl rfl)
          go_wp2_with fail
          refine (bytes_any 2 cl sq ok ⟨#[]⟩ old val _ HL.out (by omega)).mono ?_
          rw [eL_no HBAD.out, eR_no HBAD.out]
          rintro r w5 ⟨A5, c5, rfl, _, hx⟩
          have HE := Lib.hid (HE.out.trans hx)
          have HX := Lib.hid (heap_ext HX.out hx)
          clear hx j0 j1 j2 j3 j4 j5 j6
          obtain ⟨j0, j1, j2, j3, j4, j5, j6⟩ := seven_cells HX.out
          go_wp2_with fail
          refine (may_any 2 cl sq ok ⟨#[]⟩ old val _).mono ?_
          rw [HBAD.out]
          rintro r w6 ⟨rfl, hx⟩
          have HE := Lib.hid (HE.out.trans hx)
          clear hx
          go_wp2_with fail
          go_ret
          exact ⟨rfl, HE.out⟩
end Go.Proofs.YtoapjgkfggggmaaDoor
