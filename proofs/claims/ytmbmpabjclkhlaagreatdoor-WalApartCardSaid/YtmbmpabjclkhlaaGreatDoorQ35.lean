/-
  The contract of Put.
-/
import Derived.Test.YtmbmpabjclkhlaaGreatDoorQ00
import Derived.Test.YtmbmpabjclkhlaaGreatDoorQ12
import Derived.Test.YtmbmpabjclkhlaaGreatDoorQ14
import Derived.Test.YtmbmpabjclkhlaaGreatDoorQ15
import Derived.Test.YtmbmpabjclkhlaaGreatDoorQ16
import Derived.Test.YtmbmpabjclkhlaaGreatDoorQ17
import Derived.Test.YtmbmpabjclkhlaaGreatDoorQ32
import Derived.Test.YtmbmpabjclkhlaaGreatDoorQ34
namespace Go.Proofs.YtmbmpabjclkhlaaGreatDoor
set_option maxRecDepth 100000
section
open Go Go.RowKit Go.Shelf
attribute [local go_sem] Oper.semAt_some
theorem put_err (m : DM) (s : Nat) (i x y : Int) (e : Ent) : orI (liveE s i) (orI (pR x y e) (upE m)) = putE m s i x y e := by
  unfold orI liveE pR upE putE
  by_cases h1 : (s : Int) + 1 ≤ i ∧ i ≤ (s : Int) + 24 <;> by_cases h2 : balE x y = true ∧ enOk e = true <;> by_cases h3 : m.up = true <;> simp [h1, h2, h3]
set_option maxHeartbeats 1200000 in
theorem wput_no {w : World} (q : Option Addr) (i x y : Int) (e : Ent) (a b E : Int) (hE : orI a (orI (pR x y e) b) = E) (h0 : E ≠ 0) (hL : Laid w) (hok : e.ok < 256)
    (hk : ∀ V, Ext w V → Calls Tryz.prog 67 #[.pointer q, .int .i64 i] V fun r w' => r = .returned (.int .i64 a) ∧ Ext V w') (hr : ∀ V, Ext w V → Calls Tryz.prog 68 #[.pointer q] V fun r w' => r = .returned (.int .i64 b) ∧ V = w') :
    Calls Tryz.prog 16 #[.pointer q, .int .i64 i, .agg #[.int .i64 x, .int .i64 y], .agg #[.int .u8 (e.k : Int), .int .i64 e.cl, .int .i64 e.sq, .int .u8 (e.ok : Int), .string e.key, .string e.old, .string e.val]] w fun r w' => r = .returned (.int .i64 E) ∧ Ext w w' := by
  have HK := Lib.hid hk
  have HR := Lib.hid hr
  have hx2 := ((Ext.refl w).alloc (.cells #[.int .i64 x, .int .i64 y] 38)).alloc (.cells #[.int .u8 (e.k : Int), .int .i64 e.cl, .int .i64 e.sq, .int .u8 (e.ok : Int), .string e.key, .string e.old, .string e.val] 42)
  have HX := Lib.hid hx2
  have HPR := Lib.hid (fun V (hV : Ext w V) => printE_any x y e.k e.cl e.sq e.ok e.key e.old e.val V (hL.ext hV) hok)
  have hne : (E != 0) = true := by simpa using h0
  have HEQ := Lib.hid hE
  clear hk hr hx2 h0 hE hL
  go_enter Tryz.func16, Tryz.ntmps16
  go_wp2_with fail
  refine (HPR.out _ HX.out).mono ?_
  rintro r w1 ⟨A1, c1, rfl, _, hx⟩
  have HX := Lib.hid (HX.out.trans hx)
  clear hx
  go_wp2_with fail
  refine (HK.out _ HX.out).mono ?_
  rintro r w2 ⟨rfl, hx⟩
  have HX := Lib.hid (HX.out.trans hx)
  clear hx
  go_wp2_with fail
  refine (HR.out _ HX.out).mono ?_
  rintro r w3 ⟨rfl, rfl⟩
  go_wp2_with fail
  have hro := heap_alloc_new w2 (.cells #[.int .i64 a, .int .i64 (pR x y e), .int .i64 b] 25)
  have hxo := (Ext.refl w2).alloc (.cells #[.int .i64 a, .int .i64 (pR x y e), .int .i64 b] 25)
  refine (or3E w2.heap.size 3 a (pR x y e) b _ (cell_of_row _ _ 0 _ _ _ hro) (cell_of_row _ _ 1 _ _ _ hro) (cell_of_row _ _ 2 _ _ _ hro)).mono ?_
  rintro r w3 ⟨rfl, rfl⟩
  rw [HEQ.out]
  have HX := Lib.hid (HX.out.trans hxo)
  clear hro hxo
  go_wp2_with fail
  go_ret
  exact ⟨rfl, HX.out⟩
theorem wrf_waits {m : DM} {E S : Int} {L : List Nat} (W : Nat) : (wrfE (E, m) S L W).2.waits.length ≤ m.waits.length + W := by
  have h := wrs_waits (m := m) (E := E) (S := S) (L := L) W
  unfold wrfE unE
  split
  · have hf : ∀ m : DM, m.flush.2.waits.length ≤ m.waits.length := fun m => by
      unfold DM.flush
      split
      · simp
      · split <;> simp
    exact Nat.le_trans (hf _) h
  · exact h
theorem wframe4 {w : World} {F : Nat → Prop} {g d s : Nat} {r inc i : Int} {bl bi bu bf : Nat} {m : DM} {E : Int} (hb : WBox w F g d s r inc i bl bi bu bf) (hw : WrS w d F F bf w (E, m)) (hL : LaidF w) (hLM : ∀ V, Mod (fun k => F k ∨ k = bf) w V → LaidF V)
    (p : Nat) (hp : p < 48) (A : Option Addr) (c : Nat) (x y : Int) (e : Ent) (hby : By w A (bodyL x y e).length c (bodyL x y e)) (hse : sealE r 4 p i inc (bodyL x y e).length 2 = 0) (hfew : m.waits.length + 4 ≤ 1000000) :
    Calls Tryz.prog 149 #[.int .i64 4, .int .i64 (p : Int), .slice A (bodyL x y e).length c, .pointer (some ⟨bl, 0, none⟩), .pointer (some ⟨bi, 0, none⟩), .pointer (some ⟨bu, 0, none⟩), .pointer (some ⟨bf, 0, none⟩)] w fun r' w' =>
      r' = .returned (.int .i64 (wrfE (E, m) (firstS 4 p) (frmW r inc i p x y e) 2).1) ∧ WrT w d F F bf w w' (wrfE (E, m) (firstS 4 p) (frmW r inc i p x y e) 2) := by
  have h := wframe_of hb hw hL hLM 4 (p : Int) (first4_pos hp) A _ c _ hby (by rw [wid4]; exact hse) hfew
  rw [wid4] at h
  exact h
theorem wframe3 {w : World} {F : Nat → Prop} {g d s : Nat} {r inc i : Int} {bl bi bu bf : Nat} {m : DM} {E : Int} (hb : WBox w F g d s r inc i bl bi bu bf) (hw : WrS w d F F bf w (E, m)) (hL : LaidF w) (hLM : ∀ V, Mod (fun k => F k ∨ k = bf) w V → LaidF V)
    (q : Nat) (hq : q < 24) (A : Option Addr) (c : Nat) (x y k : Int) (hby : By w A 8 c (recL x y k)) (hse : sealE r 3 q i inc 8 1 = 0) (hfew : m.waits.length + 4 ≤ 1000000) :
    Calls Tryz.prog 149 #[.int .i64 3, .int .i64 (q : Int), .slice A 8 c, .pointer (some ⟨bl, 0, none⟩), .pointer (some ⟨bi, 0, none⟩), .pointer (some ⟨bu, 0, none⟩), .pointer (some ⟨bf, 0, none⟩)] w fun r' w' =>
      r' = .returned (.int .i64 (wrfE (E, m) (firstS 3 q) (recW r inc i q x y k) 1).1) ∧ WrT w d F F bf w w' (wrfE (E, m) (firstS 3 q) (recW r inc i q x y k) 1) := by
  have h := wframe_of hb hw hL hLM 3 (q : Int) (first3_pos hq) A _ c _ hby (by rw [wid3]; exact hse) hfew
  rw [wid3] at h
  exact h
set_option maxHeartbeats 2400000 in
theorem wput_core {w : World} {F : Nat → Prop} {g d s i q p : Nat} {r inc x y k : Int} {e : Ent} {m : DM} (rc : Rec) (f0 f1 : CopL) (h : LogAt w g d r inc s) (hd : PDisk w d F m) (hg : ¬ F g) (hL : LaidF w) (hLS : LaidS w) (hLM : ∀ V, Mod F w V → LaidF V)
    (hk : ∀ V, Ext w V → Calls Tryz.prog 67 #[.pointer (some ⟨g, 0, none⟩), .int .i64 (i : Int)] V fun r w' => r = .returned (.int .i64 0) ∧ Ext V w') (hr : ∀ V, Ext w V → Calls Tryz.prog 68 #[.pointer (some ⟨g, 0, none⟩)] V fun r w' => r = .returned (.int .i64 0) ∧ V = w')
    (hpr : ∀ V, Ext w V → Calls Tryz.prog 65 #[.agg #[.int .i64 x, .int .i64 y], .agg #[.int .u8 (e.k : Int), .int .i64 e.cl, .int .i64 e.sq, .int .u8 (e.ok : Int), .string e.key, .string e.old, .string e.val]] V fun r w' => ∃ A' c', r = .returned (.tuple #[.slice A' (bodyL x y e).length c', .int .i64 0]) ∧ By w' A' (bodyL x y e).length c' (bodyL x y e) ∧ Ext V w')
    (hrd : ∀ V, Ext w V → Calls Tryz.prog 69 #[.pointer (some ⟨g, 0, none⟩), .int .i64 (i : Int)] V fun r w' => r = .returned (.tuple #[.agg #[.int .u8 (rc.st : Int), .int .i64 rc.ix, .int .i64 rc.bx, .int .i64 rc.yb, .int .i64 rc.wh], .agg #[.int .u8 (f0.st : Int), .int .i64 f0.ix, .int .i64 f0.bx, .int .i64 f0.yb, .int .u8 (f0.e.k : Int), .int .i64 f0.e.cl, .int .i64 f0.e.sq, .int .u8 (f0.e.ok : Int), .string f0.e.key, .string f0.e.old, .string f0.e.val, .int .u8 (f1.st : Int), .int .i64 f1.ix, .int .i64 f1.bx, .int .i64 f1.yb, .int .u8 (f1.e.k : Int), .int .i64 f1.e.cl, .int .i64 f1.e.sq, .int .u8 (f1.e.ok : Int), .string f1.e.key, .string f1.e.old, .string f1.e.val]]) ∧ Ext V w')
    (hnx : ∀ V, Calls Tryz.prog 70 #[.agg #[.int .u8 (rc.st : Int), .int .i64 rc.ix, .int .i64 rc.bx, .int .i64 rc.yb, .int .i64 rc.wh], .agg #[.int .u8 (f0.st : Int), .int .i64 f0.ix, .int .i64 f0.bx, .int .i64 f0.yb, .int .u8 (f0.e.k : Int), .int .i64 f0.e.cl, .int .i64 f0.e.sq, .int .u8 (f0.e.ok : Int), .string f0.e.key, .string f0.e.old, .string f0.e.val, .int .u8 (f1.st : Int), .int .i64 f1.ix, .int .i64 f1.bx, .int .i64 f1.yb, .int .u8 (f1.e.k : Int), .int .i64 f1.e.cl, .int .i64 f1.e.sq, .int .u8 (f1.e.ok : Int), .string f1.e.key, .string f1.e.old, .string f1.e.val], .int .i64 (i : Int)] V fun r w' => r = .returned (.int .i64 k) ∧ Ext V w')
    (hpn : ∀ V, Ext w V → Calls Tryz.prog 71 #[.agg #[.int .i64 x, .int .i64 y], .int .i64 k] V fun r w' => ∃ A' c', r = .returned (.tuple #[.slice A' 8 c', .int .i64 0]) ∧ By w' A' 8 c' (recL x y k) ∧ (∀ g o, A' = some ⟨g, o, none⟩ → V.heap.size ≤ g) ∧ Ext V w')
    (hfp : ∀ V, Calls Tryz.prog 73 #[.int .i64 (i : Int), .int .i64 k] V fun r w' => r = .returned (.int .i64 (p : Int)) ∧ V = w') (hrp : ∀ V, Calls Tryz.prog 74 #[.int .i64 (i : Int)] V fun r w' => r = .returned (.int .i64 (q : Int)) ∧ V = w')
    (hp : p < 48) (hq : q < 24) (hs4 : sealE r 4 (p : Int) (i : Int) inc (bodyL x y e).length 2 = 0) (hs3 : sealE r 3 (q : Int) (i : Int) inc 8 1 = 0) (hfew : m.waits.length + 20 ≤ 1000000) :
    Calls Tryz.prog 16 #[.pointer (some ⟨g, 0, none⟩), .int .i64 (i : Int), .agg #[.int .i64 x, .int .i64 y], .agg #[.int .u8 (e.k : Int), .int .i64 e.cl, .int .i64 e.sq, .int .u8 (e.ok : Int), .string e.key, .string e.old, .string e.val]] w fun r' w' => r' = .returned (.int .i64 (wrfE (wrfE (0, m) (firstS 4 p) (frmW r inc i p x y e) 2) (firstS 3 q) (recW r inc i q x y k) 1).1) ∧ Step d F w (wrfE (wrfE (0, m) (firstS 4 p) (frmW r inc i p x y e) 2) (firstS 3 q) (recW r inc i q x y k) 1).2 w' := by
  have HK := Lib.hid hk
  have HR := Lib.hid hr
  have HPR := Lib.hid hpr
  have HRD := Lib.hid hrd
  have HNX := Lib.hid hnx
  have HPN := Lib.hid hpn
  have HFP := Lib.hid hfp
  have HRP := Lib.hid hrp
  have H := Lib.hid (And.intro h (And.intro hd hg))
  have HLL := Lib.hid (And.intro hL (And.intro hLS hLM))
  have HSE := Lib.hid (And.intro hs4 hs3)
  have HPQ := Lib.hid (And.intro hp hq)
  have HFW := Lib.hid hfew
  have hi4 : (Tryz.prog.info? 150).map (·.size) = some 22 := by kernel_rfl
  have HI4 := Lib.hid hi4
  have hxb := (Ext.refl w).alloc (.cells #[.int .i64 x, .int .i64 y] 38)
  have hx2 := hxb.alloc (.cells #[.int .u8 (e.k : Int), .int .i64 e.cl, .int .i64 e.sq, .int .u8 (e.ok : Int), .string e.key, .string e.old, .string e.val] 42)
  have hrb := keep_row ((Ext.refl (w.alloc (.cells #[.int .i64 x, .int .i64 y] 38))).alloc (.cells #[.int .u8 (e.k : Int), .int .i64 e.cl, .int .i64 e.sq, .int .u8 (e.ok : Int), .string e.key, .string e.old, .string e.val] 42)) (heap_alloc_new w (.cells #[.int .i64 x, .int .i64 y] 38))
  have HX := Lib.hid hx2
  have HRB := Lib.hid hrb
  clear hk hr hpr hrd hnx hpn hfp hrp h hd hg hL hLS hLM hs4 hs3 hp hq hfew hi4 hxb hx2 hrb
  go_enter Tryz.func16, Tryz.ntmps16
  go_wp2_with fail
  obtain ⟨bb, hbb⟩ : ∃ bb, w.heap.size = bb := ⟨_, rfl⟩
  have HBB := Lib.hid hbb
  rw [hbb] at HRB ⊢
  generalize (w.alloc (.cells #[.int .i64 x, .int .i64 y] 38)).alloc (.cells #[.int .u8 (e.k : Int), .int .i64 e.cl, .int .i64 e.sq, .int .u8 (e.ok : Int), .string e.key, .string e.old, .string e.val] 42) = V0 at HX HRB ⊢
  clear hbb
  refine (HPR.out _ HX.out).mono ?_
  rintro r1 w1 ⟨A1, c1, rfl, hb, hx⟩
  have HX := Lib.hid (HX.out.trans hx)
  have HRB := Lib.hid (keep_row hx HRB.out)
  have HBY := Lib.hid hb
  clear hx hb
  go_wp2_with fail
  refine (HK.out _ HX.out).mono ?_
  rintro r1 w2 ⟨rfl, hx⟩
  have HX := Lib.hid (HX.out.trans hx)
  have HRB := Lib.hid (keep_row hx HRB.out)
  have HBY := Lib.hid (HBY.out.ext hx)
  clear hx
  go_wp2_with fail
  refine (HR.out _ HX.out).mono ?_
  rintro r1 w3 ⟨rfl, rfl⟩
  go_wp2_with fail
  have hro := heap_alloc_new w2 (.cells #[.int .i64 0, .int .i64 0, .int .i64 0] 25)
  have hxo := (Ext.refl w2).alloc (.cells #[.int .i64 0, .int .i64 0, .int .i64 0] 25)
  refine (or3E w2.heap.size 3 0 0 0 _ (cell_of_row _ _ 0 _ _ _ hro) (cell_of_row _ _ 1 _ _ _ hro) (cell_of_row _ _ 2 _ _ _ hro)).mono ?_
  rw [show orI 0 (orI 0 0) = 0 from rfl]
  rintro r1 w3 ⟨rfl, rfl⟩
  have HX := Lib.hid (HX.out.trans hxo)
  have HRB := Lib.hid (keep_row hxo HRB.out)
  have HBY := Lib.hid (HBY.out.ext hxo)
  clear hro hxo
  generalize w2.alloc (.cells #[.int .i64 0, .int .i64 0, .int .i64 0] 25) = V2 at *
  go_wp2_with fail
  refine (HRD.out _ HX.out).mono ?_
  rintro r1 w3 ⟨rfl, hx⟩
  have HX := Lib.hid (HX.out.trans hx)
  have HRB := Lib.hid (keep_row hx HRB.out)
  have HBY := Lib.hid (HBY.out.ext hx)
  clear hx
  go_upto_region 6 with (refine wpList_store_fresh rfl 150 _ _ rfl #[.int .u8 (f0.st : Int), .int .i64 f0.ix, .int .i64 f0.bx, .int .i64 f0.yb, .int .u8 (f0.e.k : Int), .int .i64 f0.e.cl, .int .i64 f0.e.sq, .int .u8 (f0.e.ok : Int), .string f0.e.key, .string f0.e.old, .string f0.e.val, .int .u8 (f1.st : Int), .int .i64 f1.ix, .int .i64 f1.bx, .int .i64 f1.yb, .int .u8 (f1.e.k : Int), .int .i64 f1.e.cl, .int .i64 f1.e.sq, .int .u8 (f1.e.ok : Int), .string f1.e.key, .string f1.e.old, .string f1.e.val] (w3.heap.size + 1) (by simp) rfl rfl rfl HI4.out (by simp [Value.oneCell']) ?_)
  simp only [Act.put]
  have hr1 := keep_row ((Ext.refl (w3.alloc (.cells #[.int .u8 (rc.st : Int), .int .i64 rc.ix, .int .i64 rc.bx, .int .i64 rc.yb, .int .i64 rc.wh] 147))).alloc (.cells #[.int .u8 (f0.st : Int), .int .i64 f0.ix, .int .i64 f0.bx, .int .i64 f0.yb, .int .u8 (f0.e.k : Int), .int .i64 f0.e.cl, .int .i64 f0.e.sq, .int .u8 (f0.e.ok : Int), .string f0.e.key, .string f0.e.old, .string f0.e.val, .int .u8 (f1.st : Int), .int .i64 f1.ix, .int .i64 f1.bx, .int .i64 f1.yb, .int .u8 (f1.e.k : Int), .int .i64 f1.e.cl, .int .i64 f1.e.sq, .int .u8 (f1.e.ok : Int), .string f1.e.key, .string f1.e.old, .string f1.e.val] 150)) (heap_alloc_new w3 (.cells #[.int .u8 (rc.st : Int), .int .i64 rc.ix, .int .i64 rc.bx, .int .i64 rc.yb, .int .i64 rc.wh] 147))
  have hr2 := heap_alloc2_new w3 (.cells #[.int .u8 (rc.st : Int), .int .i64 rc.ix, .int .i64 rc.bx, .int .i64 rc.yb, .int .i64 rc.wh] 147) (.cells #[.int .u8 (f0.st : Int), .int .i64 f0.ix, .int .i64 f0.bx, .int .i64 f0.yb, .int .u8 (f0.e.k : Int), .int .i64 f0.e.cl, .int .i64 f0.e.sq, .int .u8 (f0.e.ok : Int), .string f0.e.key, .string f0.e.old, .string f0.e.val, .int .u8 (f1.st : Int), .int .i64 f1.ix, .int .i64 f1.bx, .int .i64 f1.yb, .int .u8 (f1.e.k : Int), .int .i64 f1.e.cl, .int .i64 f1.e.sq, .int .u8 (f1.e.ok : Int), .string f1.e.key, .string f1.e.old, .string f1.e.val] 150)
  have hx1 := ((Ext.refl w3).alloc (.cells #[.int .u8 (rc.st : Int), .int .i64 rc.ix, .int .i64 rc.bx, .int .i64 rc.yb, .int .i64 rc.wh] 147)).alloc (.cells #[.int .u8 (f0.st : Int), .int .i64 f0.ix, .int .i64 f0.bx, .int .i64 f0.yb, .int .u8 (f0.e.k : Int), .int .i64 f0.e.cl, .int .i64 f0.e.sq, .int .u8 (f0.e.ok : Int), .string f0.e.key, .string f0.e.old, .string f0.e.val, .int .u8 (f1.st : Int), .int .i64 f1.ix, .int .i64 f1.bx, .int .i64 f1.yb, .int .u8 (f1.e.k : Int), .int .i64 f1.e.cl, .int .i64 f1.e.sq, .int .u8 (f1.e.ok : Int), .string f1.e.key, .string f1.e.old, .string f1.e.val] 150)
  have HX := Lib.hid (HX.out.trans hx1)
  have HRB := Lib.hid (keep_row hx1 HRB.out)
  have HBY := Lib.hid (HBY.out.ext hx1)
  generalize (w3.alloc (.cells #[.int .u8 (rc.st : Int), .int .i64 rc.ix, .int .i64 rc.bx, .int .i64 rc.yb, .int .i64 rc.wh] 147)).alloc (.cells #[.int .u8 (f0.st : Int), .int .i64 f0.ix, .int .i64 f0.bx, .int .i64 f0.yb, .int .u8 (f0.e.k : Int), .int .i64 f0.e.cl, .int .i64 f0.e.sq, .int .u8 (f0.e.ok : Int), .string f0.e.key, .string f0.e.old, .string f0.e.val, .int .u8 (f1.st : Int), .int .i64 f1.ix, .int .i64 f1.bx, .int .i64 f1.yb, .int .u8 (f1.e.k : Int), .int .i64 f1.e.cl, .int .i64 f1.e.sq, .int .u8 (f1.e.ok : Int), .string f1.e.key, .string f1.e.old, .string f1.e.val] 150) = W at *
  generalize w3.heap.size = g1 at *
  have c0 := cell_of_row W g1 0 _ _ _ (hr1)
  have c1 := cell_of_row W g1 1 _ _ _ (hr1)
  have c2 := cell_of_row W g1 2 _ _ _ (hr1)
  have c3 := cell_of_row W g1 3 _ _ _ (hr1)
  have c4 := cell_of_row W g1 4 _ _ _ (hr1)
  have HRN : Hid (W.rangeAt (g1 + 1) 0 [.int .u8 (f0.st : Int), .int .i64 f0.ix, .int .i64 f0.bx, .int .i64 f0.yb, .int .u8 (f0.e.k : Int), .int .i64 f0.e.cl, .int .i64 f0.e.sq, .int .u8 (f0.e.ok : Int), .string f0.e.key, .string f0.e.old, .string f0.e.val, .int .u8 (f1.st : Int), .int .i64 f1.ix, .int .i64 f1.bx, .int .i64 f1.yb, .int .u8 (f1.e.k : Int), .int .i64 f1.e.cl, .int .i64 f1.e.sq, .int .u8 (f1.e.ok : Int), .string f1.e.key, .string f1.e.old, .string f1.e.val]) := Lib.hid (row_range [.int .u8 (f0.st : Int), .int .i64 f0.ix, .int .i64 f0.bx, .int .i64 f0.yb, .int .u8 (f0.e.k : Int), .int .i64 f0.e.cl, .int .i64 f0.e.sq, .int .u8 (f0.e.ok : Int), .string f0.e.key, .string f0.e.old, .string f0.e.val, .int .u8 (f1.st : Int), .int .i64 f1.ix, .int .i64 f1.bx, .int .i64 f1.yb, .int .u8 (f1.e.k : Int), .int .i64 f1.e.cl, .int .i64 f1.e.sq, .int .u8 (f1.e.ok : Int), .string f1.e.key, .string f1.e.old, .string f1.e.val] hr2 0)
  clear hr1 hr2 hx1
  go_wp2_with (refine wpList_load_mid rfl 150 _ rfl (g1 + 1) 0 rfl [.int .u8 (f0.st : Int), .int .i64 f0.ix, .int .i64 f0.bx, .int .i64 f0.yb, .int .u8 (f0.e.k : Int), .int .i64 f0.e.cl, .int .i64 f0.e.sq, .int .u8 (f0.e.ok : Int), .string f0.e.key, .string f0.e.old, .string f0.e.val, .int .u8 (f1.st : Int), .int .i64 f1.ix, .int .i64 f1.bx, .int .i64 f1.yb, .int .u8 (f1.e.k : Int), .int .i64 f1.e.cl, .int .i64 f1.e.sq, .int .u8 (f1.e.ok : Int), .string f1.e.key, .string f1.e.old, .string f1.e.val] _ HRN.out Tryz.underlying150 rfl HI4.out ?_)
  refine (HNX.out W).mono ?_
  rintro r1 w4 ⟨rfl, hx⟩
  have HX := Lib.hid (HX.out.trans hx)
  have HRB := Lib.hid (keep_row hx HRB.out)
  have HBY := Lib.hid (HBY.out.ext hx)
  clear hx c0 c1 c2 c3 c4 HRN
  have b0 := cell_of_row w4 bb 0 _ _ _ HRB.out
  have b1 := cell_of_row w4 bb 1 _ _ _ HRB.out
  go_wp2_with fail
  refine (HPN.out _ HX.out).mono ?_
  rintro r1 w5 ⟨A5, c5, rfl, hb5, hf5, hx⟩
  have HF5 : Hid (∀ g o, A5 = some ⟨g, o, none⟩ → w.heap.size ≤ g) := Lib.hid fun g o hA => Nat.le_trans HX.out.size (hf5 g o hA)
  have HX := Lib.hid (HX.out.trans hx)
  have HBY := Lib.hid (HBY.out.ext hx)
  have HB5 := Lib.hid hb5
  clear hx hb5 hf5 b0 b1 HRB
  go_wp2_with fail
  refine (writing_of g (i : Int) w5).mono ?_
  rintro r1 w6 ⟨bl, bi, bf, bu, rfl, hge, hne, hx, hcl, hci, hrf, hcu⟩
  have hx6 : Ext w w6 := HX.out.trans hx
  have hs5 := HX.out.size
  have hF := H.out.2.1.lt
  have hgl := H.out.1.lt
  have hoff : ∀ k, w5.heap.size ≤ k → ¬ F k := fun k hk hf => by have := hF k hf; omega
  have HWB : Hid (WBox w6 F g d s r inc (i : Int) bl bi bu bf) := Lib.hid ⟨H.out.1.ext hx6, hcl, hci, hcu, ⟨H.out.2.2, hoff _ hge.1, hoff _ hge.2.1, hoff _ hge.2.2.2⟩, ⟨by omega, hne.1, hne.2.1, hne.2.2⟩⟩
  have HWS : Hid (WrS w6 d F F bf w6 (0, m)) := Lib.hid (WrS.start (H.out.2.1.ext hx6) (hoff _ hge.2.2.1) hrf)
  have HLM : Hid (∀ V, Mod (fun k => F k ∨ k = bf) w6 V → LaidF V) := Lib.hid fun V hV => HLL.out.2.2 V ((Mod.of_ext hx6).trans hV fun k hk => hk.imp id fun e => by subst e; omega)
  have HL6 := Lib.hid (HLL.out.1.ext hx6)
  have HBY := Lib.hid (HBY.out.ext hx)
  obtain ⟨g5, o5, e5, hlt5, _⟩ := HB5.out.rd.2 (show 0 < (recL x y k).length by rw [recL_length]; omega)
  subst e5
  have HO5 : Hid (Off (fun k => F k ∨ k = bf) (some ⟨g5, o5, none⟩)) := Lib.hid fun p hp => by
    injection hp with hp
    subst hp
    have h1 := HF5.out g5 o5 rfl
    rintro (h2 | h2)
    · have h3 : g5 < w.heap.size := hF _ h2
      omega
    · have h3 : g5 = bf := h2
      omega
  have HB5 := Lib.hid (HB5.out.ext hx)
  have HX6 := Lib.hid hx6
  have HBF : Hid (w.heap.size ≤ bf) := Lib.hid (by omega)
  clear hge hne hx hcl hci hrf hcu hx6 hs5 hF hgl hoff hlt5 HF5
  go_wp2_with fail
  refine (HFP.out _).mono ?_
  rintro r1 w7 ⟨rfl, rfl⟩
  go_wp2_with fail
  refine (wframe4 HWB.out HWS.out HL6.out HLM.out p HPQ.out.1 A1 c1 x y e HBY.out HSE.out.1 (by have := HFW.out; omega)).mono ?_
  obtain ⟨E1, hE1⟩ : ∃ E1, (wrfE (0, m) (firstS 4 p) (frmW r inc i p x y e) 2).1 = E1 := ⟨_, rfl⟩
  obtain ⟨m1, hm1⟩ : ∃ m1, (wrfE (0, m) (firstS 4 p) (frmW r inc i p x y e) 2).2 = m1 := ⟨_, rfl⟩
  have HX1 : Hid (wrfE (0, m) (firstS 4 p) (frmW r inc i p x y e) 2 = (E1, m1)) := Lib.hid (by rw [← hE1, ← hm1])
  have HWT : Hid (m1.waits.length ≤ m.waits.length + 2) := Lib.hid (by rw [← hm1]; exact wrf_waits 2)
  rw [HX1.out]
  clear hE1 hm1
  rintro r1 w7 ⟨rfl, F2, hw7, hs7, hm7⟩
  have HWB := Lib.hid (HWB.out.wrt hs7 hm7)
  have HWS2 : Hid (WrS w7 d F2 F2 bf w7 (E1, m1)) := Lib.hid (WrS.start hw7.disk hw7.off hw7.row)
  have HB5 := Lib.hid (HB5.out.mod hm7 HO5.out)
  have HL7 := Lib.hid (HLM.out w7 hm7)
  have HW7 := Lib.hid hw7
  have HLM2 : Hid (∀ V, Mod (fun k => F2 k ∨ k = bf) w7 V → LaidF V) := Lib.hid fun V hV => HLM.out V (hm7.trans hV fun k hk => by
    rcases hk with hk | hk
    · exact (hw7.sub k hk).imp .inl id
    · exact .inl (.inr hk))
  clear hw7 hs7 hm7
  go_wp2_with fail
  refine (HRP.out _).mono ?_
  rintro r1 w8 ⟨rfl, rfl⟩
  go_wp2_with fail
  refine (wframe3 HWB.out HWS2.out HL7.out HLM2.out q HPQ.out.2 (some ⟨g5, o5, none⟩) c5 x y k HB5.out HSE.out.2 (by have h1 := HFW.out; have h2 := HWT.out; omega)).mono ?_
  rintro r1 w8 ⟨rfl, F3, hw8, hs8, hm8⟩
  have HW8 := Lib.hid hw8
  clear hw8 hs8 hm8
  go_wp2_with fail
  go_ret
  rw [HX1.out]
  refine ⟨rfl, ?_⟩
  have h7 := HW7.out
  have h8 := HW8.out
  have hx6 := HX6.out
  have hb := HBF.out
  have hz7 := h7.mod.size
  have hz6 := hx6.size
  refine ⟨h8.disk.more (fun k hk => ?_) (fun k hk => ?_), ((Mod.of_ext (F := F) hx6).trans h7.mod fun k hk => ?_).trans h8.mod fun k hk => ?_⟩
  · have hlt := h8.disk.lt k hk
    rcases h8.sub k hk with h1 | h1
    · rcases h7.sub k h1 with h2 | h2
      · exact .inl h2
      · exact .inr ⟨by omega, hlt⟩
    · exact .inr ⟨by omega, hlt⟩
  · rcases hk with hk | hk
    · have h1 := H.out.2.1.lt k hk
      have h2 := h8.mod.size
      omega
    · exact hk.2
  · rcases hk with hk | hk
    · exact .inl hk
    · subst hk; exact .inr hb
  · rcases hk with hk | hk
    · rcases h7.sub k hk with h2 | h2
      · exact .inl h2
      · exact .inr (by omega)
    · subst hk; exact .inr hb
set_option maxHeartbeats 800000 in
theorem wput_of {w : World} {F : Nat → Prop} {g d s : Nat} {r inc : Int} {m : DM} (h : LogAt w g d r inc s) (hd : PDisk w d F m) (hg : ¬ F g) (hL : LaidF w) (hLS : LaidS w) (hLM : ∀ V, Mod F w V → LaidF V) (hr : 0 ≤ r ∧ r ≤ 6) (hc : 1 ≤ inc ∧ inc ≤ 1099511627776) (hs : s ≤ 1099511627752)
    (i x y : Int) (e : Ent) (hok : e.ok < 256) (hfew : m.waits.length + 20 ≤ 1000000) :
    Calls Tryz.prog 16 #[.pointer (some ⟨g, 0, none⟩), .int .i64 i, .agg #[.int .i64 x, .int .i64 y], .agg #[.int .u8 (e.k : Int), .int .i64 e.cl, .int .i64 e.sq, .int .u8 (e.ok : Int), .string e.key, .string e.old, .string e.val]] w fun r' w' => r' = .returned (.int .i64 (m.putA s r inc i x y e).1) ∧ Step d F w (m.putA s r inc i x y e).2 w' := by
  by_cases h0 : putE m s i x y e = 0
  · have hq : m.putA s r inc i x y e = m.putW r inc i x y e := if_pos h0
    rw [hq]
    obtain ⟨hl, hv, hu⟩ : ((s : Int) + 1 ≤ i ∧ i ≤ (s : Int) + 24) ∧ (balE x y = true ∧ enOk e = true) ∧ m.up = true := by
      unfold putE at h0
      split at h0
      · cases h0
      · rename_i h1
        split at h0
        · cases h0
        · rename_i h2
          split at h0
          · cases h0
          · rename_i h3
            exact ⟨Decidable.not_not.1 h1, Decidable.not_not.1 h2, by simpa using h3⟩
    obtain ⟨n, rfl⟩ := Int.eq_ofNat_of_zero_le (show 0 ≤ i by omega)
    obtain ⟨q, hpq, hq24⟩ := placeW_nat (i := (n : Int))
    obtain ⟨k, hk⟩ : ∃ k : Nat, m.nextW r n = (k : Int) ∧ k < 2 := by
      rcases nextW_two m r n with e | e
      · exact ⟨0, by rw [e]; rfl, by omega⟩
      · exact ⟨1, by rw [e]; rfl, by omega⟩
    have hp48 : 2 * q + k < 48 := by omega
    have hm3 := mayW3 (r := r) (inc := inc) (i := (n : Int)) hr (by omega) hc hq24
    have hm4 := mayW4 (r := r) (inc := inc) (i := (n : Int)) hr (by omega) hc hp48
    have h4 := sealW4 (x := x) (y := y) hm4 hv.2
    have h3 := sealW3 (x := x) (y := y) (k := k) hm3
    have hl4 : (frmW r inc n ((2 * q + k : Nat) : Int) x y e).length = 128 := by unfold frmW; rw [(sealL_len h4).1]; rfl
    have hl3 : (recW r inc n (q : Int) x y (k : Int)).length = 64 := by unfold recW; rw [(sealL_len h3).1]; rfl
    have hput : m.putW r inc n x y e = wrfE (wrfE (0, m) (firstS 4 ((2 * q + k : Nat) : Int)) (frmW r inc n ((2 * q + k : Nat) : Int) x y e) 2) (firstS 3 (q : Int)) (recW r inc n (q : Int) x y (k : Int)) 1 := by
      have he : ((2 * q + k : Nat) : Int) = 2 * (q : Int) + (k : Int) := by omega
      unfold DM.putW
      rw [hpq, hk.1, ← two_putK (by rw [← he]; exact hl4) hl3, he]
      rfl
    rw [hput]
    have hke : liveE s (n : Int) = 0 := if_pos hl
    have hue : upE m = 0 := if_pos hu
    have hpe : pR x y e = 0 := pR_yes hv.1 hv.2
    have hpl : pL x y e = bodyL x y e := pL_yes hv.1 hv.2
    have hk01 : (k : Int) = 0 ∨ (k : Int) = 1 := by omega
    rw [recL_length] at h3
    refine wput_core (m.recM r (placeW (n : Int))) (m.copM r (2 * placeW (n : Int))) (m.copM r (2 * placeW (n : Int) + 1)) h hd hg hL hLS hLM (fun V hV => ?_) (fun V hV => ?_) (fun V hV => ?_) (fun V hV => wread_of (h.ext hV) (hd.ext hV) (hL.ext hV) (hLS.ext hV) n (by omega) (by omega) (by omega)) (fun V => ?_) (fun V hV => ?_) (fun V => ?_) (fun V => ?_) hp48 hq24 h4 h3 hfew
    · have := wknown_of (h.ext hV) (by omega) (n : Int)
      rwa [hke] at this
    · have := wrunning_of (h.ext hV) (hd.ext hV)
      rwa [hue] at this
    · have := printE_any x y e.k e.cl e.sq e.ok e.key e.old e.val V (hL.ext hV).a.o hok
      rw [hpe, hpl] at this
      exact this
    · rw [← hk.1]
      exact next_of (m.recM r (placeW (n : Int))) (m.copM r (2 * placeW (n : Int))) (m.copM r (2 * placeW (n : Int) + 1)) (n : Int) V (recM_st _ _ _) (copM_st _ _ _) (copM_st _ _ _) (recQ_wh _ _ _)
    · have hrb : recB x y (k : Int) = true := recB_iff.2 ⟨balE_iff.1 hv.1, hk01⟩
      have hrr := recB_iff.1 hrb
      obtain ⟨a, rfl⟩ := Int.eq_ofNat_of_zero_le (show 0 ≤ x by omega)
      obtain ⟨b, rfl⟩ := Int.eq_ofNat_of_zero_le (show 0 ≤ y by omega)
      exact sprint_own a b k V (hLS.ext hV) hrb
    · have := framePlace_of n (k : Int) hk01 (by omega) (by omega) V
      rw [hpq] at this
      rwa [show ((2 * q + k : Nat) : Int) = 2 * (q : Int) + (k : Int) by omega]
    · have := recordPlace_of n (by omega) (by omega) V
      rwa [hpq] at this
  · have hq : m.putA s r inc i x y e = (putE m s i x y e, m) := if_neg h0
    rw [hq]
    exact (wput_no (some ⟨g, 0, none⟩) i x y e (liveE s i) (upE m) _ (put_err m s i x y e) h0 hL.a.o hok (fun V hV => wknown_of (h.ext hV) (by omega) i) (fun V hV => wrunning_of (h.ext hV) (hd.ext hV))).mono fun r' w' hh => ⟨hh.1, Step.of_ext hd hh.2⟩
end
section
open Go Go.RowKit
set_option maxHeartbeats 800000 in
theorem wopen_0 {w : World} (p : Option Addr) (z r c s : Int) (hs : ∀ V, Ext w V → Calls Tryz.prog 60 #[.pointer p] V fun e w' => e = .returned (.int .i64 z) ∧ V = w') (hz : z = 0) :
    Calls Tryz.prog 14 #[.pointer p, .int .i64 r, .int .i64 c, .int .i64 s] w fun e w' => e = .returned (.tuple #[.pointer none, .int .i64 1]) ∧ Ext w w' := by
  have HS := Lib.hid hs
  clear hs
  subst hz
  go_enter Tryz.func14, Tryz.ntmps14
  go_wp2_with fail
  refine (HS.out _ (Ext.refl w)).mono ?_
  rintro e w1 ⟨rfl, rfl⟩
  go_wp2_with fail
  go_ret2
  exact ⟨rfl, Ext.refl w⟩
set_option maxHeartbeats 800000 in
theorem wopen_5 {w : World} (p : Option Addr) (z r c s : Int) (hs : ∀ V, Ext w V → Calls Tryz.prog 60 #[.pointer p] V fun e w' => e = .returned (.int .i64 z) ∧ V = w') (hL : LaidF w)  (h6 : ¬ z < 156) (hi0 : inI 0 r 6 = true) (hi1 : inI 1 c 1099511627776 = true) (hi2 : inI 0 s 1099511627752 = true) (hu : ∀ V, Ext w V → Calls Tryz.prog 63 #[.pointer p] V fun e w' => e = .returned (.bool false) ∧ V = w') :
    Calls Tryz.prog 14 #[.pointer p, .int .i64 r, .int .i64 c, .int .i64 s] w fun e w' => e = .returned (.tuple #[.pointer none, .int .i64 5]) ∧ Ext w w' := by
  have HS := Lib.hid hs
  have HL := Lib.hid hL
  have HI0 : Hid (∀ V, Calls Tryz.prog 62 #[.int .i64 0, .int .i64 r, .int .i64 6] V fun e w' => e = .returned (.bool true) ∧ V = w') := Lib.hid fun V => by rw [← hi0]; exact isWithin_of _ _ _ V
  have HI1 : Hid (∀ V, Calls Tryz.prog 62 #[.int .i64 1, .int .i64 c, .int .i64 1099511627776] V fun e w' => e = .returned (.bool true) ∧ V = w') := Lib.hid fun V => by rw [← hi1]; exact isWithin_of _ _ _ V
  have HI2 : Hid (∀ V, Calls Tryz.prog 62 #[.int .i64 0, .int .i64 s, .int .i64 1099511627752] V fun e w' => e = .returned (.bool true) ∧ V = w') := Lib.hid fun V => by rw [← hi2]; exact isWithin_of _ _ _ V
  have HU := Lib.hid hu
  clear hs hL hi0 hi1 hi2 hu
  go_enter Tryz.func14, Tryz.ntmps14
  go_wp2_with fail
  refine (HS.out _ (Ext.refl w)).mono ?_
  rintro e w1 ⟨rfl, rfl⟩
  go_wp2_with fail
  refine (HS.out _ (Ext.refl w)).mono ?_
  rintro e w1 ⟨rfl, rfl⟩
  go_wp2_with fail
  refine (all_any _ HL.out.a.t).mono ?_
  rintro e w1 ⟨rfl, hx⟩
  have HX := Lib.hid hx
  clear hx
  go_wp2_with fail
  refine (HI0.out _).mono ?_
  rintro e w2 ⟨rfl, rfl⟩
  go_wp2_with fail
  refine (HI1.out _).mono ?_
  rintro e w2 ⟨rfl, rfl⟩
  go_wp2_with fail
  refine (HI2.out _).mono ?_
  rintro e w2 ⟨rfl, rfl⟩
  go_wp2_with fail
  refine (HU.out _ HX.out).mono ?_
  rintro e w2 ⟨rfl, rfl⟩
  go_wp2_with fail
  go_ret2
  exact ⟨rfl, HX.out⟩
set_option maxHeartbeats 800000 in
theorem wopen_6 {w : World} (p : Option Addr) (z r c s : Int) (hs : ∀ V, Ext w V → Calls Tryz.prog 60 #[.pointer p] V fun e w' => e = .returned (.int .i64 z) ∧ V = w') (hL : LaidF w)  (h6 : ¬ z < 156) (hi0 : inI 0 r 6 = true) (hi1 : inI 1 c 1099511627776 = true) (hi2 : inI 0 s 1099511627752 = true) (hu : ∀ V, Ext w V → Calls Tryz.prog 63 #[.pointer p] V fun e w' => e = .returned (.bool true) ∧ V = w') :
    Calls Tryz.prog 14 #[.pointer p, .int .i64 r, .int .i64 c, .int .i64 s] w fun e w' => ∃ g, e = .returned (.tuple #[.pointer (some ⟨g, 0, none⟩), .int .i64 0]) ∧ w'.heap[g]? = some (.cells #[.pointer (some ⟨g, 0, none⟩), .pointer p, .int .i64 r, .int .i64 c, .int .i64 s] 142 (0, 0)) ∧ w.heap.size ≤ g ∧ Ext w w' := by
  have HS := Lib.hid hs
  have HL := Lib.hid hL
  have HI0 : Hid (∀ V, Calls Tryz.prog 62 #[.int .i64 0, .int .i64 r, .int .i64 6] V fun e w' => e = .returned (.bool true) ∧ V = w') := Lib.hid fun V => by rw [← hi0]; exact isWithin_of _ _ _ V
  have HI1 : Hid (∀ V, Calls Tryz.prog 62 #[.int .i64 1, .int .i64 c, .int .i64 1099511627776] V fun e w' => e = .returned (.bool true) ∧ V = w') := Lib.hid fun V => by rw [← hi1]; exact isWithin_of _ _ _ V
  have HI2 : Hid (∀ V, Calls Tryz.prog 62 #[.int .i64 0, .int .i64 s, .int .i64 1099511627752] V fun e w' => e = .returned (.bool true) ∧ V = w') := Lib.hid fun V => by rw [← hi2]; exact isWithin_of _ _ _ V
  have HU := Lib.hid hu
  clear hs hL hi0 hi1 hi2 hu
  go_enter Tryz.func14, Tryz.ntmps14
  go_wp2_with fail
  refine (HS.out _ (Ext.refl w)).mono ?_
  rintro e w1 ⟨rfl, rfl⟩
  go_wp2_with fail
  refine (HS.out _ (Ext.refl w)).mono ?_
  rintro e w1 ⟨rfl, rfl⟩
  go_wp2_with fail
  refine (all_any _ HL.out.a.t).mono ?_
  rintro e w1 ⟨rfl, hx⟩
  have HX := Lib.hid hx
  clear hx
  go_wp2_with fail
  refine (HI0.out _).mono ?_
  rintro e w2 ⟨rfl, rfl⟩
  go_wp2_with fail
  refine (HI1.out _).mono ?_
  rintro e w2 ⟨rfl, rfl⟩
  go_wp2_with fail
  refine (HI2.out _).mono ?_
  rintro e w2 ⟨rfl, rfl⟩
  go_wp2_with fail
  refine (HU.out _ HX.out).mono ?_
  rintro e w2 ⟨rfl, rfl⟩
  go_wp2_with fail
  go_ret2
  exact ⟨w1.heap.size, rfl, heap_alloc_new w1 _, HX.out.size, HX.out.alloc _⟩
def openE (m : DM) (r c s : Int) : Int := if m.size < 156 then 2 else if inI 0 r 6 = false then 2 else if inI 1 c 1099511627776 = false then 2 else if inI 0 s 1099511627752 = false then 2 else if m.up = false then 5 else 0
section
variable {w : World} {d : Nat} {F : Nat → Prop} {m : DM}
theorem openE_zero {m : DM} {r c s : Int} (h : openE m r c s = 0) : 156 ≤ m.size ∧ (0 ≤ r ∧ r ≤ 6) ∧ (1 ≤ c ∧ c ≤ 1099511627776) ∧ (0 ≤ s ∧ s ≤ 1099511627752) ∧ m.up = true := by
  unfold openE inI at h
  split at h
  · cases h
  · split at h
    · cases h
    · split at h
      · cases h
      · split at h
        · cases h
        · split at h
          · cases h
          · rename_i h1 h2 h3 h4 h5
            simp at h2 h3 h4 h5
            exact ⟨by omega, h2, h3, h4, h5⟩
theorem wopen_yes (h : PDisk w d F m) (hL : LaidF w) (r c s : Int) (hE : openE m r c s = 0) :
    Calls Tryz.prog 14 #[.pointer (some ⟨d, 0, none⟩), .int .i64 r, .int .i64 c, .int .i64 s] w fun e w' => ∃ g, e = .returned (.tuple #[.pointer (some ⟨g, 0, none⟩), .int .i64 0]) ∧ LogAt w' g d r c s.toNat ∧ w.heap.size ≤ g ∧ Ext w w' := by
  obtain ⟨h6, hr, hc, hs', hu⟩ := openE_zero hE
  refine (wopen_6 (some ⟨d, 0, none⟩) (m.size : Nat) r c s (fun V hV => size_pd (h.ext hV)) hL (by omega) (by unfold inI; simp [hr]) (by unfold inI; simp [hc]) (by unfold inI; simp [hs']) (fun V hV => by rw [← hu]; exact up_pd (h.ext hV))).mono fun e w' ⟨g, he, hr, hg, hx⟩ => ⟨g, he, ⟨?_⟩, hg, hx⟩
  rw [Int.toNat_of_nonneg hs'.1]
  exact hr
end
end
section
open Go Go.RowKit
structure LD (w0 w : World) (d : Nat) (F : Nat → Prop) (g s : Nat) (r inc : Int) (m : DM) : Prop where
  dk : DK w0 w d F m
  log : LogAt w g d r inc s
  off : ¬ F g
  low : w0.heap.size ≤ g
section
variable {w0 w w' : World} {d : Nat} {F : Nat → Prop} {g s : Nat} {r inc : Int} {m m' : DM}
theorem LD.ext (h : LD w0 w d F g s r inc m) (k : Ext w w') : LD w0 w' d F g s r inc m := ⟨h.dk.ext k, h.log.ext k, h.off, h.low⟩
theorem LD.step (h : LD w0 w d F g s r inc m) (k : Step d F w m' w') : ∃ F', LD w0 w' d F' g s r inc m' :=
  ⟨grow F w w', h.dk.step k.1 k.2, h.log.mod k.2 h.off, fun hg => hg.elim h.off fun h1 => by have := h.log.lt; omega, h.low⟩
theorem LD.laid (h : LD w0 w d F g s r inc m) (hL : LaidF w0) : LaidF w := hL.ext h.dk.bel
theorem LD.laidS (h : LD w0 w d F g s r inc m) (hL : LaidS w0) : LaidS w := hL.ext h.dk.bel
theorem LD.lm (h : LD w0 w d F g s r inc m) (hL : LaidF w0) : ∀ V, Mod F w V → LaidF V := fun _ hV => hL.ext (Below.mod h.dk.bel hV h.dk.bel.size h.dk.low)
theorem open_ld (h : DK w0 w d F m) (hL : LaidF w0) (r c : Int) (s : Nat) (hE : openE m r c s = 0) :
    Calls Tryz.prog 14 #[.pointer (some ⟨d, 0, none⟩), .int .i64 r, .int .i64 c, .int .i64 (s : Int)] w fun e w' => ∃ g, e = .returned (.tuple #[.pointer (some ⟨g, 0, none⟩), .int .i64 0]) ∧ LD w0 w' d F g s r c m :=
  (wopen_yes h.disk (hL.ext h.bel) r c s hE).mono fun e w' ⟨g, he, hl, hg, hx⟩ => ⟨g, he, h.ext hx, by rw [Int.toNat_natCast] at hl; exact hl, fun hf => by have := h.disk.lt g hf; omega, Nat.le_trans h.bel.size hg⟩
theorem put_ld (h : LD w0 w d F g s r inc m) (hL : LaidF w0) (hLS : LaidS w0) (hr : 0 ≤ r ∧ r ≤ 6) (hc : 1 ≤ inc ∧ inc ≤ 1099511627776) (hs : s ≤ 1099511627752) (i x y : Int) (e : Ent) (hok : e.ok < 256) (hfew : m.waits.length + 20 ≤ 1000000) (E : Int) (hp : m.putA s r inc i x y e = (E, m')) :
    Calls Tryz.prog 16 #[.pointer (some ⟨g, 0, none⟩), .int .i64 i, .agg #[.int .i64 x, .int .i64 y], .agg #[.int .u8 (e.k : Int), .int .i64 e.cl, .int .i64 e.sq, .int .u8 (e.ok : Int), .string e.key, .string e.old, .string e.val]] w fun r' w' => r' = .returned (.int .i64 E) ∧ ∃ F', LD w0 w' d F' g s r inc m' := by
  have hq := wput_of h.log h.dk.disk h.off (h.laid hL) (h.laidS hLS) (h.lm hL) hr hc hs i x y e hok hfew
  rw [hp] at hq
  exact hq.mono fun r' w' hh => ⟨hh.1, h.step hh.2⟩
theorem get_ld (h : LD w0 w d F g s r inc m) (hL : LaidF w0) (hLS : LaidS w0) (hs : s ≤ 1099511627752) (i : Int) (hfew : m.waits.length ≤ 1000000) (R : Rpt) (E : Int) (hR : m.lkR s r i = R) (hE : m.lkE s i = E) :
    Calls Tryz.prog 30 #[.pointer (some ⟨g, 0, none⟩), .int .i64 i] w fun e w' => e = .returned (.tuple #[.agg #[.int .i64 R.ix, .int .u8 (R.st : Int), .int .i64 R.x, .int .i64 R.y, .int .u8 (R.e.k : Int), .int .i64 R.e.cl, .int .i64 R.e.sq, .int .u8 (R.e.ok : Int), .string R.e.key, .string R.e.old, .string R.e.val], .int .i64 E]) ∧ Ext w w' := by
  subst hR hE
  exact wget_of h.log h.dk.disk (h.laid hL) (h.laidS hLS) (by omega) i hfew
theorem class_ld (h : LD w0 w d F g s r inc m) (hL : LaidF w0) (hLS : LaidS w0) (hs : s ≤ 1099511627752) (i : Int) (hfew : m.waits.length ≤ 1000000) (C : Nat) (E : Int) (hC : m.lkC s r i = C) (hE : m.lkE s i = E) :
    Calls Tryz.prog 34 #[.pointer (some ⟨g, 0, none⟩), .int .i64 i] w fun e w' => e = .returned (.tuple #[.int .u8 (C : Int), .int .i64 E]) ∧ Ext w w' := by
  subst hC hE
  exact wclass_of h.log h.dk.disk (h.laid hL) (h.laidS hLS) (by omega) i hfew
end
theorem CD.putA {m : DM} (h : CD m (-1)) {s : Nat} {i x y : Int} {e : Ent} (hi : (s : Int) + 1 ≤ i ∧ i ≤ (s : Int) + 24) (hb : balE x y = true) (he : enOk e = true) (r inc : Int) : m.putA s r inc i x y e = m.putW r inc i x y e := by
  have : putE m s i x y e = 0 := by
    unfold putE
    rw [if_neg (Decidable.not_not.2 hi), if_neg (Decidable.not_not.2 ⟨hb, he⟩), if_neg (by rw [h.up]; simp)]
  exact if_pos this
theorem awake_plain : ∃ m1, (DM.new 156).putA 0 3 1 1 1 0 noopE = (0, m1) ∧ CD m1 (-1) ∧ m1.lkE 0 1 = 0 ∧ m1.lkR 0 3 1 = ⟨1, 2, 1, 0, noopE⟩ ∧ m1.lkE 0 25 = 2 ∧ m1.lkE 8 25 = 0 ∧ m1.lkR 8 3 25 = ⟨25, 1, 0, 0, {}⟩ ∧ m1.lkE 8 8 = 2 := by
  have hb : balE 1 0 = true := balE_iff.2 (by omega)
  have hq : placeW 1 = ((0 : Nat) : Int) := by unfold placeW; omega
  have hq2 : placeW 25 = ((0 : Nat) : Int) := by unfold placeW; omega
  obtain ⟨m1, e1, c1, _, s1, _⟩ := SlD.put CD.new (r := 3) (inc := 1) (i := 1) (x := 1) (y := 0) (e := noopE) hq (by omega) (SlD.new (by omega) 3 0) (by omega) (by omega) (by omega) hb noop_ok (.inl rfl)
  have hup := c1.up
  have z : ∀ {s : Nat} {i : Int}, (s : Int) + 1 ≤ i ∧ i ≤ (s : Int) + 24 → m1.lkE s i = 0 := fun hi => lkE_zero.2 ⟨hi, hup⟩
  have t : ∀ {s : Nat} {i : Int}, ¬ ((s : Int) + 1 ≤ i ∧ i ≤ (s : Int) + 24) → m1.lkE s i = 2 := fun {s i} hi => by
    unfold DM.lkE liveE orI
    rw [if_neg hi, if_neg (by omega)]
  have z1 : m1.lkE 0 1 = 0 := z (by omega)
  have z25 : m1.lkE 8 25 = 0 := z (by omega)
  refine ⟨m1, by rw [CD.putA CD.new (by omega) hb noop_ok]; exact e1, c1, z1, ?_, t (by omega), z25, ?_, t (by omega)⟩
  · obtain ⟨a, b, c, d⟩ := SlH.told s1
    unfold DM.lkR
    rw [if_pos z1, rptW_of hq]
    exact rpt_told a b c d
  · unfold DM.lkR
    rw [if_pos z25, rptW_of hq2]
    obtain ⟨a, b, c, d1, d2, d3, _⟩ := SlH.most s1
    have hn := where_newer (i := 25) a (fun h => by have := d1 h; omega) (fun h => by have := d2 h; omega) (fun h => by have := d3 h; omega)
    obtain ⟨k, hk, _⟩ := SlH.where_ s1
    have hst : (m1.recM 3 ((0 : Nat) : Int)).st ≠ 2 := by omega
    unfold rptOf stateW repX repY repE
    rw [hn.1, if_neg (by omega), if_neg hn.2.1, if_neg (fun h => h.elim hn.2.2 fun h => hst h.1), if_neg (by omega), if_neg hn.2.1, if_neg (by omega), if_neg hn.2.1, if_neg (by omega)]
end
section
open Go Go.RowKit
structure Keep (w : World) (F : Nat → Prop) (g : Nat) (o : Obj) : Prop where
  row : w.heap[g]? = some o
  off : ¬ F g
section
variable {w w' : World} {F : Nat → Prop} {g d : Nat} {o : Obj} {m : DM}
theorem Keep.lt (h : Keep w F g o) : g < w.heap.size := (Array.getElem?_eq_some_iff.1 h.row).1
theorem Keep.new (h : PDisk w d F m) (o : Obj) : Keep (w.alloc o) F w.heap.size o := ⟨heap_alloc_new w o, fun hf => Nat.lt_irrefl _ (h.lt _ hf)⟩
end
end
section
open Go Go.RowKit
structure Kept (F F' : Nat → Prop) (w w' : World) : Prop where
  mod : Mod F w w'
  new : ∀ k, F' k → F k ∨ w.heap.size ≤ k
theorem Kept.of_ext {F : Nat → Prop} {w w' : World} (h : Ext w w') : Kept F F w w' := ⟨Mod.of_ext h, fun _ h => .inl h⟩
theorem Keep.kept {F F' : Nat → Prop} {w w' : World} {b : Nat} {o : Obj} (h : Keep w F b o) (k : Kept F F' w w') : Keep w' F' b o :=
  ⟨heap_mod h.row k.mod h.off, fun hf => (k.new b hf).elim h.off fun h1 => absurd h1 (Nat.not_le.2 h.lt)⟩
theorem Ls.more {α : Type} {cells : α → List Value} {N : Nat} {w : World} {B B' : Nat} {A : Option Addr} {n c : Nat} {l : List α} (h : Ls cells N w B A n c l) (hB : B ≤ B') : Ls cells N w B' A n c l :=
  ⟨h.len, h.cap, h.most, fun hn => by
    obtain ⟨g, o, e, hg, hc⟩ := h.rd hn
    exact ⟨g, o, e, by omega, hc⟩, h.nil_⟩
section
variable {w0 w w' : World} {d : Nat} {F : Nat → Prop} {g s : Nat} {r inc : Int} {m m' : DM}
theorem LD.stepK (h : LD w0 w d F g s r inc m) (k : Step d F w m' w') : ∃ F', LD w0 w' d F' g s r inc m' ∧ Kept F F' w w' :=
  ⟨grow F w w', ⟨h.dk.step k.1 k.2, h.log.mod k.2 h.off, fun hg => hg.elim h.off fun h1 => by have := h.log.lt; omega, h.low⟩, k.2, fun _ hi => hi.imp id fun h1 => h1.1⟩
theorem put_ldk (h : LD w0 w d F g s r inc m) (hL : LaidF w0) (hLS : LaidS w0) (hr : 0 ≤ r ∧ r ≤ 6) (hc : 1 ≤ inc ∧ inc ≤ 1099511627776) (hs : s ≤ 1099511627752) (i x y : Int) (e : Ent) (hok : e.ok < 256) (hfew : m.waits.length + 20 ≤ 1000000) (E : Int) (hp : m.putA s r inc i x y e = (E, m')) :
    Calls Tryz.prog 16 #[.pointer (some ⟨g, 0, none⟩), .int .i64 i, .agg #[.int .i64 x, .int .i64 y], .agg #[.int .u8 (e.k : Int), .int .i64 e.cl, .int .i64 e.sq, .int .u8 (e.ok : Int), .string e.key, .string e.old, .string e.val]] w fun r' w' => r' = .returned (.int .i64 E) ∧ ∃ F', LD w0 w' d F' g s r inc m' ∧ Kept F F' w w' := by
  have hq := wput_of h.log h.dk.disk h.off (h.laid hL) (h.laidS hLS) (h.lm hL) hr hc hs i x y e hok hfew
  rw [hp] at hq
  exact hq.mono fun r' w' hh => ⟨hh.1, h.stepK hh.2⟩
end
end
end Go.Proofs.YtmbmpabjclkhlaaGreatDoor
