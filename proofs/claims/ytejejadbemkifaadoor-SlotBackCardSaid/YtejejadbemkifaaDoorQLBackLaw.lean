/-
  The walk of SlotBack: a record's body that is printed is parsed as it was; bytes that are parsed are those of what they are.
-/
import Derived.Test.YtejejadbemkifaaDoorQ06
import Derived.Test.YtejejadbemkifaaDoorQ12
import Derived.Test.YtejejadbemkifaaDoorQ14
import Derived.Test.YtejejadbemkifaaDoorQ15
import Derived.Test.YtejejadbemkifaaDoorQ28
import Derived.Deep.DeepCutAuto
namespace Go.Proofs.YtejejadbemkifaaDoor
set_option maxRecDepth 100000
open Go Go.RowKit

set_option maxRecDepth 100000 in
set_option maxHeartbeats 1200000 in
theorem sback_nn (x y h : Int) (A : Option Addr) (n cp : Nat) (l : List Nat) (w : World) (hb : Bs w w.heap.size A n cp l) (hL : LaidS w) (hn : ¬ 100 < n) (hr : recB x y h = false) (hR : rcR l = (0, 0, 0, 90)) :
    Calls Tryd.prog 4 #[.agg #[.int .i64 x, .int .i64 y], .int .i64 h, .slice A n cp] w fun r w' => r = .returned (.bool true) ∧ Below w.heap.size w w' := by
  show Calls Tryd.prog 4 #[.agg #[.int .i64 x, .int .i64 y], .int .i64 h, .slice A n cp] w fun r w' => r = .returned (.bool true) ∧ Ext w w'
  have hE := (Ext.refl w).alloc (.cells #[.int .i64 x, .int .i64 y] 23)
  have HT := Lib.hid (heap_alloc_new w (.cells #[.int .i64 x, .int .i64 y] 23))
  have HB : Hid (By w A n cp l) := Lib.hid hb
  have HL := Lib.hid hL
  have HE := Lib.hid hE
  have hcap := hb.cap
  have hmost := hb.most
  clear hE hb hL
  have HN := Lib.hid hn
  have HC3 := Lib.hid (fun A' c' V hV hB => sparse_of A' n c' l V hV hB (by have := HN.out; omega))
  rw [hR] at HC3
  have HC1 := Lib.hid (fun V hV => sprint_of x y h V hV)
  rw [rcL_no hr, rcE_no hr] at HC1
  clear hr hR
  go_enter Tryd.func4, Tryd.ntmps4
  go_wp2_with fail
  refine (awake_of _).mono ?_
  rintro r w1 ⟨rfl, hx⟩
  have HE := Lib.hid (HE.out.trans hx)
  have HT := Lib.hid (keep_row hx HT.out)
  clear hx
  obtain ⟨⟨i0, i1⟩, _⟩ := two_row HT.out
  go_wp2_with fail
  refine (HC1.out _ (HL.out.ext HE.out)).mono ?_
  rintro r w2 ⟨A2, c2, rfl, hb2, hx⟩
  have HE := Lib.hid (HE.out.trans hx)
  clear hx hb2 i0 i1
  go_wp2_with fail
  refine (HC3.out _ _ _ (HL.out.ext HE.out) (HB.out.ext HE.out)).mono ?_
  rintro r v1 ⟨rfl, hx⟩
  have HE := Lib.hid (HE.out.trans hx)
  clear hx
  go_upto_region 11 with (fail)
  have hx := (Ext.refl v1).alloc (.cells #[.int .i64 0, .int .i64 0] 23)
  have HP := Lib.hid (heap_alloc_new v1 (.cells #[.int .i64 0, .int .i64 0] 23))
  have HE := Lib.hid (HE.out.trans hx)
  clear hx
  generalize (v1.alloc (.cells #[.int .i64 0, .int .i64 0] 23)) = v2 at *
  generalize v1.heap.size = gv at *
  obtain ⟨⟨j0, j1⟩, _⟩ := two_row HP.out
  have hq := lbal_eql_self 0 0
  go_wp2_with fail
  go_ret
  exact ⟨rfl, HE.out⟩

set_option maxRecDepth 100000 in
set_option maxHeartbeats 1200000 in
theorem sback_nr (x y h : Int) (A : Option Addr) (n cp : Nat) (l : List Nat) (w : World) (hb : Bs w w.heap.size A n cp l) (hL : LaidS w) (hn : ¬ 100 < n) (hr : recB x y h = false) (a b c : Nat) (hR : rcR l = (a, b, c, 0)) (hL5 : rcL (a : Int) (b : Int) (c : Int) = l ∧ rcE (a : Int) (b : Int) (c : Int) = 0) :
    Calls Tryd.prog 4 #[.agg #[.int .i64 x, .int .i64 y], .int .i64 h, .slice A n cp] w fun r w' => r = .returned (.bool true) ∧ Below w.heap.size w w' := by
  show Calls Tryd.prog 4 #[.agg #[.int .i64 x, .int .i64 y], .int .i64 h, .slice A n cp] w fun r w' => r = .returned (.bool true) ∧ Ext w w'
  have hE := (Ext.refl w).alloc (.cells #[.int .i64 x, .int .i64 y] 23)
  have HT := Lib.hid (heap_alloc_new w (.cells #[.int .i64 x, .int .i64 y] 23))
  have HB : Hid (By w A n cp l) := Lib.hid hb
  have HL := Lib.hid hL
  have HE := Lib.hid hE
  have hcap := hb.cap
  have hmost := hb.most
  clear hE hb hL
  have HN := Lib.hid hn
  have HC3 := Lib.hid (fun A' c' V hV hB => sparse_of A' n c' l V hV hB (by have := HN.out; omega))
  rw [hR] at HC3
  have HC1 := Lib.hid (fun V hV => sprint_of x y h V hV)
  have HC5 := Lib.hid (fun V hV => sprint_of (a : Int) (b : Int) (c : Int) V hV)
  rw [hL5.1, hL5.2] at HC5
  rw [rcL_no hr, rcE_no hr] at HC1
  clear hr hR hL5
  go_enter Tryd.func4, Tryd.ntmps4
  go_wp2_with fail
  refine (awake_of _).mono ?_
  rintro r w1 ⟨rfl, hx⟩
  have HE := Lib.hid (HE.out.trans hx)
  have HT := Lib.hid (keep_row hx HT.out)
  clear hx
  obtain ⟨⟨i0, i1⟩, _⟩ := two_row HT.out
  go_wp2_with fail
  refine (HC1.out _ (HL.out.ext HE.out)).mono ?_
  rintro r w2 ⟨A2, c2, rfl, hb2, hx⟩
  have HE := Lib.hid (HE.out.trans hx)
  clear hx hb2 i0 i1
  go_wp2_with fail
  refine (HC3.out _ _ _ (HL.out.ext HE.out) (HB.out.ext HE.out)).mono ?_
  rintro r v1 ⟨rfl, hx⟩
  have HE := Lib.hid (HE.out.trans hx)
  clear hx
  go_upto_region 11 with (fail)
  have hx := (Ext.refl v1).alloc (.cells #[.int .i64 (a : Int), .int .i64 (b : Int)] 23)
  have HP := Lib.hid (heap_alloc_new v1 (.cells #[.int .i64 (a : Int), .int .i64 (b : Int)] 23))
  have HE := Lib.hid (HE.out.trans hx)
  clear hx
  generalize (v1.alloc (.cells #[.int .i64 (a : Int), .int .i64 (b : Int)] 23)) = v2 at *
  generalize v1.heap.size = gv at *
  obtain ⟨⟨j0, j1⟩, _⟩ := two_row HP.out
  go_wp2_with fail
  refine (HC5.out _ (HL.out.ext HE.out)).mono ?_
  rintro r v3 ⟨A5, c5, rfl, hb5, hx⟩
  have HB5 := Lib.hid hb5
  have HE := Lib.hid (HE.out.trans hx)
  clear hx hb5 j0 j1
  go_wp2_with fail
  refine (same_by A5 A l l _ _ c5 cp _ HB5.out (HB.out.ext HE.out)).mono ?_
  rw [decide_eq_true (rfl : l = l)]
  rintro r v4 ⟨rfl, hx⟩
  have HE := Lib.hid (HE.out.trans hx)
  clear hx
  go_wp2_with fail
  go_ret
  exact ⟨rfl, HE.out⟩

set_option maxRecDepth 100000 in
set_option maxHeartbeats 1200000 in
theorem sback_on (x y h : Int) (A : Option Addr) (n cp : Nat) (l : List Nat) (w : World) (hb : Bs w w.heap.size A n cp l) (hL : LaidS w) (hn : ¬ 100 < n) (u v k : Nat) (hx0 : x = u) (hy0 : y = v) (hk0 : h = k) (hr : recB x y h = true) (hrr : rcR (recL x y h) = (u, v, k, 0)) (hR : rcR l = (0, 0, 0, 90)) :
    Calls Tryd.prog 4 #[.agg #[.int .i64 x, .int .i64 y], .int .i64 h, .slice A n cp] w fun r w' => r = .returned (.bool true) ∧ Below w.heap.size w w' := by
  show Calls Tryd.prog 4 #[.agg #[.int .i64 x, .int .i64 y], .int .i64 h, .slice A n cp] w fun r w' => r = .returned (.bool true) ∧ Ext w w'
  have hE := (Ext.refl w).alloc (.cells #[.int .i64 x, .int .i64 y] 23)
  have HT := Lib.hid (heap_alloc_new w (.cells #[.int .i64 x, .int .i64 y] 23))
  have HB : Hid (By w A n cp l) := Lib.hid hb
  have HL := Lib.hid hL
  have HE := Lib.hid hE
  have hcap := hb.cap
  have hmost := hb.most
  clear hE hb hL
  have HN := Lib.hid hn
  have HC3 := Lib.hid (fun A' c' V hV hB => sparse_of A' n c' l V hV hB (by have := HN.out; omega))
  rw [hR] at HC3
  have HC1 := Lib.hid (fun V hV => sprint_of x y h V hV)
  rw [rcL_yes hr, rcE_yes hr, recL_length] at HC1
  have HC2 := Lib.hid (fun A' c' V hV hB => sparse_of A' 8 c' (recL x y h) V hV hB (by omega))
  rw [hrr] at HC2
  generalize recL x y h = L at *
  subst hx0 hy0 hk0
  have hq := lbal_neq_self (u : Int) (v : Int)
  have hk : ((k : Int) != (k : Int)) = false := bne_self_eq_false _
  clear hr hR hrr
  go_enter Tryd.func4, Tryd.ntmps4
  go_wp2_with fail
  refine (awake_of _).mono ?_
  rintro r w1 ⟨rfl, hx⟩
  have HE := Lib.hid (HE.out.trans hx)
  have HT := Lib.hid (keep_row hx HT.out)
  clear hx
  obtain ⟨⟨i0, i1⟩, _⟩ := two_row HT.out
  go_wp2_with fail
  refine (HC1.out _ (HL.out.ext HE.out)).mono ?_
  rintro r w2 ⟨A2, c2, rfl, hb2, hx⟩
  have HE := Lib.hid (HE.out.trans hx)
  have HT := Lib.hid (keep_row hx HT.out)
  have HB2 := Lib.hid hb2
  clear hx hb2 i0 i1
  go_wp2_with fail
  refine (HC2.out _ _ _ (HL.out.ext HE.out) HB2.out).mono ?_
  rintro r w3 ⟨rfl, hx⟩
  have HE := Lib.hid (HE.out.trans hx)
  have HT := Lib.hid (keep_row hx HT.out)
  clear hx
  go_upto_region 8 with (fail)
  have hx := (Ext.refl w3).alloc (.cells #[.int .i64 (u : Int), .int .i64 (v : Int)] 23)
  have HP := Lib.hid (heap_alloc_new w3 (.cells #[.int .i64 (u : Int), .int .i64 (v : Int)] 23))
  have HE := Lib.hid (HE.out.trans hx)
  have HT := Lib.hid (keep_row hx HT.out)
  clear hx
  generalize (w3.alloc (.cells #[.int .i64 (u : Int), .int .i64 (v : Int)] 23)) = w4 at *
  generalize w3.heap.size = g4 at *
  obtain ⟨⟨i0, i1⟩, _⟩ := two_row HT.out
  obtain ⟨⟨j0, j1⟩, _⟩ := two_row HP.out
  go_upto_region 10 with (fail)
  clear i0 i1 j0 j1 hq hk
  go_wp2_with fail
  refine (HC3.out _ _ _ (HL.out.ext HE.out) (HB.out.ext HE.out)).mono ?_
  rintro r v1 ⟨rfl, hx⟩
  have HE := Lib.hid (HE.out.trans hx)
  clear hx
  go_upto_region 11 with (fail)
  have hx := (Ext.refl v1).alloc (.cells #[.int .i64 0, .int .i64 0] 23)
  have HP := Lib.hid (heap_alloc_new v1 (.cells #[.int .i64 0, .int .i64 0] 23))
  have HE := Lib.hid (HE.out.trans hx)
  clear hx
  generalize (v1.alloc (.cells #[.int .i64 0, .int .i64 0] 23)) = v2 at *
  generalize v1.heap.size = gv at *
  obtain ⟨⟨j0, j1⟩, _⟩ := two_row HP.out
  have hq := lbal_eql_self 0 0
  go_wp2_with fail
  go_ret
  exact ⟨rfl, HE.out⟩

set_option maxRecDepth 100000 in
set_option maxHeartbeats 1200000 in
theorem sback_or (x y h : Int) (A : Option Addr) (n cp : Nat) (l : List Nat) (w : World) (hb : Bs w w.heap.size A n cp l) (hL : LaidS w) (hn : ¬ 100 < n) (u v k : Nat) (hx0 : x = u) (hy0 : y = v) (hk0 : h = k) (hr : recB x y h = true) (hrr : rcR (recL x y h) = (u, v, k, 0)) (a b c : Nat) (hR : rcR l = (a, b, c, 0)) (hL5 : rcL (a : Int) (b : Int) (c : Int) = l ∧ rcE (a : Int) (b : Int) (c : Int) = 0) :
    Calls Tryd.prog 4 #[.agg #[.int .i64 x, .int .i64 y], .int .i64 h, .slice A n cp] w fun r w' => r = .returned (.bool true) ∧ Below w.heap.size w w' := by
  show Calls Tryd.prog 4 #[.agg #[.int .i64 x, .int .i64 y], .int .i64 h, .slice A n cp] w fun r w' => r = .returned (.bool true) ∧ Ext w w'
  have hE := (Ext.refl w).alloc (.cells #[.int .i64 x, .int .i64 y] 23)
  have HT := Lib.hid (heap_alloc_new w (.cells #[.int .i64 x, .int .i64 y] 23))
  have HB : Hid (By w A n cp l) := Lib.hid hb
  have HL := Lib.hid hL
  have HE := Lib.hid hE
  have hcap := hb.cap
  have hmost := hb.most
  clear hE hb hL
  have HN := Lib.hid hn
  have HC3 := Lib.hid (fun A' c' V hV hB => sparse_of A' n c' l V hV hB (by have := HN.out; omega))
  rw [hR] at HC3
  have HC1 := Lib.hid (fun V hV => sprint_of x y h V hV)
  have HC5 := Lib.hid (fun V hV => sprint_of (a : Int) (b : Int) (c : Int) V hV)
  rw [hL5.1, hL5.2] at HC5
  rw [rcL_yes hr, rcE_yes hr, recL_length] at HC1
  have HC2 := Lib.hid (fun A' c' V hV hB => sparse_of A' 8 c' (recL x y h) V hV hB (by omega))
  rw [hrr] at HC2
  generalize recL x y h = L at *
  subst hx0 hy0 hk0
  have hq := lbal_neq_self (u : Int) (v : Int)
  have hk : ((k : Int) != (k : Int)) = false := bne_self_eq_false _
  clear hr hR hrr hL5
  go_enter Tryd.func4, Tryd.ntmps4
  go_wp2_with fail
  refine (awake_of _).mono ?_
  rintro r w1 ⟨rfl, hx⟩
  have HE := Lib.hid (HE.out.trans hx)
  have HT := Lib.hid (keep_row hx HT.out)
  clear hx
  obtain ⟨⟨i0, i1⟩, _⟩ := two_row HT.out
  go_wp2_with fail
  refine (HC1.out _ (HL.out.ext HE.out)).mono ?_
  rintro r w2 ⟨A2, c2, rfl, hb2, hx⟩
  have HE := Lib.hid (HE.out.trans hx)
  have HT := Lib.hid (keep_row hx HT.out)
  have HB2 := Lib.hid hb2
  clear hx hb2 i0 i1
  go_wp2_with fail
  refine (HC2.out _ _ _ (HL.out.ext HE.out) HB2.out).mono ?_
  rintro r w3 ⟨rfl, hx⟩
  have HE := Lib.hid (HE.out.trans hx)
  have HT := Lib.hid (keep_row hx HT.out)
  clear hx
  go_upto_region 8 with (fail)
  have hx := (Ext.refl w3).alloc (.cells #[.int .i64 (u : Int), .int .i64 (v : Int)] 23)
  have HP := Lib.hid (heap_alloc_new w3 (.cells #[.int .i64 (u : Int), .int .i64 (v : Int)] 23))
  have HE := Lib.hid (HE.out.trans hx)
  have HT := Lib.hid (keep_row hx HT.out)
  clear hx
  generalize (w3.alloc (.cells #[.int .i64 (u : Int), .int .i64 (v : Int)] 23)) = w4 at *
  generalize w3.heap.size = g4 at *
  obtain ⟨⟨i0, i1⟩, _⟩ := two_row HT.out
  obtain ⟨⟨j0, j1⟩, _⟩ := two_row HP.out
  go_upto_region 10 with (fail)
  clear i0 i1 j0 j1 hq hk
  go_wp2_with fail
  refine (HC3.out _ _ _ (HL.out.ext HE.out) (HB.out.ext HE.out)).mono ?_
  rintro r v1 ⟨rfl, hx⟩
  have HE := Lib.hid (HE.out.trans hx)
  clear hx
  go_upto_region 11 with (fail)
  have hx := (Ext.refl v1).alloc (.cells #[.int .i64 (a : Int), .int .i64 (b : Int)] 23)
  have HP := Lib.hid (heap_alloc_new v1 (.cells #[.int .i64 (a : Int), .int .i64 (b : Int)] 23))
  have HE := Lib.hid (HE.out.trans hx)
  clear hx
  generalize (v1.alloc (.cells #[.int .i64 (a : Int), .int .i64 (b : Int)] 23)) = v2 at *
  generalize v1.heap.size = gv at *
  obtain ⟨⟨j0, j1⟩, _⟩ := two_row HP.out
  go_wp2_with fail
  refine (HC5.out _ (HL.out.ext HE.out)).mono ?_
  rintro r v3 ⟨A5, c5, rfl, hb5, hx⟩
  have HB5 := Lib.hid hb5
  have HE := Lib.hid (HE.out.trans hx)
  clear hx hb5 j0 j1
  go_wp2_with fail
  refine (same_by A5 A l l _ _ c5 cp _ HB5.out (HB.out.ext HE.out)).mono ?_
  rw [decide_eq_true (rfl : l = l)]
  rintro r v4 ⟨rfl, hx⟩
  have HE := Lib.hid (HE.out.trans hx)
  clear hx
  go_wp2_with fail
  go_ret
  exact ⟨rfl, HE.out⟩

set_option maxRecDepth 100000 in
set_option maxHeartbeats 1200000 in
theorem slotBack_law (x y h : Int) (A : Option Addr) (n cp : Nat) (l : List Nat) (w : World) (_ : (Lit.int .i64 h).wf = true) (hb : Bs w w.heap.size A n cp l) (hL : LaidS w) :
    Calls Tryd.prog 4 #[.agg #[.int .i64 x, .int .i64 y], .int .i64 h, .slice A n cp] w fun r w' => r = .returned (.bool true) ∧ Below w.heap.size w w' := by
  show Calls Tryd.prog 4 #[.agg #[.int .i64 x, .int .i64 y], .int .i64 h, .slice A n cp] w fun r w' => r = .returned (.bool true) ∧ Ext w w'
  have hlen := hb.len
  have hlt := hb.rd.lt
  by_cases hn : 100 < n
  · have HE := Lib.hid ((Ext.refl w).alloc (.cells #[.int .i64 x, .int .i64 y] 23))
    clear hb hL hlen hlt
    go_enter Tryd.func4, Tryd.ntmps4
    go_wp2_with fail
    refine (awake_of _).mono ?_
    rintro r w1 ⟨rfl, hx⟩
    have HE := Lib.hid (HE.out.trans hx)
    clear hx
    go_wp2_with fail
    go_ret
    exact ⟨rfl, HE.out⟩
  have hrec : ∀ a b c, recR l = some (a, b, c) → rcR l = (a, b, c, 0) ∧ rcL (a : Int) (b : Int) (c : Int) = l ∧ rcE (a : Int) (b : Int) (c : Int) = 0 := fun a b c h => by
    have hk := rec_of hlt h
    exact ⟨rcR_some h, by rw [rcL_yes hk.2, hk.1], rcE_yes hk.2⟩
  cases hr : recB x y h with
  | false =>
    cases hR : recR l with
    | none => exact sback_nn x y h A n cp l w hb hL hn hr (rcR_none hR)
    | some r =>
      obtain ⟨a, b, c⟩ := r
      exact sback_nr x y h A n cp l w hb hL hn hr a b c (hrec a b c hR).1 (hrec a b c hR).2
  | true =>
    obtain ⟨u, v, k, hu, hv, hk, hb2⟩ := rec_back hr
    cases hR : recR l with
    | none => exact sback_on x y h A n cp l w hb hL hn u v k hu hv hk hr (rcR_some hb2) (rcR_none hR)
    | some r =>
      obtain ⟨a, b, c⟩ := r
      exact sback_or x y h A n cp l w hb hL hn u v k hu hv hk hr (rcR_some hb2) a b c (hrec a b c hR).1 (hrec a b c hR).2
end Go.Proofs.YtejejadbemkifaaDoor
