/-
  SlotTails: without damage a slot is never corrupt, whatever part of each put came through.
-/
import Derived.Test.YtejejadbemkifaaS21
import Derived.Test.YtejejadbemkifaaS22
import Derived.Test.YtejejadbemkifaaS23
import Derived.Deep.MidRow
import Derived.Deep.DeepCutAuto
namespace Go.Proofs.Ytejejadbemkifaa
set_option maxRecDepth 100000
open Go Go.RowKit

theorem atLeast_yes {x y a b : Int} (h : decide (a < x ∨ (x = a ∧ b ≤ y)) = true) (w : World) : Calls Try.prog 9 #[.agg #[.int .i64 x, .int .i64 y], .agg #[.int .i64 a, .int .i64 b]] w fun e w' => e = .returned (.bool true) ∧ Ext w w' :=
  (atLeast_of x y a b w).mono fun e w' q => ⟨by rw [q.1, h], q.2⟩
set_option maxRecDepth 100000 in
set_option maxHeartbeats 12800000 in
theorem slotTails_law (i : Int) (b : Bool) (A : Option Addr) (n c : Nat) (l : List Nat) (w : World) (_ : (Lit.int .i64 i).wf = true) (hb : Bs w w.heap.size A n c l) :
    Calls Try.prog 3 #[.int .i64 i, .bool b, .slice A n c] w fun e w' => e = .returned (.bool true) ∧ Below w.heap.size w w' := by
  show Calls Try.prog 3 #[.int .i64 i, .bool b, .slice A n c] w fun e w' => e = .returned (.bool true) ∧ Ext w w'
  by_cases g1 : i < 100
  · have d1 : decide (i < 100) = true := decide_eq_true g1
    clear g1
    go_enter Try.func3, Try.ntmps3
    go_wp2_with fail
    refine (awake_of w).mono ?_
    rintro e w1 ⟨rfl, hx⟩
    go_wp2_with fail
    go_ret
    exact ⟨rfl, hx⟩
  by_cases g2 : 1099511627776 < i
  · have d1 : decide (i < 100) = false := decide_eq_false g1
    have d2 : decide (1099511627776 < i) = true := decide_eq_true g2
    clear g1 g2
    go_enter Try.func3, Try.ntmps3
    go_wp2_with fail
    refine (awake_of w).mono ?_
    rintro e w1 ⟨rfl, hx⟩
    go_wp2_with fail
    go_ret
    exact ⟨rfl, hx⟩
  by_cases g3 : 30 < n
  · have d1 : decide (i < 100) = false := decide_eq_false g1
    have d2 : decide (1099511627776 < i) = false := decide_eq_false g2
    have d3 : decide (30 < (n : Int)) = true := decide_eq_true (by omega)
    clear g1 g2 g3
    go_enter Try.func3, Try.ntmps3
    go_wp2_with fail
    refine (awake_of w).mono ?_
    rintro e w1 ⟨rfl, hx⟩
    go_wp2_with fail
    go_ret
    exact ⟨rfl, hx⟩
  have d1 : decide (i < 100) = false := decide_eq_false g1
  have d2 : decide (1099511627776 < i) = false := decide_eq_false g2
  have d3 : decide (30 < (n : Int)) = false := decide_eq_false (by omega)
  have hs24 : IntKind.i64.wrap (i - 24) = i - 24 := IntWalk.i64_in _ (by omega)
  have HB := Lib.hid hb
  have hn30 : n ≤ 30 := by omega
  clear g1 g2 g3 hb
  go_enter Try.func3, Try.ntmps3
  go_wp2_with fail
  refine (awake_of w).mono ?_
  rintro e w1 ⟨rfl, hx⟩
  have HS := Lib.hid (TlP.new hx)
  clear hx
  go_upto_if 31 with (fail)
  clear d1 d2 d3
  generalize ((w1.alloc (.cells #[.int .u8 0, .int .i64 0, .int .i64 0, .int .i64 0, .int .i64 0] 27)).alloc (.cells #[.int .u8 0, .int .i64 0, .int .i64 0, .int .i64 0, .int .u8 0, .int .i64 0, .int .i64 0, .int .u8 0, .string ⟨#[]⟩, .string ⟨#[]⟩, .string ⟨#[]⟩, .int .u8 0, .int .i64 0, .int .i64 0, .int .i64 0, .int .u8 0, .int .i64 0, .int .i64 0, .int .u8 0, .string ⟨#[]⟩, .string ⟨#[]⟩, .string ⟨#[]⟩] 34)) = W at *
  generalize w1.heap.size + 1 = g1 at *
  generalize hg : w1.heap.size = g at *
  have HG := Lib.hid hg
  clear hg
  go_cut [] (fun wx => ∃ (p : Rec) (f0 f1 : Cop), Hid (TlP w wx g g1 p f0 f1) ∧ Hid (TInv i 2 0 p f0 f1))
  case first =>
    cases b
    · go_wp2_with fail
      go_meet
      exact ⟨_, _, _, HS, Lib.hid (TInv.blank i)⟩
    · have q0 := cell_of_row W g 0 _ _ _ (HS.out.rec_)
      have q1 := cell_of_row W g 1 _ _ _ (HS.out.rec_)
      have q2 := cell_of_row W g 2 _ _ _ (HS.out.rec_)
      have q3 := cell_of_row W g 3 _ _ _ (HS.out.rec_)
      have q4 := cell_of_row W g 4 _ _ _ (HS.out.rec_)
      have v0 := frozen_of_row W g 0 _ _ (HS.out.rec_)
      have v1 := frozen_of_row W g 1 _ _ (HS.out.rec_)
      have v2 := frozen_of_row W g 2 _ _ (HS.out.rec_)
      have v3 := frozen_of_row W g 3 _ _ (HS.out.rec_)
      have v4 := frozen_of_row W g 4 _ _ (HS.out.rec_)
      go_upto_region 9 with (fail)
      have HS := Lib.hid (HS.out.old5 i)
      generalize (((((W.setCell ⟨g, 0, none⟩ (.int .u8 1)).setCell ⟨g, 1, none⟩ (.int .i64 (i - 24))).setCell ⟨g, 2, none⟩ (.int .i64 1)).setCell ⟨g, 3, none⟩ (.int .i64 0)).setCell ⟨g, 4, none⟩ (.int .i64 1)) = W1 at *
      clear q0 q1 q2 q3 q4 v0 v1 v2 v3 v4
      go_wp2_with fail
      refine (goodv_of (i - 24) 1 0 W1).mono ?_
      rintro e w2 ⟨rfl, hx⟩
      have HS := Lib.hid (HS.out.mono hx)
      clear hx
      go_wp2_with fail
      refine (goodv_of (i - 24) 1 0 w2).mono ?_
      rintro e w3 ⟨rfl, hx⟩
      have HS := Lib.hid (HS.out.mono hx)
      clear hx
      have HTH := Lib.hid (there_row HS.out.two 0 22 (by simp))
      have hsz : (Try.prog.info? 34).map (·.size) = some 22 := by kernel_rfl
      have HSZ := Lib.hid hsz
      clear hsz
      go_wp2_with (refine wpList_store_mid rfl 34 _ _ rfl g1 0 #[.int .u8 1, .int .i64 (i - 24), .int .i64 1, .int .i64 0, .int .u8 1, .int .i64 0, .int .i64 0, .int .u8 0, .string ⟨#[]⟩, .string ⟨#[]⟩, .string ⟨#[]⟩, .int .u8 1, .int .i64 (i - 24), .int .i64 1, .int .i64 0, .int .u8 1, .int .i64 0, .int .i64 0, .int .u8 0, .string ⟨#[]⟩, .string ⟨#[]⟩, .string ⟨#[]⟩] rfl rfl HTH.out HSZ.out (by simp [Value.oneCell']) ?_)
      go_meet
      exact ⟨_, _, _, Lib.hid (HS.out.old22 i), Lib.hid (TInv.older _)⟩
  case rest =>
    obtain ⟨p, f0, f1, HP, HI⟩ := hcut
    have HS := Lib.hid (HP.out.ack 0 0)
    clear HP hs24
    go_upto_region 11 with (fail)
    generalize (wc.alloc (.cells #[.int .i64 0, .int .i64 0] 25)) = W2 at *
    generalize hg2 : wc.heap.size = g2 at *
    have HG2 := Lib.hid hg2
    clear hg2
    go_wp2_with fail
    go_loopw [10] (fun vi wr => ∃ (k : Nat) (p : Rec) (f0 f1 : Cop) (a y : Int), k ≤ n ∧ vi = .int .i64 k ∧ Hid (TInv i (2 + ((k / 2 : Nat) : Int)) a p f0 f1) ∧ Hid ((a = 0 ∧ y = 0) ∨ (2 ≤ a ∧ y = 1)) ∧ Hid (TlW w wr g g1 g2 p f0 f1 a y)) (fun vi _ => n - (intOf vi).toNat)
    case atStart => exact ⟨0, p, f0, f1, 0, 0, Nat.zero_le _, rfl, Lib.hid (HI.out.up (by omega)), Lib.hid (.inl ⟨rfl, rfl⟩), HS⟩
    case round =>
      clear HS HI
      obtain ⟨k, p, f0, f1, a, y, hk, rfl, HI, HA, HS⟩ := hrel
      by_cases hlt : k < n
      · obtain ⟨gA, o, m, hA, hgA, hm256, hcell⟩ := byte_at HB.out hlt
        subst hA
        have HCL : Hid (gA < w.heap.size ∧ w.cell? ⟨gA, o + k, none⟩ = some (.int .u8 (m : Int))) := Lib.hid ⟨hgA, hcell⟩
        have HM := Lib.hid hm256
        clear hgA hcell hm256
        obtain ⟨r, hr⟩ : ∃ r : Int, r = 2 + ((k / 2 : Nat) : Int) := ⟨_, rfl⟩
        obtain ⟨q, hq⟩ : ∃ q : Nat, q = k / 2 := ⟨_, rfl⟩
        have hw1 : IntKind.i64.wrap ((k : Int) / 2) = (q : Int) := by rw [IntWalk.i64_in _ (by omega)]; omega
        have hw2 : IntKind.i64.wrap (2 + (q : Int)) = r := by rw [IntWalk.i64_in _ (by omega)]; omega
        obtain ⟨P, F0, F1, c0, c1, s0, s1, k0, k1, x0, y0, x1, y1, e0, e1, hwa, htl, hwb, hinv, hsay, hst⟩ := round_facts (HI.out.up (r' := r) (by omega)) (by omega) m
        have HR : Hid (r = 2 + ((k / 2 : Nat) : Int)) := Lib.hid hr
        have HWA := Lib.hid hwa
        have HTL := Lib.hid htl
        have HWB := Lib.hid hwb
        have HI2 := Lib.hid hinv
        have HY := Lib.hid hsay
        have HST := Lib.hid hst
        clear hr hq hwa htl hwb hinv hsay hst HI
        have q0 := cell_of_row wr g 0 _ _ _ (HS.out.rec_)
        have q1 := cell_of_row wr g 1 _ _ _ (HS.out.rec_)
        have q2 := cell_of_row wr g 2 _ _ _ (HS.out.rec_)
        have q3 := cell_of_row wr g 3 _ _ _ (HS.out.rec_)
        have q4 := cell_of_row wr g 4 _ _ _ (HS.out.rec_)
        obtain ⟨N, hNN, hsz⟩ := size_two
        have hld := load_two hNN HS.out.two
        have HNN := Lib.hid hNN
        clear hNN
        go_wp2_with fail
        refine (HWA.out wr).mono ?_
        rintro e w2 ⟨rfl, hx⟩
        clear HWA q0 q1 q2 q3 q4 hsz hld HNN
        have HLT : Hid (g2 < w2.heap.size) := Lib.hid (HS.out.mono hx).lt
        have HS := Lib.hid ((HS.out.mono hx).mono ((Ext.refl w2).alloc (.cells #[.int .i64 i, .int .u8 (s0 : Nat), .int .i64 x0, .int .i64 y0, .int .u8 (e0.k : Int), .int .i64 e0.cl, .int .i64 e0.sq, .int .u8 (e0.ok : Int), .string e0.key, .string e0.old, .string e0.val] 37)))
        have HQ := Lib.hid (heap_alloc_new w2 (.cells #[.int .i64 i, .int .u8 (s0 : Nat), .int .i64 x0, .int .i64 y0, .int .u8 (e0.k : Int), .int .i64 e0.cl, .int .i64 e0.sq, .int .u8 (e0.ok : Int), .string e0.key, .string e0.old, .string e0.val] 37))
        clear hx
        go_upto_region 15 with (fail)
        generalize (w2.alloc (.cells #[.int .i64 i, .int .u8 (s0 : Nat), .int .i64 x0, .int .i64 y0, .int .u8 (e0.k : Int), .int .i64 e0.cl, .int .i64 e0.sq, .int .u8 (e0.ok : Int), .string e0.key, .string e0.old, .string e0.val] 37)) = w3 at *
        generalize w2.heap.size = gw at *
        have HLW : Hid (gw < w3.heap.size) := Lib.hid (Array.getElem?_eq_some_iff.1 HQ.out).1
        have HQ := Lib.hid (keep_row ((Ext.refl w3).alloc (.cells #[.int .i64 r, .int .i64 1] 25)) HQ.out)
        have HS := Lib.hid (HS.out.mono ((Ext.refl w3).alloc (.cells #[.int .i64 r, .int .i64 1] 25)))
        have HBL := Lib.hid (heap_alloc_new w3 (.cells #[.int .i64 r, .int .i64 1] 25))
        go_upto_region 16 with (fail)
        generalize (w3.alloc (.cells #[.int .i64 r, .int .i64 1] 25)) = w4 at *
        generalize w3.heap.size = gb at *
        clear hw1 hw2
        have HLT2 : Hid (g2 < gw ∧ gw < gb) := Lib.hid ⟨HLT.out, HLW.out⟩
        have hx := (Ext.refl w4).drew
        have HS := Lib.hid (HS.out.mono hx)
        have HBL := Lib.hid (keep_row hx HBL.out)
        have HQ := Lib.hid (keep_row hx HQ.out)
        clear hx
        have HC := Lib.hid (cell_ext HS.out.ext HCL.out.1 HCL.out.2)
        have hsz5 : (Try.prog.info? 27).map (·.size) = some 5 := by kernel_rfl
        have hsz22 : (Try.prog.info? 34).map (·.size) = some 22 := by kernel_rfl
        have HSZ := Lib.hid (And.intro hsz5 hsz22)
        clear hsz5 hsz22
        refine region_anyC (fun w' => w'.heap[g]? = some (.cells #[.int .u8 (p.st : Int), .int .i64 p.ix, .int .i64 p.bx, .int .i64 p.yb, .int .i64 p.wh] 27 (0, 0)) ∧ w'.heap[g1]? = some (.cells #[.int .u8 (f0.st : Int), .int .i64 f0.ix, .int .i64 f0.bx, .int .i64 f0.yb, .int .u8 (f0.e.k : Int), .int .i64 f0.e.cl, .int .i64 f0.e.sq, .int .u8 (f0.e.ok : Int), .string f0.e.key, .string f0.e.old, .string f0.e.val, .int .u8 (f1.st : Int), .int .i64 f1.ix, .int .i64 f1.bx, .int .i64 f1.yb, .int .u8 (f1.e.k : Int), .int .i64 f1.e.cl, .int .i64 f1.e.sq, .int .u8 (f1.e.ok : Int), .string f1.e.key, .string f1.e.old, .string f1.e.val] 34 (0, 0)) ∧ w'.heap[gb]? = some (.cells #[.int .i64 r, .int .i64 1] 25 (0, 0)) ∧ w'.cell? ⟨gA, o + k, none⟩ = some (.int .u8 (m : Int))) 8 (by kernel_rfl) ⟨HS.out.rec_, HS.out.two, HBL.out, HC.out⟩ (fun hHeld => ?_)
        refine anyC_pure (i := 2) (oi := { dst := some 65, op := Go.Op.move (Go.Operand.tmp 0), type := 3, pos := "outright.go:131", after := #[], guard := none }) (v := ?_) rfl (by kernel_rfl) (by kernel_rfl) (by kernel_rfl) (fun _ _ _ h => h) (by decide) (Or.inl ⟨by rfl, ?_⟩) (by assumption) ?_
        rotate_left
        · intro w9 hSw
          clear hSw
          go_simp
          try with_reducible rfl
        try simp only [Act.put, List.setIfInBounds_toArray, List.set_cons_zero, List.set_cons_succ]
        refine anyC_pure (i := 4) (oi := { dst := some 67, op := Go.Op.move (Go.Operand.tmp 2), type := 22, pos := "outright.go:131", after := #[], guard := none }) (v := ?_) rfl (by kernel_rfl) (by kernel_rfl) (by kernel_rfl) (fun _ _ _ h => h) (by decide) (Or.inl ⟨by rfl, ?_⟩) (by assumption) ?_
        rotate_left
        · intro w9 hSw
          clear hSw
          go_simp
          try with_reducible rfl
        try simp only [Act.put, List.setIfInBounds_toArray, List.set_cons_zero, List.set_cons_succ]
        refine anyC_pure (i := 5) (oi := { dst := some 68, op := Go.Op.move (Go.Operand.tmp 10), type := 3, pos := "outright.go:131", after := #[], guard := none }) (v := ?_) rfl (by kernel_rfl) (by kernel_rfl) (by kernel_rfl) (fun _ _ _ h => h) (by decide) (Or.inl ⟨by rfl, ?_⟩) (by assumption) ?_
        rotate_left
        · intro w9 hSw
          clear hSw
          go_simp
          try with_reducible rfl
        try simp only [Act.put, List.setIfInBounds_toArray, List.set_cons_zero, List.set_cons_succ]
        refine anyC_pure (i := 6) (oi := { dst := some 69, op := Go.Op.indexAddr 22 (Go.Operand.tmp 67) (Go.Operand.tmp 68), type := 0, pos := "outright.go:131", after := #[{ on := 4, ground := Go.Ground.data }, { on := 5, ground := Go.Ground.data }], guard := none }) (v := ?_) rfl (by kernel_rfl) (by kernel_rfl) (by kernel_rfl) (fun _ _ _ h => h) (by decide) (Or.inl ⟨by rfl, ?_⟩) (by assumption) ?_
        rotate_left
        · intro w9 hSw
          clear hSw
          go_simp
          try with_reducible rfl
        try simp only [Act.put, List.setIfInBounds_toArray, List.set_cons_zero, List.set_cons_succ]
        refine anyC_take (i := 0) (oi := { dst := some 63, op := Go.Op.load 27 (Go.Operand.tmp 7), type := 27, pos := "outright.go:131", after := #[], guard := none }) (v := .agg #[.int .u8 (p.st : Int), .int .i64 p.ix, .int .i64 p.bx, .int .i64 p.yb, .int .i64 p.wh]) rfl (by kernel_rfl) (by kernel_rfl) (by kernel_rfl) (fun _ _ _ h => h) (by decide) (by kernel_rfl) (by kernel_rfl) (yieldsIf_load_mid (by rfl) 27 (.tmp 7) rfl g 0 rfl [.int .u8 (p.st : Int), .int .i64 p.ix, .int .i64 p.bx, .int .i64 p.yb, .int .i64 p.wh] _ (fun w hw => row_range [.int .u8 (p.st : Int), .int .i64 p.ix, .int .i64 p.bx, .int .i64 p.yb, .int .i64 p.wh] hw.1 0) Try.underlying27 rfl (by kernel_rfl)) (by assumption) ?_
        try simp only [Act.put, List.setIfInBounds_toArray, List.set_cons_zero, List.set_cons_succ]
        refine anyC_take (i := 1) (oi := { dst := some 64, op := Go.Op.load 34 (Go.Operand.tmp 8), type := 34, pos := "outright.go:131", after := #[], guard := none }) (v := .agg #[.int .u8 (f0.st : Int), .int .i64 f0.ix, .int .i64 f0.bx, .int .i64 f0.yb, .int .u8 (f0.e.k : Int), .int .i64 f0.e.cl, .int .i64 f0.e.sq, .int .u8 (f0.e.ok : Int), .string f0.e.key, .string f0.e.old, .string f0.e.val, .int .u8 (f1.st : Int), .int .i64 f1.ix, .int .i64 f1.bx, .int .i64 f1.yb, .int .u8 (f1.e.k : Int), .int .i64 f1.e.cl, .int .i64 f1.e.sq, .int .u8 (f1.e.ok : Int), .string f1.e.key, .string f1.e.old, .string f1.e.val]) rfl (by kernel_rfl) (by kernel_rfl) (by kernel_rfl) (fun _ _ _ h => h) (by decide) (by kernel_rfl) (by kernel_rfl) (yieldsIf_load_mid (by rfl) 34 (.tmp 8) rfl g1 0 rfl [.int .u8 (f0.st : Int), .int .i64 f0.ix, .int .i64 f0.bx, .int .i64 f0.yb, .int .u8 (f0.e.k : Int), .int .i64 f0.e.cl, .int .i64 f0.e.sq, .int .u8 (f0.e.ok : Int), .string f0.e.key, .string f0.e.old, .string f0.e.val, .int .u8 (f1.st : Int), .int .i64 f1.ix, .int .i64 f1.bx, .int .i64 f1.yb, .int .u8 (f1.e.k : Int), .int .i64 f1.e.cl, .int .i64 f1.e.sq, .int .u8 (f1.e.ok : Int), .string f1.e.key, .string f1.e.old, .string f1.e.val] _ (fun w hw => row_range [.int .u8 (f0.st : Int), .int .i64 f0.ix, .int .i64 f0.bx, .int .i64 f0.yb, .int .u8 (f0.e.k : Int), .int .i64 f0.e.cl, .int .i64 f0.e.sq, .int .u8 (f0.e.ok : Int), .string f0.e.key, .string f0.e.old, .string f0.e.val, .int .u8 (f1.st : Int), .int .i64 f1.ix, .int .i64 f1.bx, .int .i64 f1.yb, .int .u8 (f1.e.k : Int), .int .i64 f1.e.cl, .int .i64 f1.e.sq, .int .u8 (f1.e.ok : Int), .string f1.e.key, .string f1.e.old, .string f1.e.val] hw.2.1 0) Try.underlying34 rfl (by kernel_rfl)) (by assumption) ?_
        try simp only [Act.put, List.setIfInBounds_toArray, List.set_cons_zero, List.set_cons_succ]
        refine anyC_take (i := 3) (oi := { dst := some 66, op := Go.Op.load 25 (Go.Operand.tmp 14), type := 25, pos := "outright.go:131", after := #[], guard := none }) (v := .agg #[.int .i64 r, .int .i64 1]) rfl (by kernel_rfl) (by kernel_rfl) (by kernel_rfl) (fun _ _ _ h => h) (by decide) (by kernel_rfl) (by kernel_rfl) (yieldsIf_load_mid (by rfl) 25 (.tmp 14) rfl gb 0 rfl [.int .i64 r, .int .i64 1] _ (fun w hw => row_range [.int .i64 r, .int .i64 1] hw.2.2.1 0) Try.underlying25 rfl (by kernel_rfl)) (by assumption) ?_
        try simp only [Act.put, List.setIfInBounds_toArray, List.set_cons_zero, List.set_cons_succ]
        refine anyC_take (i := 7) (oi := { dst := some 70, op := Go.Op.load 5 (Go.Operand.tmp 69), type := 5, pos := "outright.go:131", after := #[{ on := 6, ground := Go.Ground.data }], guard := none }) (v := ?_) rfl (by kernel_rfl) (by kernel_rfl) (by kernel_rfl) (fun _ _ _ h => h) (by decide) (by kernel_rfl) (by kernel_rfl) (Or.inl ⟨by rfl, ?_⟩) (by assumption) ?_
        rotate_left
        · intro w9 hSw
          try dsimp only at hSw
          go_simp
          try with_reducible rfl
        try simp only [Act.put, List.setIfInBounds_toArray, List.set_cons_zero, List.set_cons_succ]
        generalize w4.drew = w5 at *
        refine anyC_now (fun _ => True) (o := { dst := some 71, op := Go.Op.call { callee := Go.Callee.value (Go.Operand.func 8), args := #[Go.Operand.tmp 63, Go.Operand.tmp 64, Go.Operand.tmp 65, Go.Operand.tmp 66, Go.Operand.tmp 70], argTypes := #[27, 34, 3, 25, 5] }, type := 40, pos := "outright.go:131", after := #[{ on := 0, ground := Go.Ground.data }, { on := 1, ground := Go.Ground.data }, { on := 2, ground := Go.Ground.data }, { on := 3, ground := Go.Ground.data }, { on := 7, ground := Go.Ground.data }], guard := none }) (by kernel_rfl) (by kernel_rfl) rfl (fun K hK => ?_)
        clear hHeld
        go_simp
        refine (HTL.out w5).mono ?_
        rintro e w6 ⟨rfl, hx⟩
        have HS := Lib.hid (HS.out.mono hx)
        have HBL := Lib.hid (keep_row hx HBL.out)
        have HQ := Lib.hid (keep_row hx HQ.out)
        clear hx
        go_wp2_with fail
        refine hK.out _ _ trivial (fun hHeld => ?_)
        clear hK K
        try simp only [Act.put, List.setIfInBounds_toArray, List.set_cons_zero, List.set_cons_succ]
        refine wpAnyH_take (i := 9) (oi := { dst := some 62, op := Go.Op.move (Go.Operand.tmp 71), type := 40, pos := "outright.go:131", after := #[{ on := 8, ground := Go.Ground.data }], guard := none }) (v := ?_) rfl (by kernel_rfl) (by kernel_rfl) (by kernel_rfl) (fun _ _ _ h => h) (Or.inl ⟨by rfl, ?_⟩) (by assumption) ?_
        rotate_left
        · intro w9 hSw
          try dsimp only at hSw
          go_simp
          try with_reducible rfl
        try simp only [Act.put, List.setIfInBounds_toArray, List.set_cons_zero, List.set_cons_succ]
        refine wpAnyH_take (i := 10) (oi := { dst := some 72, op := Go.Op.extract (Go.Operand.tmp 62) 0, type := 27, pos := "outright.go:131", after := #[{ on := 9, ground := Go.Ground.data }], guard := none }) (v := ?_) rfl (by kernel_rfl) (by kernel_rfl) (by kernel_rfl) (fun _ _ _ h => h) (Or.inl ⟨by rfl, ?_⟩) (by assumption) ?_
        rotate_left
        · intro w9 hSw
          try dsimp only at hSw
          go_simp
          try with_reducible rfl
        try simp only [Act.put, List.setIfInBounds_toArray, List.set_cons_zero, List.set_cons_succ]
        refine wpAnyH_take (i := 11) (oi := { dst := some 73, op := Go.Op.extract (Go.Operand.tmp 62) 1, type := 34, pos := "outright.go:131", after := #[{ on := 9, ground := Go.Ground.data }, { on := 12, ground := Go.Ground.gcOnly Departure.lateStores }], guard := none }) (v := ?_) rfl (by kernel_rfl) (by kernel_rfl) (by kernel_rfl) (fun _ _ _ h => h) (Or.inl ⟨by rfl, ?_⟩) (by assumption) ?_
        rotate_left
        · intro w9 hSw
          try dsimp only at hSw
          go_simp
          try with_reducible rfl
        try simp only [Act.put, List.setIfInBounds_toArray, List.set_cons_zero, List.set_cons_succ]
        refine wpAnyH_ready (rs := [12]) (by kernel_rfl) (by simp) ?_
        refine AllReadyH.cons (o := { dst := none, op := Go.Op.store 27 (Go.Operand.tmp 7) (Go.Operand.tmp 72), type := 0, pos := "outright.go:131", after := #[{ on := 10, ground := Go.Ground.data }, { on := 8, ground := Go.Ground.chain }, { on := 0, ground := Go.Ground.phase }, { on := 1, ground := Go.Ground.phase }, { on := 2, ground := Go.Ground.phase }, { on := 3, ground := Go.Ground.phase }, { on := 4, ground := Go.Ground.phase }, { on := 5, ground := Go.Ground.phase }, { on := 6, ground := Go.Ground.phase }, { on := 7, ground := Go.Ground.phase }, { on := 8, ground := Go.Ground.phase }, { on := 9, ground := Go.Ground.phase }, { on := 10, ground := Go.Ground.phase }, { on := 11, ground := Go.Ground.textOnly Departure.lateStores }], guard := none }) rfl (fun K hK => ?_) AllReadyH.nil
        clear hHeld
        rw [if_pos (by rfl)]
        refine wp_store_mid 27 (.tmp 7) (.tmp 72) rfl g 0 #[.int .u8 (P.st : Int), .int .i64 P.ix, .int .i64 P.bx, .int .i64 P.yb, .int .i64 P.wh] rfl rfl (there_row HS.out.rec_ 0 5 (by simp)) HSZ.out.1 (by simp [Value.oneCell']) ?_
        refine hK.out _ _ trivial (fun hHeld => ?_)
        clear hK K
        simp only [Act.put]
        refine wpAnyH_ready (rs := [13]) (by kernel_rfl) (by simp) ?_
        refine AllReadyH.cons (o := { dst := none, op := Go.Op.store 34 (Go.Operand.tmp 8) (Go.Operand.tmp 73), type := 0, pos := "outright.go:131", after := #[{ on := 11, ground := Go.Ground.data }, { on := 12, ground := Go.Ground.chain }, { on := 0, ground := Go.Ground.phase }, { on := 1, ground := Go.Ground.phase }, { on := 2, ground := Go.Ground.phase }, { on := 3, ground := Go.Ground.phase }, { on := 4, ground := Go.Ground.phase }, { on := 5, ground := Go.Ground.phase }, { on := 6, ground := Go.Ground.phase }, { on := 7, ground := Go.Ground.phase }, { on := 8, ground := Go.Ground.phase }, { on := 9, ground := Go.Ground.phase }, { on := 10, ground := Go.Ground.phase }, { on := 11, ground := Go.Ground.phase }, { on := 12, ground := Go.Ground.phase }], guard := none }) rfl (fun K hK => ?_) AllReadyH.nil
        clear hHeld
        rw [if_pos (by rfl)]
        refine wp_store_mid 34 (.tmp 8) (.tmp 73) rfl g1 0 #[.int .u8 (F0.st : Int), .int .i64 F0.ix, .int .i64 F0.bx, .int .i64 F0.yb, .int .u8 (F0.e.k : Int), .int .i64 F0.e.cl, .int .i64 F0.e.sq, .int .u8 (F0.e.ok : Int), .string F0.e.key, .string F0.e.old, .string F0.e.val, .int .u8 (F1.st : Int), .int .i64 F1.ix, .int .i64 F1.bx, .int .i64 F1.yb, .int .u8 (F1.e.k : Int), .int .i64 F1.e.cl, .int .i64 F1.e.sq, .int .u8 (F1.e.ok : Int), .string F1.e.key, .string F1.e.old, .string F1.e.val] rfl rfl (there_row (HS.out.put0 P).two 0 22 (by simp)) HSZ.out.2 (by simp [Value.oneCell']) ?_
        refine hK.out _ _ trivial (fun hHeld => ?_)
        clear hK K
        simp only [Act.put]
        refine wpAnyH_done (by kernel_rfl) ?_ _
        clear hHeld
        have HS := Lib.hid ((HS.out.put0 P).put1 F0 F1)
        have HBL := Lib.hid (off_setCells (g := g1) (off_setCells (g := g) HBL.out (by have := HS.out.ne; have := HLT2.out; omega) 0 [.int .u8 (P.st : Int), .int .i64 P.ix, .int .i64 P.bx, .int .i64 P.yb, .int .i64 P.wh]) (by have := HS.out.ne; have := HLT2.out; omega) 0 [.int .u8 (F0.st : Int), .int .i64 F0.ix, .int .i64 F0.bx, .int .i64 F0.yb, .int .u8 (F0.e.k : Int), .int .i64 F0.e.cl, .int .i64 F0.e.sq, .int .u8 (F0.e.ok : Int), .string F0.e.key, .string F0.e.old, .string F0.e.val, .int .u8 (F1.st : Int), .int .i64 F1.ix, .int .i64 F1.bx, .int .i64 F1.yb, .int .u8 (F1.e.k : Int), .int .i64 F1.e.cl, .int .i64 F1.e.sq, .int .u8 (F1.e.ok : Int), .string F1.e.key, .string F1.e.old, .string F1.e.val])
        have HQ := Lib.hid (off_setCells (g := g1) (off_setCells (g := g) HQ.out (by have := HS.out.ne; have := HLT2.out; omega) 0 [.int .u8 (P.st : Int), .int .i64 P.ix, .int .i64 P.bx, .int .i64 P.yb, .int .i64 P.wh]) (by have := HS.out.ne; have := HLT2.out; omega) 0 [.int .u8 (F0.st : Int), .int .i64 F0.ix, .int .i64 F0.bx, .int .i64 F0.yb, .int .u8 (F0.e.k : Int), .int .i64 F0.e.cl, .int .i64 F0.e.sq, .int .u8 (F0.e.ok : Int), .string F0.e.key, .string F0.e.old, .string F0.e.val, .int .u8 (F1.st : Int), .int .i64 F1.ix, .int .i64 F1.bx, .int .i64 F1.yb, .int .u8 (F1.e.k : Int), .int .i64 F1.e.cl, .int .i64 F1.e.sq, .int .u8 (F1.e.ok : Int), .string F1.e.key, .string F1.e.old, .string F1.e.val])
        go_upto_region 17 with (fail)
        generalize ((w6.setCells g 0 [.int .u8 (P.st : Int), .int .i64 P.ix, .int .i64 P.bx, .int .i64 P.yb, .int .i64 P.wh]).setCells g1 0 [.int .u8 (F0.st : Int), .int .i64 F0.ix, .int .i64 F0.bx, .int .i64 F0.yb, .int .u8 (F0.e.k : Int), .int .i64 F0.e.cl, .int .i64 F0.e.sq, .int .u8 (F0.e.ok : Int), .string F0.e.key, .string F0.e.old, .string F0.e.val, .int .u8 (F1.st : Int), .int .i64 F1.ix, .int .i64 F1.bx, .int .i64 F1.yb, .int .u8 (F1.e.k : Int), .int .i64 F1.e.cl, .int .i64 F1.e.sq, .int .u8 (F1.e.ok : Int), .string F1.e.key, .string F1.e.old, .string F1.e.val]) = w7 at *
        clear HC HSZ HTL
        have q0 := cell_of_row w7 g 0 _ _ _ (HS.out.rec_)
        have q1 := cell_of_row w7 g 1 _ _ _ (HS.out.rec_)
        have q2 := cell_of_row w7 g 2 _ _ _ (HS.out.rec_)
        have q3 := cell_of_row w7 g 3 _ _ _ (HS.out.rec_)
        have q4 := cell_of_row w7 g 4 _ _ _ (HS.out.rec_)
        obtain ⟨N, hNN, hsz⟩ := size_two
        have hld := load_two hNN HS.out.two
        have HNN := Lib.hid hNN
        clear hNN
        go_wp2_with fail
        refine (HWB.out w7).mono ?_
        rintro e w8 ⟨rfl, hx⟩
        clear HWB q0 q1 q2 q3 q4 hsz hld HNN
        have hz := (Ext.refl w8).alloc (.cells #[.int .i64 i, .int .u8 (s1 : Nat), .int .i64 x1, .int .i64 y1, .int .u8 (e1.k : Int), .int .i64 e1.cl, .int .i64 e1.sq, .int .u8 (e1.ok : Int), .string e1.key, .string e1.old, .string e1.val] 37)
        have HS := Lib.hid ((HS.out.mono hx).mono hz)
        have HBL7 := HBL
        have HBL := Lib.hid (keep_row hz (keep_row hx HBL.out))
        have HQ := Lib.hid (keep_row hz (keep_row hx HQ.out))
        have HLR0 : Hid (gb < w8.heap.size) := Lib.hid (Array.getElem?_eq_some_iff.1 (keep_row hx HBL7.out)).1
        have HRR := Lib.hid (heap_alloc_new w8 (.cells #[.int .i64 i, .int .u8 (s1 : Nat), .int .i64 x1, .int .i64 y1, .int .u8 (e1.k : Int), .int .i64 e1.cl, .int .i64 e1.sq, .int .u8 (e1.ok : Int), .string e1.key, .string e1.old, .string e1.val] 37))
        clear hx hz HBL7
        go_upto_region 18 with (fail)
        generalize (w8.alloc (.cells #[.int .i64 i, .int .u8 (s1 : Nat), .int .i64 x1, .int .i64 y1, .int .u8 (e1.k : Int), .int .i64 e1.cl, .int .i64 e1.sq, .int .u8 (e1.ok : Int), .string e1.key, .string e1.old, .string e1.val] 37)) = w9 at *
        generalize w8.heap.size = gr at *
        have HLR : Hid (gb < gr) := HLR0
        have u1 := cell_of_row w9 gr 1 _ _ _ HRR.out
        have u2 := cell_of_row w9 gr 2 _ _ _ HRR.out
        have u3 := cell_of_row w9 gr 3 _ _ _ HRR.out
        have v2 := cell_of_row w9 gw 2 _ _ _ HQ.out
        have v3 := cell_of_row w9 gw 3 _ _ _ HQ.out
        have b0 := cell_of_row w9 gb 0 _ _ _ HBL.out
        have b1 := cell_of_row w9 gb 1 _ _ _ HBL.out
        have a0 := cell_of_row w9 g2 0 _ _ _ HS.out.ack
        have a1 := cell_of_row w9 g2 1 _ _ _ HS.out.ack
        have hcl := cell_ext HS.out.ext HCL.out.1 HCL.out.2
        have HR2 : Hid (2 ≤ r) := Lib.hid (by have := HR.out; omega)
        by_cases hk1 : k1 < 0
        · have hno := HY.out.no hk1
          have hwas := HY.out.was
          have his := HY.out.is_
          have hcor := HY.out.cor
          have h3 : ¬ m % 4 = 3 := fun h3 => by have := hno.1; rw [if_pos h3] at this; have := HR2.out; omega
          have hno1 := hno.1
          have hno2 := hno.2
          rw [if_neg h3] at hno1
          have HI2 : Hid (TInv i r a P F0 F1) := Lib.hid (by have := HI2.out; rwa [if_neg h3] at this)
          obtain ⟨rfl, rfl⟩ : a = 0 ∧ y = 0 := by have := HA.out; omega
          have t1 : ¬ (c1 : Int) = 2 := hcor
          have t2 : ¬ (c1 : Int) = 3 := by omega
          have t3 : ¬ (c0 : Int) = 3 := by omega
          clear HST
          generalize (c1 : Int) = z1 at *
          generalize (c0 : Int) = z0 at *
          have t1b : (z1 == 2) = false := by rw [beq_eq_false_iff_ne]; exact t1
          have t2b : (z1 == 3) = false := by rw [beq_eq_false_iff_ne]; exact t2
          have t3b : (z0 == 3) = false := by rw [beq_eq_false_iff_ne]; exact t3
          have t2c : (z1 != 3) = true := by rw [bne_iff_ne]; exact t2
          obtain ⟨m4, hm4, hm4n⟩ : ∃ m4 : Nat, (m : Int).tmod 4 = (m4 : Int) ∧ m4 ≠ 3 := ⟨m % 4, by rw [Int.tmod_eq_emod_of_nonneg (by omega)]; omega, h3⟩
          have t4 : ((m4 : Int) == 3) = false := by rw [beq_eq_false_iff_ne]; omega
          clear hm4n
          clear hno hno1 hno2 hwas his hcor h3 hk1 HY
          go_wp2_with fail
          go_roundw
          case rel => exact ⟨k + 1, P, F0, F1, 0, 0, by omega, by go_num, Lib.hid (HI2.out.up (by have := HR.out; omega)), HA, HS⟩
          case measure => simp [intOf]; omega
        · obtain ⟨rfl, hle, hor⟩ := HY.out.yes (by omega)
          have hc1 : c1 = 3 := by have := HY.out.is_.2 (by omega); omega
          have hs1 : s1 = 2 := HST.out (by omega)
          have hd : decide (k1 < 0) = false := decide_eq_false hk1
          have HLT3 : Hid (g2 < gw ∧ g2 < gb ∧ g2 < gr) := Lib.hid (by have := HLT2.out; have := HLR.out; omega)
          subst hc1 hs1
          clear hk1
          by_cases hxr : x1 = r
          · clear hor
            obtain rfl : r = x1 := hxr.symm
            by_cases h3 : m % 4 = 3
            · have hle := hle
              rw [if_pos h3] at hle
              have HI2 : Hid (TInv i r r P F0 F1) := Lib.hid (by have := HI2.out; rwa [if_pos h3] at this)
              have t4 : (m : Int).tmod 4 = 3 := by rw [Int.tmod_eq_emod_of_nonneg (by omega)]; omega
              have hle2 : decide (r < r ∨ (r = r ∧ (1 : Int) ≤ 1)) = true := decide_eq_true (by have := HA.out; omega)
              have HLE := Lib.hid (atLeast_yes hle2)
              clear hle hle2 h3
              have f0' := frozen_of_row w9 g2 0 _ _ HS.out.ack
              have f1' := frozen_of_row w9 g2 1 _ _ HS.out.ack
              have hx : Ext w9 w9 := Ext.refl w9
              clear hx
              go_upto_region 22 with (fail)
              have HS := Lib.hid (HS.out.put2 r 1)
              have HRR := Lib.hid (off_put2 (g := g2) HRR.out (by have := HLT3.out; omega) (.int .i64 r) (.int .i64 1))
              have HQ := Lib.hid (off_put2 (g := g2) HQ.out (by have := HLT3.out; omega) (.int .i64 r) (.int .i64 1))
              have HBL := Lib.hid (off_put2 (g := g2) HBL.out (by have := HLT3.out; omega) (.int .i64 r) (.int .i64 1))
              generalize ((w9.setCell ⟨g2, 0, none⟩ (.int .i64 r)).setCell ⟨g2, 1, none⟩ (.int .i64 1)) = w9' at *
              clear u1 u2 u3 v2 v3 b0 b1 a0 a1 f0' f1'
              have u1 := cell_of_row w9' gr 1 _ _ _ HRR.out
              have u2 := cell_of_row w9' gr 2 _ _ _ HRR.out
              have u3 := cell_of_row w9' gr 3 _ _ _ HRR.out
              have v2 := cell_of_row w9' gw 2 _ _ _ HQ.out
              have v3 := cell_of_row w9' gw 3 _ _ _ HQ.out
              have b0 := cell_of_row w9' gb 0 _ _ _ HBL.out
              have b1 := cell_of_row w9' gb 1 _ _ _ HBL.out
              have a0 := cell_of_row w9' g2 0 _ _ _ HS.out.ack
              have a1 := cell_of_row w9' g2 1 _ _ _ HS.out.ack
              go_wp2_with fail
              refine (HLE.out _).mono ?_
              rintro e w10 ⟨rfl, hx⟩
              have HS := Lib.hid (HS.out.mono hx)
              have HRR := Lib.hid (keep_row hx HRR.out)
              have HQ := Lib.hid (keep_row hx HQ.out)
              have HBL := Lib.hid (keep_row hx HBL.out)
              clear hx u1 u2 u3 v2 v3 b0 b1 a0 a1
              have u2 := cell_of_row w10 gr 2 _ _ _ HRR.out
              have u3 := cell_of_row w10 gr 3 _ _ _ HRR.out
              have v2 := cell_of_row w10 gw 2 _ _ _ HQ.out
              have v3 := cell_of_row w10 gw 3 _ _ _ HQ.out
              have b0 := cell_of_row w10 gb 0 _ _ _ HBL.out
              have b1 := cell_of_row w10 gb 1 _ _ _ HBL.out
              go_wp2_with fail
              go_roundw
              case rel => exact ⟨k + 1, P, F0, F1, r, 1, by omega, by go_num, Lib.hid (HI2.out.up (by have := HR.out; omega)), Lib.hid (.inr ⟨HR2.out, rfl⟩), HS⟩
              case measure => simp [intOf]; omega
            · rw [if_neg h3] at hle
              have HI2 : Hid (TInv i r a P F0 F1) := Lib.hid (by have := HI2.out; rwa [if_neg h3] at this)
              obtain ⟨m4, hm4, hm4n⟩ : ∃ m4 : Nat, (m : Int).tmod 4 = (m4 : Int) ∧ m4 ≠ 3 := ⟨m % 4, by rw [Int.tmod_eq_emod_of_nonneg (by omega)]; omega, h3⟩
              have t4 : ((m4 : Int) == 3) = false := by rw [beq_eq_false_iff_ne]; omega
              clear hm4n
              have hle2 : decide (a < r ∨ (r = a ∧ y ≤ 1)) = true := decide_eq_true (by have := HA.out; omega)
              have HLE := Lib.hid (atLeast_yes hle2)
              clear hle hle2 h3
              go_wp2_with fail
              refine (HLE.out _).mono ?_
              rintro e w10 ⟨rfl, hx⟩
              have HS := Lib.hid (HS.out.mono hx)
              have HRR := Lib.hid (keep_row hx HRR.out)
              have HQ := Lib.hid (keep_row hx HQ.out)
              have HBL := Lib.hid (keep_row hx HBL.out)
              clear hx u1 u2 u3 v2 v3 b0 b1 a0 a1
              have u2 := cell_of_row w10 gr 2 _ _ _ HRR.out
              have u3 := cell_of_row w10 gr 3 _ _ _ HRR.out
              have v2 := cell_of_row w10 gw 2 _ _ _ HQ.out
              have v3 := cell_of_row w10 gw 3 _ _ _ HQ.out
              have b0 := cell_of_row w10 gb 0 _ _ _ HBL.out
              have b1 := cell_of_row w10 gb 1 _ _ _ HBL.out
              go_wp2_with fail
              go_roundw
              case rel => exact ⟨k + 1, P, F0, F1, a, y, by omega, by go_num, Lib.hid (HI2.out.up (by have := HR.out; omega)), HA, HS⟩
              case measure => simp [intOf]; omega
          · replace hor := hor.resolve_left hxr
            obtain ⟨hk0, rfl, rfl⟩ := hor
            have hc0 : c0 = 3 := by have := HY.out.was.2 hk0; omega
            subst hc0
            have t5 : (x1 == r) = false := by rw [beq_eq_false_iff_ne]; exact hxr
            clear hk0 hxr
            by_cases h3 : m % 4 = 3
            · have hle := hle
              rw [if_pos h3] at hle
              have HI2 : Hid (TInv i r r P F0 F1) := Lib.hid (by have := HI2.out; rwa [if_pos h3] at this)
              have t4 : (m : Int).tmod 4 = 3 := by rw [Int.tmod_eq_emod_of_nonneg (by omega)]; omega
              have hle2 : decide (r < x1 ∨ (x1 = r ∧ (1 : Int) ≤ 1)) = true := decide_eq_true (by have := HA.out; omega)
              have HLE := Lib.hid (atLeast_yes hle2)
              clear hle hle2 h3
              have f0' := frozen_of_row w9 g2 0 _ _ HS.out.ack
              have f1' := frozen_of_row w9 g2 1 _ _ HS.out.ack
              have hx : Ext w9 w9 := Ext.refl w9
              clear hx
              go_upto_region 22 with (fail)
              have HS := Lib.hid (HS.out.put2 r 1)
              have HRR := Lib.hid (off_put2 (g := g2) HRR.out (by have := HLT3.out; omega) (.int .i64 r) (.int .i64 1))
              have HQ := Lib.hid (off_put2 (g := g2) HQ.out (by have := HLT3.out; omega) (.int .i64 r) (.int .i64 1))
              have HBL := Lib.hid (off_put2 (g := g2) HBL.out (by have := HLT3.out; omega) (.int .i64 r) (.int .i64 1))
              generalize ((w9.setCell ⟨g2, 0, none⟩ (.int .i64 r)).setCell ⟨g2, 1, none⟩ (.int .i64 1)) = w9' at *
              clear u1 u2 u3 v2 v3 b0 b1 a0 a1 f0' f1'
              have u1 := cell_of_row w9' gr 1 _ _ _ HRR.out
              have u2 := cell_of_row w9' gr 2 _ _ _ HRR.out
              have u3 := cell_of_row w9' gr 3 _ _ _ HRR.out
              have v2 := cell_of_row w9' gw 2 _ _ _ HQ.out
              have v3 := cell_of_row w9' gw 3 _ _ _ HQ.out
              have b0 := cell_of_row w9' gb 0 _ _ _ HBL.out
              have b1 := cell_of_row w9' gb 1 _ _ _ HBL.out
              have a0 := cell_of_row w9' g2 0 _ _ _ HS.out.ack
              have a1 := cell_of_row w9' g2 1 _ _ _ HS.out.ack
              go_wp2_with fail
              refine (HLE.out _).mono ?_
              rintro e w10 ⟨rfl, hx⟩
              have HS := Lib.hid (HS.out.mono hx)
              have HRR := Lib.hid (keep_row hx HRR.out)
              have HQ := Lib.hid (keep_row hx HQ.out)
              have HBL := Lib.hid (keep_row hx HBL.out)
              clear hx u1 u2 u3 v2 v3 b0 b1 a0 a1
              have u2 := cell_of_row w10 gr 2 _ _ _ HRR.out
              have u3 := cell_of_row w10 gr 3 _ _ _ HRR.out
              have v2 := cell_of_row w10 gw 2 _ _ _ HQ.out
              have v3 := cell_of_row w10 gw 3 _ _ _ HQ.out
              have b0 := cell_of_row w10 gb 0 _ _ _ HBL.out
              have b1 := cell_of_row w10 gb 1 _ _ _ HBL.out
              go_wp2_with fail
              go_roundw
              case rel => exact ⟨k + 1, P, F0, F1, r, 1, by omega, by go_num, Lib.hid (HI2.out.up (by have := HR.out; omega)), Lib.hid (.inr ⟨HR2.out, rfl⟩), HS⟩
              case measure => simp [intOf]; omega
            · rw [if_neg h3] at hle
              have HI2 : Hid (TInv i r a P F0 F1) := Lib.hid (by have := HI2.out; rwa [if_neg h3] at this)
              obtain ⟨m4, hm4, hm4n⟩ : ∃ m4 : Nat, (m : Int).tmod 4 = (m4 : Int) ∧ m4 ≠ 3 := ⟨m % 4, by rw [Int.tmod_eq_emod_of_nonneg (by omega)]; omega, h3⟩
              have t4 : ((m4 : Int) == 3) = false := by rw [beq_eq_false_iff_ne]; omega
              clear hm4n
              have hle2 : decide (a < x1 ∨ (x1 = a ∧ y ≤ 1)) = true := decide_eq_true (by have := HA.out; omega)
              have HLE := Lib.hid (atLeast_yes hle2)
              clear hle hle2 h3
              go_wp2_with fail
              refine (HLE.out _).mono ?_
              rintro e w10 ⟨rfl, hx⟩
              have HS := Lib.hid (HS.out.mono hx)
              have HRR := Lib.hid (keep_row hx HRR.out)
              have HQ := Lib.hid (keep_row hx HQ.out)
              have HBL := Lib.hid (keep_row hx HBL.out)
              clear hx u1 u2 u3 v2 v3 b0 b1 a0 a1
              have u2 := cell_of_row w10 gr 2 _ _ _ HRR.out
              have u3 := cell_of_row w10 gr 3 _ _ _ HRR.out
              have v2 := cell_of_row w10 gw 2 _ _ _ HQ.out
              have v3 := cell_of_row w10 gw 3 _ _ _ HQ.out
              have b0 := cell_of_row w10 gb 0 _ _ _ HBL.out
              have b1 := cell_of_row w10 gb 1 _ _ _ HBL.out
              go_wp2_with fail
              go_roundw
              case rel => exact ⟨k + 1, P, F0, F1, a, y, by omega, by go_num, Lib.hid (HI2.out.up (by have := HR.out; omega)), HA, HS⟩
              case measure => simp [intOf]; omega
      · have hkn : k = n := by omega
        subst hkn
        go_wp2_with fail
        go_ret
        exact ⟨rfl, HS.out.ext⟩
end Go.Proofs.Ytejejadbemkifaa
