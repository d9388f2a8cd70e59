/-
  The contracts of entry's Read and Parse.
-/
import Derived.Test.YtmbmpabjclkhlaaGreatDoorQ00
import Derived.Test.YtmbmpabjclkhlaaGreatDoorQ10
import Derived.Test.YtmbmpabjclkhlaaGreatDoorQ11
import Derived.Deep.DeepCutAuto
import Derived.RegionTactic
namespace Go.Proofs.YtmbmpabjclkhlaaGreatDoor
set_option maxRecDepth 100000
section
open Go Go.RowKit
theorem RdS.make {w : World} {n c a : Nat} {A : Option Addr} {l : List Nat} (hb : By w A n c l) (hL : Laid w) (ha : a ≤ l.length) (hn : n ≤ 9000000000000000000) :
    RdS (w.alloc (.cells #[.slice A n c, .int .i64 (a : Int), .bool false] 342)) w.heap.size A n c l a false :=
  ⟨heap_alloc_new w _, hb.ext ((Ext.refl w).alloc _), fun hn p hp => by
    obtain ⟨g', o, e, hg, _⟩ := hb.rd.2 (by rw [hb.len]; exact hn)
    rw [hp] at e
    injection e with e
    rw [e]
    dsimp only
    omega, ha, hn, hL.ext ((Ext.refl w).alloc _)⟩
theorem two_free {w : World} {g : Nat} {x0 x1 : Value} {t : TypeId} (h : w.heap[g]? = some (.cells #[x0, x1] t (0, 0))) :
    (w.cell? ⟨g, 0, none⟩ = some x0 ∧ w.cell? ⟨g, 1, none⟩ = some x1) ∧ (w.frozen? ⟨g, 0, none⟩ = false ∧ w.frozen? ⟨g, 1, none⟩ = false) := ⟨⟨cell_of_row w g 0 _ _ _ h, cell_of_row w g 1 _ _ _ h⟩, frozen_of_row w g 0 _ _ h, frozen_of_row w g 1 _ _ h⟩
theorem ext_set2 {a w : World} (h : Ext a w) {g : Nat} (hg : a.heap.size ≤ g) (x0 x1 : Value) : Ext a ((w.setCell ⟨g, 0, none⟩ x0).setCell ⟨g, 1, none⟩ x1) :=
  (h.setCell (p := ⟨g, 0, none⟩) hg _).setCell (p := ⟨g, 1, none⟩) hg _
set_option maxHeartbeats 1000000 in
theorem parseE_any (A : Option Addr) (n c : Nat) (l : List Nat) (w : World) (hL : Laid w) (hb : By w A n c l) (hn : n ≤ 9000000000000000000) :
    Calls Tryz.prog 218 #[.slice A n c] w fun e w' => e = .returned (.tuple #[.agg #[.int .i64 ((psE l).1 : Int), .int .i64 ((psE l).2.1 : Int)], .agg #[.int .u8 ((psE l).2.2.1.k : Int), .int .i64 (psE l).2.2.1.cl, .int .i64 (psE l).2.2.1.sq, .int .u8 ((psE l).2.2.1.ok : Int), .string (psE l).2.2.1.key, .string (psE l).2.2.1.old, .string (psE l).2.2.1.val], .int .i64 (psE l).2.2.2]) ∧ Ext w w' := by
  have hx1 := (Ext.refl w).alloc (.cells #[.int .i64 0, .int .i64 0] 38)
  have hx2 := (Ext.refl (w.alloc (.cells #[.int .i64 0, .int .i64 0] 38))).alloc (.cells #[.int .u8 0, .int .i64 0, .int .i64 0, .int .u8 0, .string ⟨#[]⟩, .string ⟨#[]⟩, .string ⟨#[]⟩] 42)
  have hq2 := heap_extE (heap_alloc_new w (.cells #[.int .i64 0, .int .i64 0] 38)) hx2
  have hq3 := heap_alloc2_new w (.cells #[.int .i64 0, .int .i64 0] 38) (.cells #[.int .u8 0, .int .i64 0, .int .i64 0, .int .u8 0, .string ⟨#[]⟩, .string ⟨#[]⟩, .string ⟨#[]⟩] 42)
  have hsz : ((w.alloc (.cells #[.int .i64 0, .int .i64 0] 38)).alloc (.cells #[.int .u8 0, .int .i64 0, .int .i64 0, .int .u8 0, .string ⟨#[]⟩, .string ⟨#[]⟩, .string ⟨#[]⟩] 42)).heap.size = w.heap.size + 2 := by simp
  have HR := Lib.hid (RdS.make (hb.ext (hx1.trans hx2)) (hL.ext (hx1.trans hx2)) (Nat.zero_le l.length) hn)
  rw [hsz] at HR
  have hx3 := (Ext.refl ((w.alloc (.cells #[.int .i64 0, .int .i64 0] 38)).alloc (.cells #[.int .u8 0, .int .i64 0, .int .i64 0, .int .u8 0, .string ⟨#[]⟩, .string ⟨#[]⟩, .string ⟨#[]⟩] 42))).alloc (.cells #[.slice A n c, .int .i64 ((0 : Nat) : Int), .bool false] 342)
  have HQ2 := Lib.hid (heap_extE hq2 hx3)
  have HQ3 := Lib.hid (heap_extE hq3 hx3)
  have HE := Lib.hid ((hx1.trans hx2).trans hx3)
  have HLN := Lib.hid hb.len
  have HSP := Lib.hid (psS_spec (l := l))
  have HRS := Lib.hid (fun x y e (h : bdR l = some (x, y, e)) => psE_some h)
  have HRN := Lib.hid (fun (h : bdR l = none) => psE_none h)
  clear hx1 hx2 hx3 hq2 hq3 hsz hb hL
  go_enter Tryz.func218, Tryz.ntmps218
  go_wp2_with fail
  refine (number_of HR.out 6 rfl).mono ?_
  rintro e w1 ⟨rfl, hr, hm⟩
  have HR := Lib.hid hr
  have HM := Lib.hid hm
  clear hr hm
  go_wp2_with fail
  refine (number_of HR.out 1 rfl).mono ?_
  rintro e w2 ⟨rfl, hr, hm⟩
  have hm := Mod.trans (F := fun i => i = w.heap.size + 2) HM.out hm fun _ hi => .inl hi
  have hr : RdS w2 (w.heap.size + 2) A n c l (psA l) (psB l) := by
    unfold psA psB
    rw [Bool.false_or] at hr
    exact hr
  have HQ2 := Lib.hid (heap_mod HQ2.out hm (by omega))
  have HQ3 := Lib.hid (heap_mod HQ3.out hm (by omega))
  have HE := Lib.hid (show Ext w w2 from Mod.to_ext (Mod.trans (F := fun i => i = w.heap.size + 2) (Mod.of_ext (F := fun i => i = w.heap.size + 2) HE.out) hm fun _ hi => .inl hi) fun i hi => by subst hi; omega)
  generalize (nmS l (nmS l 0 6).2.1 1).1 = y at *
  generalize (nmS l 0 6).1 = x at *
  have hx := (Ext.refl w2).alloc (.cells #[.int .i64 (x : Int), .int .i64 (y : Int)] 38)
  have hb6 := heap_alloc_new w2 (.cells #[.int .i64 (x : Int), .int .i64 (y : Int)] 38)
  have HB6 := Lib.hid hb6
  have HR := Lib.hid (hr.ext hx)
  have HQ2 := Lib.hid (heap_extE HQ2.out hx)
  have HQ3 := Lib.hid (heap_extE HQ3.out hx)
  have hs2 := HE.out.size
  have hg2 : w.heap.size + 2 < w2.heap.size := hr.lt
  have HE := Lib.hid (HE.out.trans hx)
  clear hr hm hx hb6 HM
  go_wp2_with fail
  generalize (w2.alloc (.cells #[.int .i64 (x : Int), .int .i64 (y : Int)] 38)) = w3 at *
  generalize hg6 : w2.heap.size = g6 at *
  refine (entry_of HR.out).mono ?_
  rintro e w4 ⟨rfl, hr, hm⟩
  have HQ2 := Lib.hid (heap_mod HQ2.out hm (by omega))
  have HQ3 := Lib.hid (heap_mod HQ3.out hm (by omega))
  have HB6 := Lib.hid (heap_mod HB6.out hm (by omega))
  have hg4 : g6 < w4.heap.size := (Array.getElem?_eq_some_iff.1 HB6.out).1
  have HE := Lib.hid (show Ext w w4 from Mod.to_ext (Mod.trans (F := fun i => i = w.heap.size + 2) (Mod.of_ext (F := fun i => i = w.heap.size + 2) HE.out) hm fun _ hi => .inl hi) fun i hi => by subst hi; omega)
  obtain ⟨q, hq⟩ : ∃ q, enS l (psA l) = q := ⟨_, rfl⟩
  rw [hq] at HSP hr ⊢
  clear hq
  obtain ⟨⟨ek, cl, sq, ok, key, old, val⟩, m, sh⟩ := q
  dsimp only at HSP hr ⊢
  have hx := (Ext.refl w4).alloc (.cells #[.int .u8 (ek : Int), .int .i64 cl, .int .i64 sq, .int .u8 (ok : Int), .string key, .string old, .string val] 42)
  have HB7 := Lib.hid (heap_alloc_new w4 (.cells #[.int .u8 (ek : Int), .int .i64 cl, .int .i64 sq, .int .u8 (ok : Int), .string key, .string old, .string val] 42))
  have HRR := Lib.hid (hr.ext hx).row
  have HQ2 := Lib.hid (heap_extE HQ2.out hx)
  have HQ3 := Lib.hid (heap_extE HQ3.out hx)
  have HB6 := Lib.hid (heap_extE HB6.out hx)
  have hs4 := HE.out.size
  have HE := Lib.hid (HE.out.trans hx)
  clear hr hm hx HR
  go_upto_region 4 with (fail)
  generalize (w4.alloc (.cells #[.int .u8 (ek : Int), .int .i64 cl, .int .i64 sq, .int .u8 (ok : Int), .string key, .string old, .string val] 42)) = W at *
  generalize hg7 : w4.heap.size = g7 at *
  obtain ⟨⟨r0, r1, r2⟩, _⟩ := rdr_cells HRR.out
  obtain ⟨⟨u0, u1⟩, v0, v1⟩ := two_free HQ2.out
  obtain ⟨d0, d1, d2, d3, d4, d5, d6⟩ := seven_cells HQ3.out
  obtain ⟨e0, e1, e2, e3, e4, e5, e6⟩ := seven_free HQ3.out
  obtain ⟨⟨b0, b1⟩, _⟩ := two_free HB6.out
  obtain ⟨c0, c1, c2, c3, c4, c5, c6⟩ := seven_cells HB7.out
  cases hs : (psB l || sh) with
  | true =>
    have HN := Lib.hid (HRN.out (by
      rcases HSP.out with ⟨⟨h1, h2, _⟩, _⟩ | ⟨_, h⟩
      · rw [h1, h2] at hs; cases hs
      · exact h))
    rw [hs] at r2
    clear HSP HRN HRS hs
    go_wp2_with fail
    refine bodyPost_ret (v := .tuple #[.agg #[.int .i64 0, .int .i64 0], .agg #[.int .u8 0, .int .i64 0, .int .i64 0, .int .u8 0, .string ⟨#[]⟩, .string ⟨#[]⟩, .string ⟨#[]⟩], .int .i64 90]) ?_ rfl ⟨by rw [HN.out]; rfl, ?_⟩
    · simp [results, Tryz.results218, go_sem, u0, u1, d0, d1, d2, d3, d4, d5, d6]
    · exact ext_set7 (ext_set2 HE.out (Nat.le_refl _) _ _) (by omega) _ _ _ _ _ _ _
  | false =>
    have hpb : psB l = false ∧ sh = false := by
      cases h1 : psB l <;> rw [h1] at hs
      · exact ⟨rfl, by simpa using hs⟩
      · cases hs
    rw [hs] at r2
    by_cases hm : m = n
    · have hne : ((m : Int) != (n : Int)) = false := by rw [hm]; simp
      cases hb : balE (x : Int) (y : Int) with
      | false =>
        have HN := Lib.hid (HRN.out (by
          rcases HSP.out with ⟨⟨_, _, _, h, _⟩, _⟩ | ⟨_, h⟩
          · rw [hb] at h; cases h
          · exact h))
        have HBB := Lib.hid hb
        clear HSP HRN HRS hs hpb hm hb
        go_wp2_with fail
        refine (mayBallot_any _ _ _).mono ?_
        rw [HBB.out]
        rintro e w5 ⟨rfl, hx⟩
        have HQ2 := Lib.hid (heap_extE HQ2.out hx)
        have HQ3 := Lib.hid (heap_extE HQ3.out hx)
        have HB6 := Lib.hid (heap_extE HB6.out hx)
        have HB7 := Lib.hid (heap_extE HB7.out hx)
        have HE := Lib.hid (HE.out.trans hx)
        clear hx
        clear u0 u1 v0 v1 d0 d1 d2 d3 d4 d5 d6 e0 e1 e2 e3 e4 e5 e6 b0 b1 c0 c1 c2 c3 c4 c5 c6 r0 r1 r2
        obtain ⟨⟨u0, u1⟩, v0, v1⟩ := two_free HQ2.out
        obtain ⟨d0, d1, d2, d3, d4, d5, d6⟩ := seven_cells HQ3.out
        obtain ⟨e0, e1, e2, e3, e4, e5, e6⟩ := seven_free HQ3.out
        obtain ⟨⟨b0, b1⟩, _⟩ := two_free HB6.out
        obtain ⟨c0, c1, c2, c3, c4, c5, c6⟩ := seven_cells HB7.out
        go_wp2_with fail
        refine bodyPost_ret (v := .tuple #[.agg #[.int .i64 0, .int .i64 0], .agg #[.int .u8 0, .int .i64 0, .int .i64 0, .int .u8 0, .string ⟨#[]⟩, .string ⟨#[]⟩, .string ⟨#[]⟩], .int .i64 90]) ?_ rfl ⟨by rw [HN.out]; rfl, ?_⟩
        · simp [results, Tryz.results218, go_sem, u0, u1, d0, d1, d2, d3, d4, d5, d6]
        · exact ext_set7 (ext_set2 HE.out (Nat.le_refl _) _ _) (by omega) _ _ _ _ _ _ _
      | true =>
        have HBB := Lib.hid hb
        cases hk : enOk ⟨ek, cl, sq, ok, key, old, val⟩ with
        | false =>
          have HN := Lib.hid (HRN.out (by
            rcases HSP.out with ⟨⟨_, _, _, _, h⟩, _⟩ | ⟨_, h⟩
            · rw [hk] at h; cases h
            · exact h))
          have HKK := Lib.hid hk
          clear HSP HRN HRS hs hpb hm hb hk
          go_wp2_with fail
          refine (mayBallot_any _ _ _).mono ?_
          rw [HBB.out]
          rintro e w5 ⟨rfl, hx⟩
          have HQ2 := Lib.hid (heap_extE HQ2.out hx)
          have HQ3 := Lib.hid (heap_extE HQ3.out hx)
          have HB6 := Lib.hid (heap_extE HB6.out hx)
          have HB7 := Lib.hid (heap_extE HB7.out hx)
          have HE := Lib.hid (HE.out.trans hx)
          clear hx
          clear u0 u1 v0 v1 d0 d1 d2 d3 d4 d5 d6 e0 e1 e2 e3 e4 e5 e6 b0 b1 c0 c1 c2 c3 c4 c5 c6 r0 r1 r2
          obtain ⟨⟨u0, u1⟩, v0, v1⟩ := two_free HQ2.out
          obtain ⟨d0, d1, d2, d3, d4, d5, d6⟩ := seven_cells HQ3.out
          obtain ⟨e0, e1, e2, e3, e4, e5, e6⟩ := seven_free HQ3.out
          obtain ⟨⟨b0, b1⟩, _⟩ := two_free HB6.out
          obtain ⟨c0, c1, c2, c3, c4, c5, c6⟩ := seven_cells HB7.out
          go_wp2_with fail
          refine (mayE_any _ _ _ _ _ _ _ _).mono ?_
          rw [HKK.out]
          rintro e w6 ⟨rfl, hx⟩
          have HQ2 := Lib.hid (heap_extE HQ2.out hx)
          have HQ3 := Lib.hid (heap_extE HQ3.out hx)
          have HB6 := Lib.hid (heap_extE HB6.out hx)
          have HB7 := Lib.hid (heap_extE HB7.out hx)
          have HE := Lib.hid (HE.out.trans hx)
          clear hx
          clear u0 u1 v0 v1 d0 d1 d2 d3 d4 d5 d6 e0 e1 e2 e3 e4 e5 e6 b0 b1 c0 c1 c2 c3 c4 c5 c6
          obtain ⟨⟨u0, u1⟩, v0, v1⟩ := two_free HQ2.out
          obtain ⟨d0, d1, d2, d3, d4, d5, d6⟩ := seven_cells HQ3.out
          obtain ⟨e0, e1, e2, e3, e4, e5, e6⟩ := seven_free HQ3.out
          obtain ⟨⟨b0, b1⟩, _⟩ := two_free HB6.out
          obtain ⟨c0, c1, c2, c3, c4, c5, c6⟩ := seven_cells HB7.out
          go_wp2_with fail
          refine bodyPost_ret (v := .tuple #[.agg #[.int .i64 0, .int .i64 0], .agg #[.int .u8 0, .int .i64 0, .int .i64 0, .int .u8 0, .string ⟨#[]⟩, .string ⟨#[]⟩, .string ⟨#[]⟩], .int .i64 90]) ?_ rfl ⟨by rw [HN.out]; rfl, ?_⟩
          · simp [results, Tryz.results218, go_sem, u0, u1, d0, d1, d2, d3, d4, d5, d6]
          · exact ext_set7 (ext_set2 HE.out (Nat.le_refl _) _ _) (by omega) _ _ _ _ _ _ _
        | true =>
          have HN := Lib.hid (HRS.out _ _ _ (by
            rcases HSP.out with ⟨_, h⟩ | ⟨h, _⟩
            · exact h
            · exfalso
              rw [hk, hb, hpb.1, hpb.2] at h
              have := HLN.out
              simp at h
              omega))
          have HKK := Lib.hid hk
          clear HSP HRN HRS hs hpb hm hb hk
          go_wp2_with fail
          refine (mayBallot_any _ _ _).mono ?_
          rw [HBB.out]
          rintro e w5 ⟨rfl, hx⟩
          have HQ2 := Lib.hid (heap_extE HQ2.out hx)
          have HQ3 := Lib.hid (heap_extE HQ3.out hx)
          have HB6 := Lib.hid (heap_extE HB6.out hx)
          have HB7 := Lib.hid (heap_extE HB7.out hx)
          have HE := Lib.hid (HE.out.trans hx)
          clear hx
          clear u0 u1 v0 v1 d0 d1 d2 d3 d4 d5 d6 e0 e1 e2 e3 e4 e5 e6 b0 b1 c0 c1 c2 c3 c4 c5 c6 r0 r1 r2
          obtain ⟨⟨u0, u1⟩, v0, v1⟩ := two_free HQ2.out
          obtain ⟨d0, d1, d2, d3, d4, d5, d6⟩ := seven_cells HQ3.out
          obtain ⟨e0, e1, e2, e3, e4, e5, e6⟩ := seven_free HQ3.out
          obtain ⟨⟨b0, b1⟩, _⟩ := two_free HB6.out
          obtain ⟨c0, c1, c2, c3, c4, c5, c6⟩ := seven_cells HB7.out
          go_wp2_with fail
          refine (mayE_any _ _ _ _ _ _ _ _).mono ?_
          rw [HKK.out]
          rintro e w6 ⟨rfl, hx⟩
          have HQ2 := Lib.hid (heap_extE HQ2.out hx)
          have HQ3 := Lib.hid (heap_extE HQ3.out hx)
          have HB6 := Lib.hid (heap_extE HB6.out hx)
          have HB7 := Lib.hid (heap_extE HB7.out hx)
          have HE := Lib.hid (HE.out.trans hx)
          clear hx
          clear u0 u1 v0 v1 d0 d1 d2 d3 d4 d5 d6 e0 e1 e2 e3 e4 e5 e6 b0 b1 c0 c1 c2 c3 c4 c5 c6
          obtain ⟨⟨u0, u1⟩, v0, v1⟩ := two_free HQ2.out
          obtain ⟨d0, d1, d2, d3, d4, d5, d6⟩ := seven_cells HQ3.out
          obtain ⟨e0, e1, e2, e3, e4, e5, e6⟩ := seven_free HQ3.out
          obtain ⟨⟨b0, b1⟩, _⟩ := two_free HB6.out
          obtain ⟨c0, c1, c2, c3, c4, c5, c6⟩ := seven_cells HB7.out
          go_wp2_with fail
          go_region
          go_wp2_with fail
          refine bodyPost_ret (v := .tuple #[.agg #[.int .i64 (x : Int), .int .i64 (y : Int)], .agg #[.int .u8 (ek : Int), .int .i64 cl, .int .i64 sq, .int .u8 (ok : Int), .string key, .string old, .string val], .int .i64 0]) ?_ rfl ⟨by rw [HN.out], ?_⟩
          · simp [results, Tryz.results218, go_sem, u0, u1, d0, d1, d2, d3, d4, d5, d6]
          · exact (ext_set7 (ext_set2 HE.out (Nat.le_refl _) _ _) (by omega) _ _ _ _ _ _ _).drew
    · have hne : ((m : Int) != (n : Int)) = true := by rw [bne_iff_ne]; omega
      have HN := Lib.hid (HRN.out (by
        rcases HSP.out with ⟨⟨_, _, h, _⟩, _⟩ | ⟨_, h⟩
        · exact absurd (h.trans HLN.out) hm
        · exact h))
      clear HSP HRN HRS hs hpb hm
      go_wp2_with fail
      refine bodyPost_ret (v := .tuple #[.agg #[.int .i64 0, .int .i64 0], .agg #[.int .u8 0, .int .i64 0, .int .i64 0, .int .u8 0, .string ⟨#[]⟩, .string ⟨#[]⟩, .string ⟨#[]⟩], .int .i64 90]) ?_ rfl ⟨by rw [HN.out]; rfl, ?_⟩
      · simp [results, Tryz.results218, go_sem, u0, u1, d0, d1, d2, d3, d4, d5, d6]
      · exact ext_set7 (ext_set2 HE.out (Nat.le_refl _) _ _) (by omega) _ _ _ _ _ _ _
end
end Go.Proofs.YtmbmpabjclkhlaaGreatDoor
