/-
  The document's observers over its disk: Honest.
  The document's Honest, where there is no such place.
  The contract of Place.
-/
import Derived.Test.YtlikhmhomkiadaaGreatDoorQ34
import Derived.Test.YtlikhmhomkiadaaGreatDoorQ36
import Derived.Test.YtlikhmhomkiadaaGreatDoorQ38
import Derived.Deep.RegionLaw
import Derived.Deep.AppendLies
import Derived.Deep.RegionHeld3
namespace Go.Proofs.YtlikhmhomkiadaaGreatDoor
set_option maxRecDepth 100000
open Go Go.RowKit

theorem rd_meant {w : World} {d : Nat} {p : Nat → Nat} {m : DM} (h : RD w d p m) {j : Nat} (hj : j < m.size) (hs : m.size = 156) : ∃ gm cm B n, w.cell? ⟨d, 1, none⟩ = some (.slice (some ⟨gm, 0, none⟩) 156 cm) ∧ w.cell? ⟨gm, j, none⟩ = some (.slice (some ⟨B, 0, none⟩) 64 n) ∧ By w (some ⟨B, 0, none⟩) 64 n (m.meant.getD j []) ∧ Sect (m.meant.getD j []) := by
  obtain ⟨gr, cr, gm, cm, gl, cl, A, n, A2, n2, ⟨_, c1, _⟩, ⟨_, k1, _⟩, _, hb2, _, hs2⟩ := rd_parts h hj
  rw [hs] at c1
  exact ⟨gm, cm, A2, n2, c1, k1, hb2, hs2⟩
theorem means_eq {m : DM} {j : Nat} (hj : j < m.size) : m.means (j : Int) = (m.meant.getD j [], 0) := by
  have hh : m.has (j : Int) = true := DM.has_iff.2 ⟨by omega, by omega⟩
  unfold DM.means
  rw [if_neg (by rw [hh]; simp), Int.toNat_natCast]
theorem by_news {w : World} {B n c : Nat} {l : List Nat} (h : By w (some ⟨B, 0, none⟩) n c l) : ∀ (j : Nat) (u : Value), (vb l)[j]? = some u → w.cell? ((⟨B, 0, none⟩ : Addr).add j) = some u := fun j u hu => by
  rw [vb_get] at hu
  obtain ⟨x, hx, rfl⟩ := Option.map_eq_some_iff.1 hu
  obtain ⟨g, o, e, hg, hc⟩ := h.rd.2 (by have := (List.getElem?_eq_some_iff.1 hx).1; omega)
  injection e with e
  injection e with e1 e2
  subst e1; subst e2
  have := hc j x hx
  rw [Addr.add_lit]
  exact this

set_option maxRecDepth 100000 in
set_option maxHeartbeats 1600000 in
theorem rhonest_yes {w : World} {d : Nat} {p : Nat → Nat} {m : DM} (h : RD w d p m) (hs : m.size = 156) (r g pl : Int) (hE : placeG 156 r g pl = 0) :
    Calls Tryz.prog 18 #[.pointer (some ⟨d, 0, none⟩), .int .i64 r, .int .i64 g, .int .i64 pl] w fun e w' => ∃ A N c', e = .returned (.tuple #[.int .u8 (stM (m.meantL (firstS g pl) (wid g)) r g pl), tagV (m.meantL (firstS g pl) (wid g)) r g pl, .slice A N c', .int .i64 0]) ∧ By w' A N c' (mbl (m.meantL (firstS g pl) (wid g)) r g pl) ∧ Ext w w' := by
  obtain ⟨i0, hi, hz0, hz1, hz2⟩ := info_parts byte_info
  have ha := rasked_of h hs r g pl
  rw [hE, decide_eq_true rfl] at ha
  have hf := (placeG_ok hE).2
  have hp := first_wid (by
    by_cases hh : 0 ≤ pl ∧ pl < plc g
    · exact hh
    · rw [firstS_no hh] at hf; omega)
  have hw2 := wid_le g
  have H := Lib.hid h
  have HA := Lib.hid ha
  have HSZ := Lib.hid hs
  obtain ⟨S, hS⟩ : ∃ S : Nat, firstS g pl = (S : Int) := ⟨(firstS g pl).toNat, by omega⟩
  obtain ⟨W, hW⟩ : ∃ W, wid g = W := ⟨_, rfl⟩
  have HS := Lib.hid hS
  have HW := Lib.hid hW
  rw [hS, hW] at hp
  rw [hW] at hw2
  rw [hS, hW]
  have hp := hp.2
  have hE0 : Ext w (w.alloc (.cells #[.int .i64 0, .int .i64 0, .int .i64 0, .int .i64 0, .int .i64 0] 33)) := (Ext.refl w).alloc _
  have hz := heap_alloc_new w (.cells #[.int .i64 0, .int .i64 0, .int .i64 0, .int .i64 0, .int .i64 0] 33)
  obtain ⟨W1, hW1⟩ : ∃ W1, w.alloc (.cells #[.int .i64 0, .int .i64 0, .int .i64 0, .int .i64 0, .int .i64 0] 33) = W1 := ⟨_, rfl⟩
  have hs1 : W1.heap.size = w.heap.size + 1 := by rw [← hW1]; simp
  rw [hW1] at hE0 hz
  have ha2 := rasked_of (h.ext hE0) hs r g pl
  rw [hE, decide_eq_true rfl] at ha2
  have HA2 := Lib.hid ha2
  have HE0 := Lib.hid hE0
  have HZ := Lib.hid hz
  have H1 := Lib.hid (h.ext hE0)
  clear h hs ha ha2 hE hf hS hW hE0 hz H HA
  go_enter Tryz.func18, Tryz.ntmps18
  go_wp2_with fail
  refine HA2.out.mono ?_
  rintro e w1 ⟨rfl, hx⟩
  have HG := Lib.hid ((Gath.start W1).more hx)
  clear hx
  go_wp2_with fail
  go_loopw [12, 13] (fun c i wr => ∃ k : Nat, k ≤ W ∧ i = .int .i64 k ∧ Hid (Gath W1 wr c (m.meantL S k) k)) (fun _ i _ => W - (intOf i).toNat)
  case atStart => exact ⟨0, Nat.zero_le _, rfl, HG⟩
  case round =>
    obtain ⟨k, hk, rfl, HG⟩ := hrel
    obtain ⟨A, c, rfl, hby⟩ := HG.out.form
    clear hby
    by_cases hlt : k < W
    · obtain ⟨J, hJ⟩ : ∃ J, S + k = J := ⟨_, rfl⟩
      have hJ2 : ((S : Int) + (k : Int)) = (J : Int) := by omega
      have hj : J < m.size := by rw [HSZ.out]; omega
      have hm : m.meantL S (k + 1) = m.meantL S k ++ m.meant.getD J [] := by
        show m.meantL S k ++ (m.means ((S : Int) + (k : Int))).1 = _
        rw [hJ2, means_eq hj]
      obtain ⟨gm, cm, B, nb, q0, q1, hb, hs1b⟩ := rd_meant (H1.out.ext HG.out.ext) hj HSZ.out
      have HM := Lib.hid hm
      have HBB := Lib.hid (hb.ext (Ext.refl wr).drew)
      have HS1 := Lib.hid hs1b
      have hl64 : (m.meant.getD J []).length = 64 := hs1b.1
      have hfew := HG.out.few
      have hj156 : J < 156 := by omega
      have hj156i : (J : Int) < 156 := by omega
      have hq : IntKind.i64.wrap ((S : Int) + (k : Int)) = (J : Int) := by rw [IntWalk.i64_in _ (by omega)]; exact hJ2
      have HG2 := Lib.hid (HG.out.more (Ext.refl wr).drew)
      have hszw := HG2.out.ext.size
      have HJ := Lib.hid hJ
      clear hm hb hs1b hj hJ2 hJ
      generalize m.meantL S k = L at *
      generalize m.meant.getD J [] = R at *
      have HNW := Lib.hid (by_news HBB.out)
      have HONE : Hid (∀ u ∈ vb R, u.oneCell' = true) := Lib.hid (vb_one R)
      have HVL : Hid ((vb R).length = 64 * 1) := Lib.hid (by rw [vb_length, hl64])
      go_wp2_with fail
      refine (rwide_any g _).mono ?_
      rw [HW.out]
      rintro e w3 ⟨rfl, rfl⟩
      go_wp2_with fail
      go_region_law (first
        | (refine step_append_lies _ rfl _ _ 34 rfl W1.heap.size 5 i0 (.int .u8 0) 1 1 Tryz.underlying34 hi hz0 hz1 hz2 rfl (by decide) _ L.length (vb L) rfl HG2.out.own ⟨B, 0, none⟩ 64 nb (vb R) rfl HVL.out HNW.out HONE.out (by omega) (by unfold maxLen; omega) (by omega) hszw _ rfl ?_; intro bk cap w4 hown hgrow hat hlt4; have HO4 := Lib.hid hown; have HG4 := Lib.hid hgrow; clear hown hgrow hat hlt4)
        | (go_simp; go_at_call 53; refine (rfirst_any g pl _).mono ?_; rw [HS.out]; rintro e w2 ⟨rfl, rfl⟩))
      all_goals
        have HG5 : Hid (Gath W1 w4 (.slice (some ⟨bk, 0, none⟩) (L.length + 64) cap) (L ++ R) (k + 1)) := Lib.hid (HG2.out.app HG4.out (by rw [hl64]; exact HO4.out) HS1.out.2 (by omega))
        go_wp2_with fail
        go_roundw
        case rel => exact ⟨k + 1, by omega, by go_num, by rw [HM.out]; exact HG5⟩
        case measure => simp [intOf]; omega
    · obtain rfl : k = W := by omega
      go_wp2_with fail
      refine (rwide_any g _).mono ?_
      rw [HW.out]
      rintro e w3 ⟨rfl, rfl⟩
      go_wp2_with fail
      obtain ⟨A', c', e, hby⟩ := HG.out.form
      injection e with e1 _ e3
      subst e1; subst e3
      refine (rmine_any A _ c (m.meantL S k) r g pl _ hby).mono ?_
      rintro e w4 ⟨A4, N4, cc, rfl, hb4, hge, hx⟩
      have hTV : tagV (m.meantL S k) r g pl = .agg #[.int .i64 (mfl (m.meantL S k) r g pl 0 : Nat), .int .i64 (mfl (m.meantL S k) r g pl 1 : Nat), .int .i64 (mfl (m.meantL S k) r g pl 2 : Nat), .int .i64 (mfl (m.meantL S k) r g pl 3 : Nat), .int .i64 (mfl (m.meantL S k) r g pl 4 : Nat)] := rfl
      generalize ((mfl (m.meantL S k) r g pl 0 : Nat) : Int) = t0 at hTV ⊢
      generalize ((mfl (m.meantL S k) r g pl 1 : Nat) : Int) = t1 at hTV ⊢
      generalize ((mfl (m.meantL S k) r g pl 2 : Nat) : Int) = t2 at hTV ⊢
      generalize ((mfl (m.meantL S k) r g pl 3 : Nat) : Int) = t3 at hTV ⊢
      generalize ((mfl (m.meantL S k) r g pl 4 : Nat) : Int) = t4 at hTV ⊢
      have HTV := Lib.hid hTV
      have hw1 := HG.out.ext.size
      have hw4 := hx.size
      have hX1 := HG.out.ext.trans hx
      have hzr := ((hX1.trans ((Ext.refl w4).alloc (.cells #[.int .i64 t0, .int .i64 t1, .int .i64 t2, .int .i64 t3, .int .i64 t4] 33))).block _ (Array.getElem?_eq_some_iff.1 HZ.out).1).trans HZ.out
      have hsr := heap_alloc_new w4 (.cells #[.int .i64 t0, .int .i64 t1, .int .i64 t2, .int .i64 t3, .int .i64 t4] 33)
      have HX := Lib.hid ((HE0.out.trans hX1).trans ((Ext.refl w4).alloc (.cells #[.int .i64 t0, .int .i64 t1, .int .i64 t2, .int .i64 t3, .int .i64 t4] 33)))
      have HB4 := Lib.hid (hb4.ext ((Ext.refl w4).alloc (.cells #[.int .i64 t0, .int .i64 t1, .int .i64 t2, .int .i64 t3, .int .i64 t4] 33)))
      have HNE : Hid (∀ gg o, A4 = some ⟨gg, o, none⟩ → 0 < N4 → w.heap.size ≠ gg) := Lib.hid fun gg o hA hN e => by
        have := hge gg o hA hN
        omega
      have HNT : Hid (w.heap.size ≠ w4.heap.size) := Lib.hid (by omega)
      have HZR := Lib.hid hzr
      have HSR := Lib.hid hsr
      clear hby hx hb4 hge hTV hX1 hzr hsr hw1 hw4
      go_wp2_with fail
      have hz4 := HZR.out
      have hs4 := HSR.out
      have hx := HX.out
      have hb := HB4.out
      clear HZR HSR HX HB4
      generalize w4.alloc (.cells #[.int .i64 t0, .int .i64 t1, .int .i64 t2, .int .i64 t3, .int .i64 t4] 33) = V at hz4 hs4 hx hb ⊢
      generalize hT : w4.heap.size = T at *
      generalize hD : w.heap.size = D at *
      obtain ⟨⟨c0, c1, c2, c3, c4⟩, f0, f1, f2, f3, f4⟩ := five_cells hz4
      obtain ⟨⟨d0, d1, d2, d3, d4⟩, _⟩ := five_cells hs4
      have HZR := Lib.hid hz4
      have HX := Lib.hid hx
      have HB := Lib.hid hb
      have HDD := Lib.hid hD
      clear hz4 hs4 hx hb hT hD
      go_region_held3 (fun w' => w'.cell? ⟨T, 0, none⟩ = some (.int .i64 t0) ∧ w'.cell? ⟨T, 1, none⟩ = some (.int .i64 t1) ∧ w'.cell? ⟨T, 2, none⟩ = some (.int .i64 t2) ∧ w'.cell? ⟨T, 3, none⟩ = some (.int .i64 t3) ∧ w'.cell? ⟨T, 4, none⟩ = some (.int .i64 t4))
        (first | with_reducible exact ⟨d0, d1, d2, d3, d4⟩ | with_reducible exact ⟨five_far_drew HNT.out d0 _ _ _ _ _, five_far_drew HNT.out d1 _ _ _ _ _, five_far_drew HNT.out d2 _ _ _ _ _, five_far_drew HNT.out d3 _ _ _ _ _, five_far_drew HNT.out d4 _ _ _ _ _⟩ | go_keep)
        (first | (go_at_call 0; fail))
      all_goals
        have hrow := five_row HZR.out (.int .i64 t0) (.int .i64 t1) (.int .i64 t2) (.int .i64 t3) (.int .i64 t4)
        have hx := five_ext HX.out (g := D) (Nat.le_of_eq HDD.out) (.int .i64 t0) (.int .i64 t1) (.int .i64 t2) (.int .i64 t3) (.int .i64 t4)
        have hby := HB.out.five HNE.out (.int .i64 t0) (.int .i64 t1) (.int .i64 t2) (.int .i64 t3) (.int .i64 t4)
        clear c0 c1 c2 c3 c4 f0 f1 f2 f3 f4 d0 d1 d2 d3 d4
        generalize (((((V.setCell ⟨D, 0, none⟩ (.int .i64 t0)).setCell ⟨D, 1, none⟩ (.int .i64 t1)).setCell ⟨D, 2, none⟩ (.int .i64 t2)).setCell ⟨D, 3, none⟩ (.int .i64 t3)).setCell ⟨D, 4, none⟩ (.int .i64 t4)) = U at hrow hx hby ⊢
        obtain ⟨⟨e0, e1, e2, e3, e4⟩, _⟩ := five_cells hrow
        have HB2 := Lib.hid (hby.ext ((Ext.refl U).drew))
        have HX2 := Lib.hid hx.drew
        clear hrow hx hby
        go_wp2_with fail
        refine bodyPost_ret (v := .tuple #[.int .u8 (stM (m.meantL S k) r g pl : Nat), .agg #[.int .i64 t0, .int .i64 t1, .int .i64 t2, .int .i64 t3, .int .i64 t4], .slice A4 N4 cc, .int .i64 0]) ?_ rfl ?_
        · simp [results, Tryz.results18, go_sem, e0, e1, e2, e3, e4]
        · exact ⟨A4, N4, cc, by rw [HTV.out], HB2.out, HX2.out⟩
end Go.Proofs.YtlikhmhomkiadaaGreatDoor

namespace Go.Proofs.YtlikhmhomkiadaaGreatDoor
set_option maxRecDepth 100000
open Go Go.RowKit

set_option maxHeartbeats 1600000 in
theorem rhonest_no {w : World} {d : Nat} {p : Nat → Nat} {m : DM} (h : RD w d p m) (hs : m.size = 156) (r g pl : Int) (hE : placeG 156 r g pl ≠ 0) :
    Calls Tryz.prog 18 #[.pointer (some ⟨d, 0, none⟩), .int .i64 r, .int .i64 g, .int .i64 pl] w fun e w' => e = .returned (.tuple #[.int .u8 0, .agg #[.int .i64 0, .int .i64 0, .int .i64 0, .int .i64 0, .int .i64 0], .slice none 0 0, .int .i64 2]) ∧ Ext w w' := by
  have hE0 : Ext w (w.alloc (.cells #[.int .i64 0, .int .i64 0, .int .i64 0, .int .i64 0, .int .i64 0] 33)) := (Ext.refl w).alloc _
  have hk := rasked_of (h.ext hE0) hs r g pl
  rw [decide_eq_false hE] at hk
  have HK := Lib.hid hk
  have HE := Lib.hid hE0
  have HZ := Lib.hid (heap_alloc_new w (.cells #[.int .i64 0, .int .i64 0, .int .i64 0, .int .i64 0, .int .i64 0] 33))
  clear h hs hk hE hE0
  go_enter Tryz.func18, Tryz.ntmps18
  go_wp2_with fail
  refine HK.out.mono ?_
  rintro e w1 ⟨rfl, hx⟩
  have hz1 := (hx.block _ (Array.getElem?_eq_some_iff.1 HZ.out).1).trans HZ.out
  have HE := Lib.hid (HE.out.trans hx)
  have HZ := Lib.hid hz1
  obtain ⟨⟨c0, c1, c2, c3, c4⟩, f0, f1, f2, f3, f4⟩ := five_cells hz1
  clear hx hz1
  go_wp2_with fail
  have hz3 := five_row HZ.out (.int .i64 0) (.int .i64 0) (.int .i64 0) (.int .i64 0) (.int .i64 0)
  have hx3 := five_ext HE.out (Nat.le_refl _) (.int .i64 0) (.int .i64 0) (.int .i64 0) (.int .i64 0) (.int .i64 0)
  generalize (((((w1.setCell ⟨w.heap.size, 0, none⟩ (.int .i64 0)).setCell ⟨w.heap.size, 1, none⟩ (.int .i64 0)).setCell ⟨w.heap.size, 2, none⟩ (.int .i64 0)).setCell ⟨w.heap.size, 3, none⟩ (.int .i64 0)).setCell ⟨w.heap.size, 4, none⟩ (.int .i64 0)) = V at hz3 hx3 ⊢
  obtain ⟨⟨e0, e1, e2, e3, e4⟩, _⟩ := five_cells hz3
  refine bodyPost_ret (v := .tuple #[.int .u8 0, .agg #[.int .i64 0, .int .i64 0, .int .i64 0, .int .i64 0, .int .i64 0], .slice none 0 0, .int .i64 2]) ?_ rfl ?_
  · simp [results, Tryz.results18, go_sem, e0, e1, e2, e3, e4]
  · exact ⟨rfl, hx3⟩
end Go.Proofs.YtlikhmhomkiadaaGreatDoor

namespace Go.Proofs.YtlikhmhomkiadaaGreatDoor
set_option maxRecDepth 100000
open Go Go.RowKit Go.Shelf
attribute [local go_sem] Oper.semAt_some

theorem ownF_block {β : Type} (B g : Nat) (cs : β → Array Value) (t : TypeId) : OwnFrom B (fun (s : β) W => W.heap[g]? = some (.cells (cs s) t (0, 0))) := fun s W W' row hs hg hr => by
  refine (hg.block g (Array.getElem?_eq_some_iff.1 hs).1 (fun e => ?_)).trans hs
  obtain ⟨_, o, ho, hoc⟩ := hr g e.symm
  rw [hs] at ho
  injection ho with ho
  subst ho
  cases hoc
theorem keepF {V w' : World} {g : Nat} {v : Value} {t : TypeId} (k : Hid (Ext V.drew w')) (h1 : Hid (V.heap[g]? = some (.cells #[v] t (0, 0)))) : w'.cell? ⟨g, 0, none⟩ = some v ∧ w'.frozen? ⟨g, 0, none⟩ = false := by
  have h := (k.out.block g (Array.getElem?_eq_some_iff.1 h1.out).1).trans h1.out
  exact ⟨cell_of_row _ _ 0 _ _ _ h, frozen_of_row _ _ 0 _ _ h⟩
theorem keepG {V w' : World} {g : Nat} {v : Value} {t : TypeId} (k : Hid (Ext V.drew w')) (h1 : Hid (V.heap[g]? = some (.cells #[v] t (0, 0)))) : (w'.setCell ⟨g, 0, none⟩ v).cell? ⟨g, 0, none⟩ = some v ∧ (w'.setCell ⟨g, 0, none⟩ v).frozen? ⟨g, 0, none⟩ = false := by
  have h := row_set 0 ((k.out.block g (Array.getElem?_eq_some_iff.1 h1.out).1).trans h1.out) v rfl
  exact ⟨cell_of_row _ _ 0 _ _ _ h, frozen_of_row _ _ 0 _ _ h⟩
theorem keepD {V w' : World} {g i : Nat} {v : Value} (k : Hid (Ext V.drew w')) (h1 : Hid (V.cell? ⟨g, i, none⟩ = some v)) : w'.cell? ⟨g, i, none⟩ = some v := ext_of_cell k.out h1.out
theorem empty_map {α β : Type} {f : α → β} {l : List α} {l2 : List β} (h : l.map f = l2) : l.isEmpty = l2.isEmpty := by subst h; cases l <;> rfl
theorem pl_ret {b : Nat} {W : World} {a : Act} {D : Nat} {h bd : Bool} {E : Int} {R : Ending → World → Prop} (h8 : a.tmps.getD 8 undef = .pointer (some ⟨b, 0, none⟩)) (h9 : a.tmps.getD 9 undef = .bool bd) (h10 : a.tmps.getD 10 undef = .int .i64 E)
    (hd : a.defers = [{ target := .collected D, args := #[] }]) (hK : W.heap[D]? = some (.deferred (some []))) (c1 : W.cell? ⟨b, 0, none⟩ = some (.bool h))
    (hR : R (.returned (.tuple #[.bool h, .bool bd, .int .i64 E])) (W.putObj D (.deferred none))) : bodyPostM Fence.wide 9 Tryz.prog Tryz.f13 R .ret a W := by
  refine retM1 (v := .tuple #[.bool h, .bool bd, .int .i64 E]) hd hK ?_ hR
  have k1 := cell_kept c1 (grownBy_putObj' _ D (.deferred none)) (fun r e => by cases e; exact ⟨_, hK, rfl⟩)
  have h8' : a.tmps[8]?.getD undef = .pointer (some ⟨b, 0, none⟩) := by simpa using h8
  have h9' : a.tmps[9]?.getD undef = .bool bd := by simpa using h9
  have h10' : a.tmps[10]?.getD undef = .int .i64 E := by simpa using h10
  simp [results, Tryz.results13, go_sem, h8', h9', h10', k1]
theorem firstS_le (g p : Int) : firstS g p ≤ 156 := by
  have h1 := beg_le g
  have h2 := wid_le g
  by_cases hh : 0 ≤ p ∧ p < plc g
  · rw [firstS_yes hh]
    have hr := plc_some (r := g) (by omega)
    rcases region_cases hr with rfl | rfl | rfl | rfl | rfl <;> simp [beg, plc, wid] at hh ⊢ <;> omega
  · rw [firstS_no hh]; omega

set_option maxHeartbeats 800000 in
theorem place_err {w : World} {p : Option Addr} {sz : Nat} (hS : Sized w p sz) (hL : LaidT w) (r g pl : Int) (hE : placeG sz r g pl ≠ 0) :
    Calls Tryz.prog 13 #[.pointer p, .int .i64 r, .int .i64 g, .int .i64 pl] w fun e w' => e = .returned (.tuple #[.bool false, .bool false, .int .i64 (placeG sz r g pl)]) ∧ Ext w w' := by
  have hE0 : Ext w (w.alloc (.cells #[.bool false] 4)) := (Ext.refl w).alloc _
  have hk := gplace_of (hS.ext hE0) (hL.ext hE0) r g pl
  obtain ⟨E, hEE⟩ : ∃ E, placeG sz r g pl = E := ⟨_, rfl⟩
  rw [hEE] at hk hE ⊢
  have HK := Lib.hid hk
  have HE0 := Lib.hid hE0
  have hne : (E != 0) = true := by simpa using hE
  have hlt : w.heap.size < (w.alloc (.cells #[.bool false] 4)).heap.size := by simp
  have hz := heap_alloc_new w (.cells #[.bool false] 4)
  have HZ := Lib.hid hz
  clear hS hL hk hE hEE hE0 hz
  refine calls_marks Tryz.func13 rfl ?_
  simp only [Tryz.ntmps13, List.size_toArray, List.length_cons, List.length_nil, Nat.reduceAdd, Nat.reduceSub, Array.replicate_succ, Array.replicate_zero, List.push_toArray, List.append_toArray, List.nil_append, List.cons_append]
  go_wp2_with fail
  refine HK.out.mono ?_
  rintro e w1 ⟨rfl, hx⟩
  have hz1 := (hx.block _ hlt).trans HZ.out
  have hc := cell_of_row _ _ 0 _ _ _ hz1
  have hf := frozen_of_row _ _ 0 _ _ hz1
  have hl1 := Nat.lt_of_lt_of_le hlt hx.size
  have HX := Lib.hid (HE0.out.trans hx)
  clear hx
  go_wp2_with fail
  refine retM0 (v := .tuple #[.bool false, .bool false, .int .i64 E]) rfl ?_ ?_
  · have hz2 := row_set 0 hz1 (.bool false) rfl
    have hc2 := cell_of_row _ _ 0 _ _ _ hz2
    simp at hc2
    simp [results, Tryz.results13, go_sem, hc2]
  · exact ⟨rfl, HX.out.setCell (p := ⟨w.heap.size, 0, none⟩) (Nat.le_refl _) _⟩

set_option maxRecDepth 100000 in
set_option maxHeartbeats 1600000 in
theorem place_yes {w : World} {d : Nat} {F : Nat → Prop} {m : DM} (h : PDisk w d F m) (hL : LaidF w) (r g pl : Int) (hE : placeG m.size r g pl = 0) :
    Calls Tryz.prog 13 #[.pointer (some ⟨d, 0, none⟩), .int .i64 r, .int .i64 g, .int .i64 pl] w fun e w' => e = .returned (.tuple #[.bool (anyIn m.hurt (firstS g pl) (wid g)), .bool (anyIn m.hurt (firstS g pl) (wid g) && m.badB r g pl), .int .i64 0]) ∧ Ext w w' := by
  have hE0 : Ext w (w.alloc (.cells #[.bool false] 4)) := (Ext.refl w).alloc _
  have hk := gplace_of (Sized.of (h.ext hE0)) (hL.ext hE0).a.t r g pl
  rw [hE] at hk
  have hf0 := (placeG_ok hE).2
  have hfl := firstS_le g pl
  have hwl := wid_le g
  have hlt : w.heap.size < (w.alloc (.cells #[.bool false] 4)).heap.size := by simp
  have hz := heap_alloc_new w (.cells #[.bool false] 4)
  have HZ := Lib.hid hz
  have HK := Lib.hid hk
  have HE0 := Lib.hid hE0
  have H := Lib.hid h
  have HL := Lib.hid hL
  have HF0 := Lib.hid hf0
  obtain ⟨S, hS⟩ : ∃ S, firstS g pl = S := ⟨_, rfl⟩
  obtain ⟨W, hW⟩ : ∃ W, wid g = W := ⟨_, rfl⟩
  have HS := Lib.hid hS
  have HW := Lib.hid hW
  rw [hS] at hf0 hfl
  rw [hW] at hwl
  rw [hS, hW]
  clear h hL hk hE hE0 hz hS hW
  refine calls_marks Tryz.func13 rfl ?_
  simp only [Tryz.ntmps13, List.size_toArray, List.length_cons, List.length_nil, Nat.reduceAdd, Nat.reduceSub, Array.replicate_succ, Array.replicate_zero, List.push_toArray, List.append_toArray, List.nil_append, List.cons_append]
  go_wp2_with fail
  refine HK.out.mono ?_
  rintro e w1 ⟨rfl, hx⟩
  have HZ := Lib.hid ((hx.block _ hlt).trans HZ.out)
  have HX := Lib.hid (HE0.out.trans hx)
  clear hx
  go_wp2_with fail
  refine (first_any g pl _ (HL.out.ext HX.out).a.t).mono ?_
  rw [HS.out]
  rintro e w2 ⟨rfl, hx⟩
  have HZ := Lib.hid ((hx.block _ (Array.getElem?_eq_some_iff.1 HZ.out).1).trans HZ.out)
  have HX := Lib.hid (HX.out.trans hx)
  clear hx
  go_wp2_with fail
  refine (wide_any g _ (HL.out.ext HX.out).a.t).mono ?_
  rw [HW.out]
  rintro e w3 ⟨rfl, hx⟩
  have HZ := Lib.hid ((hx.block _ (Array.getElem?_eq_some_iff.1 HZ.out).1).trans HZ.out)
  have HX := Lib.hid (HX.out.trans hx)
  clear hx
  go_wp2_with fail
  refine (sectors_in _ S W _).mono ?_
  rintro e w4 ⟨rfl, hw4⟩
  have hE4 : Ext w3 w4 := by rw [hw4]; exact (((Ext.refl w3).alloc _).alloc _).alloc _
  have hlt0 : w.heap.size < w3.heap.size := (Array.getElem?_eq_some_iff.1 HZ.out).1
  have hsz : w4.heap.size = w3.heap.size + 3 := by rw [hw4]; simp
  have hz4 := (hE4.block _ hlt0).trans HZ.out
  have HZ := Lib.hid hz4
  have HX := Lib.hid (HX.out.trans hE4)
  have hst := hurt_stops 8 (by omega) (w3.heap.size + 1) (w3.heap.size + 1 + 1) w3.heap.size (fun i => i = w.heap.size ∨ w4.heap.size ≤ i) (some ⟨d, 0, none⟩) S W ⟨hf0, by omega⟩ (by omega) m.hurt w4
    (HurtsOn.of (H.out.ext HX.out) (fun i hi hg => hg.elim (fun e => absurd (H.out.lt i hi) (by omega)) (fun e => absurd ((H.out.ext HX.out).lt i hi) (by omega))) S W)
    ⟨by omega, by omega, by omega⟩ (by rw [hw4]; simp [go_sem]) (by rw [hw4]; simp [go_sem]) (by rw [hw4]; simp [go_sem])
  have HST := Lib.hid hst
  have h48 : w.heap.size ≤ w4.heap.size := by omega
  clear hst hE4 hz4 hw4 HE0 HK
  go_wp2_with fail
  refine (wpIn_wide (n := 9)).1 ?_
  refine wpIn_rangeFunc_ownG (F := Fence.wide) (n := 9) rfl (by omega) (gf := 111) (lb := #[.pointer (some ⟨w3.heap.size + 1, 0, none⟩), .pointer (some ⟨w3.heap.size + 1 + 1, 0, none⟩), .pointer (some ⟨w3.heap.size, 0, none⟩)]) rfl trivial (enters_of Tryz.func111 (by kernel_rfl) rfl)
    HST.out (fun h k => h.trans k fun _ hi => .inl hi) (fun W l o o' hl ho _ _ => mod_put (w := w4) l o o' (fun k hk => .inr hk) hl ho) (Below.refl _ _) (fun _ => rfl)
    (fun pre V => V.heap[w.heap.size]? = some (.cells #[.bool (!pre.isEmpty)] 4 (0, 0)) ∧ Below w.heap.size w V)
    (fun _ _ _ => False)
    (OwnFrom.and (ownF_block _ _ (fun pre : List (SecIn S W) => #[.bool (!pre.isEmpty)]) _) (ownFrom_below (Nat.le_refl _) h48))
    (fun _ _ _ _ _ hs _ _ => hs)
    ⟨HZ.out, HX.out⟩
    (fun x => { tmps := #[.pointer (some ⟨d, 0, none⟩), .int .i64 r, .int .i64 g, .int .i64 pl, undef, undef, undef, undef, .pointer (some ⟨w.heap.size, 0, none⟩), .bool false, .int .i64 0, .int .i64 0, .pointer (some ⟨d, 0, none⟩), .int .i64 r, .int .i64 g, .int .i64 pl, .int .i64 0, .int .i64 0, .bool false, undef, .pointer (some ⟨d, 0, none⟩), .int .i64 g, .int .i64 pl, .int .i64 S, .int .i64 g, .int .i64 W, .func (.func 111) #[] #[.pointer (some ⟨w3.heap.size + 1, 0, none⟩), .pointer (some ⟨w3.heap.size + 1 + 1, 0, none⟩), .pointer (some ⟨w3.heap.size, 0, none⟩)], .int .i64 x.1, undef, undef, undef, undef, undef, undef, undef, undef, undef], defers := [] }) ?assign ?body ?done ?stop
  case assign =>
    intro l x W K hK
    dsimp only [encS]
    gi_wp2
    exact hK
  case body =>
    rintro l pre x V ⟨hz, hB⟩ hlt
    have hc := cell_of_row V _ 0 _ _ _ hz
    have hf := frozen_of_row V _ 0 _ _ hz
    have hl1 := (Array.getElem?_eq_some_iff.1 hz).1
    gi_wp2
    exact ⟨(KeepsOthers.setCell _ _ _).from _, (Mod.refl _ _).setCell (p := ⟨w.heap.size, 0, none⟩) (.inl (.inl rfl)) _, by rw [show (!(pre ++ [x]).isEmpty) = true by simp]; exact row_set 0 hz (.bool true) rfl, hB.setCell (p := ⟨w.heap.size, 0, none⟩) (Nat.le_refl _) _⟩
  case done =>
    rintro D ys V hD hys ⟨hz, hB⟩ hK
    have hem : (!ys.isEmpty) = anyIn m.hurt S W := by rw [anyIn_nil, empty_map hys]
    rw [hem] at hz
    clear hys hem
    have hbad := fun (V' : World) (hx : Ext w V') => isBad_of (H.out.ext hx) (HL.out.ext hx) r g pl (by rw [HS.out]; exact hf0)
    have HBAD := Lib.hid hbad
    clear hbad
    obtain ⟨hu, hhu⟩ : ∃ hu, anyIn m.hurt S W = hu := ⟨_, rfl⟩
    rw [hhu] at hz
    have HHU := Lib.hid hhu
    clear hhu
    cases hu with
    | true =>
      have hc := cell_of_row V _ 0 _ _ _ hz
      have hf := frozen_of_row V _ 0 _ _ hz
      have hl1 := (Array.getElem?_eq_some_iff.1 hz).1
      go_wp2_with fail
      have HC := Lib.hid hz
      have HXd : Hid (Ext w V.drew) := Lib.hid (Below.drew hB)
      go_region_held3 (fun w' => w'.cell? ⟨w.heap.size, 0, none⟩ = some (.bool true) ∧ w'.frozen? ⟨w.heap.size, 0, none⟩ = false)
        (first | with_reducible exact ⟨hc, hf⟩ | exact keepF (by assumption) HC | exact keepG (by assumption) HC | go_keep)
        (first
          | (go_at_call 51; ((with_reducible refine (HBAD.out _ HXd.out).mono ?_); rintro e w5 ⟨rfl, hx⟩; have HXk := Lib.hid hx; clear hx)))
      have hDV := (Array.getElem?_eq_some_iff.1 hK).1
      have hK5 : w5.heap[D]? = some (.deferred (some [])) := (HXk.out.block D hDV).trans hK
      have hz5 : w5.heap[w.heap.size]? = some (.cells #[.bool true] 4 (0, 0)) := (HXk.out.block _ hl1).trans hz
      have hx5 : Ext w w5 := HXd.out.trans HXk.out
      have hKs := heap_set (k := 0) (x := .bool true) (show D ≠ w.heap.size by omega) hK5
      have hzs := cell_of_row _ _ 0 _ _ _ (row_set 0 hz5 (.bool true) rfl)
      have hxs : Ext w (w5.setCell ⟨w.heap.size, 0, none⟩ (.bool true)) := hx5.setCell (p := ⟨w.heap.size, 0, none⟩) (Nat.le_refl _) _
      clear HXk hc hf hz hK hB
      go_wp2_with fail
      refine pl_ret rfl rfl rfl rfl hKs hzs ?_
      exact ⟨by rw [HHU.out]; rfl, ext_put hxs (by omega) hKs⟩
    | false =>
      have hc := cell_of_row V _ 0 _ _ _ hz
      have hf := frozen_of_row V _ 0 _ _ hz
      have hl1 := (Array.getElem?_eq_some_iff.1 hz).1
      go_wp2_with fail
      go_region
      have hKs := heap_set (k := 0) (x := .bool false) (show D ≠ w.heap.size by omega) hK
      have hzs := cell_of_row _ _ 0 _ _ _ (row_set 0 hz (.bool false) rfl)
      have hxs : Ext w (V.setCell ⟨w.heap.size, 0, none⟩ (.bool false)) := hB.setCell (p := ⟨w.heap.size, 0, none⟩) (Nat.le_refl _) _
      clear hc hf hz hK hB
      go_wp2_with fail
      refine pl_ret (W := (V.setCell ⟨w.heap.size, 0, none⟩ (.bool false)).drew) rfl rfl rfl rfl hKs hzs ?_
      exact ⟨by rw [HHU.out]; rfl, ext_put (Below.drew hxs) (by omega) hKs⟩
  case stop =>
    rintro D c pre W _ _ h _
    exact h.elim
end Go.Proofs.YtlikhmhomkiadaaGreatDoor
