/-
  The contract of Place.
  The contract of the program's Where.
-/
import Derived.Test.YtldgamgdbneneaaDoorQ14
import Derived.Test.YtldgamgdbneneaaDoorQ22
import Derived.Deep.RegionHeld3
import Derived.Deep.MidRow
import Derived.Deep.QuietTactic
namespace Go.Proofs.YtldgamgdbneneaaDoor
set_option maxRecDepth 100000
open Go Go.RowKit Go.Shelf
attribute [local go_sem] Oper.semAt_some

theorem ownF_block {β : Type} (B g : Nat) (cs : β → Array Value) (t : TypeId) : OwnFrom B (fun (s : β) W => W.heap[g]? = some (.cells (cs s) t (0, 0))) := fun s W W' row hs hg hr => by
  refine (hg.block g (Array.getElem?_eq_some_iff.1 hs).1 (fun e => ?_)).trans hs
  obtain ⟨_, o, ho, hoc⟩ := hr g e.symm
  rw [hs] at ho
  injection ho with ho
  subst ho
  cases hoc
theorem keepF {V w' : World} {g : Nat} {v : Value} {t : TypeId} (k : Hid (Ext V.drew w')) (h1 : Hid (V.heap[g]? = some (.cells #[v] t (0, 0)))) : w'.cell? ⟨g, 0, none⟩ = some v ∧ w'.frozen? ⟨g, 0, none⟩ = false := by
  have h := (k.out.block g (Array.getElem?_eq_some_iff.1 h1.out).1).trans h1.out
  exact ⟨cell_of_row _ _ 0 _ _ _ h, frozen_of_row _ _ 0 _ _ h⟩
theorem keepG {V w' : World} {g : Nat} {v : Value} {t : TypeId} (k : Hid (Ext V.drew w')) (h1 : Hid (V.heap[g]? = some (.cells #[v] t (0, 0)))) : (w'.setCell ⟨g, 0, none⟩ v).cell? ⟨g, 0, none⟩ = some v ∧ (w'.setCell ⟨g, 0, none⟩ v).frozen? ⟨g, 0, none⟩ = false := by
  have h := row_set 0 ((k.out.block g (Array.getElem?_eq_some_iff.1 h1.out).1).trans h1.out) v rfl
  exact ⟨cell_of_row _ _ 0 _ _ _ h, frozen_of_row _ _ 0 _ _ h⟩
theorem keepD {V w' : World} {g i : Nat} {v : Value} (k : Hid (Ext V.drew w')) (h1 : Hid (V.cell? ⟨g, i, none⟩ = some v)) : w'.cell? ⟨g, i, none⟩ = some v := ext_of_cell k.out h1.out
theorem empty_map {α β : Type} {f : α → β} {l : List α} {l2 : List β} (h : l.map f = l2) : l.isEmpty = l2.isEmpty := by subst h; cases l <;> rfl
theorem pl_ret {b : Nat} {W : World} {a : Act} {D : Nat} {h bd : Bool} {E : Int} {R : Ending → World → Prop} (h8 : a.tmps.getD 8 undef = .pointer (some ⟨b, 0, none⟩)) (h9 : a.tmps.getD 9 undef = .bool bd) (h10 : a.tmps.getD 10 undef = .int .i64 E)
    (hd : a.defers = [{ target := .collected D, args := #[] }]) (hK : W.heap[D]? = some (.deferred (some []))) (c1 : W.cell? ⟨b, 0, none⟩ = some (.bool h))
    (hR : R (.returned (.tuple #[.bool h, .bool bd, .int .i64 E])) (W.putObj D (.deferred none))) : bodyPostM Fence.wide 9 Tryd.prog Tryd.f8 R .ret a W := by
  refine retM1 (v := .tuple #[.bool h, .bool bd, .int .i64 E]) hd hK ?_ hR
  have k1 := cell_kept c1 (grownBy_putObj' _ D (.deferred none)) (fun r e => by cases e; exact ⟨_, hK, rfl⟩)
  have h8' : a.tmps[8]?.getD undef = .pointer (some ⟨b, 0, none⟩) := by simpa using h8
  have h9' : a.tmps[9]?.getD undef = .bool bd := by simpa using h9
  have h10' : a.tmps[10]?.getD undef = .int .i64 E := by simpa using h10
  simp [results, Tryd.results8, go_sem, h8', h9', h10', k1]
theorem firstS_le (g p : Int) : firstS g p ≤ 156 := by
  have h1 := beg_le g
  have h2 := wid_le g
  by_cases hh : 0 ≤ p ∧ p < plc g
  · rw [firstS_yes hh]
    have hr := plc_some (r := g) (by omega)
    rcases region_cases hr with rfl | rfl | rfl | rfl | rfl <;> simp [beg, plc, wid] at hh ⊢ <;> omega
  · rw [firstS_no hh]; omega

set_option maxHeartbeats 800000 in
theorem place_err {w : World} {p : Option Addr} {sz : Nat} (hS : Sized w p sz) (hL : LaidT w) (r g pl : Int) (hE : placeG sz r g pl ≠ 0) :
    Calls Tryd.prog 8 #[.pointer p, .int .i64 r, .int .i64 g, .int .i64 pl] w fun e w' => e = .returned (.tuple #[.bool false, .bool false, .int .i64 (placeG sz r g pl)]) ∧ Ext w w' := by
  have hE0 : Ext w (w.alloc (.cells #[.bool false] 4)) := (Ext.refl w).alloc _
  have hk := gplace_of (hS.ext hE0) (hL.ext hE0) r g pl
  obtain ⟨E, hEE⟩ : ∃ E, placeG sz r g pl = E := ⟨_, rfl⟩
  rw [hEE] at hk hE ⊢
  have HK := Lib.hid hk
  have HE0 := Lib.hid hE0
  have hne : (E != 0) = true := by simpa using hE
  have hlt : w.heap.size < (w.alloc (.cells #[.bool false] 4)).heap.size := by simp
  have hz := heap_alloc_new w (.cells #[.bool false] 4)
  have HZ := Lib.hid hz
  clear hS hL hk hE hEE hE0 hz
  refine calls_marks Tryd.func8 rfl ?_
  simp only [Tryd.ntmps8, List.size_toArray, List.length_cons, List.length_nil, Nat.reduceAdd, Nat.reduceSub, Array.replicate_succ, Array.replicate_zero, List.push_toArray, List.append_toArray, List.nil_append, List.cons_append]
  go_wp2_with fail
  refine HK.out.mono ?_
  rintro e w1 ⟨rfl, hx⟩
  have hz1 := (hx.block _ hlt).trans HZ.out
  have hc := cell_of_row _ _ 0 _ _ _ hz1
  have hf := frozen_of_row _ _ 0 _ _ hz1
  have hl1 := Nat.lt_of_lt_of_le hlt hx.size
  have HX := Lib.hid (HE0.out.trans hx)
  clear hx
  go_wp2_with fail
  refine retM0 (v := .tuple #[.bool false, .bool false, .int .i64 E]) rfl ?_ ?_
  · have hz2 := row_set 0 hz1 (.bool false) rfl
    have hc2 := cell_of_row _ _ 0 _ _ _ hz2
    simp at hc2
    simp [results, Tryd.results8, go_sem, hc2]
  · exact ⟨rfl, HX.out.setCell (p := ⟨w.heap.size, 0, none⟩) (Nat.le_refl _) _⟩

set_option maxRecDepth 100000 in
set_option maxHeartbeats 1600000 in
theorem place_yes {w : World} {d : Nat} {F : Nat → Prop} {m : DM} (h : PDisk w d F m) (hL : LaidF w) (r g pl : Int) (hE : placeG m.size r g pl = 0) :
    Calls Tryd.prog 8 #[.pointer (some ⟨d, 0, none⟩), .int .i64 r, .int .i64 g, .int .i64 pl] w fun e w' => e = .returned (.tuple #[.bool (anyIn m.hurt (firstS g pl) (wid g)), .bool (anyIn m.hurt (firstS g pl) (wid g) && m.badB r g pl), .int .i64 0]) ∧ Ext w w' := by
  have hE0 : Ext w (w.alloc (.cells #[.bool false] 4)) := (Ext.refl w).alloc _
  have hk := gplace_of (Sized.of (h.ext hE0)) (hL.ext hE0).a.t r g pl
  rw [hE] at hk
  have hf0 := (placeG_ok hE).2
  have hfl := firstS_le g pl
  have hwl := wid_le g
  have hlt : w.heap.size < (w.alloc (.cells #[.bool false] 4)).heap.size := by simp
  have hz := heap_alloc_new w (.cells #[.bool false] 4)
  have HZ := Lib.hid hz
  have HK := Lib.hid hk
  have HE0 := Lib.hid hE0
  have H := Lib.hid h
  have HL := Lib.hid hL
  have HF0 := Lib.hid hf0
  obtain ⟨S, hS⟩ : ∃ S, firstS g pl = S := ⟨_, rfl⟩
  obtain ⟨W, hW⟩ : ∃ W, wid g = W := ⟨_, rfl⟩
  have HS := Lib.hid hS
  have HW := Lib.hid hW
  rw [hS] at hf0 hfl
  rw [hW] at hwl
  rw [hS, hW]
  clear h hL hk hE hE0 hz hS hW
  refine calls_marks Tryd.func8 rfl ?_
  simp only [Tryd.ntmps8, List.size_toArray, List.length_cons, List.length_nil, Nat.reduceAdd, Nat.reduceSub, Array.replicate_succ, Array.replicate_zero, List.push_toArray, List.append_toArray, List.nil_append, List.cons_append]
  go_wp2_with fail
  refine HK.out.mono ?_
  rintro e w1 ⟨rfl, hx⟩
  have HZ := Lib.hid ((hx.block _ hlt).trans HZ.out)
  have HX := Lib.hid (HE0.out.trans hx)
  clear hx
  go_wp2_with fail
  refine (first_any g pl _ (HL.out.ext HX.out).a.t).mono ?_
  rw [HS.out]
  rintro e w2 ⟨rfl, hx⟩
  have HZ := Lib.hid ((hx.block _ (Array.getElem?_eq_some_iff.1 HZ.out).1).trans HZ.out)
  have HX := Lib.hid (HX.out.trans hx)
  clear hx
  go_wp2_with fail
  refine (wide_any g _ (HL.out.ext HX.out).a.t).mono ?_
  rw [HW.out]
  rintro e w3 ⟨rfl, hx⟩
  have HZ := Lib.hid ((hx.block _ (Array.getElem?_eq_some_iff.1 HZ.out).1).trans HZ.out)
  have HX := Lib.hid (HX.out.trans hx)
  clear hx
  go_wp2_with fail
  refine (sectors_in _ S W _).mono ?_
  rintro e w4 ⟨rfl, hw4⟩
  have hE4 : Ext w3 w4 := by rw [hw4]; exact (((Ext.refl w3).alloc _).alloc _).alloc _
  have hlt0 : w.heap.size < w3.heap.size := (Array.getElem?_eq_some_iff.1 HZ.out).1
  have hsz : w4.heap.size = w3.heap.size + 3 := by rw [hw4]; simp
  have hz4 := (hE4.block _ hlt0).trans HZ.out
  have HZ := Lib.hid hz4
  have HX := Lib.hid (HX.out.trans hE4)
  have hst := hurt_stops 8 (by omega) (w3.heap.size + 1) (w3.heap.size + 1 + 1) w3.heap.size (fun i => i = w.heap.size ∨ w4.heap.size ≤ i) (some ⟨d, 0, none⟩) S W ⟨hf0, by omega⟩ (by omega) m.hurt w4
    (HurtsOn.of (H.out.ext HX.out) (fun i hi hg => hg.elim (fun e => absurd (H.out.lt i hi) (by omega)) (fun e => absurd ((H.out.ext HX.out).lt i hi) (by omega))) S W)
    ⟨by omega, by omega, by omega⟩ (by rw [hw4]; simp [go_sem]) (by rw [hw4]; simp [go_sem]) (by rw [hw4]; simp [go_sem])
  have HST := Lib.hid hst
  have h48 : w.heap.size ≤ w4.heap.size := by omega
  clear hst hE4 hz4 hw4 HE0 HK
  go_wp2_with fail
  refine (wpIn_wide (n := 9)).1 ?_
  refine wpIn_rangeFunc_ownG (F := Fence.wide) (n := 9) rfl (by omega) (gf := 52) (lb := #[.pointer (some ⟨w3.heap.size + 1, 0, none⟩), .pointer (some ⟨w3.heap.size + 1 + 1, 0, none⟩), .pointer (some ⟨w3.heap.size, 0, none⟩)]) rfl trivial (enters_of Tryd.func52 (by kernel_rfl) rfl)
    HST.out (fun h k => h.trans k fun _ hi => .inl hi) (fun W l o o' hl ho _ _ => mod_put (w := w4) l o o' (fun k hk => .inr hk) hl ho) (Below.refl _ _) (fun _ => rfl)
    (fun pre V => V.heap[w.heap.size]? = some (.cells #[.bool (!pre.isEmpty)] 4 (0, 0)) ∧ Below w.heap.size w V)
    (fun _ _ _ => False)
    (OwnFrom.and (ownF_block _ _ (fun pre : List (SecIn S W) => #[.bool (!pre.isEmpty)]) _) (ownFrom_below (Nat.le_refl _) h48))
    (fun _ _ _ _ _ hs _ _ => hs)
    ⟨HZ.out, HX.out⟩
    (fun x => { tmps := #[.pointer (some ⟨d, 0, none⟩), .int .i64 r, .int .i64 g, .int .i64 pl, undef, undef, undef, undef, .pointer (some ⟨w.heap.size, 0, none⟩), .bool false, .int .i64 0, .int .i64 0, .pointer (some ⟨d, 0, none⟩), .int .i64 r, .int .i64 g, .int .i64 pl, .int .i64 0, .int .i64 0, .bool false, undef, .pointer (some ⟨d, 0, none⟩), .int .i64 g, .int .i64 pl, .int .i64 S, .int .i64 g, .int .i64 W, .func (.func 52) #[] #[.pointer (some ⟨w3.heap.size + 1, 0, none⟩), .pointer (some ⟨w3.heap.size + 1 + 1, 0, none⟩), .pointer (some ⟨w3.heap.size, 0, none⟩)], .int .i64 x.1, undef, undef, undef, undef, undef, undef, undef, undef, undef], defers := [] }) ?assign ?body ?done ?stop
  case assign =>
    intro l x W K hK
    dsimp only [encS]
    gi_wp2
    exact hK
  case body =>
    rintro l pre x V ⟨hz, hB⟩ hlt
    have hc := cell_of_row V _ 0 _ _ _ hz
    have hf := frozen_of_row V _ 0 _ _ hz
    have hl1 := (Array.getElem?_eq_some_iff.1 hz).1
    gi_wp2
    exact ⟨(KeepsOthers.setCell _ _ _).from _, (Mod.refl _ _).setCell (p := ⟨w.heap.size, 0, none⟩) (.inl (.inl rfl)) _, by rw [show (!(pre ++ [x]).isEmpty) = true by simp]; exact row_set 0 hz (.bool true) rfl, hB.setCell (p := ⟨w.heap.size, 0, none⟩) (Nat.le_refl _) _⟩
  case done =>
    rintro D ys V hD hys ⟨hz, hB⟩ hK
    have hem : (!ys.isEmpty) = anyIn m.hurt S W := by rw [anyIn_nil, empty_map hys]
    rw [hem] at hz
    clear hys hem
    have hbad := fun (V' : World) (hx : Ext w V') => isBad_of (H.out.ext hx) (HL.out.ext hx) r g pl (by rw [HS.out]; exact hf0)
    have HBAD := Lib.hid hbad
    clear hbad
    obtain ⟨hu, hhu⟩ : ∃ hu, anyIn m.hurt S W = hu := ⟨_, rfl⟩
    rw [hhu] at hz
    have HHU := Lib.hid hhu
    clear hhu
    cases hu with
    | true =>
      have hc := cell_of_row V _ 0 _ _ _ hz
      have hf := frozen_of_row V _ 0 _ _ hz
      have hl1 := (Array.getElem?_eq_some_iff.1 hz).1
      go_wp2_with fail
      have HC := Lib.hid hz
      have HXd : Hid (Ext w V.drew) := Lib.hid (Below.drew hB)
      go_region_held3 (fun w' => w'.cell? ⟨w.heap.size, 0, none⟩ = some (.bool true) ∧ w'.frozen? ⟨w.heap.size, 0, none⟩ = false)
        (first | with_reducible exact ⟨hc, hf⟩ | exact keepF (by assumption) HC | exact keepG (by assumption) HC | go_keep)
        (first
          | (go_at_call 29; ((with_reducible refine (HBAD.out _ HXd.out).mono ?_); rintro e w5 ⟨rfl, hx⟩; have HXk := Lib.hid hx; clear hx)))
      have hDV := (Array.getElem?_eq_some_iff.1 hK).1
      have hK5 : w5.heap[D]? = some (.deferred (some [])) := (HXk.out.block D hDV).trans hK
      have hz5 : w5.heap[w.heap.size]? = some (.cells #[.bool true] 4 (0, 0)) := (HXk.out.block _ hl1).trans hz
      have hx5 : Ext w w5 := HXd.out.trans HXk.out
      have hKs := heap_set (k := 0) (x := .bool true) (show D ≠ w.heap.size by omega) hK5
      have hzs := cell_of_row _ _ 0 _ _ _ (row_set 0 hz5 (.bool true) rfl)
      have hxs : Ext w (w5.setCell ⟨w.heap.size, 0, none⟩ (.bool true)) := hx5.setCell (p := ⟨w.heap.size, 0, none⟩) (Nat.le_refl _) _
      clear HXk hc hf hz hK hB
      go_wp2_with fail
      refine pl_ret rfl rfl rfl rfl hKs hzs ?_
      exact ⟨by rw [HHU.out]; rfl, ext_put hxs (by omega) hKs⟩
    | false =>
      have hc := cell_of_row V _ 0 _ _ _ hz
      have hf := frozen_of_row V _ 0 _ _ hz
      have hl1 := (Array.getElem?_eq_some_iff.1 hz).1
      go_wp2_with fail
      go_region
      have hKs := heap_set (k := 0) (x := .bool false) (show D ≠ w.heap.size by omega) hK
      have hzs := cell_of_row _ _ 0 _ _ _ (row_set 0 hz (.bool false) rfl)
      have hxs : Ext w (V.setCell ⟨w.heap.size, 0, none⟩ (.bool false)) := hB.setCell (p := ⟨w.heap.size, 0, none⟩) (Nat.le_refl _) _
      clear hc hf hz hK hB
      go_wp2_with fail
      refine pl_ret (W := (V.setCell ⟨w.heap.size, 0, none⟩ (.bool false)).drew) rfl rfl rfl rfl hKs hzs ?_
      exact ⟨by rw [HHU.out]; rfl, ext_put (Below.drew hxs) (by omega) hKs⟩
  case stop =>
    rintro D c pre W _ _ h _
    exact h.elim
end Go.Proofs.YtldgamgdbneneaaDoor

namespace Go.Proofs.YtldgamgdbneneaaDoor
set_option maxRecDepth 100000
open Go Go.RowKit

/-- The cells of the table of regions. -/
def regCells : List Value := [.int .i64 0, .int .i64 0, .int .i64 2, .int .i64 1, .int .i64 2, .int .i64 1, .int .i64 24, .int .i64 1, .int .i64 48, .int .i64 2, .int .i64 16, .int .i64 2]
theorem LaidT.range {w : World} (h : LaidT w) : w.rangeAt 0 0 regCells := by
  intro j v hv
  have hj : j < 12 := (List.getElem?_eq_some_iff.1 hv).1
  have hj' : j = 0 ∨ j = 1 ∨ j = 2 ∨ j = 3 ∨ j = 4 ∨ j = 5 ∨ j = 6 ∨ j = 7 ∨ j = 8 ∨ j = 9 ∨ j = 10 ∨ j = 11 := by omega
  rw [Nat.zero_add, ← hv]
  rcases hj' with rfl | rfl | rfl | rfl | rfl | rfl | rfl | rfl | rfl | rfl | rfl | rfl
  · exact (h 0 (by omega)).1
  · exact (h 0 (by omega)).2
  · exact (h 1 (by omega)).1
  · exact (h 1 (by omega)).2
  · exact (h 2 (by omega)).1
  · exact (h 2 (by omega)).2
  · exact (h 3 (by omega)).1
  · exact (h 3 (by omega)).2
  · exact (h 4 (by omega)).1
  · exact (h 4 (by omega)).2
  · exact (h 5 (by omega)).1
  · exact (h 5 (by omega)).2
theorem reg_size : (Tryd.prog.info? 107).map (·.size) = some regCells.length := by kernel_rfl
theorem reg_index (k : Nat) (hk : k < 6) (w : World) : (Instr.index 107 (.agg regCells.toArray) (.int .i64 k)).run Tryd.prog w = .ok (.agg #[.int .i64 (plc k), .int .i64 (wid k)]) w := by
  have hj' : k = 0 ∨ k = 1 ∨ k = 2 ∨ k = 3 ∨ k = 4 ∨ k = 5 := by omega
  rcases hj' with rfl | rfl | rfl | rfl | rfl | rfl <;> (show _ = _; kernel_rfl)

set_option maxHeartbeats 1600000 in
theorem owhere_any (s : Int) (w : World) (hL : LaidT w) (hs : s ≤ 9223372036854775807) :
    Calls Tryd.prog 32 #[.int .i64 s] w fun e w' => e = .returned (.tuple #[.int .i64 (wReg s), .int .i64 (wPlc s), .int .i64 (wBeh s), .bool (wIs s)]) ∧ Ext w w' := by
  have HL := Lib.hid hL
  clear hL
  by_cases h0 : s < 0
  · have HF := Lib.hid (where_no (s := s) (.inl h0))
    go_enter Tryd.func32, Tryd.ntmps32
    go_wp2_with fail
    exact bodyPost_ret (v := .tuple #[.int .i64 0, .int .i64 0, .int .i64 0, .bool false]) (by simp [results, Tryd.results32, go_sem]) rfl ⟨by rw [HF.out.1, HF.out.2.1, HF.out.2.2.1, HF.out.2.2.2], Ext.refl w⟩
  go_enter Tryd.func32, Tryd.ntmps32
  go_wp2_with (refine wpList_load_mid rfl 107 _ rfl 0 0 rfl regCells _ HL.out.range Tryd.underlying107 rfl reg_size ?_)
  go_loopw [6, 13] (fun b i wr => ∃ k : Nat, k ≤ 6 ∧ i = .int .i64 k ∧ b = .int .i64 (s - beg k) ∧ (beg k : Int) ≤ s ∧ Hid (Ext w wr)) (fun _ i _ => 6 - (intOf i).toNat)
  case atStart => exact ⟨0, Nat.zero_le _, rfl, by rw [show beg ((0 : Nat) : Int) = 0 from rfl]; simp, by rw [show beg ((0 : Nat) : Int) = 0 from rfl]; omega, Lib.hid (Ext.refl w)⟩
  case round =>
    obtain ⟨k, hk, rfl, rfl, hbk, HX⟩ := hrel
    by_cases hlt : k < 6
    · have HI := reg_index k hlt
      have HB := Lib.hid (beg_next k (by omega))
      have hb := beg_le k
      have hp := plc_wid k
      go_wp2_with fail
      refine (sectors_any _ _ _ (by omega)).mono ?_
      rintro e w2 ⟨rfl, hx⟩
      have hz : wr.heap.size < (wr.alloc (.cells #[.int .i64 (plc k), .int .i64 (wid k)] 103)).heap.size := by simp
      have hc0 := (Below.cell hx (p := ⟨wr.heap.size, 0, none⟩) hz).trans (cell_of_row _ wr.heap.size 0 _ 103 (0, 0) (heap_alloc_new wr _))
      have hc1 := (Below.cell hx (p := ⟨wr.heap.size, 1, none⟩) hz).trans (cell_of_row _ wr.heap.size 1 _ 103 (0, 0) (heap_alloc_new wr _))
      have HX := Lib.hid ((HX.out.alloc (.cells #[.int .i64 (plc k), .int .i64 (wid k)] 103)).trans hx)
      clear hx hz
      simp at hc0 hc1
      by_cases hin : s - (beg k : Int) < ((plc k * wid k : Nat) : Int)
      · have hk1 : 1 ≤ k := by
          rcases Nat.eq_zero_or_pos k with rfl | h
          · rw [show beg ((0 : Nat) : Int) = 0 from rfl, show plc ((0 : Nat) : Int) = 0 from rfl] at hin; omega
          · exact h
        have hwp := wid_pos (r := k) (by omega)
        have HW := Lib.hid (where_at hk1 (by omega) hbk hin)
        go_wp2_with fail
        go_quiet (fail)
        go_wp2_with fail
        exact bodyPost_ret (v := .tuple #[.int .i64 k, .int .i64 ((s - beg k) / wid k), .int .i64 ((s - beg k) % wid k), .bool true]) (by simp [results, Tryd.results32, go_sem]) rfl ⟨by rw [HW.out.1, HW.out.2.1, HW.out.2.2.1, HW.out.2.2.2], HX.out.drewN nq⟩
      · go_wp2_with fail
        refine (sectors_any _ _ _ (by omega)).mono ?_
        rintro e w3 ⟨rfl, hx⟩
        have HX := Lib.hid (HX.out.trans hx)
        clear hx
        go_wp2_with fail
        go_roundw
        case rel => exact ⟨k + 1, by omega, by go_num, by rw [show ((k + 1 : Nat) : Int) = (k : Int) + 1 from rfl, HB.out]; go_num, by rw [show ((k + 1 : Nat) : Int) = (k : Int) + 1 from rfl, HB.out]; omega, HX⟩
        case measure => simp [intOf]; omega
    · have HF := Lib.hid (where_no (s := s) (.inr (by
        obtain rfl : k = 6 := by omega
        exact hbk)))
      go_wp2_with fail
      exact bodyPost_ret (v := .tuple #[.int .i64 0, .int .i64 0, .int .i64 0, .bool false]) (by simp [results, Tryd.results32, go_sem]) rfl ⟨by rw [HF.out.1, HF.out.2.1, HF.out.2.2.1, HF.out.2.2.2], HX.out⟩
end Go.Proofs.YtldgamgdbneneaaDoor
