/-
  The contracts of readRecord and readFrame: what is read of a record, of a frame.
-/
import Derived.Test.YtmbmpabjclkhlaaGreatDoorQ00
import Derived.Test.YtmbmpabjclkhlaaGreatDoorQ18
import Derived.Test.YtmbmpabjclkhlaaGreatDoorQ19
import Derived.Test.YtmbmpabjclkhlaaGreatDoorQ20
import Derived.Deep.RegionHeld
namespace Go.Proofs.YtmbmpabjclkhlaaGreatDoor
set_option maxRecDepth 100000
section
open Go Go.RowKit
theorem free5W {w : World} {g : Nat} {t : TypeId} {y0 y1 y2 y3 y4 : Value} (h : w.heap[g]? = some (.cells #[y0, y1, y2, y3, y4] t (0, 0))) : (w.cell? ⟨g, 0, none⟩ = some y0 ∧ w.cell? ⟨g, 1, none⟩ = some y1 ∧ w.cell? ⟨g, 2, none⟩ = some y2 ∧ w.cell? ⟨g, 3, none⟩ = some y3 ∧ w.cell? ⟨g, 4, none⟩ = some y4) ∧ w.frozen? ⟨g, 0, none⟩ = false ∧ w.frozen? ⟨g, 1, none⟩ = false ∧ w.frozen? ⟨g, 2, none⟩ = false ∧ w.frozen? ⟨g, 3, none⟩ = false ∧ w.frozen? ⟨g, 4, none⟩ = false := ⟨⟨cell_of_row w g 0 _ _ _ h, cell_of_row w g 1 _ _ _ h, cell_of_row w g 2 _ _ _ h, cell_of_row w g 3 _ _ _ h, cell_of_row w g 4 _ _ _ h⟩, frozen_of_row w g 0 _ _ h, frozen_of_row w g 1 _ _ h, frozen_of_row w g 2 _ _ h, frozen_of_row w g 3 _ _ h, frozen_of_row w g 4 _ _ h⟩
theorem free11W {w : World} {g : Nat} {t : TypeId} {y0 y1 y2 y3 y4 y5 y6 y7 y8 y9 y10 : Value} (h : w.heap[g]? = some (.cells #[y0, y1, y2, y3, y4, y5, y6, y7, y8, y9, y10] t (0, 0))) : (w.cell? ⟨g, 0, none⟩ = some y0 ∧ w.cell? ⟨g, 1, none⟩ = some y1 ∧ w.cell? ⟨g, 2, none⟩ = some y2 ∧ w.cell? ⟨g, 3, none⟩ = some y3 ∧ w.cell? ⟨g, 4, none⟩ = some y4 ∧ w.cell? ⟨g, 5, none⟩ = some y5 ∧ w.cell? ⟨g, 6, none⟩ = some y6 ∧ w.cell? ⟨g, 7, none⟩ = some y7 ∧ w.cell? ⟨g, 8, none⟩ = some y8 ∧ w.cell? ⟨g, 9, none⟩ = some y9 ∧ w.cell? ⟨g, 10, none⟩ = some y10) ∧ w.frozen? ⟨g, 0, none⟩ = false ∧ w.frozen? ⟨g, 1, none⟩ = false ∧ w.frozen? ⟨g, 2, none⟩ = false ∧ w.frozen? ⟨g, 3, none⟩ = false ∧ w.frozen? ⟨g, 4, none⟩ = false ∧ w.frozen? ⟨g, 5, none⟩ = false ∧ w.frozen? ⟨g, 6, none⟩ = false ∧ w.frozen? ⟨g, 7, none⟩ = false ∧ w.frozen? ⟨g, 8, none⟩ = false ∧ w.frozen? ⟨g, 9, none⟩ = false ∧ w.frozen? ⟨g, 10, none⟩ = false := ⟨⟨cell_of_row w g 0 _ _ _ h, cell_of_row w g 1 _ _ _ h, cell_of_row w g 2 _ _ _ h, cell_of_row w g 3 _ _ _ h, cell_of_row w g 4 _ _ _ h, cell_of_row w g 5 _ _ _ h, cell_of_row w g 6 _ _ _ h, cell_of_row w g 7 _ _ _ h, cell_of_row w g 8 _ _ _ h, cell_of_row w g 9 _ _ _ h, cell_of_row w g 10 _ _ _ h⟩, frozen_of_row w g 0 _ _ h, frozen_of_row w g 1 _ _ h, frozen_of_row w g 2 _ _ h, frozen_of_row w g 3 _ _ h, frozen_of_row w g 4 _ _ h, frozen_of_row w g 5 _ _ h, frozen_of_row w g 6 _ _ h, frozen_of_row w g 7 _ _ h, frozen_of_row w g 8 _ _ h, frozen_of_row w g 9 _ _ h, frozen_of_row w g 10 _ _ h⟩
theorem mbl_len (l : List Nat) (x y z : Int) : (mbl l x y z).length ≤ l.length := by
  unfold mbl obl
  split
  · split
    · unfold bodyOf; rw [List.length_take, List.length_drop]; omega
    · simp
  · simp
theorem gotL_len {m : DM} (hok : m.Ok) (S : Int) : ∀ k, (m.gotL S k).length ≤ 64 * k
  | 0 => by simp [DM.gotL]
  | k + 1 => by
    unfold DM.gotL
    rw [List.length_append]
    have := gotL_len hok S k
    have h2 := (read_new hok (S + (k : Int))).2
    omega
theorem plcL_len {m : DM} (hok : m.Ok) (S : Int) (k : Nat) : (m.plcL S k).length ≤ 64 * k := by
  unfold DM.plcL
  split
  · simp
  · exact gotL_len hok S k
theorem wid3 : wid 3 = 1 := by simp [wid]
theorem wid4 : wid 4 = 2 := by simp [wid]
theorem first3_pos {q : Nat} (h : q < 24) : 0 ≤ firstS 3 (q : Int) := by rw [first3 h]; omega
theorem first4_pos {p : Nat} (h : p < 48) : 0 ≤ firstS 4 (p : Int) := by rw [first4 h]; omega
theorem recQ_no {r q : Int} {x : List Nat} (h : stM x r 3 q ≠ 1) : recQ r q x = { st := stM x r 3 q } := if_neg h
theorem recQ_bad {r q : Int} {x : List Nat} (h : stM x r 3 q = 1) (he : (rcR (mbl x r 3 q)).2.2.2 ≠ 0) : recQ r q x = { st := 2 } := by
  unfold recQ
  rw [if_pos h]
  unfold rcR at he
  cases hr : recR (mbl x r 3 q) with
  | some p => obtain ⟨a, b, c⟩ := p; rw [hr] at he; exact absurd rfl he
  | none => rfl
theorem recQ_yes {r q : Int} {x : List Nat} (h : stM x r 3 q = 1) (he : (rcR (mbl x r 3 q)).2.2.2 = 0) : recQ r q x = { st := 1, ix := (mfl x r 3 q 3 : Nat), bx := ((rcR (mbl x r 3 q)).1 : Nat), yb := ((rcR (mbl x r 3 q)).2.1 : Nat), wh := ((rcR (mbl x r 3 q)).2.2.1 : Nat) } := by
  unfold recQ
  rw [if_pos h]
  unfold rcR at he ⊢
  cases hr : recR (mbl x r 3 q) with
  | some p => rfl
  | none => rw [hr] at he; exact absurd he (by decide)
theorem copQ_no {r q : Int} {x : List Nat} (h : stM x r 4 q ≠ 1) : copQ r q x = { st := stM x r 4 q } := if_neg h
theorem copQ_bad {r q : Int} {x : List Nat} (h : stM x r 4 q = 1) (he : (psE (mbl x r 4 q)).2.2.2 ≠ 0) : copQ r q x = { st := 2 } := by
  unfold copQ
  rw [if_pos h]
  unfold psE at he
  cases hr : bdR (mbl x r 4 q) with
  | some p => obtain ⟨a, b, c⟩ := p; rw [hr] at he; exact absurd rfl he
  | none => rfl
theorem copQ_yes {r q : Int} {x : List Nat} (h : stM x r 4 q = 1) (he : (psE (mbl x r 4 q)).2.2.2 = 0) : copQ r q x = { st := 1, ix := (mfl x r 4 q 3 : Nat), bx := ((psE (mbl x r 4 q)).1 : Nat), yb := ((psE (mbl x r 4 q)).2.1 : Nat), e := (psE (mbl x r 4 q)).2.2.1 } := by
  unfold copQ
  rw [if_pos h]
  unfold psE at he ⊢
  cases hr : bdR (mbl x r 4 q) with
  | some p => rfl
  | none => rw [hr] at he; exact absurd he (by decide)
section
variable {w : World} {g d s : Nat} {r inc : Int} {F : Nat → Prop} {m : DM}
theorem wopen3 (h : LogAt w g d r inc s) (hd : PDisk w d F m) (hL : LaidF w) (q : Nat) (hq : q < 24) (hfew : m.waits.length ≤ 1000000) :
    Calls Tryz.prog 217 #[.pointer (some ⟨g, 0, none⟩), .int .i64 3, .int .i64 (q : Int)] w fun e w' => ∃ A N, e = .returned (.tuple #[.int .u8 (stM (m.cb 3 q) r 3 q : Nat), .agg #[.int .i64 (mfl (m.cb 3 q) r 3 q 0 : Nat), .int .i64 (mfl (m.cb 3 q) r 3 q 1 : Nat), .int .i64 (mfl (m.cb 3 q) r 3 q 2 : Nat), .int .i64 (mfl (m.cb 3 q) r 3 q 3 : Nat), .int .i64 (mfl (m.cb 3 q) r 3 q 4 : Nat)], .slice A N N]) ∧
      By w' A N N (mbl (m.cb 3 q) r 3 q) ∧ N ≤ 64 ∧ Ext w w' := by
  have hc := wopen_of h hd hL 3 (q : Int) (first3_pos hq) hfew
  have hl := plcL_len hd.ok (firstS 3 (q : Int)) 1
  rw [wid3, plcL_rec] at hc
  rw [plcL_rec] at hl
  refine hc.mono fun e w' ⟨A, N, he, hb, hx⟩ => ⟨A, N, he, hb, ?_, hx⟩
  have h1 := hb.len
  have h2 := mbl_len (m.cb 3 (q : Int)) r 3 (q : Int)
  omega
theorem wopen4 (h : LogAt w g d r inc s) (hd : PDisk w d F m) (hL : LaidF w) (p : Nat) (hp : p < 48) (hfew : m.waits.length ≤ 1000000) :
    Calls Tryz.prog 217 #[.pointer (some ⟨g, 0, none⟩), .int .i64 4, .int .i64 (p : Int)] w fun e w' => ∃ A N, e = .returned (.tuple #[.int .u8 (stM (m.fb p) r 4 p : Nat), .agg #[.int .i64 (mfl (m.fb p) r 4 p 0 : Nat), .int .i64 (mfl (m.fb p) r 4 p 1 : Nat), .int .i64 (mfl (m.fb p) r 4 p 2 : Nat), .int .i64 (mfl (m.fb p) r 4 p 3 : Nat), .int .i64 (mfl (m.fb p) r 4 p 4 : Nat)], .slice A N N]) ∧
      By w' A N N (mbl (m.fb p) r 4 p) ∧ N ≤ 128 ∧ Ext w w' := by
  have hc := wopen_of h hd hL 4 (p : Int) (first4_pos hp) hfew
  have hl := plcL_len hd.ok (firstS 4 (p : Int)) 2
  rw [wid4, plcL_frm hd.ok] at hc
  rw [plcL_frm hd.ok] at hl
  refine hc.mono fun e w' ⟨A, N, he, hb, hx⟩ => ⟨A, N, he, hb, ?_, hx⟩
  have h1 := hb.len
  have h2 := mbl_len (m.fb (p : Int)) r 4 (p : Int)
  omega
set_option maxHeartbeats 1600000 in
theorem readRecord_of (h : LogAt w g d r inc s) (hd : PDisk w d F m) (hL : LaidF w) (hLS : LaidS w) (q : Nat) (hq : q < 24) (hfew : m.waits.length ≤ 1000000) :
    Calls Tryz.prog 142 #[.pointer (some ⟨g, 0, none⟩), .int .i64 (q : Int)] w fun e w' => e = .returned (.agg #[.int .u8 ((m.recM r q).st : Int), .int .i64 (m.recM r q).ix, .int .i64 (m.recM r q).bx, .int .i64 (m.recM r q).yb, .int .i64 (m.recM r q).wh]) ∧ Ext w w' := by
  have ho := fun V (hV : Ext w V) => wopen3 (h.ext hV) (hd.ext hV) (hL.ext hV) q hq hfew
  unfold DM.recM
  generalize m.cb 3 (q : Int) = X at ho ⊢
  obtain ⟨T, hT⟩ : ∃ T, stM X r 3 (q : Int) = T := ⟨_, rfl⟩
  obtain ⟨B, hB⟩ : ∃ B, mbl X r 3 (q : Int) = B := ⟨_, rfl⟩
  rw [hT, hB] at ho
  have HS := Lib.hid hLS
  have HL := Lib.hid hLS.o
  have HO := Lib.hid ho
  obtain ⟨b, w0, hw0, hE0, hT0, hz0w⟩ : ∃ (b : Nat) (w0 : World), (b = w.heap.size ∧ w0 = w.alloc (.cells #[.int .u8 0, .int .i64 0, .int .i64 0, .int .i64 0, .int .i64 0] 147)) ∧ Ext w w0 ∧ w0.heap[b]? = some (.cells #[.int .u8 0, .int .i64 0, .int .i64 0, .int .i64 0, .int .i64 0] 147 (0, 0)) ∧ (w0.heap.size = b + 1 ∧ w.heap.size ≤ b) :=
    ⟨_, _, ⟨rfl, rfl⟩, (Ext.refl w).alloc _, heap_alloc_new w _, by simp, Nat.le_refl _⟩
  have HE0 := Lib.hid hE0
  have HT0 := Lib.hid hT0
  have HZ0 := Lib.hid hz0w
  clear ho h hd hL hLS hfew hq hE0 hT0 hz0w
  by_cases h1 : T = 1
  · subst h1
    by_cases he : (rcR B).2.2.2 = 0
    · rw [recQ_yes hT (by rw [hB]; exact he), hB]
      have HE := Lib.hid he
      clear hT hB he
      go_enter Tryz.func142, Tryz.ntmps142
      go_wp2_with fail
      rw [← hw0.1, ← hw0.2]
      clear hw0
      refine (HO.out _ HE0.out).mono ?_
      rintro e w1 ⟨A, N, rfl, hb, hN, hx⟩
      have HB := Lib.hid hb
      have HN := Lib.hid hN
      have HX1 := Lib.hid hx
      have hrowT := heap_alloc_new w1 (.cells #[.int .i64 (mfl X r 3 (q : Int) 0 : Nat), .int .i64 (mfl X r 3 (q : Int) 1 : Nat), .int .i64 (mfl X r 3 (q : Int) 2 : Nat), .int .i64 (mfl X r 3 (q : Int) 3 : Nat), .int .i64 (mfl X r 3 (q : Int) 4 : Nat)] 44)
      have HRT := Lib.hid hrowT
      have HXA := Lib.hid ((Ext.refl w1).alloc (.cells #[.int .i64 (mfl X r 3 (q : Int) 0 : Nat), .int .i64 (mfl X r 3 (q : Int) 1 : Nat), .int .i64 (mfl X r 3 (q : Int) 2 : Nat), .int .i64 (mfl X r 3 (q : Int) 3 : Nat), .int .i64 (mfl X r 3 (q : Int) 4 : Nat)] 44))
      have HX : Hid (Ext w (w1.alloc (.cells #[.int .i64 (mfl X r 3 (q : Int) 0 : Nat), .int .i64 (mfl X r 3 (q : Int) 1 : Nat), .int .i64 (mfl X r 3 (q : Int) 2 : Nat), .int .i64 (mfl X r 3 (q : Int) 3 : Nat), .int .i64 (mfl X r 3 (q : Int) 4 : Nat)] 44))) := Lib.hid ((HE0.out.trans hx).trans HXA.out)
      have HROW : Hid ((w1.alloc (.cells #[.int .i64 (mfl X r 3 (q : Int) 0 : Nat), .int .i64 (mfl X r 3 (q : Int) 1 : Nat), .int .i64 (mfl X r 3 (q : Int) 2 : Nat), .int .i64 (mfl X r 3 (q : Int) 3 : Nat), .int .i64 (mfl X r 3 (q : Int) 4 : Nat)] 44)).heap[b]? = some (.cells #[.int .u8 0, .int .i64 0, .int .i64 0, .int .i64 0, .int .i64 0] 147 (0, 0))) := Lib.hid (((hx.trans HXA.out).block _ (Array.getElem?_eq_some_iff.1 HT0.out).1).trans HT0.out)
      clear hb hN hx hrowT
      go_wp2_with fail
      refine (sparse_of A N N B _ (HS.out.ext HX.out) (HB.out.ext HXA.out) (by have := HN.out; omega)).mono ?_
      rw [HE.out]
      rintro e w2 ⟨rfl, hx⟩
      generalize hq1 : (rcR B).1 = b1 at *
      generalize hq2 : (rcR B).2.1 = b2 at *
      generalize hq3 : (rcR B).2.2.1 = b3 at *
      have hcT := cell_of_row w2 w1.heap.size 3 _ _ _ ((hx.block _ (Array.getElem?_eq_some_iff.1 HRT.out).1).trans HRT.out)
      have hlT : w1.heap.size < w2.heap.size := (Array.getElem?_eq_some_iff.1 ((hx.block _ (Array.getElem?_eq_some_iff.1 HRT.out).1).trans HRT.out)).1
      have hrow := (hx.block _ (Array.getElem?_eq_some_iff.1 HROW.out).1).trans HROW.out
      obtain ⟨⟨c0, c1, c2, c3, c4⟩, f0, f1, f2, f3, f4⟩ := free5W hrow
      have hlb := (Array.getElem?_eq_some_iff.1 hrow).1
      have HX : Hid (Ext w w2) := Lib.hid (HX.out.trans hx)
      have HROW : Hid (w2.heap[b]? = some (.cells #[.int .u8 0, .int .i64 0, .int .i64 0, .int .i64 0, .int .i64 0] 147 (0, 0))) := Lib.hid hrow
      clear hx hrow HB HN HX1 HRT HXA
      go_wp2_with fail
      have hrow := row5 HROW.out (.int .u8 1) (.int .i64 (mfl X r 3 (q : Int) 3 : Nat)) (.int .i64 (b1 : Nat)) (.int .i64 (b2 : Nat)) (.int .i64 (b3 : Nat))
      have hx := ext5 HX.out HZ0.out.2 (.int .u8 1) (.int .i64 (mfl X r 3 (q : Int) 3 : Nat)) (.int .i64 (b1 : Nat)) (.int .i64 (b2 : Nat)) (.int .i64 (b3 : Nat))
      clear c0 c1 c2 c3 c4 f0 f1 f2 f3 f4
      generalize (((((w2.setCell ⟨b, 0, none⟩ (.int .u8 1)).setCell ⟨b, 1, none⟩ (.int .i64 (mfl X r 3 (q : Int) 3 : Nat))).setCell ⟨b, 2, none⟩ (.int .i64 (b1 : Nat))).setCell ⟨b, 3, none⟩ (.int .i64 (b2 : Nat))).setCell ⟨b, 4, none⟩ (.int .i64 (b3 : Nat))) = V at hrow hx ⊢
      have hrow := (Below.block ((Ext.refl V).alloc (.cells #[.int .i64 (b1 : Nat), .int .i64 (b2 : Nat)] 38)) b (Array.getElem?_eq_some_iff.1 hrow).1).trans hrow
      have hx := hx.trans ((Ext.refl V).alloc (.cells #[.int .i64 (b1 : Nat), .int .i64 (b2 : Nat)] 38))
      obtain ⟨⟨c0, c1, c2, c3, c4⟩, _⟩ := free5W hrow
      refine bodyPost_ret (v := .agg #[.int .u8 1, .int .i64 (mfl X r 3 (q : Int) 3 : Nat), .int .i64 (b1 : Nat), .int .i64 (b2 : Nat), .int .i64 (b3 : Nat)]) (by simp [results, Tryz.results142, go_sem, c0, c1, c2, c3, c4]) rfl ?_
      subst hq1 hq2 hq3
      exact ⟨rfl, hx⟩
    · rw [recQ_bad hT (by rw [hB]; exact he)]
      obtain ⟨E, hE⟩ : ∃ E, (rcR B).2.2.2 = E := ⟨_, rfl⟩
      rw [hE] at he
      have hne : (E != 0) = true := by simpa using he
      have HE := Lib.hid hE
      clear hT hB he hE
      go_enter Tryz.func142, Tryz.ntmps142
      go_wp2_with fail
      rw [← hw0.1, ← hw0.2]
      clear hw0
      refine (HO.out _ HE0.out).mono ?_
      rintro e w1 ⟨A, N, rfl, hb, hN, hx⟩
      have HB := Lib.hid hb
      have HN := Lib.hid hN
      have HX1 := Lib.hid hx
      have hrowT := heap_alloc_new w1 (.cells #[.int .i64 (mfl X r 3 (q : Int) 0 : Nat), .int .i64 (mfl X r 3 (q : Int) 1 : Nat), .int .i64 (mfl X r 3 (q : Int) 2 : Nat), .int .i64 (mfl X r 3 (q : Int) 3 : Nat), .int .i64 (mfl X r 3 (q : Int) 4 : Nat)] 44)
      have HRT := Lib.hid hrowT
      have HXA := Lib.hid ((Ext.refl w1).alloc (.cells #[.int .i64 (mfl X r 3 (q : Int) 0 : Nat), .int .i64 (mfl X r 3 (q : Int) 1 : Nat), .int .i64 (mfl X r 3 (q : Int) 2 : Nat), .int .i64 (mfl X r 3 (q : Int) 3 : Nat), .int .i64 (mfl X r 3 (q : Int) 4 : Nat)] 44))
      have HX : Hid (Ext w (w1.alloc (.cells #[.int .i64 (mfl X r 3 (q : Int) 0 : Nat), .int .i64 (mfl X r 3 (q : Int) 1 : Nat), .int .i64 (mfl X r 3 (q : Int) 2 : Nat), .int .i64 (mfl X r 3 (q : Int) 3 : Nat), .int .i64 (mfl X r 3 (q : Int) 4 : Nat)] 44))) := Lib.hid ((HE0.out.trans hx).trans HXA.out)
      have HROW : Hid ((w1.alloc (.cells #[.int .i64 (mfl X r 3 (q : Int) 0 : Nat), .int .i64 (mfl X r 3 (q : Int) 1 : Nat), .int .i64 (mfl X r 3 (q : Int) 2 : Nat), .int .i64 (mfl X r 3 (q : Int) 3 : Nat), .int .i64 (mfl X r 3 (q : Int) 4 : Nat)] 44)).heap[b]? = some (.cells #[.int .u8 0, .int .i64 0, .int .i64 0, .int .i64 0, .int .i64 0] 147 (0, 0))) := Lib.hid (((hx.trans HXA.out).block _ (Array.getElem?_eq_some_iff.1 HT0.out).1).trans HT0.out)
      clear hb hN hx hrowT
      go_wp2_with fail
      refine (sparse_of A N N B _ (HS.out.ext HX.out) (HB.out.ext HXA.out) (by have := HN.out; omega)).mono ?_
      rw [HE.out]
      rintro e w2 ⟨rfl, hx⟩
      generalize hq1 : (rcR B).1 = b1 at *
      generalize hq2 : (rcR B).2.1 = b2 at *
      generalize hq3 : (rcR B).2.2.1 = b3 at *
      have hcT := cell_of_row w2 w1.heap.size 3 _ _ _ ((hx.block _ (Array.getElem?_eq_some_iff.1 HRT.out).1).trans HRT.out)
      have hlT : w1.heap.size < w2.heap.size := (Array.getElem?_eq_some_iff.1 ((hx.block _ (Array.getElem?_eq_some_iff.1 HRT.out).1).trans HRT.out)).1
      have hrow := (hx.block _ (Array.getElem?_eq_some_iff.1 HROW.out).1).trans HROW.out
      obtain ⟨⟨c0, c1, c2, c3, c4⟩, f0, f1, f2, f3, f4⟩ := free5W hrow
      have hlb := (Array.getElem?_eq_some_iff.1 hrow).1
      have HX : Hid (Ext w w2) := Lib.hid (HX.out.trans hx)
      have HROW : Hid (w2.heap[b]? = some (.cells #[.int .u8 0, .int .i64 0, .int .i64 0, .int .i64 0, .int .i64 0] 147 (0, 0))) := Lib.hid hrow
      clear hx hrow HB HN HX1 HRT HXA
      go_wp2_with fail
      have hrow := row5 HROW.out (.int .u8 2) (.int .i64 0) (.int .i64 0) (.int .i64 0) (.int .i64 0)
      have hx := ext5 HX.out HZ0.out.2 (.int .u8 2) (.int .i64 0) (.int .i64 0) (.int .i64 0) (.int .i64 0)
      clear c0 c1 c2 c3 c4 f0 f1 f2 f3 f4
      generalize (((((w2.setCell ⟨b, 0, none⟩ (.int .u8 2)).setCell ⟨b, 1, none⟩ (.int .i64 0)).setCell ⟨b, 2, none⟩ (.int .i64 0)).setCell ⟨b, 3, none⟩ (.int .i64 0)).setCell ⟨b, 4, none⟩ (.int .i64 0)) = V at hrow hx ⊢
      have hrow := (Below.block ((Ext.refl V).alloc (.cells #[.int .i64 (b1 : Nat), .int .i64 (b2 : Nat)] 38)) b (Array.getElem?_eq_some_iff.1 hrow).1).trans hrow
      have hx := hx.trans ((Ext.refl V).alloc (.cells #[.int .i64 (b1 : Nat), .int .i64 (b2 : Nat)] 38))
      obtain ⟨⟨c0, c1, c2, c3, c4⟩, _⟩ := free5W hrow
      refine bodyPost_ret (v := .agg #[.int .u8 2, .int .i64 0, .int .i64 0, .int .i64 0, .int .i64 0]) (by simp [results, Tryz.results142, go_sem, c0, c1, c2, c3, c4]) rfl ?_
      exact ⟨rfl, hx⟩
  · rw [recQ_no (by rw [hT]; exact h1), hT]
    have hne : ((T : Int) != 1) = true := by simpa using (show ¬ (T : Int) = 1 from by omega)
    clear hT hB h1
    · go_enter Tryz.func142, Tryz.ntmps142
      go_wp2_with fail
      rw [← hw0.1, ← hw0.2]
      clear hw0
      refine (HO.out _ HE0.out).mono ?_
      rintro e w1 ⟨A, N, rfl, hb, hN, hx⟩
      have HB := Lib.hid hb
      have HN := Lib.hid hN
      have HX1 := Lib.hid hx
      have hrowT := heap_alloc_new w1 (.cells #[.int .i64 (mfl X r 3 (q : Int) 0 : Nat), .int .i64 (mfl X r 3 (q : Int) 1 : Nat), .int .i64 (mfl X r 3 (q : Int) 2 : Nat), .int .i64 (mfl X r 3 (q : Int) 3 : Nat), .int .i64 (mfl X r 3 (q : Int) 4 : Nat)] 44)
      have HRT := Lib.hid hrowT
      have HXA := Lib.hid ((Ext.refl w1).alloc (.cells #[.int .i64 (mfl X r 3 (q : Int) 0 : Nat), .int .i64 (mfl X r 3 (q : Int) 1 : Nat), .int .i64 (mfl X r 3 (q : Int) 2 : Nat), .int .i64 (mfl X r 3 (q : Int) 3 : Nat), .int .i64 (mfl X r 3 (q : Int) 4 : Nat)] 44))
      have HX : Hid (Ext w (w1.alloc (.cells #[.int .i64 (mfl X r 3 (q : Int) 0 : Nat), .int .i64 (mfl X r 3 (q : Int) 1 : Nat), .int .i64 (mfl X r 3 (q : Int) 2 : Nat), .int .i64 (mfl X r 3 (q : Int) 3 : Nat), .int .i64 (mfl X r 3 (q : Int) 4 : Nat)] 44))) := Lib.hid ((HE0.out.trans hx).trans HXA.out)
      have HROW : Hid ((w1.alloc (.cells #[.int .i64 (mfl X r 3 (q : Int) 0 : Nat), .int .i64 (mfl X r 3 (q : Int) 1 : Nat), .int .i64 (mfl X r 3 (q : Int) 2 : Nat), .int .i64 (mfl X r 3 (q : Int) 3 : Nat), .int .i64 (mfl X r 3 (q : Int) 4 : Nat)] 44)).heap[b]? = some (.cells #[.int .u8 0, .int .i64 0, .int .i64 0, .int .i64 0, .int .i64 0] 147 (0, 0))) := Lib.hid (((hx.trans HXA.out).block _ (Array.getElem?_eq_some_iff.1 HT0.out).1).trans HT0.out)
      have hrow := (hx.block _ (Array.getElem?_eq_some_iff.1 HT0.out).1).trans HT0.out
      obtain ⟨⟨c0, c1, c2, c3, c4⟩, f0, f1, f2, f3, f4⟩ := free5W hrow
      have hlb := (Array.getElem?_eq_some_iff.1 hrow).1
      have HX := Lib.hid (HE0.out.trans hx)
      have HROW := Lib.hid hrow
      clear hb hN hx hrowT hrow HB HN HX1 HRT HXA
      go_wp2_with fail
      have hrow := row5 HROW.out (.int .u8 (T : Nat)) (.int .i64 0) (.int .i64 0) (.int .i64 0) (.int .i64 0)
      have hx := ext5 HX.out HZ0.out.2 (.int .u8 (T : Nat)) (.int .i64 0) (.int .i64 0) (.int .i64 0) (.int .i64 0)
      clear c0 c1 c2 c3 c4 f0 f1 f2 f3 f4
      generalize (((((w1.setCell ⟨b, 0, none⟩ (.int .u8 (T : Nat))).setCell ⟨b, 1, none⟩ (.int .i64 0)).setCell ⟨b, 2, none⟩ (.int .i64 0)).setCell ⟨b, 3, none⟩ (.int .i64 0)).setCell ⟨b, 4, none⟩ (.int .i64 0)) = V at hrow hx ⊢
      have hrow := (Below.block ((Ext.refl V).alloc (.cells #[.int .i64 (mfl X r 3 (q : Int) 0 : Nat), .int .i64 (mfl X r 3 (q : Int) 1 : Nat), .int .i64 (mfl X r 3 (q : Int) 2 : Nat), .int .i64 (mfl X r 3 (q : Int) 3 : Nat), .int .i64 (mfl X r 3 (q : Int) 4 : Nat)] 44)) b (Array.getElem?_eq_some_iff.1 hrow).1).trans hrow
      have hx := hx.trans ((Ext.refl V).alloc (.cells #[.int .i64 (mfl X r 3 (q : Int) 0 : Nat), .int .i64 (mfl X r 3 (q : Int) 1 : Nat), .int .i64 (mfl X r 3 (q : Int) 2 : Nat), .int .i64 (mfl X r 3 (q : Int) 3 : Nat), .int .i64 (mfl X r 3 (q : Int) 4 : Nat)] 44))
      obtain ⟨⟨c0, c1, c2, c3, c4⟩, _⟩ := free5W hrow
      refine bodyPost_ret (v := .agg #[.int .u8 (T : Nat), .int .i64 0, .int .i64 0, .int .i64 0, .int .i64 0]) (by simp [results, Tryz.results142, go_sem, c0, c1, c2, c3, c4]) rfl ?_
      exact ⟨rfl, hx⟩
set_option maxHeartbeats 1600000 in
theorem readFrame_of (h : LogAt w g d r inc s) (hd : PDisk w d F m) (hL : LaidF w) (hLS : LaidS w) (p : Nat) (hq : p < 48) (hfew : m.waits.length ≤ 1000000) :
    Calls Tryz.prog 141 #[.pointer (some ⟨g, 0, none⟩), .int .i64 (p : Int)] w fun e w' => e = .returned (.agg #[.int .u8 ((m.copM r p).st : Int), .int .i64 (m.copM r p).ix, .int .i64 (m.copM r p).bx, .int .i64 (m.copM r p).yb, .int .u8 ((m.copM r p).e.k : Int), .int .i64 (m.copM r p).e.cl, .int .i64 (m.copM r p).e.sq, .int .u8 ((m.copM r p).e.ok : Int), .string (m.copM r p).e.key, .string (m.copM r p).e.old, .string (m.copM r p).e.val]) ∧ Ext w w' := by
  have ho := fun V (hV : Ext w V) => wopen4 (h.ext hV) (hd.ext hV) (hL.ext hV) p hq hfew
  unfold DM.copM
  generalize m.fb (p : Int) = X at ho ⊢
  obtain ⟨T, hT⟩ : ∃ T, stM X r 4 (p : Int) = T := ⟨_, rfl⟩
  obtain ⟨B, hB⟩ : ∃ B, mbl X r 4 (p : Int) = B := ⟨_, rfl⟩
  rw [hT, hB] at ho
  have HS := Lib.hid hLS
  have HL := Lib.hid hLS.o
  have HO := Lib.hid ho
  obtain ⟨b, w0, hw0, hE0, hT0, hz0w⟩ : ∃ (b : Nat) (w0 : World), (b = w.heap.size ∧ w0 = w.alloc (.cells #[.int .u8 0, .int .i64 0, .int .i64 0, .int .i64 0, .int .u8 0, .int .i64 0, .int .i64 0, .int .u8 0, .string ⟨#[]⟩, .string ⟨#[]⟩, .string ⟨#[]⟩] 149)) ∧ Ext w w0 ∧ w0.heap[b]? = some (.cells #[.int .u8 0, .int .i64 0, .int .i64 0, .int .i64 0, .int .u8 0, .int .i64 0, .int .i64 0, .int .u8 0, .string ⟨#[]⟩, .string ⟨#[]⟩, .string ⟨#[]⟩] 149 (0, 0)) ∧ (w0.heap.size = b + 1 ∧ w.heap.size ≤ b) :=
    ⟨_, _, ⟨rfl, rfl⟩, (Ext.refl w).alloc _, heap_alloc_new w _, by simp, Nat.le_refl _⟩
  have HE0 := Lib.hid hE0
  have HT0 := Lib.hid hT0
  have HZ0 := Lib.hid hz0w
  clear ho h hd hL hLS hfew hq hE0 hT0 hz0w
  by_cases h1 : T = 1
  · subst h1
    by_cases he : (psE B).2.2.2 = 0
    · rw [copQ_yes hT (by rw [hB]; exact he), hB]
      have HE := Lib.hid he
      clear hT hB he
      go_enter Tryz.func141, Tryz.ntmps141
      go_wp2_with fail
      rw [← hw0.1, ← hw0.2]
      clear hw0
      refine (HO.out _ HE0.out).mono ?_
      rintro e w1 ⟨A, N, rfl, hb, hN, hx⟩
      have HB := Lib.hid hb
      have HN := Lib.hid hN
      have HX1 := Lib.hid hx
      have hrowT := heap_alloc_new w1 (.cells #[.int .i64 (mfl X r 4 (p : Int) 0 : Nat), .int .i64 (mfl X r 4 (p : Int) 1 : Nat), .int .i64 (mfl X r 4 (p : Int) 2 : Nat), .int .i64 (mfl X r 4 (p : Int) 3 : Nat), .int .i64 (mfl X r 4 (p : Int) 4 : Nat)] 44)
      have HRT := Lib.hid hrowT
      have HXA := Lib.hid ((Ext.refl w1).alloc (.cells #[.int .i64 (mfl X r 4 (p : Int) 0 : Nat), .int .i64 (mfl X r 4 (p : Int) 1 : Nat), .int .i64 (mfl X r 4 (p : Int) 2 : Nat), .int .i64 (mfl X r 4 (p : Int) 3 : Nat), .int .i64 (mfl X r 4 (p : Int) 4 : Nat)] 44))
      have HX : Hid (Ext w (w1.alloc (.cells #[.int .i64 (mfl X r 4 (p : Int) 0 : Nat), .int .i64 (mfl X r 4 (p : Int) 1 : Nat), .int .i64 (mfl X r 4 (p : Int) 2 : Nat), .int .i64 (mfl X r 4 (p : Int) 3 : Nat), .int .i64 (mfl X r 4 (p : Int) 4 : Nat)] 44))) := Lib.hid ((HE0.out.trans hx).trans HXA.out)
      have HROW : Hid ((w1.alloc (.cells #[.int .i64 (mfl X r 4 (p : Int) 0 : Nat), .int .i64 (mfl X r 4 (p : Int) 1 : Nat), .int .i64 (mfl X r 4 (p : Int) 2 : Nat), .int .i64 (mfl X r 4 (p : Int) 3 : Nat), .int .i64 (mfl X r 4 (p : Int) 4 : Nat)] 44)).heap[b]? = some (.cells #[.int .u8 0, .int .i64 0, .int .i64 0, .int .i64 0, .int .u8 0, .int .i64 0, .int .i64 0, .int .u8 0, .string ⟨#[]⟩, .string ⟨#[]⟩, .string ⟨#[]⟩] 149 (0, 0))) := Lib.hid (((hx.trans HXA.out).block _ (Array.getElem?_eq_some_iff.1 HT0.out).1).trans HT0.out)
      clear hb hN hx hrowT
      go_wp2_with fail
      refine (parseE_any A N N B _ (HL.out.ext HX.out) (HB.out.ext HXA.out) (by have := HN.out; omega)).mono ?_
      rw [HE.out]
      rintro e w2 ⟨rfl, hx⟩
      generalize hq1 : (psE B).1 = b1 at *
      generalize hq2 : (psE B).2.1 = b2 at *
      generalize hq3 : (psE B).2.2.1 = b3 at *
      have hcT := cell_of_row w2 w1.heap.size 3 _ _ _ ((hx.block _ (Array.getElem?_eq_some_iff.1 HRT.out).1).trans HRT.out)
      have hlT : w1.heap.size < w2.heap.size := (Array.getElem?_eq_some_iff.1 ((hx.block _ (Array.getElem?_eq_some_iff.1 HRT.out).1).trans HRT.out)).1
      have hrow := (hx.block _ (Array.getElem?_eq_some_iff.1 HROW.out).1).trans HROW.out
      obtain ⟨⟨c0, c1, c2, c3, c4, c5, c6, c7, c8, c9, c10⟩, f0, f1, f2, f3, f4, f5, f6, f7, f8, f9, f10⟩ := free11W hrow
      have hlb := (Array.getElem?_eq_some_iff.1 hrow).1
      have HX : Hid (Ext w w2) := Lib.hid (HX.out.trans hx)
      have HROW : Hid (w2.heap[b]? = some (.cells #[.int .u8 0, .int .i64 0, .int .i64 0, .int .i64 0, .int .u8 0, .int .i64 0, .int .i64 0, .int .u8 0, .string ⟨#[]⟩, .string ⟨#[]⟩, .string ⟨#[]⟩] 149 (0, 0))) := Lib.hid hrow
      clear hx hrow HB HN HX1 HRT HXA
      go_wp2_with fail
      have hrow := row11 HROW.out (.int .u8 1) (.int .i64 (mfl X r 4 (p : Int) 3 : Nat)) (.int .i64 (b1 : Nat)) (.int .i64 (b2 : Nat)) (.int .u8 (b3.k : Nat)) (.int .i64 b3.cl) (.int .i64 b3.sq) (.int .u8 (b3.ok : Nat)) (.string b3.key) (.string b3.old) (.string b3.val)
      have hx := ext11 HX.out HZ0.out.2 (.int .u8 1) (.int .i64 (mfl X r 4 (p : Int) 3 : Nat)) (.int .i64 (b1 : Nat)) (.int .i64 (b2 : Nat)) (.int .u8 (b3.k : Nat)) (.int .i64 b3.cl) (.int .i64 b3.sq) (.int .u8 (b3.ok : Nat)) (.string b3.key) (.string b3.old) (.string b3.val)
      clear c0 c1 c2 c3 c4 c5 c6 c7 c8 c9 c10 f0 f1 f2 f3 f4 f5 f6 f7 f8 f9 f10
      generalize (((((((((((w2.setCell ⟨b, 0, none⟩ (.int .u8 1)).setCell ⟨b, 1, none⟩ (.int .i64 (mfl X r 4 (p : Int) 3 : Nat))).setCell ⟨b, 2, none⟩ (.int .i64 (b1 : Nat))).setCell ⟨b, 3, none⟩ (.int .i64 (b2 : Nat))).setCell ⟨b, 4, none⟩ (.int .u8 (b3.k : Nat))).setCell ⟨b, 5, none⟩ (.int .i64 b3.cl)).setCell ⟨b, 6, none⟩ (.int .i64 b3.sq)).setCell ⟨b, 7, none⟩ (.int .u8 (b3.ok : Nat))).setCell ⟨b, 8, none⟩ (.string b3.key)).setCell ⟨b, 9, none⟩ (.string b3.old)).setCell ⟨b, 10, none⟩ (.string b3.val)) = V at hrow hx ⊢
      have hrow := (Below.block (((Ext.refl V).alloc (.cells #[.int .i64 (b1 : Nat), .int .i64 (b2 : Nat)] 38)).alloc (.cells #[.int .u8 (b3.k : Nat), .int .i64 b3.cl, .int .i64 b3.sq, .int .u8 (b3.ok : Nat), .string b3.key, .string b3.old, .string b3.val] 42)) b (Array.getElem?_eq_some_iff.1 hrow).1).trans hrow
      have hx := hx.trans (((Ext.refl V).alloc (.cells #[.int .i64 (b1 : Nat), .int .i64 (b2 : Nat)] 38)).alloc (.cells #[.int .u8 (b3.k : Nat), .int .i64 b3.cl, .int .i64 b3.sq, .int .u8 (b3.ok : Nat), .string b3.key, .string b3.old, .string b3.val] 42))
      obtain ⟨⟨c0, c1, c2, c3, c4, c5, c6, c7, c8, c9, c10⟩, _⟩ := free11W hrow
      refine bodyPost_ret (v := .agg #[.int .u8 1, .int .i64 (mfl X r 4 (p : Int) 3 : Nat), .int .i64 (b1 : Nat), .int .i64 (b2 : Nat), .int .u8 (b3.k : Nat), .int .i64 b3.cl, .int .i64 b3.sq, .int .u8 (b3.ok : Nat), .string b3.key, .string b3.old, .string b3.val]) (by simp [results, Tryz.results141, go_sem, c0, c1, c2, c3, c4, c5, c6, c7, c8, c9, c10]) rfl ?_
      subst hq1 hq2 hq3
      exact ⟨rfl, hx⟩
    · rw [copQ_bad hT (by rw [hB]; exact he)]
      obtain ⟨E, hE⟩ : ∃ E, (psE B).2.2.2 = E := ⟨_, rfl⟩
      rw [hE] at he
      have hne : (E != 0) = true := by simpa using he
      have HE := Lib.hid hE
      clear hT hB he hE
      go_enter Tryz.func141, Tryz.ntmps141
      go_wp2_with fail
      rw [← hw0.1, ← hw0.2]
      clear hw0
      refine (HO.out _ HE0.out).mono ?_
      rintro e w1 ⟨A, N, rfl, hb, hN, hx⟩
      have HB := Lib.hid hb
      have HN := Lib.hid hN
      have HX1 := Lib.hid hx
      have hrowT := heap_alloc_new w1 (.cells #[.int .i64 (mfl X r 4 (p : Int) 0 : Nat), .int .i64 (mfl X r 4 (p : Int) 1 : Nat), .int .i64 (mfl X r 4 (p : Int) 2 : Nat), .int .i64 (mfl X r 4 (p : Int) 3 : Nat), .int .i64 (mfl X r 4 (p : Int) 4 : Nat)] 44)
      have HRT := Lib.hid hrowT
      have HXA := Lib.hid ((Ext.refl w1).alloc (.cells #[.int .i64 (mfl X r 4 (p : Int) 0 : Nat), .int .i64 (mfl X r 4 (p : Int) 1 : Nat), .int .i64 (mfl X r 4 (p : Int) 2 : Nat), .int .i64 (mfl X r 4 (p : Int) 3 : Nat), .int .i64 (mfl X r 4 (p : Int) 4 : Nat)] 44))
      have HX : Hid (Ext w (w1.alloc (.cells #[.int .i64 (mfl X r 4 (p : Int) 0 : Nat), .int .i64 (mfl X r 4 (p : Int) 1 : Nat), .int .i64 (mfl X r 4 (p : Int) 2 : Nat), .int .i64 (mfl X r 4 (p : Int) 3 : Nat), .int .i64 (mfl X r 4 (p : Int) 4 : Nat)] 44))) := Lib.hid ((HE0.out.trans hx).trans HXA.out)
      have HROW : Hid ((w1.alloc (.cells #[.int .i64 (mfl X r 4 (p : Int) 0 : Nat), .int .i64 (mfl X r 4 (p : Int) 1 : Nat), .int .i64 (mfl X r 4 (p : Int) 2 : Nat), .int .i64 (mfl X r 4 (p : Int) 3 : Nat), .int .i64 (mfl X r 4 (p : Int) 4 : Nat)] 44)).heap[b]? = some (.cells #[.int .u8 0, .int .i64 0, .int .i64 0, .int .i64 0, .int .u8 0, .int .i64 0, .int .i64 0, .int .u8 0, .string ⟨#[]⟩, .string ⟨#[]⟩, .string ⟨#[]⟩] 149 (0, 0))) := Lib.hid (((hx.trans HXA.out).block _ (Array.getElem?_eq_some_iff.1 HT0.out).1).trans HT0.out)
      clear hb hN hx hrowT
      go_wp2_with fail
      refine (parseE_any A N N B _ (HL.out.ext HX.out) (HB.out.ext HXA.out) (by have := HN.out; omega)).mono ?_
      rw [HE.out]
      rintro e w2 ⟨rfl, hx⟩
      generalize hq1 : (psE B).1 = b1 at *
      generalize hq2 : (psE B).2.1 = b2 at *
      generalize hq3 : (psE B).2.2.1 = b3 at *
      have hcT := cell_of_row w2 w1.heap.size 3 _ _ _ ((hx.block _ (Array.getElem?_eq_some_iff.1 HRT.out).1).trans HRT.out)
      have hlT : w1.heap.size < w2.heap.size := (Array.getElem?_eq_some_iff.1 ((hx.block _ (Array.getElem?_eq_some_iff.1 HRT.out).1).trans HRT.out)).1
      have hrow := (hx.block _ (Array.getElem?_eq_some_iff.1 HROW.out).1).trans HROW.out
      obtain ⟨⟨c0, c1, c2, c3, c4, c5, c6, c7, c8, c9, c10⟩, f0, f1, f2, f3, f4, f5, f6, f7, f8, f9, f10⟩ := free11W hrow
      have hlb := (Array.getElem?_eq_some_iff.1 hrow).1
      have HX : Hid (Ext w w2) := Lib.hid (HX.out.trans hx)
      have HROW : Hid (w2.heap[b]? = some (.cells #[.int .u8 0, .int .i64 0, .int .i64 0, .int .i64 0, .int .u8 0, .int .i64 0, .int .i64 0, .int .u8 0, .string ⟨#[]⟩, .string ⟨#[]⟩, .string ⟨#[]⟩] 149 (0, 0))) := Lib.hid hrow
      clear hx hrow HB HN HX1 HRT HXA
      go_wp2_with fail
      have hrow := row11 HROW.out (.int .u8 2) (.int .i64 0) (.int .i64 0) (.int .i64 0) (.int .u8 0) (.int .i64 0) (.int .i64 0) (.int .u8 0) (.string ⟨#[]⟩) (.string ⟨#[]⟩) (.string ⟨#[]⟩)
      have hx := ext11 HX.out HZ0.out.2 (.int .u8 2) (.int .i64 0) (.int .i64 0) (.int .i64 0) (.int .u8 0) (.int .i64 0) (.int .i64 0) (.int .u8 0) (.string ⟨#[]⟩) (.string ⟨#[]⟩) (.string ⟨#[]⟩)
      clear c0 c1 c2 c3 c4 c5 c6 c7 c8 c9 c10 f0 f1 f2 f3 f4 f5 f6 f7 f8 f9 f10
      generalize (((((((((((w2.setCell ⟨b, 0, none⟩ (.int .u8 2)).setCell ⟨b, 1, none⟩ (.int .i64 0)).setCell ⟨b, 2, none⟩ (.int .i64 0)).setCell ⟨b, 3, none⟩ (.int .i64 0)).setCell ⟨b, 4, none⟩ (.int .u8 0)).setCell ⟨b, 5, none⟩ (.int .i64 0)).setCell ⟨b, 6, none⟩ (.int .i64 0)).setCell ⟨b, 7, none⟩ (.int .u8 0)).setCell ⟨b, 8, none⟩ (.string ⟨#[]⟩)).setCell ⟨b, 9, none⟩ (.string ⟨#[]⟩)).setCell ⟨b, 10, none⟩ (.string ⟨#[]⟩)) = V at hrow hx ⊢
      have hrow := (Below.block (((Ext.refl V).alloc (.cells #[.int .i64 (b1 : Nat), .int .i64 (b2 : Nat)] 38)).alloc (.cells #[.int .u8 (b3.k : Nat), .int .i64 b3.cl, .int .i64 b3.sq, .int .u8 (b3.ok : Nat), .string b3.key, .string b3.old, .string b3.val] 42)) b (Array.getElem?_eq_some_iff.1 hrow).1).trans hrow
      have hx := hx.trans (((Ext.refl V).alloc (.cells #[.int .i64 (b1 : Nat), .int .i64 (b2 : Nat)] 38)).alloc (.cells #[.int .u8 (b3.k : Nat), .int .i64 b3.cl, .int .i64 b3.sq, .int .u8 (b3.ok : Nat), .string b3.key, .string b3.old, .string b3.val] 42))
      obtain ⟨⟨c0, c1, c2, c3, c4, c5, c6, c7, c8, c9, c10⟩, _⟩ := free11W hrow
      refine bodyPost_ret (v := .agg #[.int .u8 2, .int .i64 0, .int .i64 0, .int .i64 0, .int .u8 0, .int .i64 0, .int .i64 0, .int .u8 0, .string ⟨#[]⟩, .string ⟨#[]⟩, .string ⟨#[]⟩]) (by simp [results, Tryz.results141, go_sem, c0, c1, c2, c3, c4, c5, c6, c7, c8, c9, c10]) rfl ?_
      exact ⟨rfl, hx⟩
  · rw [copQ_no (by rw [hT]; exact h1), hT]
    have hne : ((T : Int) != 1) = true := by simpa using (show ¬ (T : Int) = 1 from by omega)
    clear hT hB h1
    · go_enter Tryz.func141, Tryz.ntmps141
      go_wp2_with fail
      rw [← hw0.1, ← hw0.2]
      clear hw0
      refine (HO.out _ HE0.out).mono ?_
      rintro e w1 ⟨A, N, rfl, hb, hN, hx⟩
      have HB := Lib.hid hb
      have HN := Lib.hid hN
      have HX1 := Lib.hid hx
      have hrowT := heap_alloc_new w1 (.cells #[.int .i64 (mfl X r 4 (p : Int) 0 : Nat), .int .i64 (mfl X r 4 (p : Int) 1 : Nat), .int .i64 (mfl X r 4 (p : Int) 2 : Nat), .int .i64 (mfl X r 4 (p : Int) 3 : Nat), .int .i64 (mfl X r 4 (p : Int) 4 : Nat)] 44)
      have HRT := Lib.hid hrowT
      have HXA := Lib.hid ((Ext.refl w1).alloc (.cells #[.int .i64 (mfl X r 4 (p : Int) 0 : Nat), .int .i64 (mfl X r 4 (p : Int) 1 : Nat), .int .i64 (mfl X r 4 (p : Int) 2 : Nat), .int .i64 (mfl X r 4 (p : Int) 3 : Nat), .int .i64 (mfl X r 4 (p : Int) 4 : Nat)] 44))
      have HX : Hid (Ext w (w1.alloc (.cells #[.int .i64 (mfl X r 4 (p : Int) 0 : Nat), .int .i64 (mfl X r 4 (p : Int) 1 : Nat), .int .i64 (mfl X r 4 (p : Int) 2 : Nat), .int .i64 (mfl X r 4 (p : Int) 3 : Nat), .int .i64 (mfl X r 4 (p : Int) 4 : Nat)] 44))) := Lib.hid ((HE0.out.trans hx).trans HXA.out)
      have HROW : Hid ((w1.alloc (.cells #[.int .i64 (mfl X r 4 (p : Int) 0 : Nat), .int .i64 (mfl X r 4 (p : Int) 1 : Nat), .int .i64 (mfl X r 4 (p : Int) 2 : Nat), .int .i64 (mfl X r 4 (p : Int) 3 : Nat), .int .i64 (mfl X r 4 (p : Int) 4 : Nat)] 44)).heap[b]? = some (.cells #[.int .u8 0, .int .i64 0, .int .i64 0, .int .i64 0, .int .u8 0, .int .i64 0, .int .i64 0, .int .u8 0, .string ⟨#[]⟩, .string ⟨#[]⟩, .string ⟨#[]⟩] 149 (0, 0))) := Lib.hid (((hx.trans HXA.out).block _ (Array.getElem?_eq_some_iff.1 HT0.out).1).trans HT0.out)
      have hrow := (hx.block _ (Array.getElem?_eq_some_iff.1 HT0.out).1).trans HT0.out
      obtain ⟨⟨c0, c1, c2, c3, c4, c5, c6, c7, c8, c9, c10⟩, f0, f1, f2, f3, f4, f5, f6, f7, f8, f9, f10⟩ := free11W hrow
      have hlb := (Array.getElem?_eq_some_iff.1 hrow).1
      have HX := Lib.hid (HE0.out.trans hx)
      have HROW := Lib.hid hrow
      clear hb hN hx hrowT hrow HB HN HX1 HRT HXA
      go_wp2_with fail
      have hrow := row11 HROW.out (.int .u8 (T : Nat)) (.int .i64 0) (.int .i64 0) (.int .i64 0) (.int .u8 0) (.int .i64 0) (.int .i64 0) (.int .u8 0) (.string ⟨#[]⟩) (.string ⟨#[]⟩) (.string ⟨#[]⟩)
      have hx := ext11 HX.out HZ0.out.2 (.int .u8 (T : Nat)) (.int .i64 0) (.int .i64 0) (.int .i64 0) (.int .u8 0) (.int .i64 0) (.int .i64 0) (.int .u8 0) (.string ⟨#[]⟩) (.string ⟨#[]⟩) (.string ⟨#[]⟩)
      clear c0 c1 c2 c3 c4 c5 c6 c7 c8 c9 c10 f0 f1 f2 f3 f4 f5 f6 f7 f8 f9 f10
      generalize (((((((((((w1.setCell ⟨b, 0, none⟩ (.int .u8 (T : Nat))).setCell ⟨b, 1, none⟩ (.int .i64 0)).setCell ⟨b, 2, none⟩ (.int .i64 0)).setCell ⟨b, 3, none⟩ (.int .i64 0)).setCell ⟨b, 4, none⟩ (.int .u8 0)).setCell ⟨b, 5, none⟩ (.int .i64 0)).setCell ⟨b, 6, none⟩ (.int .i64 0)).setCell ⟨b, 7, none⟩ (.int .u8 0)).setCell ⟨b, 8, none⟩ (.string ⟨#[]⟩)).setCell ⟨b, 9, none⟩ (.string ⟨#[]⟩)).setCell ⟨b, 10, none⟩ (.string ⟨#[]⟩)) = V at hrow hx ⊢
      have hrow := (Below.block ((Ext.refl V).alloc (.cells #[.int .i64 (mfl X r 4 (p : Int) 0 : Nat), .int .i64 (mfl X r 4 (p : Int) 1 : Nat), .int .i64 (mfl X r 4 (p : Int) 2 : Nat), .int .i64 (mfl X r 4 (p : Int) 3 : Nat), .int .i64 (mfl X r 4 (p : Int) 4 : Nat)] 44)) b (Array.getElem?_eq_some_iff.1 hrow).1).trans hrow
      have hx := hx.trans ((Ext.refl V).alloc (.cells #[.int .i64 (mfl X r 4 (p : Int) 0 : Nat), .int .i64 (mfl X r 4 (p : Int) 1 : Nat), .int .i64 (mfl X r 4 (p : Int) 2 : Nat), .int .i64 (mfl X r 4 (p : Int) 3 : Nat), .int .i64 (mfl X r 4 (p : Int) 4 : Nat)] 44))
      obtain ⟨⟨c0, c1, c2, c3, c4, c5, c6, c7, c8, c9, c10⟩, _⟩ := free11W hrow
      refine bodyPost_ret (v := .agg #[.int .u8 (T : Nat), .int .i64 0, .int .i64 0, .int .i64 0, .int .u8 0, .int .i64 0, .int .i64 0, .int .u8 0, .string ⟨#[]⟩, .string ⟨#[]⟩, .string ⟨#[]⟩]) (by simp [results, Tryz.results141, go_sem, c0, c1, c2, c3, c4, c5, c6, c7, c8, c9, c10]) rfl ?_
      exact ⟨rfl, hx⟩
end
end
section
open Go Go.RowKit
theorem setCells_eq (g : Nat) : ∀ (vs : List Value) (w : World) (o : Nat), w.setCells g o vs = setL w g o vs
  | [], _, _ => rfl
  | _ :: vs, _, o => setCells_eq g vs _ (o + 1)
theorem there_row {w : World} {g : Nat} {cs : Array Value} {t : TypeId} (h : w.heap[g]? = some (.cells cs t (0, 0))) (o n : Nat) (hn : o + n ≤ cs.size) : w.there g o n := fun j hj => by
  refine ⟨?_, frozen_of_row w g (o + j) _ _ h⟩
  rw [cell_of_row w g (o + j) _ _ _ h, Array.getElem?_eq_getElem (by omega)]
  rfl
theorem row_setCells {w : World} {g : Nat} {cs : Array Value} {t : TypeId} (h : w.heap[g]? = some (.cells cs t (0, 0))) (o : Nat) (vs : List Value) : (w.setCells g o vs).heap[g]? = some (.cells (setA cs o vs) t (0, 0)) := by
  rw [setCells_eq]
  exact row_setL vs w o cs h
theorem off_setCells {w : World} {g k : Nat} {ob : Obj} (h : w.heap[k]? = some ob) (hk : k ≠ g) (o : Nat) (vs : List Value) : (w.setCells g o vs).heap[k]? = some ob := by
  rw [setCells_eq]
  exact off_setL h hk vs o
theorem ext_setCells {a w : World} (h : Ext a w) {g : Nat} (hg : a.heap.size ≤ g) (o : Nat) (vs : List Value) : Ext a (w.setCells g o vs) := by
  rw [setCells_eq]
  exact ext_setL h hg vs o
theorem results_two {P : Program} {fn : Func} {tmps : Array Value} {w : World} {a b : Tmp} {t u : TypeId} (hr : fn.results = #[.cell a t, .cell b u]) {A B : Addr} {va vb : Value} (ha : tmps.getD a undef = .pointer (some A)) (hb : tmps.getD b undef = .pointer (some B))
    (h1 : (loadVar t A).run P w = .ok va w) (h2 : (loadVar u B).run P w = .ok vb w) : (results fn tmps).run P w = .ok (.tuple #[va, vb]) w := by
  rw [Array.getD_eq_getD_getElem?] at ha hb
  simp [results, hr, asAddr, ha, hb, h1, h2, Sem.run_bind]
end
end Go.Proofs.YtmbmpabjclkhlaaGreatDoor
