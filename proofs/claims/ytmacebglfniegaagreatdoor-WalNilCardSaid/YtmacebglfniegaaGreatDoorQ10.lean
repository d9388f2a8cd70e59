/-
  The contracts of the reader's operation and entry: what is read there, valid or not.
  The contract of the reader's entry: what is read there, valid or not.
  The contracts of entry's Bytes and Print.
  What is known of slot's table of widths; the contract of slot's may.
  Lists of structs that came in, opened, whatever their elements: what their cells hold. Metadata, ballots, and steps (a bool, a ballot, a small number, a list of bools) that came in.
  Entries that came in, opened: what their cells hold; lists of entries. Whatever the program's types are.
  Entries, ballots and lists of entries that came in, opened, by the program's own types.
  The door of the statements on logs: the five tables; entries, ballots, puts and faults that came in.
  Which powers of x are 1: none up to 12,000; so two bits of a row are told apart.
  Plain facts on frames: which checks tell the good ones; bits that are turned about.
  Plain facts on what Open answers, told by what Seal answers; and a piece of a slice of bytes.
  A tag that is stored into a block of its own: what the block holds then, and what stays.
  The contract of the frame's parts: the tag and the body that bytes would have.
  The contract of the frame's Open: what bytes are; the body is the call's own.
  The contract of the frame's Mine.
-/
import Derived.Test.YtmacebglfniegaaGreatDoorQ01
import Derived.Test.YtmacebglfniegaaGreatDoorQ03
import Derived.Test.YtmacebglfniegaaGreatDoorQ07
import Derived.Test.YtmacebglfniegaaGreatDoorQ08
import Derived.Test.YtmacebglfniegaaGreatDoorQ09
import Derived.Deep.DeepCutAuto
import Derived.LoopN
import Derived.ChangeMaps5
import Derived.Test.YtmacebglfniegaaGreatDoorProg
import Derived.Stop.LaidErr
import Derived.Deep.RegionHeld3
import Derived.Lib.SmallJoins
namespace Go.Proofs.YtmacebglfniegaaGreatDoor
set_option maxRecDepth 100000
open Go Go.RowKit

/-- A reader's blocks lie below B. -/
structure RdB (B g : Nat) (A : Option Addr) (n : Nat) : Prop where
  g : g < B
  a : 0 < n → ∀ p, A = some p → p.block < B
  o : 3 < B
theorem RdS.base {w : World} {g n c a : Nat} {A : Option Addr} {l : List Nat} {sh : Bool} (h : RdS w g A n c l a sh) : RdB w.heap.size g A n :=
  ⟨h.lt, fun hn p hp => by
    obtain ⟨g', o, e, hg, _⟩ := h.by_.rd.2 (by rw [h.by_.len]; exact hn)
    rw [hp] at e
    injection e with e
    rw [e]
    exact hg, World.block_lt_of_cell? w _ h.laid.1⟩
theorem RdS.other {w w' : World} {g n c a B : Nat} {A : Option Addr} {l : List Nat} {sh : Bool} {G : Nat → Prop} (h : RdS w g A n c l a sh) (hb : RdB B g A n) (k : Mod G w w') (hG : ∀ i, G i → B ≤ i) : RdS w' g A n c l a sh :=
  ⟨heap_mod h.row k fun hg => absurd (hG _ hg) (Nat.not_le.2 hb.g), by_mod h.by_ k fun hn p hp hg => absurd (hG _ hg) (Nat.not_le.2 (hb.a hn p hp)), h.off, h.le, h.most, laid_mod h.laid k fun hg => absurd (hG _ hg) (Nat.not_le.2 hb.o)⟩
/-- What holds while an operation is read: two blocks of the call's own, the reader, and what was written. -/
structure OpS (w : World) (g : Nat) (A : Option Addr) (n c : Nat) (l : List Nat) (g2 g3 : Nat) (x0 x1 x2 x3 : Value) (a : Nat) (sh : Bool) (w' : World) : Prop where
  rd : RdS w' g A n c l a sh
  base : RdB w.heap.size g A n
  res : w'.heap[g2]? = some (.cells #[.int .u8 0, .string ⟨#[]⟩, .string ⟨#[]⟩, .string ⟨#[]⟩] 40 (0, 0))
  own : w'.heap[g3]? = some (.cells #[x0, x1, x2, x3] 246 (0, 0))
  ge : w.heap.size ≤ g2 ∧ w.heap.size ≤ g3 ∧ g2 ≠ g3
  mod : Mod (fun i => i = g) w w'
section
variable {w w' w2 : World} {g n c a g2 g3 : Nat} {A : Option Addr} {l : List Nat} {x0 x1 x2 x3 : Value} {sh : Bool}
theorem OpS.ext (h : OpS w g A n c l g2 g3 x0 x1 x2 x3 a sh w') (k : Ext w' w2) : OpS w g A n c l g2 g3 x0 x1 x2 x3 a sh w2 :=
  ⟨h.rd.ext k, h.base, heap_extE h.res k, heap_extE h.own k, h.ge, h.mod.ext k⟩
theorem OpS.step {a' : Nat} {sh' : Bool} (h : OpS w g A n c l g2 g3 x0 x1 x2 x3 a sh w') (k : Mod (fun i => i = g) w' w2) (hr : RdS w2 g A n c l a' sh') : OpS w g A n c l g2 g3 x0 x1 x2 x3 a' sh' w2 :=
  ⟨hr, h.base, heap_mod h.res k (by have := h.base.g; have := h.ge; omega), heap_mod h.own k (by have := h.base.g; have := h.ge; omega), h.ge, Mod.trans (F := fun i => i = g) h.mod k fun _ hi => .inl hi⟩
theorem OpS.put2 (h : OpS w g A n c l g2 g3 x0 x1 x2 x3 a sh w') (v : Value) : OpS w g A n c l g2 g3 x0 x1 v x3 a sh (w'.setCell ⟨g3, 2, none⟩ v) :=
  ⟨h.rd.other h.base (mod_set g3 2 v) fun i hi => by subst hi; exact h.ge.2.1, h.base, heap_mod h.res (mod_set g3 2 v) h.ge.2.2, rdr_set h.own v, h.ge, Mod.setCell (F := fun i => i = g) h.mod (.inr h.ge.2.1) v⟩
theorem OpS.put3 (h : OpS w g A n c l g2 g3 x0 x1 x2 x3 a sh w') (v : Value) : OpS w g A n c l g2 g3 x0 x1 x2 v a sh (w'.setCell ⟨g3, 3, none⟩ v) :=
  ⟨h.rd.other h.base (mod_set g3 3 v) fun i hi => by subst hi; exact h.ge.2.1, h.base, heap_mod h.res (mod_set g3 3 v) h.ge.2.2, rdr_set h.own v, h.ge, Mod.setCell (F := fun i => i = g) h.mod (.inr h.ge.2.1) v⟩
end
end Go.Proofs.YtmacebglfniegaaGreatDoor

namespace Go.Proofs.YtmacebglfniegaaGreatDoor
set_option maxRecDepth 100000
open Go Go.RowKit

theorem seven_cells {w : World} {g : Nat} {x0 x1 x2 x3 x4 x5 x6 : Value} {t : TypeId} (h : w.heap[g]? = some (.cells #[x0, x1, x2, x3, x4, x5, x6] t (0, 0))) :
    w.cell? ⟨g, 0, none⟩ = some x0 ∧ w.cell? ⟨g, 1, none⟩ = some x1 ∧ w.cell? ⟨g, 2, none⟩ = some x2 ∧ w.cell? ⟨g, 3, none⟩ = some x3 ∧ w.cell? ⟨g, 4, none⟩ = some x4 ∧ w.cell? ⟨g, 5, none⟩ = some x5 ∧ w.cell? ⟨g, 6, none⟩ = some x6 :=
  ⟨cell_of_row w g 0 _ _ _ h, cell_of_row w g 1 _ _ _ h, cell_of_row w g 2 _ _ _ h, cell_of_row w g 3 _ _ _ h, cell_of_row w g 4 _ _ _ h, cell_of_row w g 5 _ _ _ h, cell_of_row w g 6 _ _ _ h⟩
/-- An entry stored into a block. -/
def set7 (w : World) (g : Nat) (x0 x1 x2 x3 x4 x5 x6 : Value) : World :=
  ((((((w.setCell ⟨g, 0, none⟩ x0).setCell ⟨g, 1, none⟩ x1).setCell ⟨g, 2, none⟩ x2).setCell ⟨g, 3, none⟩ x3).setCell ⟨g, 4, none⟩ x4).setCell ⟨g, 5, none⟩ x5).setCell ⟨g, 6, none⟩ x6
theorem mod_set7 {F : Nat → Prop} {a w : World} (h : Mod F a w) {g : Nat} (hg : F g ∨ a.heap.size ≤ g) (x0 x1 x2 x3 x4 x5 x6 : Value) : Mod F a (set7 w g x0 x1 x2 x3 x4 x5 x6) :=
  ((((((h.setCell (p := ⟨g, 0, none⟩) hg _).setCell (p := ⟨g, 1, none⟩) hg _).setCell (p := ⟨g, 2, none⟩) hg _).setCell (p := ⟨g, 3, none⟩) hg _).setCell (p := ⟨g, 4, none⟩) hg _).setCell (p := ⟨g, 5, none⟩) hg _).setCell (p := ⟨g, 6, none⟩) hg _
theorem mod_set7_own (w : World) (g : Nat) (x0 x1 x2 x3 x4 x5 x6 : Value) : Mod (fun i => i = g) w (set7 w g x0 x1 x2 x3 x4 x5 x6) := mod_set7 (F := fun i => i = g) (Mod.refl (fun i => i = g) w) (.inl rfl) _ _ _ _ _ _ _
/-- What holds while an entry is read. -/
structure EnW (w : World) (g : Nat) (A : Option Addr) (n c : Nat) (l : List Nat) (g2 g3 : Nat) (cs : Array Value) (a : Nat) (sh : Bool) (w' : World) : Prop where
  rd : RdS w' g A n c l a sh
  base : RdB w.heap.size g A n
  res : w'.heap[g2]? = some (.cells #[.int .u8 0, .int .i64 0, .int .i64 0, .int .u8 0, .string ⟨#[]⟩, .string ⟨#[]⟩, .string ⟨#[]⟩] 42 (0, 0))
  own : w'.heap[g3]? = some (.cells cs 42 (0, 0))
  ge : w.heap.size ≤ g2 ∧ w.heap.size ≤ g3 ∧ g2 ≠ g3
  mod : Mod (fun i => i = g) w w'
section
variable {w w' w2 : World} {g n c a g2 g3 : Nat} {A : Option Addr} {l : List Nat} {cs : Array Value} {sh : Bool}
theorem EnW.step {a' : Nat} {sh' : Bool} (h : EnW w g A n c l g2 g3 cs a sh w') (k : Mod (fun i => i = g) w' w2) (hr : RdS w2 g A n c l a' sh') : EnW w g A n c l g2 g3 cs a' sh' w2 :=
  ⟨hr, h.base, heap_mod h.res k (by have := h.base.g; have := h.ge; omega), heap_mod h.own k (by have := h.base.g; have := h.ge; omega), h.ge, Mod.trans (F := fun i => i = g) h.mod k fun _ hi => .inl hi⟩
theorem EnW.put (h : EnW w g A n c l g2 g3 cs a sh w') (i : Nat) (v : Value) {ds : Array Value} (hd : ds = cs.setIfInBounds i v) : EnW w g A n c l g2 g3 ds a sh (w'.setCell ⟨g3, i, none⟩ v) :=
  ⟨h.rd.other h.base (mod_set g3 i v) fun i hi => by subst hi; exact h.ge.2.1, h.base, heap_mod h.res (mod_set g3 i v) h.ge.2.2, hd ▸ rdr_set h.own v, h.ge, Mod.setCell (F := fun i => i = g) h.mod (.inr h.ge.2.1) v⟩
theorem EnW.fin (h : EnW w g A n c l g2 g3 cs a sh w') (x0 x1 x2 x3 x4 x5 x6 : Value) : RdS (set7 w' g2 x0 x1 x2 x3 x4 x5 x6) g A n c l a sh ∧ Mod (fun i => i = g) w (set7 w' g2 x0 x1 x2 x3 x4 x5 x6) :=
  ⟨h.rd.other (G := fun i => i = g2) h.base (mod_set7_own _ _ _ _ _ _ _ _ _) (fun i hi => by subst hi; exact h.ge.1), mod_set7 (F := fun i => i = g) h.mod (.inr h.ge.1) _ _ _ _ _ _ _⟩
end
end Go.Proofs.YtmacebglfniegaaGreatDoor

namespace Go.Proofs.YtmacebglfniegaaGreatDoor
set_option maxRecDepth 100000
open Go Go.RowKit

theorem ext_cellE {w w' : World} {p : Addr} {v : Value} (k : Ext w w') (h : w.cell? p = some v) : w'.cell? p = some v := (Below.cell k (World.block_lt_of_cell? w _ h)).trans h
/-- While an entry's parts are put: the entry's cells; what there was at its beginning is as it was. -/
def EBS (W : World) (g : Nat) (cl sq : Int) (ok : Nat) (key old val : ByteArray) (w' : World) : Prop :=
  w'.cell? ⟨g, 1, none⟩ = some (.int .i64 cl) ∧ w'.cell? ⟨g, 2, none⟩ = some (.int .i64 sq) ∧ w'.cell? ⟨g, 3, none⟩ = some (.int .u8 (ok : Int)) ∧ w'.cell? ⟨g, 4, none⟩ = some (.string key) ∧ w'.cell? ⟨g, 5, none⟩ = some (.string old) ∧ w'.cell? ⟨g, 6, none⟩ = some (.string val) ∧ Hid (Ext W w')
theorem EBS.mono {W w w' : World} {g ok : Nat} {cl sq : Int} {key old val : ByteArray} (h : EBS W g cl sq ok key old val w) (k : Ext w w') : EBS W g cl sq ok key old val w' := by
  obtain ⟨h0, h1, h2, h3, h4, h5, hE⟩ := h
  exact ⟨ext_cellE k h0, ext_cellE k h1, ext_cellE k h2, ext_cellE k h3, ext_cellE k h4, ext_cellE k h5, Lib.hid (hE.out.trans k)⟩
theorem EBS.ext {W w : World} {g ok : Nat} {cl sq : Int} {key old val : ByteArray} (h : EBS W g cl sq ok key old val w) : Ext W w := h.2.2.2.2.2.2.out
theorem ret_slice (A : Option Addr) (c : Nat) {n m : Nat} (h : n = m) : Ending.returned (.tuple #[.slice A n c, .int .i64 0]) = Ending.returned (.tuple #[.slice A m c, .int .i64 0]) := by rw [h]
theorem digs_byte {n : Nat} (h : n < 256) : digs 1 n = [n] := by simp [digs]; omega
theorem fits_byte {n : Nat} (h : n < 256) : fitsB (1 : Nat) n = true := fits_iff.2 ⟨rfl, by omega, by simpa using h⟩
theorem fits_six {n : Nat} (h : n ≤ 1099511627776) : fitsB (6 : Nat) n = true := fits_iff.2 ⟨rfl, by omega, by simp; omega⟩
theorem eput1 (n : Nat) (w : World) (hL : Laid w) (hn : n < 256) :
    Calls Tryz.prog 88 #[.int .i64 1, .int .i64 (n : Int)] w fun e w' => ∃ A' c', e = .returned (.slice A' 1 c') ∧ By w' A' 1 c' [n] ∧ Ext w w' := by
  have h := eput_of 1 n w hL (fits_byte hn)
  rw [digs_byte hn] at h
  exact h
theorem eput6 (n : Nat) (w : World) (hL : Laid w) (hn : n ≤ 1099511627776) :
    Calls Tryz.prog 88 #[.int .i64 6, .int .i64 (n : Int)] w fun e w' => ∃ A' c', e = .returned (.slice A' 6 c') ∧ By w' A' 6 c' (digs 6 n) ∧ Ext w w' := eput_of 6 n w hL (fits_six hn)
set_option maxRecDepth 100000 in
set_option maxHeartbeats 1000000 in
theorem bytes_any (k : Nat) (cl sq : Int) (ok : Nat) (key old val : ByteArray) (w : World) (hL : Laid w) (hok : ok < 256) :
    Calls Tryz.prog 86 #[.agg #[.int .u8 (k : Int), .int .i64 cl, .int .i64 sq, .int .u8 (ok : Int), .string key, .string old, .string val]] w fun e w' => ∃ A' c', e = .returned (.tuple #[.slice A' (eL ⟨k, cl, sq, ok, key, old, val⟩).length c', .int .i64 (eR ⟨k, cl, sq, ok, key, old, val⟩)]) ∧ By w' A' (eL ⟨k, cl, sq, ok, key, old, val⟩).length c' (eL ⟨k, cl, sq, ok, key, old, val⟩) ∧ Ext w w' := by
  have hx := (Ext.refl w).alloc (.cells #[.int .u8 (k : Int), .int .i64 cl, .int .i64 sq, .int .u8 (ok : Int), .string key, .string old, .string val] 42)
  have HT := Lib.hid (heap_alloc_new w (.cells #[.int .u8 (k : Int), .int .i64 cl, .int .i64 sq, .int .u8 (ok : Int), .string key, .string old, .string val] 42))
  have HE := Lib.hid hx
  have HL := Lib.hid (hL.ext hx)
  clear hx hL
  cases hk : enOk ⟨k, cl, sq, ok, key, old, val⟩ with
  | false =>
    rw [eL_no hk, eR_no hk]
    have HK := Lib.hid hk
    clear hk
    go_enter Tryz.func86, Tryz.ntmps86
    go_wp2_with fail
    refine (mayE_any _ _ _ _ _ _ _ _).mono ?_
    rw [HK.out]
    rintro e w1 ⟨rfl, hx⟩
    have HE := Lib.hid (HE.out.trans hx)
    clear hx
    go_wp2_with fail
    go_ret2
    exact ⟨none, 0, rfl, By.nil_ _, HE.out⟩
  | true =>
    rw [eL_yes hk, eR_yes hk]
    have HK := Lib.hid hk
    rcases good_of hk with ⟨h1, hz⟩ | ⟨h2, p1, p2, p3, p4, p5, p6⟩
    · dsimp only at h1
      subst h1
      have hl : enL ⟨1, cl, sq, ok, key, old, val⟩ = [1] := if_pos rfl
      rw [hl]
      clear hk hl hz
      go_enter Tryz.func86, Tryz.ntmps86
      go_wp2_with fail
      refine (mayE_any _ _ _ _ _ _ _ _).mono ?_
      rw [HK.out]
      rintro e w1 ⟨rfl, hx⟩
      obtain ⟨i0, _⟩ := seven_cells (heap_extE HT.out hx)
      have HT := Lib.hid (heap_extE HT.out hx)
      have HL := Lib.hid (HL.out.ext hx)
      have HE := Lib.hid (HE.out.trans hx)
      clear hx
      go_wp2_with fail
      refine (eput_of 1 1 _ HL.out rfl).mono ?_
      rw [digs_byte (by omega)]
      rintro e w2 ⟨A2, c2, rfl, hb, hx⟩
      have HB := Lib.hid hb
      clear i0
      obtain ⟨i0, _⟩ := seven_cells (heap_extE HT.out hx)
      have HE := Lib.hid (HE.out.trans hx)
      clear hb hx
      go_wp2_with fail
      go_ret2
      exact ⟨A2, c2, rfl, HB.out, HE.out⟩
    · dsimp only at h2 p1 p2 p3 p4 p5 p6
      subst h2
      obtain ⟨cn, rfl⟩ := Int.eq_ofNat_of_zero_le p1
      obtain ⟨sn, rfl⟩ := Int.eq_ofNat_of_zero_le (show 0 ≤ sq by omega)
      have HLN : Hid (enL ⟨2, (cn : Int), (sn : Int), ok, key, old, val⟩ = [2] ++ [cn] ++ digs 6 sn ++ ([ok] ++ tx key ++ tx old ++ tx val)) := Lib.hid (by
        unfold enL
        rw [if_neg (by simp)]
        dsimp only
        rw [Int.toNat_natCast, Int.toNat_natCast]
        simp)
      have HN : Hid ((enL ⟨2, (cn : Int), (sn : Int), ok, key, old, val⟩).length = 1 + 1 + 6 + (1 + (key.size + 1) + (old.size + 1) + (val.size + 1))) := Lib.hid (by
        rw [HLN.out]
        simp only [List.length_append, List.length_cons, List.length_nil, digs_length, tx_length]
        omega)
      have HF1 : Hid (cn < 256) := Lib.hid (by omega)
      have HF6 : Hid (sn ≤ 1099511627776) := Lib.hid (by omega)
      have HS : Hid (key.size ≤ 255 ∧ old.size ≤ 255 ∧ val.size ≤ 255 ∧ ok < 256) := Lib.hid ⟨by omega, by omega, by omega, hok⟩
      clear hk p1 p2 p3 p4 p5 p6 hok
      go_enter Tryz.func86, Tryz.ntmps86
      go_wp2_with fail
      refine (mayE_any _ _ _ _ _ _ _ _).mono ?_
      rw [HK.out]
      rintro e w1 ⟨rfl, hx⟩
      obtain ⟨i0, _⟩ := seven_cells (heap_extE HT.out hx)
      have HT := Lib.hid (heap_extE HT.out hx)
      have HL := Lib.hid (HL.out.ext hx)
      have HE := Lib.hid (HE.out.trans hx)
      clear hx
      go_wp2_with fail
      refine (eput_of 1 2 _ HL.out rfl).mono ?_
      rw [digs_byte (by omega)]
      rintro e w2 ⟨A2, c2, rfl, hb, hx⟩
      have HB := Lib.hid hb
      have HL := Lib.hid (HL.out.ext hx)
      have HE := Lib.hid (HE.out.trans hx)
      clear i0
      obtain ⟨i0, i1, i2, i3, i4, i5, i6⟩ := seven_cells (heap_extE HT.out hx)
      clear hb hx
      go_wp2_with fail
      clear i0
      generalize w.heap.size = g at *
      have hS : EBS w2 g cn sn ok key old val w2 := ⟨i1, i2, i3, i4, i5, i6, Lib.hid (Ext.refl _)⟩
      have hS := hS.mono ((Ext.refl w2).drew)
      clear i1 i2 i3 i4 i5 i6
      go_region_held3 (fun w' => w'.cell? ⟨g, 1, none⟩ = some (.int .i64 (cn : Int)) ∧ w'.cell? ⟨g, 2, none⟩ = some (.int .i64 (sn : Int)) ∧ w'.cell? ⟨g, 3, none⟩ = some (.int .u8 (ok : Int)) ∧ w'.cell? ⟨g, 4, none⟩ = some (.string key) ∧ w'.cell? ⟨g, 5, none⟩ = some (.string old) ∧ w'.cell? ⟨g, 6, none⟩ = some (.string val) ∧ Hid (Ext w2 w'))
        (first | assumption | exact hS | exact EBS.mono (by assumption) hx | exact EBS.mono (by assumption) ((Ext.refl _).alloc _))
        (first
          | (go_at_call 88; ((with_reducible refine (eput1 cn _ ?_ HF1.out).mono ?_); (exact HL.out.ext (EBS.ext (g := g) (cl := cn) (sq := sn) (ok := ok) (key := key) (old := old) (val := val) (by assumption))); rintro r w3 ⟨A3, c3, rfl, hb, hx⟩; have HB3 := Lib.hid hb; have HX3 := Lib.hid hx; clear hb))
          | (go_at_call 88; ((with_reducible refine (eput6 sn _ ?_ HF6.out).mono ?_); (exact HL.out.ext (EBS.ext (g := g) (cl := cn) (sq := sn) (ok := ok) (key := key) (old := old) (val := val) (by assumption))); rintro r w4 ⟨A4, c4, rfl, hb, hx⟩; have HB4 := Lib.hid hb; have HX4 := Lib.hid hx; clear hb))
          | (go_at_call 141; ((with_reducible refine (putOp_of ok key old val _ ?_ HS.out.2.2.2 HS.out.1 HS.out.2.1 HS.out.2.2.1).mono ?_); (exact HL.out.ext (EBS.ext (g := g) (cl := cn) (sq := sn) (ok := ok) (key := key) (old := old) (val := val) (by assumption))); rintro r w5 ⟨A5, c5, rfl, hb, hx⟩; have HB5 := Lib.hid hb; have HX5 := Lib.hid hx; have hS5 := EBS.mono (W := w2) (g := g) (cl := cn) (sq := sn) (ok := ok) (key := key) (old := old) (val := val) (by assumption) hx; clear hb))
          | (go_at_call 87; (refine (join4e w5 (HB.out.ext (((Ext.refl w2).drew.trans HX3.out).trans (HX4.out.trans HX5.out))) (HB3.out.ext (HX4.out.trans HX5.out)) (HB4.out.ext HX5.out) HB5.out (by have := HS.out; omega)).mono ?_); rintro r w6 ⟨A6, c6, rfl, hb, hx⟩; have HB6 := Lib.hid hb; have HX6 := Lib.hid hx; have hS6 := hS5.mono hx; clear hb hx))
      have HF := Lib.hid (HE.out.trans hS6.ext)
      have HB6 : Hid (By w6 A6 (1 + 1 + 6 + (1 + (key.size + 1) + (old.size + 1) + (val.size + 1))) c6 _) := HB6
      clear hS5 hS6 hS
      go_wp2_with fail
      go_ret2
      refine ⟨A6, c6, ?_, ?_, HF.out⟩
      · exact ret_slice _ _ (by rw [HN.out])
      · rw [HN.out, HLN.out]
        exact HB6.out
/-- While a body's parts are put. -/
def EPS (W : World) (g : Nat) (x y : Int) (w' : World) : Prop :=
  w'.cell? ⟨g, 0, none⟩ = some (.int .i64 x) ∧ w'.cell? ⟨g, 1, none⟩ = some (.int .i64 y) ∧ Hid (Ext W w')
theorem EPS.mono {W w w' : World} {g : Nat} {x y : Int} (h : EPS W g x y w) (k : Ext w w') : EPS W g x y w' := by
  obtain ⟨h0, h1, hE⟩ := h
  exact ⟨ext_cellE k h0, ext_cellE k h1, Lib.hid (hE.out.trans k)⟩
theorem EPS.ext {W w : World} {g : Nat} {x y : Int} (h : EPS W g x y w) : Ext W w := h.2.2.out
theorem two_cellsE {w : World} {g : Nat} {x0 x1 : Value} {t : TypeId} (h : w.heap[g]? = some (.cells #[x0, x1] t (0, 0))) :
    w.cell? ⟨g, 0, none⟩ = some x0 ∧ w.cell? ⟨g, 1, none⟩ = some x1 := ⟨cell_of_row w g 0 _ _ _ h, cell_of_row w g 1 _ _ _ h⟩
set_option maxRecDepth 100000 in
set_option maxHeartbeats 1000000 in
theorem printE_any (x y : Int) (k : Nat) (cl sq : Int) (ok : Nat) (key old val : ByteArray) (w : World) (hL : Laid w) (hok : ok < 256) :
    Calls Tryz.prog 44 #[.agg #[.int .i64 x, .int .i64 y], .agg #[.int .u8 (k : Int), .int .i64 cl, .int .i64 sq, .int .u8 (ok : Int), .string key, .string old, .string val]] w fun e w' => ∃ A' c', e = .returned (.tuple #[.slice A' (pL x y ⟨k, cl, sq, ok, key, old, val⟩).length c', .int .i64 (pR x y ⟨k, cl, sq, ok, key, old, val⟩)]) ∧ By w' A' (pL x y ⟨k, cl, sq, ok, key, old, val⟩).length c' (pL x y ⟨k, cl, sq, ok, key, old, val⟩) ∧ Ext w w' := by
  have hx1 := (Ext.refl w).alloc (.cells #[.int .i64 x, .int .i64 y] 38)
  have hx2 := (Ext.refl (w.alloc (.cells #[.int .i64 x, .int .i64 y] 38))).alloc (.cells #[.int .u8 (k : Int), .int .i64 cl, .int .i64 sq, .int .u8 (ok : Int), .string key, .string old, .string val] 42)
  have HTB := Lib.hid (heap_extE (heap_alloc_new w (.cells #[.int .i64 x, .int .i64 y] 38)) hx2)
  have HT := Lib.hid (heap_alloc2_new w (.cells #[.int .i64 x, .int .i64 y] 38) (.cells #[.int .u8 (k : Int), .int .i64 cl, .int .i64 sq, .int .u8 (ok : Int), .string key, .string old, .string val] 42))
  have HE := Lib.hid (hx1.trans hx2)
  have HL := Lib.hid (hL.ext (hx1.trans hx2))
  clear hx1 hx2 hL
  cases hb : balE x y with
  | false =>
    rw [pL_nob hb, pR_nob hb]
    have HB := Lib.hid hb
    clear hb
    go_enter Tryz.func44, Tryz.ntmps44
    go_wp2_with fail
    refine (mayBallot_any _ _ _).mono ?_
    rw [HB.out]
    rintro e w1 ⟨rfl, hx⟩
    have HE := Lib.hid (HE.out.trans hx)
    clear hx
    go_wp2_with fail
    go_ret2
    exact ⟨none, 0, rfl, By.nil_ _, HE.out⟩
  | true =>
    have HBB := Lib.hid hb
    have HC := Lib.hid (fun V hV => bytes_any k cl sq ok key old val V hV hok)
    cases hk : enOk ⟨k, cl, sq, ok, key, old, val⟩ with
    | false =>
      rw [pL_no hk, pR_no hk]
      rw [eL_no hk, eR_no hk] at HC
      clear hb hk
      go_enter Tryz.func44, Tryz.ntmps44
      go_wp2_with fail
      refine (mayBallot_any _ _ _).mono ?_
      rw [HBB.out]
      rintro e w1 ⟨rfl, hx⟩
      obtain ⟨i0, i1, i2, i3, i4, i5, i6⟩ := seven_cells (heap_extE HT.out hx)
      have HE := Lib.hid (HE.out.trans hx)
      have HL := Lib.hid (HL.out.ext hx)
      clear hx
      go_wp2_with fail
      refine (HC.out _ HL.out).mono ?_
      rintro e w2 ⟨A2, c2, rfl, _, hx⟩
      have HE := Lib.hid (HE.out.trans hx)
      clear hx i0 i1 i2 i3 i4 i5 i6
      go_wp2_with fail
      go_ret2
      exact ⟨none, 0, rfl, By.nil_ _, HE.out⟩
    | true =>
      rw [pL_yes hb hk, pR_yes hb hk]
      rw [eL_yes hk, eR_yes hk] at HC
      obtain ⟨p1, p2, p3, p4⟩ := balE_iff.1 hb
      obtain ⟨xn, rfl⟩ := Int.eq_ofNat_of_zero_le (show 0 ≤ x by omega)
      obtain ⟨yn, rfl⟩ := Int.eq_ofNat_of_zero_le p3
      have hlen := enL_len hk
      have HLN : Hid (bodyL (xn : Int) (yn : Int) ⟨k, cl, sq, ok, key, old, val⟩ = digs 6 xn ++ [yn] ++ enL ⟨k, cl, sq, ok, key, old, val⟩) := Lib.hid rfl
      generalize hE : enL ⟨k, cl, sq, ok, key, old, val⟩ = E at *
      have HN : Hid ((bodyL (xn : Int) (yn : Int) ⟨k, cl, sq, ok, key, old, val⟩).length = 6 + 1 + E.length) := Lib.hid (by
        rw [HLN.out]
        simp only [List.length_append, List.length_cons, List.length_nil, digs_length])
      have HF1 : Hid (yn < 256) := Lib.hid (by omega)
      have HF6 : Hid (xn ≤ 1099511627776) := Lib.hid (by omega)
      have HEL := Lib.hid hlen
      clear hb hk p1 p2 p3 p4 hlen hE
      go_enter Tryz.func44, Tryz.ntmps44
      go_wp2_with fail
      refine (mayBallot_any _ _ _).mono ?_
      rw [HBB.out]
      rintro e w1 ⟨rfl, hx⟩
      obtain ⟨i0, i1, i2, i3, i4, i5, i6⟩ := seven_cells (heap_extE HT.out hx)
      have HTB := Lib.hid (heap_extE HTB.out hx)
      have HE := Lib.hid (HE.out.trans hx)
      have HL := Lib.hid (HL.out.ext hx)
      clear hx
      go_wp2_with fail
      refine (HC.out _ HL.out).mono ?_
      rintro e w2 ⟨A2, c2, rfl, hb, hx⟩
      have HB := Lib.hid hb
      have HE := Lib.hid (HE.out.trans hx)
      have HL := Lib.hid (HL.out.ext hx)
      clear i0 i1 i2 i3 i4 i5 i6
      obtain ⟨i0, i1⟩ := two_cellsE (heap_extE HTB.out hx)
      clear hx hb
      go_wp2_with fail
      generalize w.heap.size = g at *
      have hS : EPS w2 g xn yn w2 := ⟨i0, i1, Lib.hid (Ext.refl _)⟩
      have hS := hS.mono ((Ext.refl w2).drew)
      clear i0 i1
      go_region_held3 (fun w' => w'.cell? ⟨g, 0, none⟩ = some (.int .i64 (xn : Int)) ∧ w'.cell? ⟨g, 1, none⟩ = some (.int .i64 (yn : Int)) ∧ Hid (Ext w2 w'))
        (first | assumption | exact hS | exact EPS.mono (by assumption) hx | exact EPS.mono (by assumption) ((Ext.refl _).alloc _))
        (first
          | (go_at_call 88; ((with_reducible refine (eput6 xn _ ?_ HF6.out).mono ?_); (exact HL.out.ext (EPS.ext (g := g) (x := xn) (y := yn) (by assumption))); rintro r w3 ⟨A3, c3, rfl, hb, hx⟩; have HB3 := Lib.hid hb; have HX3 := Lib.hid hx; clear hb))
          | (go_at_call 88; ((with_reducible refine (eput1 yn _ ?_ HF1.out).mono ?_); (exact HL.out.ext (EPS.ext (g := g) (x := xn) (y := yn) (by assumption))); rintro r w4 ⟨A4, c4, rfl, hb, hx⟩; have HB4 := Lib.hid hb; have HX4 := Lib.hid hx; have hS4 := EPS.mono (W := w2) (g := g) (x := xn) (y := yn) (by assumption) hx; clear hb))
          | (go_at_call 87; (refine (join3_by w4 (HB3.out.ext HX4.out) HB4.out (HB.out.ext (((Ext.refl w2).drew.trans HX3.out).trans HX4.out)) (by have := HEL.out; omega)).mono ?_); rintro r w6 ⟨A6, c6, rfl, hb, hx⟩; have HB6 := Lib.hid hb; have HX6 := Lib.hid hx; have hS6 := hS4.mono hx; clear hb hx))
      have HF := Lib.hid (HE.out.trans hS6.ext)
      clear hS4 hS6 hS
      go_wp2_with fail
      go_ret2
      refine ⟨A6, c6, ?_, ?_, HF.out⟩
      · exact ret_slice _ _ (by rw [HN.out])
      · rw [HN.out, HLN.out]
        exact HB6.out
end Go.Proofs.YtmacebglfniegaaGreatDoor

namespace Go.Proofs.YtmacebglfniegaaGreatDoor
set_option maxRecDepth 100000
open Go Go.RowKit

/-- The table of the widths of a record's body. -/
def LaidT3 (w : World) : Prop := w.cell? ⟨0, 0, none⟩ = some (.int .i64 6) ∧ w.cell? ⟨0, 1, none⟩ = some (.int .i64 1) ∧ w.cell? ⟨0, 2, none⟩ = some (.int .i64 1)
structure LaidS (w : World) : Prop where
  o : Laid w
  t : LaidT3 w
theorem LaidT3.ext {a b : World} (h : LaidT3 a) (k : Ext a b) : LaidT3 b := by
  have hlt : 0 < a.heap.size := World.block_lt_of_cell? a _ h.1
  obtain ⟨h0, h1, h2⟩ := h
  exact ⟨(Below.cell k (p := ⟨0, 0, none⟩) hlt).trans h0, (Below.cell k (p := ⟨0, 1, none⟩) hlt).trans h1, (Below.cell k (p := ⟨0, 2, none⟩) hlt).trans h2⟩
theorem LaidS.ext {a b : World} (h : LaidS a) (k : Ext a b) : LaidS b := ⟨h.o.ext k, h.t.ext k⟩
end Go.Proofs.YtmacebglfniegaaGreatDoor

namespace Go.Proofs.YtmacebglfniegaaGreatDoor
set_option maxRecDepth 100000
open Go Go.RowKit Go.ChangeShapes Go.WideShapes Go.Deep

/-- A list whose elements have N cells each. -/
structure Ls {α : Type} (cells : α → List Value) (N : Nat) (w : World) (B : Nat) (A : Option Addr) (n c : Nat) (l : List α) : Prop where
  len : l.length = n
  cap : n ≤ c
  most : c ≤ 9223372036854775807
  rd : 0 < n → ∃ g o, A = some ⟨g, o, none⟩ ∧ g < B ∧ ∀ j a, l[j]? = some a → ∀ k v, (cells a)[k]? = some v → w.cell? ⟨g, o + (j * N + k), none⟩ = some v
  nil_ : A = none → c = 0
theorem Ls.below {α : Type} {cells : α → List Value} {N : Nat} {w w' : World} {B : Nat} {A : Option Addr} {n c : Nat} {l : List α} (h : Ls cells N w B A n c l) (hb : Below B w w') : Ls cells N w' B A n c l :=
  ⟨h.len, h.cap, h.most, fun hn => by
    obtain ⟨g, o, e, hg, hc⟩ := h.rd hn
    exact ⟨g, o, e, hg, fun j a ha k v hv => (hb.cell (p := ⟨g, o + (j * N + k), none⟩) hg).trans (hc j a ha k v hv)⟩, h.nil_⟩
theorem Ls.at_ {α : Type} {cells : α → List Value} {N : Nat} {w : World} {B : Nat} {A : Option Addr} {n c : Nat} {l : List α} (h : Ls cells N w B A n c l) {j : Nat} (hj : j < n) :
    ∃ g o a, A = some ⟨g, o, none⟩ ∧ g < B ∧ l[j]? = some a ∧ ∀ k v, (cells a)[k]? = some v → w.cell? ⟨g, o + (j * N + k), none⟩ = some v := by
  obtain ⟨g, o, e, hg, hc⟩ := h.rd (by omega)
  have hj' : j < l.length := by rw [h.len]; exact hj
  have ha : l[j]? = some l[j] := List.getElem?_eq_getElem hj'
  exact ⟨g, o, l[j], e, hg, ha, fun k v hv => hc j _ ha k v hv⟩

section
variable {H : Type} {enc : TypeId × Value → H} {P : Program} {w : World} {base : Nat} {spare : Nat → Bool} {held : Bool}
/-- A ballot. -/
structure BalTy (P : Program) (e ti : TypeId) : Prop where
  fs : ∃ f0 f1 : Field, P.underlying e = some (.struct #[f0, f1]) ∧ (f0.type = ti ∧ f0.offset = 0) ∧ (f1.type = ti ∧ f1.offset = 1)
  cells : P.cellsOf e = 2
  one : P.cellsOf ti = 1
  i64 : P.underlying ti = some (.int .i64)
theorem trod_bal {e ti : TypeId} (T : BalTy P e ti) {fuel : Nat} {cs : List Value} {x : DataW H × List MemPlace} (h : DataW.trod enc P w base spare held fuel e cs = some x) : ∃ a b : Int, cs = [.int .i64 a, .int .i64 b] ∧ (Lit.int .i64 a).wf = true ∧ (Lit.int .i64 b).wf = true := by
  obtain ⟨f0, f1, hs, ⟨y0, o0⟩, y1, o1⟩ := T.fs
  obtain ⟨xs, n, _, _, hcl, hxl, hg⟩ := DataW.trod_struct hs h
  rw [T.cells] at hcl
  match cs, hcl, xs, hxl with
  | [c0, c1], _, [x0, x1], _ =>
    have g0 := hg 0 f0 rfl
    have g1 := hg 1 f1 rfl
    rw [y0, o0, T.one] at g0
    rw [y1, o1, T.one] at g1
    obtain ⟨a, e0, _, w0⟩ := DataW.trod_int T.i64 (show DataW.trod enc P w base spare held n ti [c0] = some x0 from g0)
    obtain ⟨b, e1, _, w1⟩ := DataW.trod_int T.i64 (show DataW.trod enc P w base spare held n ti [c1] = some x1 from g1)
    injection e0 with e0 _
    injection e1 with e1 _
    exact ⟨a, b, by rw [e0, e1], w0, w1⟩
/-- A ballot of a list. -/
structure Bal where
  x : Int := 0
  y : Int := 0
instance : Inhabited Bal := ⟨{}⟩
def Bal.cells (b : Bal) : List Value := [.int .i64 b.x, .int .i64 b.y]
/-- A step: is it a promise; the ballot; the power; what is kept. -/
structure StepU where
  p : Bool := false
  x : Int := 0
  y : Int := 0
  w : Int := 0
  kA : Option Addr := none
  kn : Nat := 0
  kc : Nat := 0
  kl : List Bool := []
instance : Inhabited StepU := ⟨{}⟩
def StepU.cells (s : StepU) : List Value := [.bool s.p, .int .i64 s.x, .int .i64 s.y, .int .i8 s.w, .slice s.kA s.kn s.kc]
structure StepU.Ok (s : StepU) (w : World) (B : Nat) : Prop where
  power : (Lit.int .i8 s.w).wf = true
  keep : Vs w B s.kA s.kn s.kc (s.kl.map .bool)
end
end Go.Proofs.YtmacebglfniegaaGreatDoor

namespace Go.Proofs.YtmacebglfniegaaGreatDoor
set_option maxRecDepth 100000
open Go Go.RowKit Go.ChangeShapes Go.WideShapes Go.Deep

/-- An entry's cells. -/
def Ent.cells (e : Ent) : List Value := [.int .u8 (e.k : Nat), .int .i64 e.cl, .int .i64 e.sq, .int .u8 (e.ok : Nat), .string e.key, .string e.old, .string e.val]
/-- What an entry's cells are within. -/
structure Ent.Wf (e : Ent) : Prop where
  k : e.k < 256
  ok : e.ok < 256
  cl : (Lit.int .i64 e.cl).wf = true
  sq : (Lit.int .i64 e.sq).wf = true
  key : e.key.size ≤ maxLen
  old : e.old.size ≤ maxLen
  val : e.val.size ≤ maxLen
section
variable {H : Type} {enc : TypeId × Value → H} {P : Program} {w : World} {base : Nat} {spare : Nat → Bool} {held : Bool}
/-- An operation. -/
structure OpTy (P : Program) (e t8 ts : TypeId) : Prop where
  fs : ∃ f0 f1 f2 f3 : Field, P.underlying e = some (.struct #[f0, f1, f2, f3]) ∧ (f0.type = t8 ∧ f0.offset = 0) ∧ (f1.type = ts ∧ f1.offset = 1) ∧ (f2.type = ts ∧ f2.offset = 2) ∧ (f3.type = ts ∧ f3.offset = 3)
  cells : P.cellsOf e = 4
  u8 : P.underlying t8 = some (.int .u8)
  str : P.underlying ts = some .string
  one : P.cellsOf t8 = 1 ∧ P.cellsOf ts = 1
theorem trod_opE {e t8 ts : TypeId} (T : OpTy P e t8 ts) {fuel : Nat} {cs : List Value} {x : DataW H × List MemPlace} (h : DataW.trod enc P w base spare held fuel e cs = some x) :
    ∃ (k : Nat) (a b c : ByteArray), cs = [.int .u8 (k : Nat), .string a, .string b, .string c] ∧ k < 256 ∧ a.size ≤ maxLen ∧ b.size ≤ maxLen ∧ c.size ≤ maxLen := by
  obtain ⟨f0, f1, f2, f3, hs, ⟨y0, o0⟩, ⟨y1, o1⟩, ⟨y2, o2⟩, y3, o3⟩ := T.fs
  obtain ⟨xs, n, _, _, hcl, hxl, hg⟩ := DataW.trod_struct hs h
  rw [T.cells] at hcl
  match cs, hcl, xs, hxl with
  | [c0, c1, c2, c3], _, [x0, x1, x2, x3], _ =>
    have g0 := hg 0 f0 rfl
    have g1 := hg 1 f1 rfl
    have g2 := hg 2 f2 rfl
    have g3 := hg 3 f3 rfl
    rw [y0, o0, T.one.1] at g0
    rw [y1, o1, T.one.2] at g1
    rw [y2, o2, T.one.2] at g2
    rw [y3, o3, T.one.2] at g3
    obtain ⟨z, e0, _, w0⟩ := DataW.trod_int T.u8 (show DataW.trod enc P w base spare held n t8 [c0] = some x0 from g0)
    obtain ⟨a, e1, _, w1⟩ := DataW.trod_string T.str (show DataW.trod enc P w base spare held n ts [c1] = some x1 from g1)
    obtain ⟨b, e2, _, w2⟩ := DataW.trod_string T.str (show DataW.trod enc P w base spare held n ts [c2] = some x2 from g2)
    obtain ⟨c, e3, _, w3⟩ := DataW.trod_string T.str (show DataW.trod enc P w base spare held n ts [c3] = some x3 from g3)
    have hz := bounds_u8 w0
    obtain ⟨k, rfl⟩ := Int.eq_ofNat_of_zero_le (show 0 ≤ z by omega)
    injection e0 with e0 _
    injection e1 with e1 _
    injection e2 with e2 _
    injection e3 with e3 _
    exact ⟨k, a, b, c, by rw [e0, e1, e2, e3], by omega, w1, w2, w3⟩
/-- An entry. -/
structure EntTy (P : Program) (e t8 ti tO ts : TypeId) : Prop where
  fs : ∃ f0 f1 f2 f3 : Field, P.underlying e = some (.struct #[f0, f1, f2, f3]) ∧ (f0.type = t8 ∧ f0.offset = 0) ∧ (f1.type = ti ∧ f1.offset = 1) ∧ (f2.type = ti ∧ f2.offset = 2) ∧ (f3.type = tO ∧ f3.offset = 3)
  cells : P.cellsOf e = 7
  op : OpTy P tO t8 ts
  i64 : P.underlying ti = some (.int .i64)
  one : P.cellsOf ti = 1
theorem trod_ent {e t8 ti tO ts : TypeId} (T : EntTy P e t8 ti tO ts) {fuel : Nat} {cs : List Value} {x : DataW H × List MemPlace} (h : DataW.trod enc P w base spare held fuel e cs = some x) :
    ∃ e : Ent, cs = e.cells ∧ e.Wf := by
  obtain ⟨f0, f1, f2, f3, hs, ⟨y0, o0⟩, ⟨y1, o1⟩, ⟨y2, o2⟩, y3, o3⟩ := T.fs
  obtain ⟨xs, n, _, _, hcl, hxl, hg⟩ := DataW.trod_struct hs h
  rw [T.cells] at hcl
  match cs, hcl, xs, hxl with
  | [c0, c1, c2, c3, c4, c5, c6], _, [x0, x1, x2, x3], _ =>
    have g0 := hg 0 f0 rfl
    have g1 := hg 1 f1 rfl
    have g2 := hg 2 f2 rfl
    have g3 := hg 3 f3 rfl
    rw [y0, o0, T.op.one.1] at g0
    rw [y1, o1, T.one] at g1
    rw [y2, o2, T.one] at g2
    rw [y3, o3, T.op.cells] at g3
    obtain ⟨z, e0, _, w0⟩ := DataW.trod_int T.op.u8 (show DataW.trod enc P w base spare held n t8 [c0] = some x0 from g0)
    obtain ⟨cl, e1, _, w1⟩ := DataW.trod_int T.i64 (show DataW.trod enc P w base spare held n ti [c1] = some x1 from g1)
    obtain ⟨sq, e2, _, w2⟩ := DataW.trod_int T.i64 (show DataW.trod enc P w base spare held n ti [c2] = some x2 from g2)
    obtain ⟨ok, a, b, c, e3, k3, ka, kb, kc⟩ := trod_opE T.op (show DataW.trod enc P w base spare held n tO [c3, c4, c5, c6] = some x3 from g3)
    have hz := bounds_u8 w0
    obtain ⟨k, rfl⟩ := Int.eq_ofNat_of_zero_le (show 0 ≤ z by omega)
    injection e0 with e0 _
    injection e1 with e1 _
    injection e2 with e2 _
    refine ⟨⟨k, cl, sq, ok, a, b, c⟩, ?_, ⟨by dsimp only; omega, k3, w1, w2, ka, kb, kc⟩⟩
    rw [e0, e1, e2, e3]
    rfl
theorem open_ent {e t8 ti tO ts : TypeId} (T : EntTy P e t8 ti tO ts) {r : Reach} {b0 : Nat} {v : Value} {d : DataW H} {p : List MemPlace} (hv : Value.okWide P w r b0 e v) (h : DataW.Trod enc P w base spare held e v d p) :
    ∃ e : Ent, v = .agg #[.int .u8 (e.k : Nat), .int .i64 e.cl, .int .i64 e.sq, .int .u8 (e.ok : Nat), .string e.key, .string e.old, .string e.val] ∧ e.Wf := by
  obtain ⟨f0, f1, f2, f3, hs, _⟩ := T.fs
  obtain ⟨cs, rfl, _⟩ := okWide_struct hs hv
  obtain ⟨fuel, hf⟩ := h
  obtain ⟨a, hcs, hw⟩ := trod_ent T hf
  refine ⟨a, ?_, hw⟩
  have e : (Value.cells (.agg cs)).toList = cs.toList := rfl
  rw [e] at hcs
  obtain ⟨cs⟩ := cs
  simp at hcs
  rw [hcs]
  rfl
theorem open_balE {e ti : TypeId} (T : BalTy P e ti) {r : Reach} {b0 : Nat} {v : Value} {d : DataW H} {p : List MemPlace} (hv : Value.okWide P w r b0 e v) (h : DataW.Trod enc P w base spare held e v d p) : ∃ a b : Int, v = .agg #[.int .i64 a, .int .i64 b] := by
  obtain ⟨f0, f1, hs, _⟩ := T.fs
  obtain ⟨cs, rfl, _⟩ := okWide_struct hs hv
  obtain ⟨fuel, hf⟩ := h
  obtain ⟨a, b, hcs, _⟩ := trod_bal T hf
  refine ⟨a, b, ?_⟩
  have e : (Value.cells (.agg cs)).toList = cs.toList := rfl
  rw [e] at hcs
  obtain ⟨cs⟩ := cs
  simp at hcs
  rw [hcs]
end
end Go.Proofs.YtmacebglfniegaaGreatDoor

namespace Go.Proofs.YtmacebglfniegaaGreatDoor
set_option maxRecDepth 100000
set_option maxRecDepth 100000
open Go Go.RowKit Go.ChangeShapes Go.WideShapes Go.Deep

theorem balE_ty : BalTy Tryz.prog 38 3 := ⟨⟨_, _, Tryz.underlying38, ⟨rfl, rfl⟩, rfl, rfl⟩, by kernel_rfl, by kernel_rfl, Tryz.underlying3⟩
theorem op_ty : OpTy Tryz.prog 40 5 9 := ⟨⟨_, _, _, _, Tryz.underlying40, ⟨rfl, rfl⟩, ⟨rfl, rfl⟩, ⟨rfl, rfl⟩, rfl, rfl⟩, by kernel_rfl, Tryz.underlying5, Tryz.underlying9, by kernel_rfl, by kernel_rfl⟩
theorem ent_ty : EntTy Tryz.prog 42 5 3 40 9 := ⟨⟨_, _, _, _, Tryz.underlying42, ⟨rfl, rfl⟩, ⟨rfl, rfl⟩, ⟨rfl, rfl⟩, rfl, rfl⟩, by kernel_rfl, op_ty, Tryz.underlying3, by kernel_rfl⟩
/-- An entry that came in, opened (the name is the frame's: open_t and the type's number). -/
theorem open_t42 {H : Type} {enc : TypeId × Value → H} {w : World} {base : Nat} {sp : Nat → Bool} {held : Bool} {r : Reach} {b0 : Nat} {v : Value} {d : DataW H} {p : List MemPlace}
    (hv : Value.okWide Tryz.prog w r b0 42 v) (h : DataW.Trod enc Tryz.prog w base sp held 42 v d p) :
    ∃ e : Ent, v = .agg #[.int .u8 (e.k : Nat), .int .i64 e.cl, .int .i64 e.sq, .int .u8 (e.ok : Nat), .string e.key, .string e.old, .string e.val] ∧ e.Wf := open_ent ent_ty hv h
theorem open_t38 {H : Type} {enc : TypeId × Value → H} {w : World} {base : Nat} {sp : Nat → Bool} {held : Bool} {r : Reach} {b0 : Nat} {v : Value} {d : DataW H} {p : List MemPlace}
    (hv : Value.okWide Tryz.prog w r b0 38 v) (h : DataW.Trod enc Tryz.prog w base sp held 38 v d p) : ∃ a b : Int, v = .agg #[.int .i64 a, .int .i64 b] := open_balE balE_ty hv h
end Go.Proofs.YtmacebglfniegaaGreatDoor

namespace Go.Proofs.YtmacebglfniegaaGreatDoor
set_option maxRecDepth 100000
open Go Go.ChangeShapes Go.WideShapes Go.ChangeAt Go.WideMaps Go.WideElems Go.RowKit Go.Deep

def laidList : List (String × DataW Unit) := [("sexton/crc.halves", Rows.laid_sexton_crc_halves), ("sexton/octet.bounds", Rows.laid_sexton_octet_bounds), ("sexton/tag.regions", Rows.laid_sexton_tag_regions), ("sexton/tag.widths", Rows.laid_sexton_tag_widths), ("sexton/slot.widths", Rows.laid_sexton_slot_widths)]
theorem door_met (os : Os) (args : Array Value) : laidMetH Tryz.prog laidList ((World.doorLaid Tryz.prog 400 os).forCall (fun _ _ => 0) ⟨#[], args, []⟩).memory :=
  laidMetH_of_parts3 (fuel := 8) (laidMet_of_run' 8 (by kernel_rfl) (by kernel_rfl)) (by kernel_rfl) (by kernel_rfl)
theorem laid_of {W : World} (h : laidMetH Tryz.prog laidList W) : LaidF W ∧ LaidS W := by
  rw [MakeChecks.laidMetH_plain _ _ _ (by kernel_rfl)] at h
  have hF : LaidF W := ⟨⟨laid_o h.tail, laid_t h.tail.tail, laid_w h.tail.tail.tail⟩, laid_h h⟩
  have hg : Tryz.prog.globalNamed "sexton/slot.widths" = some 0 := by kernel_rfl
  have ht : (Tryz.prog.globals[0]?).map (·.type) = some 176 := by kernel_rfl
  have hv : W.var? Tryz.prog "sexton/slot.widths" = some (([6, 1, 1] : List Int).map fun z => Value.int .i64 z).toArray :=
    Lib.tabIs_of_head hg ht Tryz.underlying176 Tryz.underlying3 (by kernel_rfl) (by kernel_rfl) h.tail.tail.tail.tail
  have hc := fun i => World.var?_cell hg hv i
  exact ⟨hF, ⟨hF.a.o, ⟨hc 0, hc 1, hc 2⟩⟩⟩
end Go.Proofs.YtmacebglfniegaaGreatDoor

namespace Go.Proofs.YtmacebglfniegaaGreatDoor
set_option maxRecDepth 100000
open Go

end Go.Proofs.YtmacebglfniegaaGreatDoor

namespace Go.Proofs.YtmacebglfniegaaGreatDoor
set_option maxRecDepth 100000
open Go

end Go.Proofs.YtmacebglfniegaaGreatDoor

namespace Go.Proofs.YtmacebglfniegaaGreatDoor
set_option maxRecDepth 100000
open Go Go.RowKit

theorem By.sub {w : World} {g o n c : Nat} {l : List Nat} (h : By w (some ⟨g, o, none⟩) n c l) (i k c' : Nat) (hk : i + k ≤ n) (hc : k ≤ c') (hm : c' ≤ 9223372036854775807) : By w (some ⟨g, o + i, none⟩) k c' ((l.drop i).take k) :=
  ⟨by rw [List.length_take, List.length_drop, h.len]; omega, hc, hm, (h.rd.drop rfl i).take k, fun hh => by cases hh⟩

/-- What parts answers: the tag's numbers, the body; none where the tag isn't valid or the body is longer than the bytes. -/
def okB (l : List Nat) : Bool := PV (tagOf l) && decide (17 + bodyN l ≤ l.length)
def ql (l : List Nat) : List Nat := if okB l = true then bodyOf l else []
/-- What Open answers: the state, the tag's numbers, the body. -/
def stN (l : List Nat) : Nat := if szB l = true then (if zeroB l = true then 0 else if goodB l = true then 1 else 2) else 2
def ofl (l : List Nat) (k : Nat) : Nat := if goodB l = true then pf (tagOf l) k else 0
def obl (l : List Nat) : List Nat := if goodB l = true then bodyOf l else []
theorem ofl_yes {l : List Nat} (h : goodB l = true) (k : Nat) : ofl l k = pf (tagOf l) k := by unfold ofl; rw [if_pos h]
theorem ofl_no {l : List Nat} (h : goodB l = false) (k : Nat) : ofl l k = 0 := by unfold ofl; rw [if_neg (by rw [h]; simp)]
theorem obl_yes {l : List Nat} (h : goodB l = true) : obl l = bodyOf l := by unfold obl; rw [if_pos h]
theorem obl_no {l : List Nat} (h : goodB l = false) : obl l = [] := by unfold obl; rw [if_neg (by rw [h]; simp)]
theorem stN_blank {l : List Nat} (hs : szB l = true) (h : zeroB l = true) : stN l = 0 := by unfold stN; rw [if_pos hs, if_pos h]
theorem stN_size {l : List Nat} (h : szB l = false) : stN l = 2 := by unfold stN; rw [if_neg (by rw [h]; simp)]
theorem size_bad {l : List Nat} (h : szB l = false) : goodB l = false := by
  unfold goodB
  rw [h]
  rfl
theorem zero_bad {l : List Nat} (h : zeroB l = true) : goodB l = false := by
  by_cases hg : goodB l = true
  · rw [good_not_zero hg] at h; cases h
  · simpa using hg
end Go.Proofs.YtmacebglfniegaaGreatDoor

namespace Go.Proofs.YtmacebglfniegaaGreatDoor
set_option maxRecDepth 100000
open Go Go.RowKit

end Go.Proofs.YtmacebglfniegaaGreatDoor

namespace Go.Proofs.YtmacebglfniegaaGreatDoor
set_option maxRecDepth 100000
open Go Go.RowKit

end Go.Proofs.YtmacebglfniegaaGreatDoor

namespace Go.Proofs.YtmacebglfniegaaGreatDoor
set_option maxRecDepth 100000
open Go Go.RowKit

/-- A body that is told lies in a copy of the bytes, which the call itself has made. -/
def Piece (B : Nat) (w' : World) (A' : Option Addr) (N n : Nat) (l : List Nat) : Prop := 0 < N → ∃ g c', A' = some ⟨g, 17, none⟩ ∧ 17 + N ≤ n ∧ w'.ownsRow B 5 1 (.slice (some ⟨g, 0, none⟩) n c') n (vb l)
end Go.Proofs.YtmacebglfniegaaGreatDoor

namespace Go.Proofs.YtmacebglfniegaaGreatDoor
set_option maxRecDepth 100000
open Go Go.RowKit

/-- What Mine answers. -/
def mineB (l : List Nat) (x y z : Int) : Bool := goodB l && (decide ((ofl l 0 : Int) = x) && (decide ((ofl l 1 : Int) = y) && decide ((ofl l 2 : Int) = z)))
def stM (l : List Nat) (x y z : Int) : Nat := if goodB l = true then (if mineB l x y z = true then 1 else 2) else stN l
def mfl (l : List Nat) (x y z : Int) (k : Nat) : Nat := if mineB l x y z = true then ofl l k else 0
def mbl (l : List Nat) (x y z : Int) : List Nat := if mineB l x y z = true then obl l else []
theorem mineB_bad {l : List Nat} {x y z : Int} (h : goodB l = false) : mineB l x y z = false := by unfold mineB; rw [h]; rfl
theorem mine_bad {l : List Nat} {x y z : Int} (h : goodB l = false) : stM l x y z = stN l ∧ (∀ k, mfl l x y z k = ofl l k) ∧ mbl l x y z = obl l := by
  refine ⟨by unfold stM; rw [if_neg (by rw [h]; simp)], fun k => ?_, ?_⟩
  · unfold mfl; rw [if_neg (by rw [mineB_bad h]; simp), ofl_no h]
  · unfold mbl; rw [if_neg (by rw [mineB_bad h]; simp), obl_no h]
theorem mine_yes {l : List Nat} {x y z : Int} (h : goodB l = true) (hm : mineB l x y z = true) : stM l x y z = 1 ∧ (∀ k, mfl l x y z k = ofl l k) ∧ mbl l x y z = obl l := by
  refine ⟨by unfold stM; rw [if_pos h, if_pos hm], fun k => ?_, ?_⟩
  · unfold mfl; rw [if_pos hm]
  · unfold mbl; rw [if_pos hm]
theorem mineB_iff {l : List Nat} {x y z : Int} (h : goodB l = true) : mineB l x y z = true ↔ (ofl l 0 : Int) = x ∧ (ofl l 1 : Int) = y ∧ (ofl l 2 : Int) = z := by
  unfold mineB
  rw [h]
  simp

theorem Piece.ge {B : Nat} {w' : World} {A' : Option Addr} {N n : Nat} {l : List Nat} (h : Piece B w' A' N n l) : ∀ g o, A' = some ⟨g, o, none⟩ → 0 < N → B ≤ g := by
  intro g o e hN
  obtain ⟨g', c', e', _, ho⟩ := h hN
  rw [e] at e'
  injection e' with e'
  injection e' with e1 _
  subst e1
  exact (ho.lt g rfl).1
theorem Piece.ne {B : Nat} {w' : World} {A' : Option Addr} {N n h0 : Nat} {l : List Nat} (h : Piece B w' A' N n l) (hb : h0 < B) : ∀ g o, A' = some ⟨g, o, none⟩ → 0 < N → h0 ≠ g := by
  intro g o e hN
  obtain ⟨g', c', e', _, ho⟩ := h hN
  rw [e] at e'
  injection e' with e'
  injection e' with e1 _
  subst e1
  have := (ho.lt g rfl).1
  omega

end Go.Proofs.YtmacebglfniegaaGreatDoor
