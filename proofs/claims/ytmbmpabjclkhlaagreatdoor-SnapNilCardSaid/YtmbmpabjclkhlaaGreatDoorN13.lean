/-
  The contracts of the reader's operation and entry: what is read there, valid or not.
-/
import Derived.Test.YtmbmpabjclkhlaaGreatDoorN00
import Derived.Test.YtmbmpabjclkhlaaGreatDoorN04
import Derived.Test.YtmbmpabjclkhlaaGreatDoorN05
import Derived.Test.YtmbmpabjclkhlaaGreatDoorN08
import Derived.Test.YtmbmpabjclkhlaaGreatDoorN10
import Derived.Test.YtmbmpabjclkhlaaGreatDoorN11
import Derived.Test.YtmbmpabjclkhlaaGreatDoorN12
import Derived.Deep.DeepCutAuto
import Derived.LoopN
import Derived.Lib.Hide
import Derived.Deep.RegionHeld3
namespace Go.Proofs.YtmbmpabjclkhlaaGreatDoor
set_option maxRecDepth 100000
section
open Go Go.RowKit
structure RdB (B g : Nat) (A : Option Addr) (n : Nat) : Prop where
  g : g < B
  a : 0 < n → ∀ p, A = some p → p.block < B
  o : 4 < B
theorem RdS.base {w : World} {g n c a : Nat} {A : Option Addr} {l : List Nat} {sh : Bool} (h : RdS w g A n c l a sh) : RdB w.heap.size g A n :=
  ⟨h.lt, fun hn p hp => by
    obtain ⟨g', o, e, hg, _⟩ := h.by_.rd.2 (by rw [h.by_.len]; exact hn)
    rw [hp] at e
    injection e with e
    rw [e]
    exact hg, World.block_lt_of_cell? w _ h.laid.1⟩
theorem RdS.other {w w' : World} {g n c a B : Nat} {A : Option Addr} {l : List Nat} {sh : Bool} {G : Nat → Prop} (h : RdS w g A n c l a sh) (hb : RdB B g A n) (k : Mod G w w') (hG : ∀ i, G i → B ≤ i) : RdS w' g A n c l a sh :=
  ⟨heap_mod h.row k fun hg => absurd (hG _ hg) (Nat.not_le.2 hb.g), by_mod h.by_ k fun hn p hp hg => absurd (hG _ hg) (Nat.not_le.2 (hb.a hn p hp)), h.off, h.le, h.most, laid_mod h.laid k fun hg => absurd (hG _ hg) (Nat.not_le.2 hb.o)⟩
structure OpS (w : World) (g : Nat) (A : Option Addr) (n c : Nat) (l : List Nat) (g2 g3 : Nat) (x0 x1 x2 x3 : Value) (a : Nat) (sh : Bool) (w' : World) : Prop where
  rd : RdS w' g A n c l a sh
  base : RdB w.heap.size g A n
  res : w'.heap[g2]? = some (.cells #[.int .u8 0, .string ⟨#[]⟩, .string ⟨#[]⟩, .string ⟨#[]⟩] 40 (0, 0))
  own : w'.heap[g3]? = some (.cells #[x0, x1, x2, x3] 333 (0, 0))
  ge : w.heap.size ≤ g2 ∧ w.heap.size ≤ g3 ∧ g2 ≠ g3
  mod : Mod (fun i => i = g) w w'
section
variable {w w' w2 : World} {g n c a g2 g3 : Nat} {A : Option Addr} {l : List Nat} {x0 x1 x2 x3 : Value} {sh : Bool}
theorem OpS.ext (h : OpS w g A n c l g2 g3 x0 x1 x2 x3 a sh w') (k : Ext w' w2) : OpS w g A n c l g2 g3 x0 x1 x2 x3 a sh w2 :=
  ⟨h.rd.ext k, h.base, heap_extE h.res k, heap_extE h.own k, h.ge, h.mod.ext k⟩
theorem OpS.step {a' : Nat} {sh' : Bool} (h : OpS w g A n c l g2 g3 x0 x1 x2 x3 a sh w') (k : Mod (fun i => i = g) w' w2) (hr : RdS w2 g A n c l a' sh') : OpS w g A n c l g2 g3 x0 x1 x2 x3 a' sh' w2 :=
  ⟨hr, h.base, heap_mod h.res k (by have := h.base.g; have := h.ge; omega), heap_mod h.own k (by have := h.base.g; have := h.ge; omega), h.ge, Mod.trans (F := fun i => i = g) h.mod k fun _ hi => .inl hi⟩
theorem OpS.put1 (h : OpS w g A n c l g2 g3 x0 x1 x2 x3 a sh w') (v : Value) : OpS w g A n c l g2 g3 x0 v x2 x3 a sh (w'.setCell ⟨g3, 1, none⟩ v) :=
  ⟨h.rd.other h.base (mod_set g3 1 v) fun i hi => by subst hi; exact h.ge.2.1, h.base, heap_mod h.res (mod_set g3 1 v) h.ge.2.2, rdr_set h.own v, h.ge, Mod.setCell (F := fun i => i = g) h.mod (.inr h.ge.2.1) v⟩
theorem OpS.put2 (h : OpS w g A n c l g2 g3 x0 x1 x2 x3 a sh w') (v : Value) : OpS w g A n c l g2 g3 x0 x1 v x3 a sh (w'.setCell ⟨g3, 2, none⟩ v) :=
  ⟨h.rd.other h.base (mod_set g3 2 v) fun i hi => by subst hi; exact h.ge.2.1, h.base, heap_mod h.res (mod_set g3 2 v) h.ge.2.2, rdr_set h.own v, h.ge, Mod.setCell (F := fun i => i = g) h.mod (.inr h.ge.2.1) v⟩
end
end
section
open Go Go.RowKit
structure EnW (w : World) (g : Nat) (A : Option Addr) (n c : Nat) (l : List Nat) (g2 g3 : Nat) (cs : Array Value) (a : Nat) (sh : Bool) (w' : World) : Prop where
  rd : RdS w' g A n c l a sh
  base : RdB w.heap.size g A n
  res : w'.heap[g2]? = some (.cells #[.int .u8 0, .int .i64 0, .int .i64 0, .int .u8 0, .string ⟨#[]⟩, .string ⟨#[]⟩, .string ⟨#[]⟩] 42 (0, 0))
  own : w'.heap[g3]? = some (.cells cs 42 (0, 0))
  ge : w.heap.size ≤ g2 ∧ w.heap.size ≤ g3 ∧ g2 ≠ g3
  mod : Mod (fun i => i = g) w w'
section
variable {w w' w2 : World} {g n c a g2 g3 : Nat} {A : Option Addr} {l : List Nat} {cs : Array Value} {sh : Bool}
theorem EnW.step {a' : Nat} {sh' : Bool} (h : EnW w g A n c l g2 g3 cs a sh w') (k : Mod (fun i => i = g) w' w2) (hr : RdS w2 g A n c l a' sh') : EnW w g A n c l g2 g3 cs a' sh' w2 :=
  ⟨hr, h.base, heap_mod h.res k (by have := h.base.g; have := h.ge; omega), heap_mod h.own k (by have := h.base.g; have := h.ge; omega), h.ge, Mod.trans (F := fun i => i = g) h.mod k fun _ hi => .inl hi⟩
theorem EnW.put (h : EnW w g A n c l g2 g3 cs a sh w') (i : Nat) (v : Value) {ds : Array Value} (hd : ds = cs.setIfInBounds i v) : EnW w g A n c l g2 g3 ds a sh (w'.setCell ⟨g3, i, none⟩ v) :=
  ⟨h.rd.other h.base (mod_set g3 i v) fun i hi => by subst hi; exact h.ge.2.1, h.base, heap_mod h.res (mod_set g3 i v) h.ge.2.2, hd ▸ rdr_set h.own v, h.ge, Mod.setCell (F := fun i => i = g) h.mod (.inr h.ge.2.1) v⟩
end
end
section
open Go Go.RowKit
theorem ext_cellE {w w' : World} {p : Addr} {v : Value} (k : Ext w w') (h : w.cell? p = some v) : w'.cell? p = some v := (Below.cell k (World.block_lt_of_cell? w _ h)).trans h
def EBS (W : World) (g : Nat) (cl sq : Int) (ok : Nat) (key old val : ByteArray) (w' : World) : Prop :=
  w'.cell? ⟨g, 1, none⟩ = some (.int .i64 cl) ∧ w'.cell? ⟨g, 2, none⟩ = some (.int .i64 sq) ∧ w'.cell? ⟨g, 3, none⟩ = some (.int .u8 (ok : Int)) ∧ w'.cell? ⟨g, 4, none⟩ = some (.string key) ∧ w'.cell? ⟨g, 5, none⟩ = some (.string old) ∧ w'.cell? ⟨g, 6, none⟩ = some (.string val) ∧ Hid (Ext W w')
theorem EBS.mono {W w w' : World} {g ok : Nat} {cl sq : Int} {key old val : ByteArray} (h : EBS W g cl sq ok key old val w) (k : Ext w w') : EBS W g cl sq ok key old val w' := by
  obtain ⟨h0, h1, h2, h3, h4, h5, hE⟩ := h
  exact ⟨ext_cellE k h0, ext_cellE k h1, ext_cellE k h2, ext_cellE k h3, ext_cellE k h4, ext_cellE k h5, Lib.hid (hE.out.trans k)⟩
theorem EBS.ext {W w : World} {g ok : Nat} {cl sq : Int} {key old val : ByteArray} (h : EBS W g cl sq ok key old val w) : Ext W w := h.2.2.2.2.2.2.out
theorem digs_byte {n : Nat} (h : n < 256) : digs 1 n = [n] := by simp [digs]; omega
theorem fits_byte {n : Nat} (h : n < 256) : fitsB (1 : Nat) n = true := fits_iff.2 ⟨rfl, by omega, by simpa using h⟩
theorem fits_six {n : Nat} (h : n ≤ 1099511627776) : fitsB (6 : Nat) n = true := fits_iff.2 ⟨rfl, by omega, by simp; omega⟩
def EPS (W : World) (g : Nat) (x y : Int) (w' : World) : Prop :=
  w'.cell? ⟨g, 0, none⟩ = some (.int .i64 x) ∧ w'.cell? ⟨g, 1, none⟩ = some (.int .i64 y) ∧ Hid (Ext W w')
theorem EPS.mono {W w w' : World} {g : Nat} {x y : Int} (h : EPS W g x y w) (k : Ext w w') : EPS W g x y w' := by
  obtain ⟨h0, h1, hE⟩ := h
  exact ⟨ext_cellE k h0, ext_cellE k h1, Lib.hid (hE.out.trans k)⟩
theorem EPS.ext {W w : World} {g : Nat} {x y : Int} (h : EPS W g x y w) : Ext W w := h.2.2.out
end
section
open Go Go.RowKit
def LaidT3 (w : World) : Prop := w.cell? ⟨0, 0, none⟩ = some (.int .i64 6) ∧ w.cell? ⟨0, 1, none⟩ = some (.int .i64 1) ∧ w.cell? ⟨0, 2, none⟩ = some (.int .i64 1)
structure LaidS (w : World) : Prop where
  o : Laid w
  t : LaidT3 w
theorem LaidT3.ext {a b : World} (h : LaidT3 a) (k : Ext a b) : LaidT3 b := by
  have hlt : 0 < a.heap.size := World.block_lt_of_cell? a _ h.1
  obtain ⟨h0, h1, h2⟩ := h
  exact ⟨(Below.cell k (p := ⟨0, 0, none⟩) hlt).trans h0, (Below.cell k (p := ⟨0, 1, none⟩) hlt).trans h1, (Below.cell k (p := ⟨0, 2, none⟩) hlt).trans h2⟩
theorem LaidS.ext {a b : World} (h : LaidS a) (k : Ext a b) : LaidS b := ⟨h.o.ext k, h.t.ext k⟩
end
section
open Go Go.RowKit
theorem keep_row {u w' : World} {g : Nat} {ob : Obj} (k : Ext u w') (h : u.heap[g]? = some ob) : w'.heap[g]? = some ob := (k.block g (Array.getElem?_eq_some_iff.1 h).1).trans h
end
section
open Go Go.RowKit
theorem By.none_ (w : World) : By w none 0 0 [] := ⟨rfl, Nat.le_refl _, by omega, Rd.nil_, fun _ => rfl⟩
theorem idx_three (a b c : Int) (w : World) : (Instr.index 233 (.agg #[.int .i64 a, .int .i64 b, .int .i64 c]) (.int .i64 0)).run Tryz.prog w = .ok (.int .i64 a) w ∧ (Instr.index 233 (.agg #[.int .i64 a, .int .i64 b, .int .i64 c]) (.int .i64 1)).run Tryz.prog w = .ok (.int .i64 b) w ∧ (Instr.index 233 (.agg #[.int .i64 a, .int .i64 b, .int .i64 c]) (.int .i64 2)).run Tryz.prog w = .ok (.int .i64 c) w := by
  refine ⟨?_, ?_, ?_⟩ <;> kernel_rfl
theorem sput6 (n : Nat) (w : World) (hL : Laid w) (hn : n ≤ 1099511627776) :
    Calls Tryz.prog 147 #[.int .i64 6, .int .i64 (n : Int)] w fun e w' => ∃ A' c', e = .returned (.tuple #[.slice A' 6 c', .int .i64 0]) ∧ By w' A' 6 c' (digs 6 n) ∧ Ext w w' := put_by 6 n w hL (fits_six hn)
theorem sput1 (n : Nat) (w : World) (hL : Laid w) (hn : n < 256) :
    Calls Tryz.prog 147 #[.int .i64 1, .int .i64 (n : Int)] w fun e w' => ∃ A' c', e = .returned (.tuple #[.slice A' 1 c', .int .i64 0]) ∧ By w' A' 1 c' [n] ∧ Ext w w' := by
  have h := put_by 1 n w hL (fits_byte hn)
  rw [digs_byte hn] at h
  exact h
theorem sjoin1 {A1 A2 : Option Addr} {c1 c2 : Nat} {l2 : List Nat} (w : World) (h1 : By w A1 0 c1 []) (h2 : By w A2 6 c2 l2) :
    Calls Tryz.prog 139 #[.slice (some ⟨w.heap.size, 0, none⟩) 2 2] (w.alloc (.cells #[.slice A1 0 c1, .slice A2 6 c2] 45)) fun e w' => ∃ A' c', e = .returned (.slice A' 6 c') ∧ By w' A' 6 c' l2 ∧ Ext w w' := join2_by w h1 h2 (by omega)
theorem sjoin2 {A1 A2 : Option Addr} {c1 c2 : Nat} {l1 l2 : List Nat} (w : World) (h1 : By w A1 6 c1 l1) (h2 : By w A2 1 c2 l2) :
    Calls Tryz.prog 139 #[.slice (some ⟨w.heap.size, 0, none⟩) 2 2] (w.alloc (.cells #[.slice A1 6 c1, .slice A2 1 c2] 45)) fun e w' => ∃ A' c', e = .returned (.slice A' 7 c') ∧ By w' A' 7 c' (l1 ++ l2) ∧ Ext w w' := join2_by w h1 h2 (by omega)
theorem sjoin3 {A1 A2 : Option Addr} {c1 c2 : Nat} {l1 l2 : List Nat} (w : World) (h1 : By w A1 7 c1 l1) (h2 : By w A2 1 c2 l2) :
    Calls Tryz.prog 139 #[.slice (some ⟨w.heap.size, 0, none⟩) 2 2] (w.alloc (.cells #[.slice A1 7 c1, .slice A2 1 c2] 45)) fun e w' => ∃ A' c', e = .returned (.slice A' 8 c') ∧ By w' A' 8 c' (l1 ++ l2) ∧ Ext w w' := join2_by w h1 h2 (by omega)
end
section
open Go Go.RowKit
def setL (w : World) (g : Nat) : Nat → List Value → World
  | _, [] => w
  | o, x :: xs => setL (w.setCell ⟨g, o, none⟩ x) g (o + 1) xs
theorem row_set1 {w : World} {g i : Nat} {cs : Array Value} {t : TypeId} (h : w.heap[g]? = some (.cells cs t (0, 0))) (v : Value) : (w.setCell ⟨g, i, none⟩ v).heap[g]? = some (.cells (cs.setIfInBounds i v) t (0, 0)) := by
  rw [setCell_eq_setRow w g i _ _ _ v h]
  exact setRow_heap w g _ (cs.setIfInBounds i v) _ _ h
theorem mod_setL {g : Nat} : ∀ (xs : List Value) (w : World) (o : Nat), Mod (fun k => k = g) w (setL w g o xs)
  | [], w, _ => Mod.refl (fun k => k = g) w
  | x :: xs, w, o => Mod.trans (F := fun k => k = g) (Mod.setCell (F := fun k => k = g) (Mod.refl (fun k => k = g) w) (p := ⟨g, o, none⟩) (.inl rfl) x) (mod_setL xs _ (o + 1)) fun _ hi => .inl hi
theorem ext_setL {a w : World} (h : Ext a w) {g : Nat} (hg : a.heap.size ≤ g) (xs : List Value) (o : Nat) : Ext a (setL w g o xs) :=
  Mod.to_ext (Mod.trans (F := fun k => k = g) (Mod.of_ext (F := fun k => k = g) h) (mod_setL xs w o) fun _ hi => .inl hi) fun i hi => by subst hi; exact hg
theorem off_setL {w : World} {g k : Nat} {ob : Obj} (h : w.heap[k]? = some ob) (hk : k ≠ g) (xs : List Value) (o : Nat) : (setL w g o xs).heap[k]? = some ob :=
  ((mod_setL (g := g) xs w o).block k (Array.getElem?_eq_some_iff.1 h).1 hk).trans h
end
section
open Go Go.RowKit
theorem cknown_of {w : World} {p : Option Addr} {sz : Nat} (hS : Sized w p sz) (hL : LaidT w) (r g : Int) :
    Calls Tryz.prog 181 #[.pointer p, .int .i64 r, .int .i64 g] w fun e w' => e = .returned (.int .i64 (knownC sz r g)) ∧ Ext w w' := by
  have HS := Lib.hid hS
  have HL := Lib.hid hL
  clear hS hL
  by_cases h0 : sz = 0
  · have HE : Hid (knownC sz r g = 1) := Lib.hid (by unfold knownC; rw [if_pos h0])
    have h1 : ((sz : Int) == 0) = true := by simp [h0]
    clear h0
    go_enter Tryz.func181, Tryz.ntmps181
    go_wp2_with fail
    refine (HS.out _ (Ext.refl _)).mono ?_
    rintro e w1 ⟨rfl, rfl⟩
    go_wp2_with fail
    go_ret
    exact ⟨by rw [HE.out]; rfl, Ext.refl _⟩
  have h1 : ((sz : Int) == 0) = false := by simp; omega
  obtain ⟨E, hE⟩ : ∃ E, knownC sz r g = E := ⟨_, rfl⟩
  have HE := Lib.hid hE
  by_cases h2 : sz < 156
  · have hE2 : knownC sz r g = 2 := by unfold knownC; rw [if_neg h0, if_pos (.inl h2)]
    rw [hE2] at hE
    subst hE
    clear hE2 h0
    go_enter Tryz.func181, Tryz.ntmps181
    go_wp2_with fail
    refine (HS.out _ (Ext.refl _)).mono ?_
    rintro e w1 ⟨rfl, rfl⟩
    go_wp2_with fail
    refine (HS.out _ (Ext.refl _)).mono ?_
    rintro e w1 ⟨rfl, rfl⟩
    go_wp2_with fail
    refine (all_any _ HL.out).mono ?_
    rintro e w1 ⟨rfl, hx⟩
    have HX := Lib.hid hx
    clear hx
    go_wp2_with fail
    go_ret
    exact ⟨by rw [HE.out]; rfl, HX.out⟩
  by_cases hg : g = 1 ∨ g = 2
  · have hg' : ¬ (g ≠ 1 ∧ g ≠ 2) := by omega
    have q : ((g != 1) && (g != 2)) = false := by rcases hg with rfl | rfl <;> rfl
    rcases hg with rfl | rfl
    · clear q hg' 
      by_cases h3 : r < 0
      · have hE2 : knownC sz r 1 = 2 := by unfold knownC; rw [if_neg h0, if_pos (.inr (.inr (.inl h3)))]
        rw [hE2] at hE
        subst hE
        clear hE2 h0
        go_enter Tryz.func181, Tryz.ntmps181
        go_wp2_with fail
        refine (HS.out _ (Ext.refl _)).mono ?_
        rintro e w1 ⟨rfl, rfl⟩
        go_wp2_with fail
        refine (HS.out _ (Ext.refl _)).mono ?_
        rintro e w1 ⟨rfl, rfl⟩
        go_wp2_with fail
        refine (all_any _ HL.out).mono ?_
        rintro e w1 ⟨rfl, hx⟩
        have HX := Lib.hid hx
        clear hx
        go_wp2_with fail
        go_ret
        exact ⟨by rw [HE.out]; rfl, HX.out⟩
      by_cases h4 : 7 ≤ r
      · have hE2 : knownC sz r 1 = 2 := by unfold knownC; rw [if_neg h0, if_pos (.inr (.inr (.inr h4)))]
        rw [hE2] at hE
        subst hE
        clear hE2 h0
        go_enter Tryz.func181, Tryz.ntmps181
        go_wp2_with fail
        refine (HS.out _ (Ext.refl _)).mono ?_
        rintro e w1 ⟨rfl, rfl⟩
        go_wp2_with fail
        refine (HS.out _ (Ext.refl _)).mono ?_
        rintro e w1 ⟨rfl, rfl⟩
        go_wp2_with fail
        refine (all_any _ HL.out).mono ?_
        rintro e w1 ⟨rfl, hx⟩
        have HX := Lib.hid hx
        clear hx
        go_wp2_with fail
        go_ret
        exact ⟨by rw [HE.out]; rfl, HX.out⟩
      · have hE2 : knownC sz r 1 = 0 := by unfold knownC; rw [if_neg h0, if_neg (by omega)]
        rw [hE2] at hE
        subst hE
        clear hE2 h0
        go_enter Tryz.func181, Tryz.ntmps181
        go_wp2_with fail
        refine (HS.out _ (Ext.refl _)).mono ?_
        rintro e w1 ⟨rfl, rfl⟩
        go_wp2_with fail
        refine (HS.out _ (Ext.refl _)).mono ?_
        rintro e w1 ⟨rfl, rfl⟩
        go_wp2_with fail
        refine (all_any _ HL.out).mono ?_
        rintro e w1 ⟨rfl, hx⟩
        have HX := Lib.hid hx
        clear hx
        go_wp2_with fail
        go_ret
        exact ⟨by rw [HE.out]; rfl, HX.out⟩
    · clear q hg' 
      by_cases h3 : r < 0
      · have hE2 : knownC sz r 2 = 2 := by unfold knownC; rw [if_neg h0, if_pos (.inr (.inr (.inl h3)))]
        rw [hE2] at hE
        subst hE
        clear hE2 h0
        go_enter Tryz.func181, Tryz.ntmps181
        go_wp2_with fail
        refine (HS.out _ (Ext.refl _)).mono ?_
        rintro e w1 ⟨rfl, rfl⟩
        go_wp2_with fail
        refine (HS.out _ (Ext.refl _)).mono ?_
        rintro e w1 ⟨rfl, rfl⟩
        go_wp2_with fail
        refine (all_any _ HL.out).mono ?_
        rintro e w1 ⟨rfl, hx⟩
        have HX := Lib.hid hx
        clear hx
        go_wp2_with fail
        go_ret
        exact ⟨by rw [HE.out]; rfl, HX.out⟩
      by_cases h4 : 7 ≤ r
      · have hE2 : knownC sz r 2 = 2 := by unfold knownC; rw [if_neg h0, if_pos (.inr (.inr (.inr h4)))]
        rw [hE2] at hE
        subst hE
        clear hE2 h0
        go_enter Tryz.func181, Tryz.ntmps181
        go_wp2_with fail
        refine (HS.out _ (Ext.refl _)).mono ?_
        rintro e w1 ⟨rfl, rfl⟩
        go_wp2_with fail
        refine (HS.out _ (Ext.refl _)).mono ?_
        rintro e w1 ⟨rfl, rfl⟩
        go_wp2_with fail
        refine (all_any _ HL.out).mono ?_
        rintro e w1 ⟨rfl, hx⟩
        have HX := Lib.hid hx
        clear hx
        go_wp2_with fail
        go_ret
        exact ⟨by rw [HE.out]; rfl, HX.out⟩
      · have hE2 : knownC sz r 2 = 0 := by unfold knownC; rw [if_neg h0, if_neg (by omega)]
        rw [hE2] at hE
        subst hE
        clear hE2 h0
        go_enter Tryz.func181, Tryz.ntmps181
        go_wp2_with fail
        refine (HS.out _ (Ext.refl _)).mono ?_
        rintro e w1 ⟨rfl, rfl⟩
        go_wp2_with fail
        refine (HS.out _ (Ext.refl _)).mono ?_
        rintro e w1 ⟨rfl, rfl⟩
        go_wp2_with fail
        refine (all_any _ HL.out).mono ?_
        rintro e w1 ⟨rfl, hx⟩
        have HX := Lib.hid hx
        clear hx
        go_wp2_with fail
        go_ret
        exact ⟨by rw [HE.out]; rfl, HX.out⟩
  · have g1 : (g != 1) = true := by simp; omega
    have g2 : (g != 2) = true := by simp; omega
    have hE2 : knownC sz r g = 2 := by unfold knownC; rw [if_neg h0, if_pos (.inr (.inl (by omega)))]
    rw [hE2] at hE
    subst hE
    clear hE2 h0 hg
    go_enter Tryz.func181, Tryz.ntmps181
    go_wp2_with fail
    refine (HS.out _ (Ext.refl _)).mono ?_
    rintro e w1 ⟨rfl, rfl⟩
    go_wp2_with fail
    refine (HS.out _ (Ext.refl _)).mono ?_
    rintro e w1 ⟨rfl, rfl⟩
    go_wp2_with fail
    refine (all_any _ HL.out).mono ?_
    rintro e w1 ⟨rfl, hx⟩
    have HX := Lib.hid hx
    clear hx
    go_wp2_with fail
    go_ret
    exact ⟨by rw [HE.out]; rfl, HX.out⟩
theorem other_of (p : Int) (h0 : 0 ≤ p) (h1 : p ≤ 1) (w : World) :
    Calls Tryz.prog 183 #[.int .i64 p] w fun e w' => e = .returned (.int .i64 (otherP p)) ∧ w = w' := by
  have h : p = 0 ∨ p = 1 := by omega
  clear h0 h1
  rcases h with rfl | rfl
  all_goals
    go_enter Tryz.func183, Tryz.ntmps183
    go_wp2_with fail
    go_ret
    exact ⟨rfl, rfl⟩
theorem other0 (w : World) : Calls Tryz.prog 183 #[.int .i64 0] w fun e w' => e = .returned (.int .i64 1) ∧ w = w' := other_of 0 (by omega) (by omega) w
theorem other1 (w : World) : Calls Tryz.prog 183 #[.int .i64 1] w fun e w' => e = .returned (.int .i64 0) ∧ w = w' := other_of 1 (by omega) (by omega) w
end
section
open Go Go.RowKit
theorem pair_cells {w : World} {g : Nat} {s0 a0 b0 c0 d0 e0 s1 a1 b1 c1 d1 e1 : Int} {A0 A1 : Option Addr} {n0 m0 n1 m1 : Nat} {t : TypeId} (h : w.heap[g]? = some (.cells #[.int .u8 s0, .int .i64 a0, .int .i64 b0, .int .i64 c0, .int .i64 d0, .int .i64 e0, .slice A0 n0 m0, .int .u8 s1, .int .i64 a1, .int .i64 b1, .int .i64 c1, .int .i64 d1, .int .i64 e1, .slice A1 n1 m1] t (0, 0))) :
    w.cell? ⟨g, 0, none⟩ = some (.int .u8 s0) ∧ w.cell? ⟨g, 1, none⟩ = some (.int .i64 a0) ∧ w.cell? ⟨g, 2, none⟩ = some (.int .i64 b0) ∧ w.cell? ⟨g, 3, none⟩ = some (.int .i64 c0) ∧ w.cell? ⟨g, 4, none⟩ = some (.int .i64 d0) ∧ w.cell? ⟨g, 5, none⟩ = some (.int .i64 e0) ∧ w.cell? ⟨g, 6, none⟩ = some (.slice A0 n0 m0) ∧ w.cell? ⟨g, 7, none⟩ = some (.int .u8 s1) ∧ w.cell? ⟨g, 8, none⟩ = some (.int .i64 a1) ∧ w.cell? ⟨g, 9, none⟩ = some (.int .i64 b1) ∧ w.cell? ⟨g, 10, none⟩ = some (.int .i64 c1) ∧ w.cell? ⟨g, 11, none⟩ = some (.int .i64 d1) ∧ w.cell? ⟨g, 12, none⟩ = some (.int .i64 e1) ∧ w.cell? ⟨g, 13, none⟩ = some (.slice A1 n1 m1) :=
  ⟨cell_of_row w g 0 _ _ _ h, cell_of_row w g 1 _ _ _ h, cell_of_row w g 2 _ _ _ h, cell_of_row w g 3 _ _ _ h, cell_of_row w g 4 _ _ _ h, cell_of_row w g 5 _ _ _ h, cell_of_row w g 6 _ _ _ h, cell_of_row w g 7 _ _ _ h, cell_of_row w g 8 _ _ _ h, cell_of_row w g 9 _ _ _ h, cell_of_row w g 10 _ _ _ h, cell_of_row w g 11 _ _ _ h, cell_of_row w g 12 _ _ _ h, cell_of_row w g 13 _ _ _ h⟩
theorem keep_pair {u w' : World} {g : Nat} {s0 a0 b0 c0 d0 e0 s1 a1 b1 c1 d1 e1 : Int} {A0 A1 : Option Addr} {n0 m0 n1 m1 : Nat} {t : TypeId} (k : Hid (Ext u w')) (h : Hid (u.heap[g]? = some (.cells #[.int .u8 s0, .int .i64 a0, .int .i64 b0, .int .i64 c0, .int .i64 d0, .int .i64 e0, .slice A0 n0 m0, .int .u8 s1, .int .i64 a1, .int .i64 b1, .int .i64 c1, .int .i64 d1, .int .i64 e1, .slice A1 n1 m1] t (0, 0)))) :
    w'.cell? ⟨g, 0, none⟩ = some (.int .u8 s0) ∧ w'.cell? ⟨g, 1, none⟩ = some (.int .i64 a0) ∧ w'.cell? ⟨g, 2, none⟩ = some (.int .i64 b0) ∧ w'.cell? ⟨g, 3, none⟩ = some (.int .i64 c0) ∧ w'.cell? ⟨g, 4, none⟩ = some (.int .i64 d0) ∧ w'.cell? ⟨g, 5, none⟩ = some (.int .i64 e0) ∧ w'.cell? ⟨g, 6, none⟩ = some (.slice A0 n0 m0) ∧ w'.cell? ⟨g, 7, none⟩ = some (.int .u8 s1) ∧ w'.cell? ⟨g, 8, none⟩ = some (.int .i64 a1) ∧ w'.cell? ⟨g, 9, none⟩ = some (.int .i64 b1) ∧ w'.cell? ⟨g, 10, none⟩ = some (.int .i64 c1) ∧ w'.cell? ⟨g, 11, none⟩ = some (.int .i64 d1) ∧ w'.cell? ⟨g, 12, none⟩ = some (.int .i64 e1) ∧ w'.cell? ⟨g, 13, none⟩ = some (.slice A1 n1 m1) := pair_cells ((k.out.block g (Array.getElem?_eq_some_iff.1 h.out).1).trans h.out)
set_option maxHeartbeats 1600000 in
theorem leads0_of (s0 a0 b0 c0 d0 e0 s1 a1 b1 c1 d1 e1 : Int) (A0 A1 : Option Addr) (n0 m0 n1 m1 : Nat) (w : World) :
    Calls Tryz.prog 240 #[.agg #[.int .u8 s0, .int .i64 a0, .int .i64 b0, .int .i64 c0, .int .i64 d0, .int .i64 e0, .slice A0 n0 m0, .int .u8 s1, .int .i64 a1, .int .i64 b1, .int .i64 c1, .int .i64 d1, .int .i64 e1, .slice A1 n1 m1], .int .i64 0] w fun e w' => e = .returned (.bool (decide (s0 = 1) && decide (d1 ≤ d0))) ∧ Ext w w' := by
  have hT := heap_alloc_new w (.cells #[.int .u8 s0, .int .i64 a0, .int .i64 b0, .int .i64 c0, .int .i64 d0, .int .i64 e0, .slice A0 n0 m0, .int .u8 s1, .int .i64 a1, .int .i64 b1, .int .i64 c1, .int .i64 d1, .int .i64 e1, .slice A1 n1 m1] 262)
  have hE := (Ext.refl w).alloc (.cells #[.int .u8 s0, .int .i64 a0, .int .i64 b0, .int .i64 c0, .int .i64 d0, .int .i64 e0, .slice A0 n0 m0, .int .u8 s1, .int .i64 a1, .int .i64 b1, .int .i64 c1, .int .i64 d1, .int .i64 e1, .slice A1 n1 m1] 262)
  obtain ⟨i0, i1, i2, i3, i4, i5, i6, i7, i8, i9, i10, i11, i12, i13⟩ := pair_cells hT
  have HT := Lib.hid hT
  have HE := Lib.hid hE
  clear hT hE
  go_enter Tryz.func240, Tryz.ntmps240
  go_wp2_with fail
  go_region_held3 (fun w' => w'.cell? ⟨w.heap.size, 0, none⟩ = some (.int .u8 s0) ∧ w'.cell? ⟨w.heap.size, 1, none⟩ = some (.int .i64 a0) ∧ w'.cell? ⟨w.heap.size, 2, none⟩ = some (.int .i64 b0) ∧ w'.cell? ⟨w.heap.size, 3, none⟩ = some (.int .i64 c0) ∧ w'.cell? ⟨w.heap.size, 4, none⟩ = some (.int .i64 d0) ∧ w'.cell? ⟨w.heap.size, 5, none⟩ = some (.int .i64 e0) ∧ w'.cell? ⟨w.heap.size, 6, none⟩ = some (.slice A0 n0 m0) ∧ w'.cell? ⟨w.heap.size, 7, none⟩ = some (.int .u8 s1) ∧ w'.cell? ⟨w.heap.size, 8, none⟩ = some (.int .i64 a1) ∧ w'.cell? ⟨w.heap.size, 9, none⟩ = some (.int .i64 b1) ∧ w'.cell? ⟨w.heap.size, 10, none⟩ = some (.int .i64 c1) ∧ w'.cell? ⟨w.heap.size, 11, none⟩ = some (.int .i64 d1) ∧ w'.cell? ⟨w.heap.size, 12, none⟩ = some (.int .i64 e1) ∧ w'.cell? ⟨w.heap.size, 13, none⟩ = some (.slice A1 n1 m1))
    (first | with_reducible exact ⟨i0, i1, i2, i3, i4, i5, i6, i7, i8, i9, i10, i11, i12, i13⟩ | (refine keep_pair (Lib.hid ?_) HT; repeat (first | exact Ext.refl _ | refine Ext.drew ?_ | refine Ext.alloc ?_ _ | refine Ext.setCell ?_ (by simp) _)))
    (first
      | (go_at_call 183; ((with_reducible refine (other0 _).mono ?_); rintro e w1 ⟨rfl, rfl⟩)))
  all_goals
    clear i0 i1 i2 i3 i4 i5 i6 i7 i8 i9 i10 i11 i12 i13
    by_cases hs : s0 = 1
    · subst hs
      go_wp2_with fail
      go_ret
      exact ⟨by simp, by repeat (first | exact Ext.refl _ | refine Ext.drew ?_ | refine Ext.alloc ?_ _)⟩
    · have hs1 : (s0 == 1) = false := by simpa using hs
      have hs2 := decide_eq_false hs
      clear hs
      go_wp2_with fail
      go_ret
      exact ⟨by rw [hs2]; rfl, by repeat (first | exact Ext.refl _ | refine Ext.drew ?_ | refine Ext.alloc ?_ _)⟩
set_option maxHeartbeats 1600000 in
theorem leads1_of (s0 a0 b0 c0 d0 e0 s1 a1 b1 c1 d1 e1 : Int) (A0 A1 : Option Addr) (n0 m0 n1 m1 : Nat) (w : World) :
    Calls Tryz.prog 240 #[.agg #[.int .u8 s0, .int .i64 a0, .int .i64 b0, .int .i64 c0, .int .i64 d0, .int .i64 e0, .slice A0 n0 m0, .int .u8 s1, .int .i64 a1, .int .i64 b1, .int .i64 c1, .int .i64 d1, .int .i64 e1, .slice A1 n1 m1], .int .i64 1] w fun e w' => e = .returned (.bool (decide (s1 = 1) && decide (d0 ≤ d1))) ∧ Ext w w' := by
  have hT := heap_alloc_new w (.cells #[.int .u8 s0, .int .i64 a0, .int .i64 b0, .int .i64 c0, .int .i64 d0, .int .i64 e0, .slice A0 n0 m0, .int .u8 s1, .int .i64 a1, .int .i64 b1, .int .i64 c1, .int .i64 d1, .int .i64 e1, .slice A1 n1 m1] 262)
  have hE := (Ext.refl w).alloc (.cells #[.int .u8 s0, .int .i64 a0, .int .i64 b0, .int .i64 c0, .int .i64 d0, .int .i64 e0, .slice A0 n0 m0, .int .u8 s1, .int .i64 a1, .int .i64 b1, .int .i64 c1, .int .i64 d1, .int .i64 e1, .slice A1 n1 m1] 262)
  obtain ⟨i0, i1, i2, i3, i4, i5, i6, i7, i8, i9, i10, i11, i12, i13⟩ := pair_cells hT
  have HT := Lib.hid hT
  have HE := Lib.hid hE
  clear hT hE
  go_enter Tryz.func240, Tryz.ntmps240
  go_wp2_with fail
  go_region_held3 (fun w' => w'.cell? ⟨w.heap.size, 0, none⟩ = some (.int .u8 s0) ∧ w'.cell? ⟨w.heap.size, 1, none⟩ = some (.int .i64 a0) ∧ w'.cell? ⟨w.heap.size, 2, none⟩ = some (.int .i64 b0) ∧ w'.cell? ⟨w.heap.size, 3, none⟩ = some (.int .i64 c0) ∧ w'.cell? ⟨w.heap.size, 4, none⟩ = some (.int .i64 d0) ∧ w'.cell? ⟨w.heap.size, 5, none⟩ = some (.int .i64 e0) ∧ w'.cell? ⟨w.heap.size, 6, none⟩ = some (.slice A0 n0 m0) ∧ w'.cell? ⟨w.heap.size, 7, none⟩ = some (.int .u8 s1) ∧ w'.cell? ⟨w.heap.size, 8, none⟩ = some (.int .i64 a1) ∧ w'.cell? ⟨w.heap.size, 9, none⟩ = some (.int .i64 b1) ∧ w'.cell? ⟨w.heap.size, 10, none⟩ = some (.int .i64 c1) ∧ w'.cell? ⟨w.heap.size, 11, none⟩ = some (.int .i64 d1) ∧ w'.cell? ⟨w.heap.size, 12, none⟩ = some (.int .i64 e1) ∧ w'.cell? ⟨w.heap.size, 13, none⟩ = some (.slice A1 n1 m1))
    (first | with_reducible exact ⟨i0, i1, i2, i3, i4, i5, i6, i7, i8, i9, i10, i11, i12, i13⟩ | (refine keep_pair (Lib.hid ?_) HT; repeat (first | exact Ext.refl _ | refine Ext.drew ?_ | refine Ext.alloc ?_ _ | refine Ext.setCell ?_ (by simp) _)))
    (first
      | (go_at_call 183; ((with_reducible refine (other1 _).mono ?_); rintro e w1 ⟨rfl, rfl⟩)))
  all_goals
    clear i0 i1 i2 i3 i4 i5 i6 i7 i8 i9 i10 i11 i12 i13
    by_cases hs : s1 = 1
    · subst hs
      go_wp2_with fail
      go_ret
      exact ⟨by simp, by repeat (first | exact Ext.refl _ | refine Ext.drew ?_ | refine Ext.alloc ?_ _)⟩
    · have hs1 : (s1 == 1) = false := by simpa using hs
      have hs2 := decide_eq_false hs
      clear hs
      go_wp2_with fail
      go_ret
      exact ⟨by rw [hs2]; rfl, by repeat (first | exact Ext.refl _ | refine Ext.drew ?_ | refine Ext.alloc ?_ _)⟩
end
section
open Go Go.RowKit
theorem blank0_of (s0 a0 b0 c0 d0 e0 s1 a1 b1 c1 d1 e1 : Int) (A0 A1 : Option Addr) (n0 m0 n1 m1 : Nat) (w : World) :
    Calls Tryz.prog 241 #[.agg #[.int .u8 s0, .int .i64 a0, .int .i64 b0, .int .i64 c0, .int .i64 d0, .int .i64 e0, .slice A0 n0 m0, .int .u8 s1, .int .i64 a1, .int .i64 b1, .int .i64 c1, .int .i64 d1, .int .i64 e1, .slice A1 n1 m1], .int .i64 0] w fun e w' => e = .returned (.bool (decide (s0 = 0))) ∧ Ext w w' := by
  have hT := heap_alloc_new w (.cells #[.int .u8 s0, .int .i64 a0, .int .i64 b0, .int .i64 c0, .int .i64 d0, .int .i64 e0, .slice A0 n0 m0, .int .u8 s1, .int .i64 a1, .int .i64 b1, .int .i64 c1, .int .i64 d1, .int .i64 e1, .slice A1 n1 m1] 262)
  have hE := (Ext.refl w).alloc (.cells #[.int .u8 s0, .int .i64 a0, .int .i64 b0, .int .i64 c0, .int .i64 d0, .int .i64 e0, .slice A0 n0 m0, .int .u8 s1, .int .i64 a1, .int .i64 b1, .int .i64 c1, .int .i64 d1, .int .i64 e1, .slice A1 n1 m1] 262)
  obtain ⟨i0, i1, i2, i3, i4, i5, i6, i7, i8, i9, i10, i11, i12, i13⟩ := pair_cells hT
  have HE := Lib.hid hE
  have hb : (s0 == 0) = decide (s0 = 0) := by rw [Bool.eq_iff_iff]; simp
  generalize decide (s0 = 0) = bb at hb ⊢
  clear hT hE
  go_enter Tryz.func241, Tryz.ntmps241
  go_wp2_with fail
  go_ret
  exact ⟨rfl, HE.out⟩
theorem blank1_of (s0 a0 b0 c0 d0 e0 s1 a1 b1 c1 d1 e1 : Int) (A0 A1 : Option Addr) (n0 m0 n1 m1 : Nat) (w : World) :
    Calls Tryz.prog 241 #[.agg #[.int .u8 s0, .int .i64 a0, .int .i64 b0, .int .i64 c0, .int .i64 d0, .int .i64 e0, .slice A0 n0 m0, .int .u8 s1, .int .i64 a1, .int .i64 b1, .int .i64 c1, .int .i64 d1, .int .i64 e1, .slice A1 n1 m1], .int .i64 1] w fun e w' => e = .returned (.bool (decide (s1 = 0))) ∧ Ext w w' := by
  have hT := heap_alloc_new w (.cells #[.int .u8 s0, .int .i64 a0, .int .i64 b0, .int .i64 c0, .int .i64 d0, .int .i64 e0, .slice A0 n0 m0, .int .u8 s1, .int .i64 a1, .int .i64 b1, .int .i64 c1, .int .i64 d1, .int .i64 e1, .slice A1 n1 m1] 262)
  have hE := (Ext.refl w).alloc (.cells #[.int .u8 s0, .int .i64 a0, .int .i64 b0, .int .i64 c0, .int .i64 d0, .int .i64 e0, .slice A0 n0 m0, .int .u8 s1, .int .i64 a1, .int .i64 b1, .int .i64 c1, .int .i64 d1, .int .i64 e1, .slice A1 n1 m1] 262)
  obtain ⟨i0, i1, i2, i3, i4, i5, i6, i7, i8, i9, i10, i11, i12, i13⟩ := pair_cells hT
  have HE := Lib.hid hE
  have hb : (s1 == 0) = decide (s1 = 0) := by rw [Bool.eq_iff_iff]; simp
  generalize decide (s1 = 0) = bb at hb ⊢
  clear hT hE
  go_enter Tryz.func241, Tryz.ntmps241
  go_wp2_with fail
  go_ret
  exact ⟨rfl, HE.out⟩
theorem which_leads (s0 a0 b0 c0 d0 e0 s1 a1 b1 c1 d1 e1 : Int) (A0 A1 : Option Addr) (n0 m0 n1 m1 : Nat) (w : World) :
    Calls Tryz.prog 239 #[.func (.func 240) #[.agg #[.int .u8 s0, .int .i64 a0, .int .i64 b0, .int .i64 c0, .int .i64 d0, .int .i64 e0, .slice A0 n0 m0, .int .u8 s1, .int .i64 a1, .int .i64 b1, .int .i64 c1, .int .i64 d1, .int .i64 e1, .slice A1 n1 m1]] #[]] w fun e w' => e = .returned (.int .i64 (pickP (decide (s0 = 1) && decide (d1 ≤ d0)) (decide (s1 = 1) && decide (d0 ≤ d1)))) ∧ Ext w w' := by
  have h0 := fun V => leads0_of s0 a0 b0 c0 d0 e0 s1 a1 b1 c1 d1 e1 A0 A1 n0 m0 n1 m1 V
  have h1 := fun V => leads1_of s0 a0 b0 c0 d0 e0 s1 a1 b1 c1 d1 e1 A0 A1 n0 m0 n1 m1 V
  obtain ⟨x, hx⟩ : ∃ x, (decide (s0 = 1) && decide (d1 ≤ d0)) = x := ⟨_, rfl⟩
  obtain ⟨y, hy⟩ : ∃ y, (decide (s1 = 1) && decide (d0 ≤ d1)) = y := ⟨_, rfl⟩
  rw [hx] at h0 ⊢
  rw [hy] at h1 ⊢
  have H0 := Lib.hid h0
  have H1 := Lib.hid h1
  clear h0 h1 hx hy
  cases x with
  | true =>
    go_enter Tryz.func239, Tryz.ntmps239
    go_wp2_with fail
    refine wp_loop_rounds 3 ?_
    rw [rounds_succ]
    go_wp2_with fail
    refine (H0.out _).mono ?_
    rintro e w1 ⟨rfl, hx⟩
    have HX := Lib.hid hx
    clear hx
    go_wp2_with fail
    go_ret
    exact ⟨rfl, HX.out⟩
  | false =>
    cases y with
    | true =>
      go_enter Tryz.func239, Tryz.ntmps239
      go_wp2_with fail
      refine wp_loop_rounds 3 ?_
      rw [rounds_succ]
      go_wp2_with fail
      refine (H0.out _).mono ?_
      rintro e w1 ⟨rfl, hx⟩
      have HX := Lib.hid hx
      clear hx
      go_wp2_with fail
      rw [rounds_succ]
      go_wp2_with fail
      refine (H1.out _).mono ?_
      rintro e w2 ⟨rfl, hx⟩
      have HX := Lib.hid (HX.out.trans hx)
      clear hx
      go_wp2_with fail
      go_ret
      exact ⟨rfl, HX.out⟩
    | false =>
      go_enter Tryz.func239, Tryz.ntmps239
      go_wp2_with fail
      refine wp_loop_rounds 3 ?_
      rw [rounds_succ]
      go_wp2_with fail
      refine (H0.out _).mono ?_
      rintro e w1 ⟨rfl, hx⟩
      have HX := Lib.hid hx
      clear hx
      go_wp2_with fail
      rw [rounds_succ]
      go_wp2_with fail
      refine (H1.out _).mono ?_
      rintro e w2 ⟨rfl, hx⟩
      have HX := Lib.hid (HX.out.trans hx)
      clear hx
      go_wp2_with fail
      rw [rounds_succ]
      go_wp2_with fail
      go_ret
      exact ⟨rfl, HX.out⟩
theorem which_blank (s0 a0 b0 c0 d0 e0 s1 a1 b1 c1 d1 e1 : Int) (A0 A1 : Option Addr) (n0 m0 n1 m1 : Nat) (w : World) :
    Calls Tryz.prog 239 #[.func (.func 241) #[.agg #[.int .u8 s0, .int .i64 a0, .int .i64 b0, .int .i64 c0, .int .i64 d0, .int .i64 e0, .slice A0 n0 m0, .int .u8 s1, .int .i64 a1, .int .i64 b1, .int .i64 c1, .int .i64 d1, .int .i64 e1, .slice A1 n1 m1]] #[]] w fun e w' => e = .returned (.int .i64 (pickP (decide (s0 = 0)) (decide (s1 = 0)))) ∧ Ext w w' := by
  have h0 := fun V => blank0_of s0 a0 b0 c0 d0 e0 s1 a1 b1 c1 d1 e1 A0 A1 n0 m0 n1 m1 V
  have h1 := fun V => blank1_of s0 a0 b0 c0 d0 e0 s1 a1 b1 c1 d1 e1 A0 A1 n0 m0 n1 m1 V
  obtain ⟨x, hx⟩ : ∃ x, (decide (s0 = 0)) = x := ⟨_, rfl⟩
  obtain ⟨y, hy⟩ : ∃ y, (decide (s1 = 0)) = y := ⟨_, rfl⟩
  rw [hx] at h0 ⊢
  rw [hy] at h1 ⊢
  have H0 := Lib.hid h0
  have H1 := Lib.hid h1
  clear h0 h1 hx hy
  cases x with
  | true =>
    go_enter Tryz.func239, Tryz.ntmps239
    go_wp2_with fail
    refine wp_loop_rounds 3 ?_
    rw [rounds_succ]
    go_wp2_with fail
    refine (H0.out _).mono ?_
    rintro e w1 ⟨rfl, hx⟩
    have HX := Lib.hid hx
    clear hx
    go_wp2_with fail
    go_ret
    exact ⟨rfl, HX.out⟩
  | false =>
    cases y with
    | true =>
      go_enter Tryz.func239, Tryz.ntmps239
      go_wp2_with fail
      refine wp_loop_rounds 3 ?_
      rw [rounds_succ]
      go_wp2_with fail
      refine (H0.out _).mono ?_
      rintro e w1 ⟨rfl, hx⟩
      have HX := Lib.hid hx
      clear hx
      go_wp2_with fail
      rw [rounds_succ]
      go_wp2_with fail
      refine (H1.out _).mono ?_
      rintro e w2 ⟨rfl, hx⟩
      have HX := Lib.hid (HX.out.trans hx)
      clear hx
      go_wp2_with fail
      go_ret
      exact ⟨rfl, HX.out⟩
    | false =>
      go_enter Tryz.func239, Tryz.ntmps239
      go_wp2_with fail
      refine wp_loop_rounds 3 ?_
      rw [rounds_succ]
      go_wp2_with fail
      refine (H0.out _).mono ?_
      rintro e w1 ⟨rfl, hx⟩
      have HX := Lib.hid hx
      clear hx
      go_wp2_with fail
      rw [rounds_succ]
      go_wp2_with fail
      refine (H1.out _).mono ?_
      rintro e w2 ⟨rfl, hx⟩
      have HX := Lib.hid (HX.out.trans hx)
      clear hx
      go_wp2_with fail
      rw [rounds_succ]
      go_wp2_with fail
      go_ret
      exact ⟨rfl, HX.out⟩
theorem held_cells {w : World} {g : Nat} {s a b c d e : Int} {A : Option Addr} {n m : Nat} {t : TypeId} (h : w.heap[g]? = some (.cells #[.int .u8 s, .int .i64 a, .int .i64 b, .int .i64 c, .int .i64 d, .int .i64 e, .slice A n m] t (0, 0))) :
    w.cell? ⟨g, 0, none⟩ = some (.int .u8 s) ∧ w.cell? ⟨g, 1, none⟩ = some (.int .i64 a) ∧ w.cell? ⟨g, 2, none⟩ = some (.int .i64 b) ∧ w.cell? ⟨g, 3, none⟩ = some (.int .i64 c) ∧ w.cell? ⟨g, 4, none⟩ = some (.int .i64 d) ∧ w.cell? ⟨g, 5, none⟩ = some (.int .i64 e) ∧ w.cell? ⟨g, 6, none⟩ = some (.slice A n m) :=
  ⟨cell_of_row w g 0 _ _ _ h, cell_of_row w g 1 _ _ _ h, cell_of_row w g 2 _ _ _ h, cell_of_row w g 3 _ _ _ h, cell_of_row w g 4 _ _ _ h, cell_of_row w g 5 _ _ _ h, cell_of_row w g 6 _ _ _ h⟩
end
end Go.Proofs.YtmbmpabjclkhlaaGreatDoor
