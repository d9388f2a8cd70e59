/-
  Plain facts: a reader that goes on behind what is too short, and what it has read then. No program.
-/
import Derived.Test.YtgcinagkbdcgiaaGreatDoorM00
import Derived.Test.YtgcinagkbdcgiaaGreatDoorM01
import Derived.Test.YtgcinagkbdcgiaaGreatDoorM07
import Derived.Test.YtgcinagkbdcgiaaGreatDoorM08
import Derived.Test.YtgcinagkbdcgiaaGreatDoorM11
import Derived.Test.YtgcinagkbdcgiaaGreatDoorM12
import Derived.Test.YtgcinagkbdcgiaaGreatDoorM13
import Derived.Test.YtgcinagkbdcgiaaGreatDoorM14
import Derived.Test.YtgcinagkbdcgiaaGreatDoorM15
import Derived.Deep.RegionHeld3
import Derived.Laws.EntriesVeiled
import Derived.Deep.DeepCutAuto
import Derived.LoopN
import Derived.Lib.Hide
namespace Go.Proofs.YtgcinagkbdcgiaaGreatDoor
set_option maxRecDepth 100000
section
open Go Go.RowKit
theorem heap_extE {w w' : World} {g : Nat} {o : Obj} (h : w.heap[g]? = some o) (k : Ext w w') : w'.heap[g]? = some o := (k.block g (Array.getElem?_eq_some_iff.1 h).1).trans h
end
section
open Go Go.RowKit
structure RdS (w : World) (g : Nat) (A : Option Addr) (n c : Nat) (l : List Nat) (a : Nat) (sh : Bool) : Prop where
  row : w.heap[g]? = some (.cells #[.slice A n c, .int .i64 (a : Int), .bool sh] 332 (0, 0))
  by_ : By w A n c l
  off : 0 < n → ∀ p, A = some p → p.block ≠ g
  le : a ≤ l.length
  most : n ≤ 9000000000000000000
  laid : Laid w
section
variable {w w' : World} {g n c a : Nat} {A : Option Addr} {l : List Nat} {sh : Bool}
theorem RdS.lt (h : RdS w g A n c l a sh) : g < w.heap.size := (Array.getElem?_eq_some_iff.1 h.row).1
theorem by_mod {G : Nat → Prop} (h : By w A n c l) (k : Mod G w w') (ho : 0 < n → ∀ p, A = some p → ¬ G p.block) : By w' A n c l := by
  by_cases h0 : 0 < n
  · exact By.mod h k fun p hp => ho h0 p hp
  · refine ⟨h.len, h.cap, h.most, ⟨h.rd.1, fun hn => ?_⟩, Bs.nil_ h⟩
    have := h.len
    omega
theorem laid_mod {G : Nat → Prop} (h : Laid w) (k : Mod G w w') (hg : ¬ G 4) : Laid w' := by
  have hlt : 4 < w.heap.size := World.block_lt_of_cell? w _ h.1
  have hb := k.block _ hlt hg
  unfold Laid at h ⊢
  obtain ⟨h0, h1, h2, h3, h4, h5, h6⟩ := h
  exact ⟨(World.cell?_of_block (a := ⟨_, _, none⟩) hb).trans h0, (World.cell?_of_block (a := ⟨_, _, none⟩) hb).trans h1, (World.cell?_of_block (a := ⟨_, _, none⟩) hb).trans h2, (World.cell?_of_block (a := ⟨_, _, none⟩) hb).trans h3, (World.cell?_of_block (a := ⟨_, _, none⟩) hb).trans h4, (World.cell?_of_block (a := ⟨_, _, none⟩) hb).trans h5, (World.cell?_of_block (a := ⟨_, _, none⟩) hb).trans h6⟩
theorem RdS.glob (h : RdS w g A n c l a sh) : 4 ≠ g := by
  intro e
  have h1 := h.laid.1
  have h2 := cell_of_row w g 0 _ _ _ h.row
  rw [← e] at h2
  have h3 := h1.symm.trans h2
  simp at h3
theorem RdS.step {a' : Nat} {sh' : Bool} (h : RdS w g A n c l a sh) (k : Mod (fun i => i = g) w w') (hr : w'.heap[g]? = some (.cells #[.slice A n c, .int .i64 (a' : Int), .bool sh'] 332 (0, 0))) (hle : a' ≤ l.length) : RdS w' g A n c l a' sh' :=
  ⟨hr, by_mod h.by_ k h.off, h.off, hle, h.most, laid_mod h.laid k h.glob⟩
theorem RdS.ext (h : RdS w g A n c l a sh) (k : Ext w w') : RdS w' g A n c l a sh :=
  ⟨(k.block g h.lt).trans h.row, h.by_.ext k, h.off, h.le, h.most, h.laid.ext k⟩
theorem RdS.mod {G : Nat → Prop} (h : RdS w g A n c l a sh) (k : Mod G w w') (hG : ∀ i, G i → w.heap.size ≤ i) : RdS w' g A n c l a sh := h.ext (k.to_ext hG)
end
end
section
open Go Go.RowKit
structure RdB (B g : Nat) (A : Option Addr) (n : Nat) : Prop where
  g : g < B
  a : 0 < n → ∀ p, A = some p → p.block < B
  o : 4 < B
theorem RdS.base {w : World} {g n c a : Nat} {A : Option Addr} {l : List Nat} {sh : Bool} (h : RdS w g A n c l a sh) : RdB w.heap.size g A n :=
  ⟨h.lt, fun hn p hp => by
    obtain ⟨g', o, e, hg, _⟩ := h.by_.rd.2 (by rw [h.by_.len]; exact hn)
    rw [hp] at e
    injection e with e
    rw [e]
    exact hg, World.block_lt_of_cell? w _ h.laid.1⟩
structure OpS (w : World) (g : Nat) (A : Option Addr) (n c : Nat) (l : List Nat) (g2 g3 : Nat) (x0 x1 x2 x3 : Value) (a : Nat) (sh : Bool) (w' : World) : Prop where
  rd : RdS w' g A n c l a sh
  base : RdB w.heap.size g A n
  res : w'.heap[g2]? = some (.cells #[.int .u8 0, .string ⟨#[]⟩, .string ⟨#[]⟩, .string ⟨#[]⟩] 40 (0, 0))
  own : w'.heap[g3]? = some (.cells #[x0, x1, x2, x3] 323 (0, 0))
  ge : w.heap.size ≤ g2 ∧ w.heap.size ≤ g3 ∧ g2 ≠ g3
  mod : Mod (fun i => i = g) w w'
section
variable {w w' w2 : World} {g n c a g2 g3 : Nat} {A : Option Addr} {l : List Nat} {x0 x1 x2 x3 : Value} {sh : Bool}
theorem OpS.ext (h : OpS w g A n c l g2 g3 x0 x1 x2 x3 a sh w') (k : Ext w' w2) : OpS w g A n c l g2 g3 x0 x1 x2 x3 a sh w2 :=
  ⟨h.rd.ext k, h.base, heap_extE h.res k, heap_extE h.own k, h.ge, h.mod.ext k⟩
theorem OpS.step {a' : Nat} {sh' : Bool} (h : OpS w g A n c l g2 g3 x0 x1 x2 x3 a sh w') (k : Mod (fun i => i = g) w' w2) (hr : RdS w2 g A n c l a' sh') : OpS w g A n c l g2 g3 x0 x1 x2 x3 a' sh' w2 :=
  ⟨hr, h.base, heap_mod h.res k (by have := h.base.g; have := h.ge; omega), heap_mod h.own k (by have := h.base.g; have := h.ge; omega), h.ge, Mod.trans (F := fun i => i = g) h.mod k fun _ hi => .inl hi⟩
end
end
section
open Go Go.RowKit
structure EnW (w : World) (g : Nat) (A : Option Addr) (n c : Nat) (l : List Nat) (g2 g3 : Nat) (cs : Array Value) (a : Nat) (sh : Bool) (w' : World) : Prop where
  rd : RdS w' g A n c l a sh
  base : RdB w.heap.size g A n
  res : w'.heap[g2]? = some (.cells #[.int .u8 0, .int .i64 0, .int .i64 0, .int .u8 0, .string ⟨#[]⟩, .string ⟨#[]⟩, .string ⟨#[]⟩] 42 (0, 0))
  own : w'.heap[g3]? = some (.cells cs 42 (0, 0))
  ge : w.heap.size ≤ g2 ∧ w.heap.size ≤ g3 ∧ g2 ≠ g3
  mod : Mod (fun i => i = g) w w'
section
variable {w w' w2 : World} {g n c a g2 g3 : Nat} {A : Option Addr} {l : List Nat} {cs : Array Value} {sh : Bool}
theorem EnW.step {a' : Nat} {sh' : Bool} (h : EnW w g A n c l g2 g3 cs a sh w') (k : Mod (fun i => i = g) w' w2) (hr : RdS w2 g A n c l a' sh') : EnW w g A n c l g2 g3 cs a' sh' w2 :=
  ⟨hr, h.base, heap_mod h.res k (by have := h.base.g; have := h.ge; omega), heap_mod h.own k (by have := h.base.g; have := h.ge; omega), h.ge, Mod.trans (F := fun i => i = g) h.mod k fun _ hi => .inl hi⟩
end
end
section
open Go Go.RowKit
def EBS (W : World) (g : Nat) (cl sq : Int) (ok : Nat) (key old val : ByteArray) (w' : World) : Prop :=
  w'.cell? ⟨g, 1, none⟩ = some (.int .i64 cl) ∧ w'.cell? ⟨g, 2, none⟩ = some (.int .i64 sq) ∧ w'.cell? ⟨g, 3, none⟩ = some (.int .u8 (ok : Int)) ∧ w'.cell? ⟨g, 4, none⟩ = some (.string key) ∧ w'.cell? ⟨g, 5, none⟩ = some (.string old) ∧ w'.cell? ⟨g, 6, none⟩ = some (.string val) ∧ Hid (Ext W w')
theorem EBS.ext {W w : World} {g ok : Nat} {cl sq : Int} {key old val : ByteArray} (h : EBS W g cl sq ok key old val w) : Ext W w := h.2.2.2.2.2.2.out
theorem digs_byte {n : Nat} (h : n < 256) : digs 1 n = [n] := by simp [digs]; omega
theorem fits_byte {n : Nat} (h : n < 256) : fitsB (1 : Nat) n = true := fits_iff.2 ⟨rfl, by omega, by simpa using h⟩
theorem fits_six {n : Nat} (h : n ≤ 1099511627776) : fitsB (6 : Nat) n = true := fits_iff.2 ⟨rfl, by omega, by simp; omega⟩
def EPS (W : World) (g : Nat) (x y : Int) (w' : World) : Prop :=
  w'.cell? ⟨g, 0, none⟩ = some (.int .i64 x) ∧ w'.cell? ⟨g, 1, none⟩ = some (.int .i64 y) ∧ Hid (Ext W w')
theorem EPS.ext {W w : World} {g : Nat} {x y : Int} (h : EPS W g x y w) : Ext W w := h.2.2.out
end
section
open Go Go.RowKit
def LaidT3 (w : World) : Prop := w.cell? ⟨0, 0, none⟩ = some (.int .i64 6) ∧ w.cell? ⟨0, 1, none⟩ = some (.int .i64 1) ∧ w.cell? ⟨0, 2, none⟩ = some (.int .i64 1)
structure LaidS (w : World) : Prop where
  o : Laid w
  t : LaidT3 w
theorem LaidT3.ext {a b : World} (h : LaidT3 a) (k : Ext a b) : LaidT3 b := by
  have hlt : 0 < a.heap.size := World.block_lt_of_cell? a _ h.1
  obtain ⟨h0, h1, h2⟩ := h
  exact ⟨(Below.cell k (p := ⟨0, 0, none⟩) hlt).trans h0, (Below.cell k (p := ⟨0, 1, none⟩) hlt).trans h1, (Below.cell k (p := ⟨0, 2, none⟩) hlt).trans h2⟩
theorem LaidS.ext {a b : World} (h : LaidS a) (k : Ext a b) : LaidS b := ⟨h.o.ext k, h.t.ext k⟩
end
section
open Go Go.RowKit
theorem keep_row {u w' : World} {g : Nat} {ob : Obj} (k : Ext u w') (h : u.heap[g]? = some ob) : w'.heap[g]? = some ob := (k.block g (Array.getElem?_eq_some_iff.1 h).1).trans h
end
section
open Go Go.RowKit
theorem By.none_ (w : World) : By w none 0 0 [] := ⟨rfl, Nat.le_refl _, by omega, Rd.nil_, fun _ => rfl⟩
theorem idx_three (a b c : Int) (w : World) : (Instr.index 221 (.agg #[.int .i64 a, .int .i64 b, .int .i64 c]) (.int .i64 0)).run Tryz.prog w = .ok (.int .i64 a) w ∧ (Instr.index 221 (.agg #[.int .i64 a, .int .i64 b, .int .i64 c]) (.int .i64 1)).run Tryz.prog w = .ok (.int .i64 b) w ∧ (Instr.index 221 (.agg #[.int .i64 a, .int .i64 b, .int .i64 c]) (.int .i64 2)).run Tryz.prog w = .ok (.int .i64 c) w := by
  refine ⟨?_, ?_, ?_⟩ <;> kernel_rfl
theorem sput6 (n : Nat) (w : World) (hL : Laid w) (hn : n ≤ 1099511627776) :
    Calls Tryz.prog 141 #[.int .i64 6, .int .i64 (n : Int)] w fun e w' => ∃ A' c', e = .returned (.tuple #[.slice A' 6 c', .int .i64 0]) ∧ By w' A' 6 c' (digs 6 n) ∧ Ext w w' := put_by 6 n w hL (fits_six hn)
theorem sput1 (n : Nat) (w : World) (hL : Laid w) (hn : n < 256) :
    Calls Tryz.prog 141 #[.int .i64 1, .int .i64 (n : Int)] w fun e w' => ∃ A' c', e = .returned (.tuple #[.slice A' 1 c', .int .i64 0]) ∧ By w' A' 1 c' [n] ∧ Ext w w' := by
  have h := put_by 1 n w hL (fits_byte hn)
  rw [digs_byte hn] at h
  exact h
theorem sjoin1 {A1 A2 : Option Addr} {c1 c2 : Nat} {l2 : List Nat} (w : World) (h1 : By w A1 0 c1 []) (h2 : By w A2 6 c2 l2) :
    Calls Tryz.prog 133 #[.slice (some ⟨w.heap.size, 0, none⟩) 2 2] (w.alloc (.cells #[.slice A1 0 c1, .slice A2 6 c2] 45)) fun e w' => ∃ A' c', e = .returned (.slice A' 6 c') ∧ By w' A' 6 c' l2 ∧ Ext w w' := join2_by w h1 h2 (by omega)
theorem sjoin2 {A1 A2 : Option Addr} {c1 c2 : Nat} {l1 l2 : List Nat} (w : World) (h1 : By w A1 6 c1 l1) (h2 : By w A2 1 c2 l2) :
    Calls Tryz.prog 133 #[.slice (some ⟨w.heap.size, 0, none⟩) 2 2] (w.alloc (.cells #[.slice A1 6 c1, .slice A2 1 c2] 45)) fun e w' => ∃ A' c', e = .returned (.slice A' 7 c') ∧ By w' A' 7 c' (l1 ++ l2) ∧ Ext w w' := join2_by w h1 h2 (by omega)
theorem sjoin3 {A1 A2 : Option Addr} {c1 c2 : Nat} {l1 l2 : List Nat} (w : World) (h1 : By w A1 7 c1 l1) (h2 : By w A2 1 c2 l2) :
    Calls Tryz.prog 133 #[.slice (some ⟨w.heap.size, 0, none⟩) 2 2] (w.alloc (.cells #[.slice A1 7 c1, .slice A2 1 c2] 45)) fun e w' => ∃ A' c', e = .returned (.slice A' 8 c') ∧ By w' A' 8 c' (l1 ++ l2) ∧ Ext w w' := join2_by w h1 h2 (by omega)
end
section
open Go Go.RowKit
def setL (w : World) (g : Nat) : Nat → List Value → World
  | _, [] => w
  | o, x :: xs => setL (w.setCell ⟨g, o, none⟩ x) g (o + 1) xs
def setA (cs : Array Value) : Nat → List Value → Array Value
  | _, [] => cs
  | o, x :: xs => setA (cs.setIfInBounds o x) (o + 1) xs
theorem row_set1 {w : World} {g i : Nat} {cs : Array Value} {t : TypeId} (h : w.heap[g]? = some (.cells cs t (0, 0))) (v : Value) : (w.setCell ⟨g, i, none⟩ v).heap[g]? = some (.cells (cs.setIfInBounds i v) t (0, 0)) := by
  rw [setCell_eq_setRow w g i _ _ _ v h]
  exact setRow_heap w g _ (cs.setIfInBounds i v) _ _ h
theorem row_setL {g : Nat} {t : TypeId} : ∀ (xs : List Value) (w : World) (o : Nat) (cs : Array Value), w.heap[g]? = some (.cells cs t (0, 0)) → (setL w g o xs).heap[g]? = some (.cells (setA cs o xs) t (0, 0))
  | [], _, _, _, h => h
  | x :: xs, _, o, _, h => row_setL xs _ (o + 1) _ (row_set1 h x)
theorem mod_setL {g : Nat} : ∀ (xs : List Value) (w : World) (o : Nat), Mod (fun k => k = g) w (setL w g o xs)
  | [], w, _ => Mod.refl (fun k => k = g) w
  | x :: xs, w, o => Mod.trans (F := fun k => k = g) (Mod.setCell (F := fun k => k = g) (Mod.refl (fun k => k = g) w) (p := ⟨g, o, none⟩) (.inl rfl) x) (mod_setL xs _ (o + 1)) fun _ hi => .inl hi
theorem ext_setL {a w : World} (h : Ext a w) {g : Nat} (hg : a.heap.size ≤ g) (xs : List Value) (o : Nat) : Ext a (setL w g o xs) :=
  Mod.to_ext (Mod.trans (F := fun k => k = g) (Mod.of_ext (F := fun k => k = g) h) (mod_setL xs w o) fun _ hi => .inl hi) fun i hi => by subst hi; exact hg
theorem off_setL {w : World} {g k : Nat} {ob : Obj} (h : w.heap[k]? = some ob) (hk : k ≠ g) (xs : List Value) (o : Nat) : (setL w g o xs).heap[k]? = some ob :=
  ((mod_setL (g := g) xs w o).block k (Array.getElem?_eq_some_iff.1 h).1 hk).trans h
end
section
open Go Go.RowKit
theorem cknown_of {w : World} {p : Option Addr} {sz : Nat} (hS : Sized w p sz) (hL : LaidT w) (r g : Int) :
    Calls Tryz.prog 176 #[.pointer p, .int .i64 r, .int .i64 g] w fun e w' => e = .returned (.int .i64 (knownC sz r g)) ∧ Ext w w' := by
  have HS := Lib.hid hS
  have HL := Lib.hid hL
  clear hS hL
  by_cases h0 : sz = 0
  · have HE : Hid (knownC sz r g = 1) := Lib.hid (by unfold knownC; rw [if_pos h0])
    have h1 : ((sz : Int) == 0) = true := by simp [h0]
    clear h0
    go_enter Tryz.func176, Tryz.ntmps176
    go_wp2_with fail
    refine (HS.out _ (Ext.refl _)).mono ?_
    rintro e w1 ⟨rfl, rfl⟩
    go_wp2_with fail
    go_ret
    exact ⟨by rw [HE.out]; rfl, Ext.refl _⟩
  have h1 : ((sz : Int) == 0) = false := by simp; omega
  obtain ⟨E, hE⟩ : ∃ E, knownC sz r g = E := ⟨_, rfl⟩
  have HE := Lib.hid hE
  by_cases h2 : sz < 156
  · have hE2 : knownC sz r g = 2 := by unfold knownC; rw [if_neg h0, if_pos (.inl h2)]
    rw [hE2] at hE
    subst hE
    clear hE2 h0
    go_enter Tryz.func176, Tryz.ntmps176
    go_wp2_with fail
    refine (HS.out _ (Ext.refl _)).mono ?_
    rintro e w1 ⟨rfl, rfl⟩
    go_wp2_with fail
    refine (HS.out _ (Ext.refl _)).mono ?_
    rintro e w1 ⟨rfl, rfl⟩
    go_wp2_with fail
    refine (all_any _ HL.out).mono ?_
    rintro e w1 ⟨rfl, hx⟩
    have HX := Lib.hid hx
    clear hx
    go_wp2_with fail
    go_ret
    exact ⟨by rw [HE.out]; rfl, HX.out⟩
  by_cases hg : g = 1 ∨ g = 2
  · have hg' : ¬ (g ≠ 1 ∧ g ≠ 2) := by omega
    have q : ((g != 1) && (g != 2)) = false := by rcases hg with rfl | rfl <;> rfl
    rcases hg with rfl | rfl
    · clear q hg' 
      by_cases h3 : r < 0
      · have hE2 : knownC sz r 1 = 2 := by unfold knownC; rw [if_neg h0, if_pos (.inr (.inr (.inl h3)))]
        rw [hE2] at hE
        subst hE
        clear hE2 h0
        go_enter Tryz.func176, Tryz.ntmps176
        go_wp2_with fail
        refine (HS.out _ (Ext.refl _)).mono ?_
        rintro e w1 ⟨rfl, rfl⟩
        go_wp2_with fail
        refine (HS.out _ (Ext.refl _)).mono ?_
        rintro e w1 ⟨rfl, rfl⟩
        go_wp2_with fail
        refine (all_any _ HL.out).mono ?_
        rintro e w1 ⟨rfl, hx⟩
        have HX := Lib.hid hx
        clear hx
        go_wp2_with fail
        go_ret
        exact ⟨by rw [HE.out]; rfl, HX.out⟩
      by_cases h4 : 7 ≤ r
      · have hE2 : knownC sz r 1 = 2 := by unfold knownC; rw [if_neg h0, if_pos (.inr (.inr (.inr h4)))]
        rw [hE2] at hE
        subst hE
        clear hE2 h0
        go_enter Tryz.func176, Tryz.ntmps176
        go_wp2_with fail
        refine (HS.out _ (Ext.refl _)).mono ?_
        rintro e w1 ⟨rfl, rfl⟩
        go_wp2_with fail
        refine (HS.out _ (Ext.refl _)).mono ?_
        rintro e w1 ⟨rfl, rfl⟩
        go_wp2_with fail
        refine (all_any _ HL.out).mono ?_
        rintro e w1 ⟨rfl, hx⟩
        have HX := Lib.hid hx
        clear hx
        go_wp2_with fail
        go_ret
        exact ⟨by rw [HE.out]; rfl, HX.out⟩
      · have hE2 : knownC sz r 1 = 0 := by unfold knownC; rw [if_neg h0, if_neg (by omega)]
        rw [hE2] at hE
        subst hE
        clear hE2 h0
        go_enter Tryz.func176, Tryz.ntmps176
        go_wp2_with fail
        refine (HS.out _ (Ext.refl _)).mono ?_
        rintro e w1 ⟨rfl, rfl⟩
        go_wp2_with fail
        refine (HS.out _ (Ext.refl _)).mono ?_
        rintro e w1 ⟨rfl, rfl⟩
        go_wp2_with fail
        refine (all_any _ HL.out).mono ?_
        rintro e w1 ⟨rfl, hx⟩
        have HX := Lib.hid hx
        clear hx
        go_wp2_with fail
        go_ret
        exact ⟨by rw [HE.out]; rfl, HX.out⟩
    · clear q hg' 
      by_cases h3 : r < 0
      · have hE2 : knownC sz r 2 = 2 := by unfold knownC; rw [if_neg h0, if_pos (.inr (.inr (.inl h3)))]
        rw [hE2] at hE
        subst hE
        clear hE2 h0
        go_enter Tryz.func176, Tryz.ntmps176
        go_wp2_with fail
        refine (HS.out _ (Ext.refl _)).mono ?_
        rintro e w1 ⟨rfl, rfl⟩
        go_wp2_with fail
        refine (HS.out _ (Ext.refl _)).mono ?_
        rintro e w1 ⟨rfl, rfl⟩
        go_wp2_with fail
        refine (all_any _ HL.out).mono ?_
        rintro e w1 ⟨rfl, hx⟩
        have HX := Lib.hid hx
        clear hx
        go_wp2_with fail
        go_ret
        exact ⟨by rw [HE.out]; rfl, HX.out⟩
      by_cases h4 : 7 ≤ r
      · have hE2 : knownC sz r 2 = 2 := by unfold knownC; rw [if_neg h0, if_pos (.inr (.inr (.inr h4)))]
        rw [hE2] at hE
        subst hE
        clear hE2 h0
        go_enter Tryz.func176, Tryz.ntmps176
        go_wp2_with fail
        refine (HS.out _ (Ext.refl _)).mono ?_
        rintro e w1 ⟨rfl, rfl⟩
        go_wp2_with fail
        refine (HS.out _ (Ext.refl _)).mono ?_
        rintro e w1 ⟨rfl, rfl⟩
        go_wp2_with fail
        refine (all_any _ HL.out).mono ?_
        rintro e w1 ⟨rfl, hx⟩
        have HX := Lib.hid hx
        clear hx
        go_wp2_with fail
        go_ret
        exact ⟨by rw [HE.out]; rfl, HX.out⟩
      · have hE2 : knownC sz r 2 = 0 := by unfold knownC; rw [if_neg h0, if_neg (by omega)]
        rw [hE2] at hE
        subst hE
        clear hE2 h0
        go_enter Tryz.func176, Tryz.ntmps176
        go_wp2_with fail
        refine (HS.out _ (Ext.refl _)).mono ?_
        rintro e w1 ⟨rfl, rfl⟩
        go_wp2_with fail
        refine (HS.out _ (Ext.refl _)).mono ?_
        rintro e w1 ⟨rfl, rfl⟩
        go_wp2_with fail
        refine (all_any _ HL.out).mono ?_
        rintro e w1 ⟨rfl, hx⟩
        have HX := Lib.hid hx
        clear hx
        go_wp2_with fail
        go_ret
        exact ⟨by rw [HE.out]; rfl, HX.out⟩
  · have g1 : (g != 1) = true := by simp; omega
    have g2 : (g != 2) = true := by simp; omega
    have hE2 : knownC sz r g = 2 := by unfold knownC; rw [if_neg h0, if_pos (.inr (.inl (by omega)))]
    rw [hE2] at hE
    subst hE
    clear hE2 h0 hg
    go_enter Tryz.func176, Tryz.ntmps176
    go_wp2_with fail
    refine (HS.out _ (Ext.refl _)).mono ?_
    rintro e w1 ⟨rfl, rfl⟩
    go_wp2_with fail
    refine (HS.out _ (Ext.refl _)).mono ?_
    rintro e w1 ⟨rfl, rfl⟩
    go_wp2_with fail
    refine (all_any _ HL.out).mono ?_
    rintro e w1 ⟨rfl, hx⟩
    have HX := Lib.hid hx
    clear hx
    go_wp2_with fail
    go_ret
    exact ⟨by rw [HE.out]; rfl, HX.out⟩
theorem other_of (p : Int) (h0 : 0 ≤ p) (h1 : p ≤ 1) (w : World) :
    Calls Tryz.prog 178 #[.int .i64 p] w fun e w' => e = .returned (.int .i64 (otherP p)) ∧ w = w' := by
  have h : p = 0 ∨ p = 1 := by omega
  clear h0 h1
  rcases h with rfl | rfl
  all_goals
    go_enter Tryz.func178, Tryz.ntmps178
    go_wp2_with fail
    go_ret
    exact ⟨rfl, rfl⟩
theorem other0 (w : World) : Calls Tryz.prog 178 #[.int .i64 0] w fun e w' => e = .returned (.int .i64 1) ∧ w = w' := other_of 0 (by omega) (by omega) w
theorem other1 (w : World) : Calls Tryz.prog 178 #[.int .i64 1] w fun e w' => e = .returned (.int .i64 0) ∧ w = w' := other_of 1 (by omega) (by omega) w
end
section
open Go Go.RowKit
theorem pair_cells {w : World} {g : Nat} {s0 a0 b0 c0 d0 e0 s1 a1 b1 c1 d1 e1 : Int} {A0 A1 : Option Addr} {n0 m0 n1 m1 : Nat} {t : TypeId} (h : w.heap[g]? = some (.cells #[.int .u8 s0, .int .i64 a0, .int .i64 b0, .int .i64 c0, .int .i64 d0, .int .i64 e0, .slice A0 n0 m0, .int .u8 s1, .int .i64 a1, .int .i64 b1, .int .i64 c1, .int .i64 d1, .int .i64 e1, .slice A1 n1 m1] t (0, 0))) :
    w.cell? ⟨g, 0, none⟩ = some (.int .u8 s0) ∧ w.cell? ⟨g, 1, none⟩ = some (.int .i64 a0) ∧ w.cell? ⟨g, 2, none⟩ = some (.int .i64 b0) ∧ w.cell? ⟨g, 3, none⟩ = some (.int .i64 c0) ∧ w.cell? ⟨g, 4, none⟩ = some (.int .i64 d0) ∧ w.cell? ⟨g, 5, none⟩ = some (.int .i64 e0) ∧ w.cell? ⟨g, 6, none⟩ = some (.slice A0 n0 m0) ∧ w.cell? ⟨g, 7, none⟩ = some (.int .u8 s1) ∧ w.cell? ⟨g, 8, none⟩ = some (.int .i64 a1) ∧ w.cell? ⟨g, 9, none⟩ = some (.int .i64 b1) ∧ w.cell? ⟨g, 10, none⟩ = some (.int .i64 c1) ∧ w.cell? ⟨g, 11, none⟩ = some (.int .i64 d1) ∧ w.cell? ⟨g, 12, none⟩ = some (.int .i64 e1) ∧ w.cell? ⟨g, 13, none⟩ = some (.slice A1 n1 m1) :=
  ⟨cell_of_row w g 0 _ _ _ h, cell_of_row w g 1 _ _ _ h, cell_of_row w g 2 _ _ _ h, cell_of_row w g 3 _ _ _ h, cell_of_row w g 4 _ _ _ h, cell_of_row w g 5 _ _ _ h, cell_of_row w g 6 _ _ _ h, cell_of_row w g 7 _ _ _ h, cell_of_row w g 8 _ _ _ h, cell_of_row w g 9 _ _ _ h, cell_of_row w g 10 _ _ _ h, cell_of_row w g 11 _ _ _ h, cell_of_row w g 12 _ _ _ h, cell_of_row w g 13 _ _ _ h⟩
theorem keep_pair {u w' : World} {g : Nat} {s0 a0 b0 c0 d0 e0 s1 a1 b1 c1 d1 e1 : Int} {A0 A1 : Option Addr} {n0 m0 n1 m1 : Nat} {t : TypeId} (k : Hid (Ext u w')) (h : Hid (u.heap[g]? = some (.cells #[.int .u8 s0, .int .i64 a0, .int .i64 b0, .int .i64 c0, .int .i64 d0, .int .i64 e0, .slice A0 n0 m0, .int .u8 s1, .int .i64 a1, .int .i64 b1, .int .i64 c1, .int .i64 d1, .int .i64 e1, .slice A1 n1 m1] t (0, 0)))) :
    w'.cell? ⟨g, 0, none⟩ = some (.int .u8 s0) ∧ w'.cell? ⟨g, 1, none⟩ = some (.int .i64 a0) ∧ w'.cell? ⟨g, 2, none⟩ = some (.int .i64 b0) ∧ w'.cell? ⟨g, 3, none⟩ = some (.int .i64 c0) ∧ w'.cell? ⟨g, 4, none⟩ = some (.int .i64 d0) ∧ w'.cell? ⟨g, 5, none⟩ = some (.int .i64 e0) ∧ w'.cell? ⟨g, 6, none⟩ = some (.slice A0 n0 m0) ∧ w'.cell? ⟨g, 7, none⟩ = some (.int .u8 s1) ∧ w'.cell? ⟨g, 8, none⟩ = some (.int .i64 a1) ∧ w'.cell? ⟨g, 9, none⟩ = some (.int .i64 b1) ∧ w'.cell? ⟨g, 10, none⟩ = some (.int .i64 c1) ∧ w'.cell? ⟨g, 11, none⟩ = some (.int .i64 d1) ∧ w'.cell? ⟨g, 12, none⟩ = some (.int .i64 e1) ∧ w'.cell? ⟨g, 13, none⟩ = some (.slice A1 n1 m1) := pair_cells ((k.out.block g (Array.getElem?_eq_some_iff.1 h.out).1).trans h.out)
set_option maxHeartbeats 1600000 in
theorem leads0_of (s0 a0 b0 c0 d0 e0 s1 a1 b1 c1 d1 e1 : Int) (A0 A1 : Option Addr) (n0 m0 n1 m1 : Nat) (w : World) :
    Calls Tryz.prog 235 #[.agg #[.int .u8 s0, .int .i64 a0, .int .i64 b0, .int .i64 c0, .int .i64 d0, .int .i64 e0, .slice A0 n0 m0, .int .u8 s1, .int .i64 a1, .int .i64 b1, .int .i64 c1, .int .i64 d1, .int .i64 e1, .slice A1 n1 m1], .int .i64 0] w fun e w' => e = .returned (.bool (decide (s0 = 1) && decide (d1 ≤ d0))) ∧ Ext w w' := by
  have hT := heap_alloc_new w (.cells #[.int .u8 s0, .int .i64 a0, .int .i64 b0, .int .i64 c0, .int .i64 d0, .int .i64 e0, .slice A0 n0 m0, .int .u8 s1, .int .i64 a1, .int .i64 b1, .int .i64 c1, .int .i64 d1, .int .i64 e1, .slice A1 n1 m1] 252)
  have hE := (Ext.refl w).alloc (.cells #[.int .u8 s0, .int .i64 a0, .int .i64 b0, .int .i64 c0, .int .i64 d0, .int .i64 e0, .slice A0 n0 m0, .int .u8 s1, .int .i64 a1, .int .i64 b1, .int .i64 c1, .int .i64 d1, .int .i64 e1, .slice A1 n1 m1] 252)
  obtain ⟨i0, i1, i2, i3, i4, i5, i6, i7, i8, i9, i10, i11, i12, i13⟩ := pair_cells hT
  have HT := Lib.hid hT
  have HE := Lib.hid hE
  clear hT hE
  go_enter Tryz.func235, Tryz.ntmps235
  go_wp2_with fail
  go_region_held3 (fun w' => w'.cell? ⟨w.heap.size, 0, none⟩ = some (.int .u8 s0) ∧ w'.cell? ⟨w.heap.size, 1, none⟩ = some (.int .i64 a0) ∧ w'.cell? ⟨w.heap.size, 2, none⟩ = some (.int .i64 b0) ∧ w'.cell? ⟨w.heap.size, 3, none⟩ = some (.int .i64 c0) ∧ w'.cell? ⟨w.heap.size, 4, none⟩ = some (.int .i64 d0) ∧ w'.cell? ⟨w.heap.size, 5, none⟩ = some (.int .i64 e0) ∧ w'.cell? ⟨w.heap.size, 6, none⟩ = some (.slice A0 n0 m0) ∧ w'.cell? ⟨w.heap.size, 7, none⟩ = some (.int .u8 s1) ∧ w'.cell? ⟨w.heap.size, 8, none⟩ = some (.int .i64 a1) ∧ w'.cell? ⟨w.heap.size, 9, none⟩ = some (.int .i64 b1) ∧ w'.cell? ⟨w.heap.size, 10, none⟩ = some (.int .i64 c1) ∧ w'.cell? ⟨w.heap.size, 11, none⟩ = some (.int .i64 d1) ∧ w'.cell? ⟨w.heap.size, 12, none⟩ = some (.int .i64 e1) ∧ w'.cell? ⟨w.heap.size, 13, none⟩ = some (.slice A1 n1 m1))
    (first | with_reducible exact ⟨i0, i1, i2, i3, i4, i5, i6, i7, i8, i9, i10, i11, i12, i13⟩ | (refine keep_pair (Lib.hid ?_) HT; repeat (first | exact Ext.refl _ | refine Ext.drew ?_ | refine Ext.alloc ?_ _ | refine Ext.setCell ?_ (by simp) _)))
    (first
      | (go_at_call 178; ((with_reducible refine (other0 _).mono ?_); rintro e w1 ⟨rfl, rfl⟩)))
  all_goals
    clear i0 i1 i2 i3 i4 i5 i6 i7 i8 i9 i10 i11 i12 i13
    by_cases hs : s0 = 1
    · subst hs
      go_wp2_with fail
      go_ret
      exact ⟨by simp, by repeat (first | exact Ext.refl _ | refine Ext.drew ?_ | refine Ext.alloc ?_ _)⟩
    · have hs1 : (s0 == 1) = false := by simpa using hs
      have hs2 := decide_eq_false hs
      clear hs
      go_wp2_with fail
      go_ret
      exact ⟨by rw [hs2]; rfl, by repeat (first | exact Ext.refl _ | refine Ext.drew ?_ | refine Ext.alloc ?_ _)⟩
set_option maxHeartbeats 1600000 in
theorem leads1_of (s0 a0 b0 c0 d0 e0 s1 a1 b1 c1 d1 e1 : Int) (A0 A1 : Option Addr) (n0 m0 n1 m1 : Nat) (w : World) :
    Calls Tryz.prog 235 #[.agg #[.int .u8 s0, .int .i64 a0, .int .i64 b0, .int .i64 c0, .int .i64 d0, .int .i64 e0, .slice A0 n0 m0, .int .u8 s1, .int .i64 a1, .int .i64 b1, .int .i64 c1, .int .i64 d1, .int .i64 e1, .slice A1 n1 m1], .int .i64 1] w fun e w' => e = .returned (.bool (decide (s1 = 1) && decide (d0 ≤ d1))) ∧ Ext w w' := by
  have hT := heap_alloc_new w (.cells #[.int .u8 s0, .int .i64 a0, .int .i64 b0, .int .i64 c0, .int .i64 d0, .int .i64 e0, .slice A0 n0 m0, .int .u8 s1, .int .i64 a1, .int .i64 b1, .int .i64 c1, .int .i64 d1, .int .i64 e1, .slice A1 n1 m1] 252)
  have hE := (Ext.refl w).alloc (.cells #[.int .u8 s0, .int .i64 a0, .int .i64 b0, .int .i64 c0, .int .i64 d0, .int .i64 e0, .slice A0 n0 m0, .int .u8 s1, .int .i64 a1, .int .i64 b1, .int .i64 c1, .int .i64 d1, .int .i64 e1, .slice A1 n1 m1] 252)
  obtain ⟨i0, i1, i2, i3, i4, i5, i6, i7, i8, i9, i10, i11, i12, i13⟩ := pair_cells hT
  have HT := Lib.hid hT
  have HE := Lib.hid hE
  clear hT hE
  go_enter Tryz.func235, Tryz.ntmps235
  go_wp2_with fail
  go_region_held3 (fun w' => w'.cell? ⟨w.heap.size, 0, none⟩ = some (.int .u8 s0) ∧ w'.cell? ⟨w.heap.size, 1, none⟩ = some (.int .i64 a0) ∧ w'.cell? ⟨w.heap.size, 2, none⟩ = some (.int .i64 b0) ∧ w'.cell? ⟨w.heap.size, 3, none⟩ = some (.int .i64 c0) ∧ w'.cell? ⟨w.heap.size, 4, none⟩ = some (.int .i64 d0) ∧ w'.cell? ⟨w.heap.size, 5, none⟩ = some (.int .i64 e0) ∧ w'.cell? ⟨w.heap.size, 6, none⟩ = some (.slice A0 n0 m0) ∧ w'.cell? ⟨w.heap.size, 7, none⟩ = some (.int .u8 s1) ∧ w'.cell? ⟨w.heap.size, 8, none⟩ = some (.int .i64 a1) ∧ w'.cell? ⟨w.heap.size, 9, none⟩ = some (.int .i64 b1) ∧ w'.cell? ⟨w.heap.size, 10, none⟩ = some (.int .i64 c1) ∧ w'.cell? ⟨w.heap.size, 11, none⟩ = some (.int .i64 d1) ∧ w'.cell? ⟨w.heap.size, 12, none⟩ = some (.int .i64 e1) ∧ w'.cell? ⟨w.heap.size, 13, none⟩ = some (.slice A1 n1 m1))
    (first | with_reducible exact ⟨i0, i1, i2, i3, i4, i5, i6, i7, i8, i9, i10, i11, i12, i13⟩ | (refine keep_pair (Lib.hid ?_) HT; repeat (first | exact Ext.refl _ | refine Ext.drew ?_ | refine Ext.alloc ?_ _ | refine Ext.setCell ?_ (by simp) _)))
    (first
      | (go_at_call 178; ((with_reducible refine (other1 _).mono ?_); rintro e w1 ⟨rfl, rfl⟩)))
  all_goals
    clear i0 i1 i2 i3 i4 i5 i6 i7 i8 i9 i10 i11 i12 i13
    by_cases hs : s1 = 1
    · subst hs
      go_wp2_with fail
      go_ret
      exact ⟨by simp, by repeat (first | exact Ext.refl _ | refine Ext.drew ?_ | refine Ext.alloc ?_ _)⟩
    · have hs1 : (s1 == 1) = false := by simpa using hs
      have hs2 := decide_eq_false hs
      clear hs
      go_wp2_with fail
      go_ret
      exact ⟨by rw [hs2]; rfl, by repeat (first | exact Ext.refl _ | refine Ext.drew ?_ | refine Ext.alloc ?_ _)⟩
end
section
open Go Go.RowKit
theorem blank0_of (s0 a0 b0 c0 d0 e0 s1 a1 b1 c1 d1 e1 : Int) (A0 A1 : Option Addr) (n0 m0 n1 m1 : Nat) (w : World) :
    Calls Tryz.prog 236 #[.agg #[.int .u8 s0, .int .i64 a0, .int .i64 b0, .int .i64 c0, .int .i64 d0, .int .i64 e0, .slice A0 n0 m0, .int .u8 s1, .int .i64 a1, .int .i64 b1, .int .i64 c1, .int .i64 d1, .int .i64 e1, .slice A1 n1 m1], .int .i64 0] w fun e w' => e = .returned (.bool (decide (s0 = 0))) ∧ Ext w w' := by
  have hT := heap_alloc_new w (.cells #[.int .u8 s0, .int .i64 a0, .int .i64 b0, .int .i64 c0, .int .i64 d0, .int .i64 e0, .slice A0 n0 m0, .int .u8 s1, .int .i64 a1, .int .i64 b1, .int .i64 c1, .int .i64 d1, .int .i64 e1, .slice A1 n1 m1] 252)
  have hE := (Ext.refl w).alloc (.cells #[.int .u8 s0, .int .i64 a0, .int .i64 b0, .int .i64 c0, .int .i64 d0, .int .i64 e0, .slice A0 n0 m0, .int .u8 s1, .int .i64 a1, .int .i64 b1, .int .i64 c1, .int .i64 d1, .int .i64 e1, .slice A1 n1 m1] 252)
  obtain ⟨i0, i1, i2, i3, i4, i5, i6, i7, i8, i9, i10, i11, i12, i13⟩ := pair_cells hT
  have HE := Lib.hid hE
  have hb : (s0 == 0) = decide (s0 = 0) := by rw [Bool.eq_iff_iff]; simp
  generalize decide (s0 = 0) = bb at hb ⊢
  clear hT hE
  go_enter Tryz.func236, Tryz.ntmps236
  go_wp2_with fail
  go_ret
  exact ⟨rfl, HE.out⟩
theorem blank1_of (s0 a0 b0 c0 d0 e0 s1 a1 b1 c1 d1 e1 : Int) (A0 A1 : Option Addr) (n0 m0 n1 m1 : Nat) (w : World) :
    Calls Tryz.prog 236 #[.agg #[.int .u8 s0, .int .i64 a0, .int .i64 b0, .int .i64 c0, .int .i64 d0, .int .i64 e0, .slice A0 n0 m0, .int .u8 s1, .int .i64 a1, .int .i64 b1, .int .i64 c1, .int .i64 d1, .int .i64 e1, .slice A1 n1 m1], .int .i64 1] w fun e w' => e = .returned (.bool (decide (s1 = 0))) ∧ Ext w w' := by
  have hT := heap_alloc_new w (.cells #[.int .u8 s0, .int .i64 a0, .int .i64 b0, .int .i64 c0, .int .i64 d0, .int .i64 e0, .slice A0 n0 m0, .int .u8 s1, .int .i64 a1, .int .i64 b1, .int .i64 c1, .int .i64 d1, .int .i64 e1, .slice A1 n1 m1] 252)
  have hE := (Ext.refl w).alloc (.cells #[.int .u8 s0, .int .i64 a0, .int .i64 b0, .int .i64 c0, .int .i64 d0, .int .i64 e0, .slice A0 n0 m0, .int .u8 s1, .int .i64 a1, .int .i64 b1, .int .i64 c1, .int .i64 d1, .int .i64 e1, .slice A1 n1 m1] 252)
  obtain ⟨i0, i1, i2, i3, i4, i5, i6, i7, i8, i9, i10, i11, i12, i13⟩ := pair_cells hT
  have HE := Lib.hid hE
  have hb : (s1 == 0) = decide (s1 = 0) := by rw [Bool.eq_iff_iff]; simp
  generalize decide (s1 = 0) = bb at hb ⊢
  clear hT hE
  go_enter Tryz.func236, Tryz.ntmps236
  go_wp2_with fail
  go_ret
  exact ⟨rfl, HE.out⟩
theorem which_leads (s0 a0 b0 c0 d0 e0 s1 a1 b1 c1 d1 e1 : Int) (A0 A1 : Option Addr) (n0 m0 n1 m1 : Nat) (w : World) :
    Calls Tryz.prog 234 #[.func (.func 235) #[.agg #[.int .u8 s0, .int .i64 a0, .int .i64 b0, .int .i64 c0, .int .i64 d0, .int .i64 e0, .slice A0 n0 m0, .int .u8 s1, .int .i64 a1, .int .i64 b1, .int .i64 c1, .int .i64 d1, .int .i64 e1, .slice A1 n1 m1]] #[]] w fun e w' => e = .returned (.int .i64 (pickP (decide (s0 = 1) && decide (d1 ≤ d0)) (decide (s1 = 1) && decide (d0 ≤ d1)))) ∧ Ext w w' := by
  have h0 := fun V => leads0_of s0 a0 b0 c0 d0 e0 s1 a1 b1 c1 d1 e1 A0 A1 n0 m0 n1 m1 V
  have h1 := fun V => leads1_of s0 a0 b0 c0 d0 e0 s1 a1 b1 c1 d1 e1 A0 A1 n0 m0 n1 m1 V
  obtain ⟨x, hx⟩ : ∃ x, (decide (s0 = 1) && decide (d1 ≤ d0)) = x := ⟨_, rfl⟩
  obtain ⟨y, hy⟩ : ∃ y, (decide (s1 = 1) && decide (d0 ≤ d1)) = y := ⟨_, rfl⟩
  rw [hx] at h0 ⊢
  rw [hy] at h1 ⊢
  have H0 := Lib.hid h0
  have H1 := Lib.hid h1
  clear h0 h1 hx hy
  cases x with
  | true =>
    go_enter Tryz.func234, Tryz.ntmps234
    go_wp2_with fail
    refine wp_loop_rounds 3 ?_
    rw [rounds_succ]
    go_wp2_with fail
    refine (H0.out _).mono ?_
    rintro e w1 ⟨rfl, hx⟩
    have HX := Lib.hid hx
    clear hx
    go_wp2_with fail
    go_ret
    exact ⟨rfl, HX.out⟩
  | false =>
    cases y with
    | true =>
      go_enter Tryz.func234, Tryz.ntmps234
      go_wp2_with fail
      refine wp_loop_rounds 3 ?_
      rw [rounds_succ]
      go_wp2_with fail
      refine (H0.out _).mono ?_
      rintro e w1 ⟨rfl, hx⟩
      have HX := Lib.hid hx
      clear hx
      go_wp2_with fail
      rw [rounds_succ]
      go_wp2_with fail
      refine (H1.out _).mono ?_
      rintro e w2 ⟨rfl, hx⟩
      have HX := Lib.hid (HX.out.trans hx)
      clear hx
      go_wp2_with fail
      go_ret
      exact ⟨rfl, HX.out⟩
    | false =>
      go_enter Tryz.func234, Tryz.ntmps234
      go_wp2_with fail
      refine wp_loop_rounds 3 ?_
      rw [rounds_succ]
      go_wp2_with fail
      refine (H0.out _).mono ?_
      rintro e w1 ⟨rfl, hx⟩
      have HX := Lib.hid hx
      clear hx
      go_wp2_with fail
      rw [rounds_succ]
      go_wp2_with fail
      refine (H1.out _).mono ?_
      rintro e w2 ⟨rfl, hx⟩
      have HX := Lib.hid (HX.out.trans hx)
      clear hx
      go_wp2_with fail
      rw [rounds_succ]
      go_wp2_with fail
      go_ret
      exact ⟨rfl, HX.out⟩
theorem which_blank (s0 a0 b0 c0 d0 e0 s1 a1 b1 c1 d1 e1 : Int) (A0 A1 : Option Addr) (n0 m0 n1 m1 : Nat) (w : World) :
    Calls Tryz.prog 234 #[.func (.func 236) #[.agg #[.int .u8 s0, .int .i64 a0, .int .i64 b0, .int .i64 c0, .int .i64 d0, .int .i64 e0, .slice A0 n0 m0, .int .u8 s1, .int .i64 a1, .int .i64 b1, .int .i64 c1, .int .i64 d1, .int .i64 e1, .slice A1 n1 m1]] #[]] w fun e w' => e = .returned (.int .i64 (pickP (decide (s0 = 0)) (decide (s1 = 0)))) ∧ Ext w w' := by
  have h0 := fun V => blank0_of s0 a0 b0 c0 d0 e0 s1 a1 b1 c1 d1 e1 A0 A1 n0 m0 n1 m1 V
  have h1 := fun V => blank1_of s0 a0 b0 c0 d0 e0 s1 a1 b1 c1 d1 e1 A0 A1 n0 m0 n1 m1 V
  obtain ⟨x, hx⟩ : ∃ x, (decide (s0 = 0)) = x := ⟨_, rfl⟩
  obtain ⟨y, hy⟩ : ∃ y, (decide (s1 = 0)) = y := ⟨_, rfl⟩
  rw [hx] at h0 ⊢
  rw [hy] at h1 ⊢
  have H0 := Lib.hid h0
  have H1 := Lib.hid h1
  clear h0 h1 hx hy
  cases x with
  | true =>
    go_enter Tryz.func234, Tryz.ntmps234
    go_wp2_with fail
    refine wp_loop_rounds 3 ?_
    rw [rounds_succ]
    go_wp2_with fail
    refine (H0.out _).mono ?_
    rintro e w1 ⟨rfl, hx⟩
    have HX := Lib.hid hx
    clear hx
    go_wp2_with fail
    go_ret
    exact ⟨rfl, HX.out⟩
  | false =>
    cases y with
    | true =>
      go_enter Tryz.func234, Tryz.ntmps234
      go_wp2_with fail
      refine wp_loop_rounds 3 ?_
      rw [rounds_succ]
      go_wp2_with fail
      refine (H0.out _).mono ?_
      rintro e w1 ⟨rfl, hx⟩
      have HX := Lib.hid hx
      clear hx
      go_wp2_with fail
      rw [rounds_succ]
      go_wp2_with fail
      refine (H1.out _).mono ?_
      rintro e w2 ⟨rfl, hx⟩
      have HX := Lib.hid (HX.out.trans hx)
      clear hx
      go_wp2_with fail
      go_ret
      exact ⟨rfl, HX.out⟩
    | false =>
      go_enter Tryz.func234, Tryz.ntmps234
      go_wp2_with fail
      refine wp_loop_rounds 3 ?_
      rw [rounds_succ]
      go_wp2_with fail
      refine (H0.out _).mono ?_
      rintro e w1 ⟨rfl, hx⟩
      have HX := Lib.hid hx
      clear hx
      go_wp2_with fail
      rw [rounds_succ]
      go_wp2_with fail
      refine (H1.out _).mono ?_
      rintro e w2 ⟨rfl, hx⟩
      have HX := Lib.hid (HX.out.trans hx)
      clear hx
      go_wp2_with fail
      rw [rounds_succ]
      go_wp2_with fail
      go_ret
      exact ⟨rfl, HX.out⟩
theorem held_cells {w : World} {g : Nat} {s a b c d e : Int} {A : Option Addr} {n m : Nat} {t : TypeId} (h : w.heap[g]? = some (.cells #[.int .u8 s, .int .i64 a, .int .i64 b, .int .i64 c, .int .i64 d, .int .i64 e, .slice A n m] t (0, 0))) :
    w.cell? ⟨g, 0, none⟩ = some (.int .u8 s) ∧ w.cell? ⟨g, 1, none⟩ = some (.int .i64 a) ∧ w.cell? ⟨g, 2, none⟩ = some (.int .i64 b) ∧ w.cell? ⟨g, 3, none⟩ = some (.int .i64 c) ∧ w.cell? ⟨g, 4, none⟩ = some (.int .i64 d) ∧ w.cell? ⟨g, 5, none⟩ = some (.int .i64 e) ∧ w.cell? ⟨g, 6, none⟩ = some (.slice A n m) :=
  ⟨cell_of_row w g 0 _ _ _ h, cell_of_row w g 1 _ _ _ h, cell_of_row w g 2 _ _ _ h, cell_of_row w g 3 _ _ _ h, cell_of_row w g 4 _ _ _ h, cell_of_row w g 5 _ _ _ h, cell_of_row w g 6 _ _ _ h⟩
theorem repeats_of (s0 a0 b0 c0 d0 e0 s1 a1 b1 c1 d1 e1 : Int) (A0 A1 : Option Addr) (n0 m0 n1 m1 : Nat) (x y : List Nat) (w : World) (h0 : By w A0 n0 m0 x) (h1 : By w A1 n1 m1 y) :
    Calls Tryz.prog 179 #[.agg #[.int .u8 s0, .int .i64 a0, .int .i64 b0, .int .i64 c0, .int .i64 d0, .int .i64 e0, .slice A0 n0 m0], .agg #[.int .u8 s1, .int .i64 a1, .int .i64 b1, .int .i64 c1, .int .i64 d1, .int .i64 e1, .slice A1 n1 m1]] w fun e w' => e = .returned (.bool (decide (s0 = 1) && (decide (d0 = d1) && decide (x = y)))) ∧ Ext w w' := by
  have hE0 := (Ext.refl w).alloc (.cells #[.int .u8 s0, .int .i64 a0, .int .i64 b0, .int .i64 c0, .int .i64 d0, .int .i64 e0, .slice A0 n0 m0] 250)
  have hT0 := heap_alloc_new w (.cells #[.int .u8 s0, .int .i64 a0, .int .i64 b0, .int .i64 c0, .int .i64 d0, .int .i64 e0, .slice A0 n0 m0] 250)
  have hE := hE0.alloc (.cells #[.int .u8 s1, .int .i64 a1, .int .i64 b1, .int .i64 c1, .int .i64 d1, .int .i64 e1, .slice A1 n1 m1] 250)
  have hT1 := heap_alloc_new (w.alloc (.cells #[.int .u8 s0, .int .i64 a0, .int .i64 b0, .int .i64 c0, .int .i64 d0, .int .i64 e0, .slice A0 n0 m0] 250)) (.cells #[.int .u8 s1, .int .i64 a1, .int .i64 b1, .int .i64 c1, .int .i64 d1, .int .i64 e1, .slice A1 n1 m1] 250)
  rw [show (w.alloc (.cells #[.int .u8 s0, .int .i64 a0, .int .i64 b0, .int .i64 c0, .int .i64 d0, .int .i64 e0, .slice A0 n0 m0] 250)).heap.size = w.heap.size + 1 by simp] at hT1
  have hT0 := ((Ext.refl (w.alloc (.cells #[.int .u8 s0, .int .i64 a0, .int .i64 b0, .int .i64 c0, .int .i64 d0, .int .i64 e0, .slice A0 n0 m0] 250))).alloc (.cells #[.int .u8 s1, .int .i64 a1, .int .i64 b1, .int .i64 c1, .int .i64 d1, .int .i64 e1, .slice A1 n1 m1] 250)).block _ (by simp) |>.trans hT0
  obtain ⟨i0, i1, i2, i3, i4, i5, i6⟩ := held_cells hT0
  obtain ⟨j0, j1, j2, j3, j4, j5, j6⟩ := held_cells hT1
  have HX := Lib.hid hE
  have H0 := Lib.hid (h0.ext hE)
  have H1 := Lib.hid (h1.ext hE)
  clear hT0 hT1 hE hE0 h0 h1
  by_cases hs : s0 = 1
  · subst hs
    by_cases hd : d0 = d1
    · subst hd
      go_enter Tryz.func179, Tryz.ntmps179
      go_wp2_with fail
      refine (equal_by _ _ x y _ _ _ _ _ H0.out H1.out).mono ?_
      rintro e w1 ⟨rfl, rfl⟩
      go_wp2_with fail
      go_ret
      exact ⟨by simp, HX.out⟩
    · have hd1 : (d0 == d1) = false := by simpa using hd
      have HD : Hid (decide (d0 = d1) = false) := Lib.hid (decide_eq_false hd)
      clear hd
      go_enter Tryz.func179, Tryz.ntmps179
      go_wp2_with fail
      go_ret
      exact ⟨by rw [HD.out]; rfl, HX.out⟩
  · have hs1 : (s0 == 1) = false := by simpa using hs
    have HS : Hid (decide (s0 = 1) = false) := Lib.hid (decide_eq_false hs)
    clear hs
    go_enter Tryz.func179, Tryz.ntmps179
    go_wp2_with fail
    go_ret
    exact ⟨by rw [HS.out]; rfl, HX.out⟩
end
end Go.Proofs.YtgcinagkbdcgiaaGreatDoor
