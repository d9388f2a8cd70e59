/-
  The contracts of the tag functions that reckon sectors: start, First, All, Where.
-/
import Derived.Test.YtgcinagkbdcgiaaGreatDoorM00
import Derived.Test.YtgcinagkbdcgiaaGreatDoorM01
import Derived.Test.YtgcinagkbdcgiaaGreatDoorM03
import Derived.Test.YtgcinagkbdcgiaaGreatDoorM04
import Derived.Test.YtgcinagkbdcgiaaGreatDoorM06
import Derived.Test.YtgcinagkbdcgiaaGreatDoorM07
import Derived.Test.YtgcinagkbdcgiaaGreatDoorM08
import Derived.Test.YtgcinagkbdcgiaaGreatDoorM09
import Derived.Test.YtgcinagkbdcgiaaGreatDoorM10
import Derived.Test.YtgcinagkbdcgiaaGreatDoorM11
import Derived.Laws.AppendOwnNone
import Derived.Laws.OwnMore
import Derived.Deep.RegionHeld3
import Derived.Test.YtgcinagkbdcgiaaGreatDoorProg
import Derived.WalkKit
import Derived.WalkSpells
import Derived.BigQuiet
import Derived.Lib.Hide
import Derived.Laws.BitsAllLaws
import Derived.Laws.IdiomStrings
import Derived.Laws.BytesString
namespace Go.Proofs.YtgcinagkbdcgiaaGreatDoor
set_option maxRecDepth 100000
section
open Go Go.RowKit
set_option maxHeartbeats 800000 in
theorem start_any (r : Nat) (w : World) (hL : LaidT w) (hr : r ≤ 6) :
    Calls Tryz.prog 129 #[.int .i64 r] w fun e w' => e = .returned (.int .i64 (beg r)) ∧ Ext w w' := by
  have HL := Lib.hid hL
  clear hL
  go_enter Tryz.func129, Tryz.ntmps129
  go_wp2_with fail
  go_loopw [3, 6] (fun b i wr => ∃ k : Nat, k ≤ r ∧ i = .int .i64 k ∧ b = .int .i64 (beg k) ∧ Hid (Ext w wr)) (fun _ i _ => r - (intOf i).toNat)
  case atStart => exact ⟨0, Nat.zero_le _, rfl, rfl, Lib.hid (Ext.refl w)⟩
  case round =>
    obtain ⟨k, hk, rfl, rfl, HX⟩ := hrel
    by_cases hlt : k < r
    · have HB := Lib.hid (beg_next k (by omega))
      have hb := beg_le k
      have hp := plc_wid k
      go_wp2_with fail
      refine (find_any k _ (HL.out.ext HX.out)).mono ?_
      rintro e w1 ⟨rfl, hx⟩
      have HX := Lib.hid (HX.out.trans hx)
      clear hx
      go_wp2_with fail
      refine (sectors_any _ _ _ (by omega)).mono ?_
      rintro e w2 ⟨rfl, hx⟩
      have HX := Lib.hid (HX.out.trans hx)
      clear hx
      go_wp2_with fail
      go_roundw
      case rel => exact ⟨k + 1, by omega, by go_num, by rw [show ((k + 1 : Nat) : Int) = (k : Int) + 1 from rfl, HB.out]; go_num, HX⟩
      case measure => simp [intOf]; omega
    · have HK : Hid (k = r) := Lib.hid (by omega)
      go_wp2_with fail
      go_ret
      exact ⟨by rw [HK.out]; rfl, HX.out⟩
theorem all_any (w : World) (hL : LaidT w) :
    Calls Tryz.prog 55 #[] w fun e w' => e = .returned (.int .i64 156) ∧ Ext w w' := by
  have HL := Lib.hid hL
  clear hL
  go_enter Tryz.func55, Tryz.ntmps55
  go_wp2_with fail
  refine (start_any 6 _ HL.out (by omega)).mono ?_
  rintro e w1 ⟨rfl, hx⟩
  have HX := Lib.hid hx
  clear hx
  go_wp2_with fail
  go_ret
  exact ⟨rfl, HX.out⟩
theorem first_any (r p : Int) (w : World) (hL : LaidT w) :
    Calls Tryz.prog 52 #[.int .i64 r, .int .i64 p] w fun e w' => e = .returned (.int .i64 (firstS r p)) ∧ Ext w w' := by
  have HL := Lib.hid hL
  clear hL
  by_cases h0 : p < 0
  · have HF := Lib.hid (firstS_no (r := r) (p := p) (by omega))
    go_enter Tryz.func52, Tryz.ntmps52
    go_wp2_with fail
    go_ret
    exact ⟨by rw [HF.out]; rfl, Ext.refl w⟩
  by_cases h1 : (plc r : Int) ≤ p
  · have HF := Lib.hid (firstS_no (r := r) (p := p) (by omega))
    go_enter Tryz.func52, Tryz.ntmps52
    go_wp2_with fail
    refine (places_any r _ HL.out).mono ?_
    rintro e w1 ⟨rfl, hx⟩
    have HX := Lib.hid hx
    clear hx
    go_wp2_with fail
    go_ret
    exact ⟨by rw [HF.out]; rfl, HX.out⟩
  have hr := plc_some (r := r) (by omega)
  obtain ⟨r, rfl⟩ := Int.eq_ofNat_of_zero_le (show 0 ≤ r by omega)
  have HF := Lib.hid (firstS_yes (r := r) (p := p) (by omega))
  have hb := beg_le r
  have hpl := plc_le r
  have hw0 := wid_le r
  have h2 : 0 ≤ p * (wid r : Int) := Int.mul_nonneg (by omega) (by omega)
  have h3 : p * (wid r : Int) ≤ 48 * 2 := Int.mul_le_mul (by omega) (by omega) (by omega) (by omega)
  go_enter Tryz.func52, Tryz.ntmps52
  go_wp2_with fail
  refine (places_any r _ HL.out).mono ?_
  rintro e w1 ⟨rfl, hx⟩
  have HX := Lib.hid hx
  clear hx
  go_wp2_with fail
  refine (start_any r _ (HL.out.ext HX.out) (by omega)).mono ?_
  rintro e w2 ⟨rfl, hx⟩
  have HX := Lib.hid (HX.out.trans hx)
  clear hx
  go_wp2_with fail
  refine (wide_any r _ (HL.out.ext HX.out)).mono ?_
  rintro e w3 ⟨rfl, hx⟩
  have HX := Lib.hid (HX.out.trans hx)
  clear hx
  go_wp2_with fail
  go_ret
  exact ⟨by rw [HF.out]; rfl, HX.out⟩
end
section
open Go Go.RowKit
theorem isHurt_of {w : World} {d : Nat} {F : Nat → Prop} {m : DM} (h : PDisk w d F m) (s : Int) :
    Calls Tryz.prog 200 #[.pointer (some ⟨d, 0, none⟩), .int .i64 s] w fun e w' => e = .returned (.bool (m.hurt s)) ∧ Ext w w' := by
  have H := Lib.hid h
  have hr := rest_pd h s
  obtain ⟨l, hl⟩ : ∃ l, (m.at_ s).1 = l := ⟨_, rfl⟩
  obtain ⟨lb, hlb⟩ : ∃ lb, (m.at_ s).2.1 = lb := ⟨_, rfl⟩
  obtain ⟨E, hE⟩ : ∃ E, (m.at_ s).2.2 = E := ⟨_, rfl⟩
  obtain ⟨l2, hl2⟩ : ∃ l, (m.means s).1 = l := ⟨_, rfl⟩
  obtain ⟨E2, hE2⟩ : ∃ E, (m.means s).2 = E := ⟨_, rfl⟩
  have HH : Hid (m.hurt s = (lb || !decide (l = l2))) := Lib.hid (by unfold DM.hurt; rw [hl, hlb, hl2])
  have hm : ∀ w', Ext w w' → Calls Tryz.prog 245 #[.pointer (some ⟨d, 0, none⟩), .int .i64 s] w' fun e w'' => ∃ A n, e = .returned (.tuple #[.slice A n n, .int .i64 E2]) ∧ New w'.heap.size w'' A n l2 ∧ Ext w' w'' := fun w' hx => by
    have := meant_pd (h.ext hx) s
    rwa [hl2, hE2] at this
  rw [hl, hlb, hE] at hr
  have HR := Lib.hid hr
  have HM := Lib.hid hm
  clear h hr hl hlb hE hl2 hE2 hm H
  go_enter Tryz.func200, Tryz.ntmps200
  go_wp2_with fail
  refine HR.out.mono ?_
  rintro e w1 ⟨A, n, rfl, hnew, hx⟩
  have HB := Lib.hid hnew.by
  have HX := Lib.hid hx
  clear hnew hx
  go_wp2_with fail
  refine (HM.out _ HX.out).mono ?_
  rintro e w2 ⟨A2, n2, rfl, hnew, hx⟩
  have HB2 := Lib.hid hnew.by
  have HB := Lib.hid (HB.out.ext hx)
  have HX := Lib.hid (HX.out.trans hx)
  clear hnew hx
  cases lb with
  | true =>
    go_wp2_with fail
    go_ret
    exact ⟨by rw [HH.out]; rfl, HX.out⟩
  | false =>
    go_wp2_with fail
    refine (equal_by A A2 l l2 n n2 n n2 _ HB.out HB2.out).mono ?_
    rintro e w3 ⟨rfl, rfl⟩
    go_wp2_with fail
    go_ret
    exact ⟨by rw [HH.out]; rfl, HX.out⟩
def Sized (w : World) (p : Option Addr) (sz : Nat) : Prop := ∀ w', Ext w w' → Calls Tryz.prog 54 #[.pointer p] w' fun e w'' => e = .returned (.int .i64 (sz : Nat)) ∧ w' = w''
theorem Sized.ext {w w' : World} {p : Option Addr} {sz : Nat} (h : Sized w p sz) (k : Ext w w') : Sized w' p sz := fun _ hx => h _ (k.trans hx)
theorem Sized.of {w : World} {d : Nat} {F : Nat → Prop} {m : DM} (h : PDisk w d F m) : Sized w (some ⟨d, 0, none⟩) m.size := fun _ hx => size_pd (h.ext hx)
theorem gknown_of {w : World} {p : Option Addr} {sz : Nat} (hS : Sized w p sz) (hL : LaidT w) (r : Int) :
    Calls Tryz.prog 117 #[.pointer p, .int .i64 r] w fun e w' => e = .returned (.int .i64 (knownG sz r)) ∧ Ext w w' := by
  have HS := Lib.hid hS
  have HL := Lib.hid hL
  clear hS hL
  by_cases h0 : sz = 0
  · have HE : Hid (knownG sz r = 1) := Lib.hid (by unfold knownG; rw [if_pos h0])
    have h1 : ((sz : Int) == 0) = true := by simp [h0]
    clear h0
    go_enter Tryz.func117, Tryz.ntmps117
    go_wp2_with fail
    refine (HS.out _ (Ext.refl _)).mono ?_
    rintro e w1 ⟨rfl, rfl⟩
    go_wp2_with fail
    go_ret
    exact ⟨by rw [HE.out]; rfl, Ext.refl _⟩
  have h1 : ((sz : Int) == 0) = false := by simp; omega
  obtain ⟨E, hE⟩ : ∃ E, knownG sz r = E := ⟨_, rfl⟩
  have HE := Lib.hid hE
  by_cases h2 : sz < 156
  · have hE2 : knownG sz r = 2 := by unfold knownG; rw [if_neg h0, if_pos (.inl h2)]
    rw [hE2] at hE
    subst hE
    clear hE2 h0
    go_enter Tryz.func117, Tryz.ntmps117
    go_wp2_with fail
    refine (HS.out _ (Ext.refl _)).mono ?_
    rintro e w1 ⟨rfl, rfl⟩
    go_wp2_with fail
    refine (HS.out _ (Ext.refl _)).mono ?_
    rintro e w1 ⟨rfl, rfl⟩
    go_wp2_with fail
    refine (all_any _ HL.out).mono ?_
    rintro e w1 ⟨rfl, hx⟩
    have HX := Lib.hid hx
    clear hx
    go_wp2_with fail
    go_ret
    exact ⟨by rw [HE.out]; rfl, HX.out⟩
  by_cases h3 : r < 0
  · have hE2 : knownG sz r = 2 := by unfold knownG; rw [if_neg h0, if_pos (.inr (.inl h3))]
    rw [hE2] at hE
    subst hE
    clear hE2 h0
    go_enter Tryz.func117, Tryz.ntmps117
    go_wp2_with fail
    refine (HS.out _ (Ext.refl _)).mono ?_
    rintro e w1 ⟨rfl, rfl⟩
    go_wp2_with fail
    refine (HS.out _ (Ext.refl _)).mono ?_
    rintro e w1 ⟨rfl, rfl⟩
    go_wp2_with fail
    refine (all_any _ HL.out).mono ?_
    rintro e w1 ⟨rfl, hx⟩
    have HX := Lib.hid hx
    clear hx
    go_wp2_with fail
    go_ret
    exact ⟨by rw [HE.out]; rfl, HX.out⟩
  by_cases h4 : 7 ≤ r
  · have hE2 : knownG sz r = 2 := by unfold knownG; rw [if_neg h0, if_pos (.inr (.inr h4))]
    rw [hE2] at hE
    subst hE
    clear hE2 h0
    go_enter Tryz.func117, Tryz.ntmps117
    go_wp2_with fail
    refine (HS.out _ (Ext.refl _)).mono ?_
    rintro e w1 ⟨rfl, rfl⟩
    go_wp2_with fail
    refine (HS.out _ (Ext.refl _)).mono ?_
    rintro e w1 ⟨rfl, rfl⟩
    go_wp2_with fail
    refine (all_any _ HL.out).mono ?_
    rintro e w1 ⟨rfl, hx⟩
    have HX := Lib.hid hx
    clear hx
    go_wp2_with fail
    go_ret
    exact ⟨by rw [HE.out]; rfl, HX.out⟩
  · have hE2 : knownG sz r = 0 := by unfold knownG; rw [if_neg h0, if_neg (by omega)]
    rw [hE2] at hE
    subst hE
    clear hE2 h0
    go_enter Tryz.func117, Tryz.ntmps117
    go_wp2_with fail
    refine (HS.out _ (Ext.refl _)).mono ?_
    rintro e w1 ⟨rfl, rfl⟩
    go_wp2_with fail
    refine (HS.out _ (Ext.refl _)).mono ?_
    rintro e w1 ⟨rfl, rfl⟩
    go_wp2_with fail
    refine (all_any _ HL.out).mono ?_
    rintro e w1 ⟨rfl, hx⟩
    have HX := Lib.hid hx
    clear hx
    go_wp2_with fail
    go_ret
    exact ⟨by rw [HE.out]; rfl, HX.out⟩
theorem gplace_of {w : World} {p : Option Addr} {sz : Nat} (hS : Sized w p sz) (hL : LaidT w) (r g pl : Int) :
    Calls Tryz.prog 121 #[.pointer p, .int .i64 r, .int .i64 g, .int .i64 pl] w fun e w' => e = .returned (.int .i64 (placeG sz r g pl)) ∧ Ext w w' := by
  have hk := gknown_of hS hL r
  have HL := Lib.hid hL
  obtain ⟨E, hE⟩ : ∃ E, knownG sz r = E := ⟨_, rfl⟩
  rw [hE] at hk
  have HK := Lib.hid hk
  clear hS hL hk
  by_cases h0 : E = 0
  · subst h0
    by_cases h1 : firstS g pl < 0
    · have HP : Hid (placeG sz r g pl = 2) := Lib.hid (by unfold placeG; rw [hE, if_neg (by simp), if_pos h1])
      clear hE
      go_enter Tryz.func121, Tryz.ntmps121
      go_wp2_with fail
      refine HK.out.mono ?_
      rintro e w1 ⟨rfl, hx⟩
      have HX := Lib.hid hx
      clear hx
      go_wp2_with fail
      refine (first_any g pl _ (HL.out.ext HX.out)).mono ?_
      rintro e w2 ⟨rfl, hx⟩
      have HX := Lib.hid (HX.out.trans hx)
      clear hx
      go_wp2_with fail
      go_ret
      exact ⟨by rw [HP.out]; rfl, HX.out⟩
    · have HP : Hid (placeG sz r g pl = 0) := Lib.hid (by unfold placeG; rw [hE, if_neg (by simp), if_neg h1])
      clear hE
      go_enter Tryz.func121, Tryz.ntmps121
      go_wp2_with fail
      refine HK.out.mono ?_
      rintro e w1 ⟨rfl, hx⟩
      have HX := Lib.hid hx
      clear hx
      go_wp2_with fail
      refine (first_any g pl _ (HL.out.ext HX.out)).mono ?_
      rintro e w2 ⟨rfl, hx⟩
      have HX := Lib.hid (HX.out.trans hx)
      clear hx
      go_wp2_with fail
      go_ret
      exact ⟨by rw [HP.out]; rfl, HX.out⟩
  · have HP : Hid (placeG sz r g pl = E) := Lib.hid (by unfold placeG; rw [hE, if_pos h0])
    have hne : (E != 0) = true := by simpa using h0
    clear hE h0
    go_enter Tryz.func121, Tryz.ntmps121
    go_wp2_with fail
    refine HK.out.mono ?_
    rintro e w1 ⟨rfl, hx⟩
    have HX := Lib.hid hx
    clear hx
    go_wp2_with fail
    go_ret
    exact ⟨by rw [HP.out]; rfl, HX.out⟩
end
section
open Go Go.RowKit Go.ChangeShapes Go.WideShapes Go.Deep
structure Act6 where
  sl : Bool := false
  ta : Int := 0
  tb : Int := 0
  tc : Int := 0
  td : Int := 0
  te : Int := 0
  bA : Option Addr := none
  bn : Nat := 0
  bc : Nat := 0
  bl : List Nat := []
  act : Act5 := {}
instance : Inhabited Act6 := ⟨{}⟩
def Act6.cells (x : Act6) : List Value := [.bool x.sl, .int .i64 x.ta, .int .i64 x.tb, .int .i64 x.tc, .int .i64 x.td, .int .i64 x.te, .slice x.bA x.bn x.bc, .int .u8 (x.act.kind : Int), .int .i64 x.act.sec, .int .i64 x.act.num, .slice x.act.bA x.act.bn x.act.bc, .slice x.act.kA x.act.kn x.act.kc]
structure Act6.Ok (x : Act6) (w : World) (B : Nat) : Prop where
  body : Bs w B x.bA x.bn x.bc x.bl
  act : x.act.Ok w B
theorem Act6.Ok.below {a : Act6} {w w' : World} {B : Nat} (h : a.Ok w B) (hb : Below B w w') : a.Ok w' B := ⟨h.body.below hb, h.act.below hb⟩
theorem Act6.Ok.more {a : Act6} {w : World} {B B' : Nat} (h : a.Ok w B) (hB : B ≤ B') : a.Ok w B' := ⟨h.body.more hB, h.act.more hB⟩
structure Acts6 (w : World) (B : Nat) (A : Option Addr) (n c : Nat) (l : List Act6) : Prop where
  len : l.length = n
  cap : n ≤ c
  most : c ≤ 9223372036854775807
  each : ∀ a ∈ l, a.Ok w B
  rd : 0 < n → ∃ g o, A = some ⟨g, o, none⟩ ∧ g < B ∧ ∀ j a, l[j]? = some a → ∀ k v, a.cells[k]? = some v → w.cell? ⟨g, o + (j * 12 + k), none⟩ = some v
  nil_ : A = none → c = 0
theorem Acts6.below {w w' : World} {B : Nat} {A : Option Addr} {n c : Nat} {l : List Act6} (h : Acts6 w B A n c l) (hb : Below B w w') : Acts6 w' B A n c l :=
  ⟨h.len, h.cap, h.most, fun a ha => (h.each a ha).below hb, fun hn => by
    obtain ⟨g, o, e, hg, hc⟩ := h.rd hn
    exact ⟨g, o, e, hg, fun j a ha k v hv => (hb.cell (p := ⟨g, o + (j * 12 + k), none⟩) hg).trans (hc j a ha k v hv)⟩, h.nil_⟩
theorem Acts6.more {w : World} {B B' : Nat} {A : Option Addr} {n c : Nat} {l : List Act6} (h : Acts6 w B A n c l) (hB : B ≤ B') : Acts6 w B' A n c l :=
  ⟨h.len, h.cap, h.most, fun a ha => (h.each a ha).more hB, fun hn => by
    obtain ⟨g, o, e, hg, hc⟩ := h.rd hn
    exact ⟨g, o, e, by omega, hc⟩, h.nil_⟩
def Cells12 (w : World) (g o : Nat) (x : Act6) : Prop :=
  w.cell? ⟨g, o, none⟩ = some (.bool x.sl) ∧ w.cell? ⟨g, o + 1, none⟩ = some (.int .i64 x.ta) ∧ w.cell? ⟨g, o + 2, none⟩ = some (.int .i64 x.tb) ∧ w.cell? ⟨g, o + 3, none⟩ = some (.int .i64 x.tc) ∧ w.cell? ⟨g, o + 4, none⟩ = some (.int .i64 x.td) ∧ w.cell? ⟨g, o + 5, none⟩ = some (.int .i64 x.te) ∧
  w.cell? ⟨g, o + 6, none⟩ = some (.slice x.bA x.bn x.bc) ∧ w.cell? ⟨g, o + 7, none⟩ = some (.int .u8 (x.act.kind : Int)) ∧ w.cell? ⟨g, o + 8, none⟩ = some (.int .i64 x.act.sec) ∧ w.cell? ⟨g, o + 9, none⟩ = some (.int .i64 x.act.num) ∧
  w.cell? ⟨g, o + 10, none⟩ = some (.slice x.act.bA x.act.bn x.act.bc) ∧ w.cell? ⟨g, o + 11, none⟩ = some (.slice x.act.kA x.act.kn x.act.kc)
theorem Cells12.below {w w' : World} {B g o : Nat} {x : Act6} (h : Cells12 w g o x) (hb : Below B w w') (hg : g < B) : Cells12 w' g o x := by
  obtain ⟨h0, h1, h2, h3, h4, h5, h6, h7, h8, h9, h10, h11⟩ := h
  exact ⟨(hb.cell (p := ⟨g, o, none⟩) hg).trans h0, (hb.cell (p := ⟨g, o + 1, none⟩) hg).trans h1, (hb.cell (p := ⟨g, o + 2, none⟩) hg).trans h2, (hb.cell (p := ⟨g, o + 3, none⟩) hg).trans h3, (hb.cell (p := ⟨g, o + 4, none⟩) hg).trans h4, (hb.cell (p := ⟨g, o + 5, none⟩) hg).trans h5,
    (hb.cell (p := ⟨g, o + 6, none⟩) hg).trans h6, (hb.cell (p := ⟨g, o + 7, none⟩) hg).trans h7, (hb.cell (p := ⟨g, o + 8, none⟩) hg).trans h8, (hb.cell (p := ⟨g, o + 9, none⟩) hg).trans h9, (hb.cell (p := ⟨g, o + 10, none⟩) hg).trans h10, (hb.cell (p := ⟨g, o + 11, none⟩) hg).trans h11⟩
theorem Acts6.at_ {w : World} {B : Nat} {A : Option Addr} {n c : Nat} {l : List Act6} (h : Acts6 w B A n c l) {j : Nat} (hj : j < n) : ∃ g o a, A = some ⟨g, o, none⟩ ∧ g < B ∧ l[j]? = some a ∧ a.Ok w B ∧ Cells12 w g (o + j * 12) a := by
  obtain ⟨g, o, e, hg, hc⟩ := h.rd (by omega)
  have hj' : j < l.length := by rw [h.len]; exact hj
  have ha : l[j]? = some l[j] := List.getElem?_eq_getElem hj'
  have cell := fun (k : Nat) (v : Value) (hv : (l[j]).cells[k]? = some v) => hc j _ ha k v hv
  exact ⟨g, o, l[j], e, hg, ha, h.each _ (List.getElem_mem hj'), cell 0 _ rfl, cell 1 _ rfl, cell 2 _ rfl, cell 3 _ rfl, cell 4 _ rfl, cell 5 _ rfl, cell 6 _ rfl, cell 7 _ rfl, cell 8 _ rfl, cell 9 _ rfl, cell 10 _ rfl, cell 11 _ rfl⟩
section
variable {H : Type} {enc : TypeId × Value → H} {P : Program} {w : World} {base : Nat} {spare : Nat → Bool} {held : Bool}
end
end
section
open Go Go.RowKit
theorem Act5.Ok.ext {a : Act5} {w w' : World} (h : a.Ok w w.heap.size) (k : Ext w w') : a.Ok w' w'.heap.size := (h.below k).more k.size
end
section
open Go Go.RowKit
structure DK (w0 w : World) (d : Nat) (F : Nat → Prop) (m : DM) : Prop where
  disk : PDisk w d F m
  low : ∀ k, F k → w0.heap.size ≤ k
  bel : Ext w0 w
theorem DK.ext {w0 w w' : World} {d : Nat} {F : Nat → Prop} {m : DM} (h : DK w0 w d F m) (k : Ext w w') : DK w0 w' d F m := ⟨h.disk.ext k, h.low, h.bel.trans k⟩
theorem DK.step {w0 w w' : World} {d : Nat} {F : Nat → Prop} {m m' : DM} (h : DK w0 w d F m) (hp : PDisk w' d (grow F w w') m') (hm : Mod F w w') : DK w0 w' d (grow F w w') m' :=
  ⟨hp, fun k hk => hk.elim (h.low k) fun h2 => Nat.le_trans h.bel.size h2.1, Below.mod h.bel hm h.bel.size h.low⟩
theorem DK.mod {w0 w w' : World} {d : Nat} {F G : Nat → Prop} {m : DM} (h : DK w0 w d F m) (hm : Mod G w w') (hG : ∀ k, F k → ¬ G k) (hl : ∀ k, G k → w0.heap.size ≤ k) : DK w0 w' d F m :=
  ⟨h.disk.mod hm hG, h.low, Below.mod h.bel hm h.bel.size hl⟩
theorem DK.vs {w0 w : World} {d : Nat} {F : Nat → Prop} {m : DM} (h : DK w0 w d F m) {A : Option Addr} {n c : Nat} {vs : List Value} (hv : Vs w0 w0.heap.size A n c vs) : 0 < n → Off F A := fun hn p hp hf => by
  obtain ⟨g, o, e, hg, _⟩ := hv.rd hn
  rw [e] at hp
  injection hp with hp
  subst hp
  have := h.low _ hf
  have hg' : g < w0.heap.size := hg
  have : w0.heap.size ≤ g := this
  omega
theorem DK.old {w0 w : World} {d : Nat} {F : Nat → Prop} {m : DM} (h : DK w0 w d F m) {A : Option Addr} (hA : ∀ p, A = some p → p.block < w0.heap.size) : Off F A := fun p hp hf => by
  have := hA p hp
  have := h.low _ hf
  omega
end
section
open Go Go.RowKit
theorem u8_size (w : World) : (sizeOf (Tryz.prog.elem 45)).run Tryz.prog w = .ok 1 w := by
  have ht : Tryz.prog.elem 45 = 5 := by kernel_rfl
  obtain ⟨i0, hi, _, hz1, _⟩ := info_parts byte_info
  rw [ht]
  simp [Go.sizeOf, typeInfo, hi, hz1]
theorem cut_mid (g o n cp l h : Nat) (hl : l < cp) (hlh : l ≤ h) (hh : h ≤ cp) (w : World) : (Instr.slice 45 (.slice (some ⟨g, o, none⟩) n cp) (some (.int .i64 (l : Int))) (some (.int .i64 (h : Int))) none).run Tryz.prog w = .ok (.slice (some ⟨g, o + l, none⟩) (h - l) (cp - l)) w := by
  have ht : Tryz.prog.elem 45 = 5 := by kernel_rfl
  rw [run_slice_lh w 45 (some ⟨g, o, none⟩) n cp (by rw [ht]; exact Tryz.underlying45) .i64 .i64 (l : Int) (h : Int) (by omega) (by omega) (by omega), u8_size]
  simp only [Result.andThen, sliced, Int.toNat_natCast, Nat.mul_one]
  rw [if_neg (by omega)]
  simp [Addr.add]
def zrow (k : Nat) : Obj := .cells (madeCells #[.int .u8 0] k) 5
theorem mk_zeros (k : Nat) (hk : k ≤ 1000) (w : World) : (Instr.makeSlice 45 (.int .i64 (k : Int)) (.int .i64 (k : Int))).run Tryz.prog w = .ok (.slice (some ⟨w.heap.size, 0, none⟩) k k) (w.alloc (zrow k)) := by
  obtain ⟨i0, hi, hz0, hz1, hz2⟩ := info_parts byte_info
  rw [run_make w 45 5 i0 (.int .u8 0) Tryz.underlying45 hi hz0 .i64 .i64 (k : Int) (k : Int) (by omega) (Int.le_refl _) (by rw [hz2]; omega) (by omega), hz1, Int.toNat_natCast, Nat.mul_one]
  rfl
end
section
open Go Go.RowKit
theorem sealE_zero {a b c d e s : Int} {n : Nat} : sealE a b c d e n s = 0 ↔ roomN s ≠ 0 ∧ mayB a b c d e = true ∧ n ≤ roomN s := by
  constructor
  · intro h
    by_cases h1 : roomN s = 0 ∨ mayB a b c d e = false
    · rw [sealE_arg h1] at h; cases h
    · have h0 : roomN s ≠ 0 := fun hh => h1 (.inl hh)
      have hm : mayB a b c d e = true := by
        by_cases hm : mayB a b c d e = true
        · exact hm
        · exact absurd (.inr (by simpa using hm)) h1
      refine ⟨h0, hm, ?_⟩
      rcases Nat.lt_or_ge (roomN s) n with h2 | h2
      · rw [sealE_long h0 hm h2] at h; cases h
      · exact h2
  · rintro ⟨h0, hm, hn⟩
    exact sealE_yes h0 hm hn
theorem sealL_len {a b c d e s : Int} {body : List Nat} (h : sealE a b c d e body.length s = 0) : (sealL a b c d e body s).length = 64 * s.toNat ∧ 1 ≤ s ∧ s ≤ 2 := by
  obtain ⟨h0, hm, hn⟩ := sealE_zero.1 h
  obtain ⟨S, rfl⟩ := Int.eq_ofNat_of_zero_le (show 0 ≤ s by have := roomN_pos (s := s) (by omega); omega)
  have hfit := room_fits hn (by omega)
  rw [sealL_yes h, Int.toNat_natCast, frameL_len (by rw [pl_yes hm, tagBytes_len]) (by omega) (by omega)]
  omega
theorem sealL_good {a b c d e s : Int} {body : List Nat} (h : sealE a b c d e body.length s = 0) : goodB (sealL a b c d e body s) = true ∧ obl (sealL a b c d e body s) = body ∧ (ofl (sealL a b c d e body s) 0 : Int) = a ∧ (ofl (sealL a b c d e body s) 1 : Int) = b ∧ (ofl (sealL a b c d e body s) 2 : Int) = c ∧ (ofl (sealL a b c d e body s) 3 : Int) = d ∧ (ofl (sealL a b c d e body s) 4 : Int) = e := by
  obtain ⟨h0, hm, hn⟩ := sealE_zero.1 h
  obtain ⟨S, rfl⟩ := Int.eq_ofNat_of_zero_le (show 0 ≤ s by have := roomN_pos (s := s) (by omega); omega)
  obtain ⟨a, b, c, d, e, rfl, rfl, rfl, rfl, rfl⟩ := may_nat hm
  have hb88 := roomN_le (S : Int)
  rw [sealL_yes h, Int.toNat_natCast, pl_yes hm]
  simp only [Int.toNat_natCast]
  have hg := seal_good (S := S) hm hn (by omega)
  have hr := (PV_tag hm).2
  rw [ofl_yes hg, ofl_yes hg, ofl_yes hg, ofl_yes hg, ofl_yes hg, obl_yes hg, read_tag (tagBytes_len a b c d e), read_body (tagBytes_len a b c d e) (by omega), hr 0 (by omega), hr 1 (by omega), hr 2 (by omega), hr 3 (by omega), hr 4 (by omega)]
  exact ⟨hg, rfl, rfl, rfl, rfl, rfl, rfl⟩
theorem sealL_lt {a b c d e s : Int} {body : List Nat} (hb : ∀ x ∈ body, x < 256) : ∀ x ∈ sealL a b c d e body s, x < 256 := by
  by_cases h : sealE a b c d e body.length s = 0
  · rw [sealL_yes h]
    refine frameL_lt hb ?_
    rw [pl_yes (sealE_zero.1 h).2.1]
    exact tagBytes_lt _ _ _ _ _
  · rw [sealL_no h]
    simp
end
section
open Go Go.RowKit
theorem By.piece {w : World} {g o n c : Nat} {l : List Nat} (h : By w (some ⟨g, o, none⟩) n c l) (k : Nat) (hk : k + 64 ≤ n) : By w (some ⟨g, o + k, none⟩) 64 (c - k) ((l.drop k).take 64) := by
  have hl := h.len
  have hc := h.cap
  refine ⟨by rw [List.length_take, List.length_drop]; omega, by omega, by have := h.most; omega, (h.rd.drop rfl k).take 64, fun e => by cases e⟩
structure Left (w0 w : World) (d : Nat) (F : Nat → Prop) (G : Nat → Prop) (v : World) (m : DM) : Prop where
  dk : DK w0 v d F m
  le : ∀ i, F i → G i
  mod : Mod G w v
theorem Left.step {w0 w v v' : World} {d : Nat} {F G : Nat → Prop} {m m' : DM} (h : Left w0 w d F G v m) (hG : ∀ i, v.heap.size ≤ i → G i) (hp : PDisk v' d (grow F v v') m') (hm : Mod F v v') : Left w0 w d (grow F v v') G v' m' :=
  ⟨h.dk.step hp hm, fun i hi => hi.elim (h.le i) fun hh => hG i hh.1, h.mod.trans hm fun i hi => .inl (h.le i hi)⟩
theorem Left.ext {w0 w v v' : World} {d : Nat} {F G : Nat → Prop} {m : DM} (h : Left w0 w d F G v m) (hx : Ext v v') : Left w0 w d F G v' m := ⟨h.dk.ext hx, h.le, h.mod.ext hx⟩
end
section
open Go Go.RowKit
theorem at_new {w : World} {d : Nat} {F : Nat → Prop} {m : DM} (h : PDisk w d F m) (s : Int) : (∀ b ∈ (m.at_ s).1, b < 256) ∧ (m.at_ s).1.length ≤ 64 := by
  obtain ⟨g, pv, hp, _, _⟩ := h
  exact ⟨sect_lt (at_sect hp.ok s), sect_len (at_sect hp.ok s)⟩
structure Gath (w0 w : World) (v : Value) (l : List Nat) (k : Nat) : Prop where
  own : w.ownsRow w0.heap.size 5 1 v l.length (vb l)
  lt : ∀ b ∈ l, b < 256
  few : l.length ≤ 64 * k
  ext : Ext w0 w
theorem Gath.start (w : World) : Gath w w (.slice none 0 0) [] 0 := ⟨World.ownsRow_nil _ _ _ _, fun b hb => (by cases hb), by simp, Ext.refl w⟩
theorem Gath.more {w0 w w' : World} {v : Value} {l : List Nat} {k : Nat} (h : Gath w0 w v l k) (hx : Ext w w') : Gath w0 w' v l k := ⟨own_ext h.own hx, h.lt, h.few, h.ext.trans hx⟩
theorem Gath.form {w0 w : World} {v : Value} {l : List Nat} {k : Nat} (h : Gath w0 w v l k) : ∃ A c, v = .slice A l.length c ∧ By w A l.length c l := by
  obtain ⟨A, c, rfl, _, _⟩ := own_form h.own
  exact ⟨A, c, rfl, Bs.of_own h.own h.lt⟩
theorem Gath.app {w0 w w' : World} {v v' : Value} {l l2 : List Nat} {k : Nat} (h : Gath w0 w v l k) (hg : w.grownBy w' v.ownBlock) (ho : w'.ownsRow w0.heap.size 5 1 v' (l.length + l2.length) (vb l ++ vb l2)) (hl : ∀ b ∈ l2, b < 256) (hn : l2.length ≤ 64) : Gath w0 w' v' (l ++ l2) (k + 1) := by
  refine ⟨by rw [List.length_append, vb_append]; exact ho, fun b hb => (List.mem_append.1 hb).elim (h.lt b) (hl b), ?_, Below.grown h.ext hg (Ext.size h.ext) (fun g hg' => (h.own.lt g hg').1)⟩
  have := h.few
  rw [List.length_append]
  omega
set_option maxHeartbeats 800000 in
theorem restBytes_of {w : World} {d : Nat} {F : Nat → Prop} {m : DM} (h : PDisk w d F m) (hL : LaidT w) (g p : Int) (hf : 0 ≤ firstS g p) :
    Calls Tryz.prog 202 #[.pointer (some ⟨d, 0, none⟩), .int .i64 g, .int .i64 p] w fun e w' => ∃ A n c l, e = .returned (.tuple #[.slice A n c, .bool (!m.lostB (firstS g p) (wid g))]) ∧ By w' A n c l ∧ (m.lostB (firstS g p) (wid g) = false → l = m.restL (firstS g p) (wid g)) ∧ Ext w w' := by
  obtain ⟨i0, hi, hz0, hz1, hz2⟩ := info_parts byte_info
  have hfb : firstS g p ≤ 300 := by
    have h1 := beg_le g
    have h2 := wid_le g
    by_cases hh : 0 ≤ p ∧ p < plc g
    · rw [firstS_yes hh]
      have := plc_le g
      have h3 : p * (wid g : Int) ≤ 48 * 2 := Int.mul_le_mul (by omega) (by omega) (by omega) (by omega)
      omega
    · rw [firstS_no hh]; omega
  have hw2 := wid_le g
  have H := Lib.hid h
  have HL := Lib.hid hL
  obtain ⟨S, hS⟩ : ∃ S, firstS g p = S := ⟨_, rfl⟩
  obtain ⟨W, hW⟩ : ∃ W, wid g = W := ⟨_, rfl⟩
  have HS := Lib.hid hS
  have HW := Lib.hid hW
  rw [hS] at hfb hf
  rw [hW] at hw2
  rw [hS, hW]
  clear h hL hS hW
  go_enter Tryz.func202, Tryz.ntmps202
  go_wp2_with fail
  refine (wide_any g _ HL.out).mono ?_
  rw [HW.out]
  rintro e w1 ⟨rfl, hx⟩
  have HG := Lib.hid ((Gath.start w).more hx)
  clear hx
  go_wp2_with fail
  go_loopw [8, 15] (fun b i wr => ∃ k : Nat, k ≤ W ∧ i = .int .i64 k ∧ Hid (Gath w wr b (m.restL S k) k) ∧ Hid (m.lostB S k = false)) (fun _ i _ => W - (intOf i).toNat)
  case atStart => exact ⟨0, Nat.zero_le _, rfl, HG, Lib.hid rfl⟩
  case round =>
    obtain ⟨k, hk, rfl, HG, HLO⟩ := hrel
    obtain ⟨A, c, rfl, hby⟩ := HG.out.form
    clear hby
    by_cases hlt : k < W
    · have hn := at_new H.out (S + (k : Int))
      have hm : (m.restL S (k + 1)) = m.restL S k ++ (m.at_ (S + (k : Int))).1 := rfl
      have HM := Lib.hid hm
      have HN := Lib.hid hn
      have hfew := HG.out.few
      have hlo : m.lostB S (k + 1) = (m.at_ (S + (k : Int))).2.1 := by
        have := anyIn_succ (fun s => (m.at_ s).2.1) S k
        have h2 : anyIn (fun s => (m.at_ s).2.1) S k = false := HLO.out
        rw [h2, Bool.false_or] at this
        exact this
      have hany : (m.at_ (S + (k : Int))).2.1 = true → m.lostB S W = true := fun hh => anyIn_iff.2 ⟨_, hh, by omega, by omega⟩
      have HLO2 := Lib.hid hlo
      have HANY := Lib.hid hany
      clear hm hn hlo hany
      generalize m.restL S k = L at *
      go_wp2_with fail
      refine (first_any g p _ (HL.out.ext HG.out.ext)).mono ?_
      rw [HS.out]
      rintro e w2 ⟨rfl, hx⟩
      have HG := Lib.hid (HG.out.more hx)
      clear hx
      go_wp2_with fail
      refine (rest_pd (H.out.ext HG.out.ext) (S + (k : Int))).mono ?_
      rintro e w3 ⟨A2, n2, rfl, hnew, hx⟩
      obtain rfl : n2 = (m.at_ (S + (k : Int))).1.length := hnew.len.symm
      have HB := Lib.hid hnew.by
      have HG := Lib.hid (HG.out.more hx)
      clear hx hnew
      generalize (m.at_ (S + (k : Int))).1 = L2 at *
      generalize (m.at_ (S + (k : Int))).2.2 = E2 at *
      generalize (m.at_ (S + (k : Int))).2.1 = lo at *
      cases lo with
      | true =>
        go_wp2_with fail
        refine bodyPost_ret (v := .tuple #[.slice none 0 0, .bool false]) (by simp [results, Tryz.results202, go_sem]) rfl ?_
        exact ⟨none, 0, 0, [], by rw [HANY.out (by trivial)]; rfl, By.nil_ _, fun hh => (by rw [HANY.out (by trivial)] at hh; cases hh), HG.out.ext⟩
      | false =>
        have hl2 := HN.out.2
        have hsz := HG.out.ext.size
        go_wp2_with (at_builtin; refine wpList_append_by rfl _ _ 45 rfl w.heap.size 5 i0 Tryz.underlying45 hi hz0 hz1 hz2 _ L.length (vb L) rfl HG.out.own A2 L2.length L2.length L2 rfl HB.out (by omega) hsz ?_)
        rintro v' w4 hown hgrow
        have HG := Lib.hid (HG.out.app hgrow hown HN.out.1 HN.out.2)
        clear hown hgrow
        go_wp2_with fail
        go_roundw
        case rel => exact ⟨k + 1, by omega, by go_num, by rw [HM.out]; exact HG, HLO2⟩
        case measure => simp [intOf]; omega
    · obtain rfl : k = W := by omega
      go_wp2_with fail
      obtain ⟨A', c', e, hby⟩ := HG.out.form
      injection e with e1 _ e3
      subst e1; subst e3
      refine bodyPost_ret (v := .tuple #[.slice A (m.restL S k).length c, .bool true]) (by simp [results, Tryz.results202, go_sem]) rfl ?_
      exact ⟨_, _, _, _, by rw [HLO.out]; rfl, hby, fun _ => rfl, HG.out.ext⟩
def DM.badB (m : DM) (r g p : Int) : Bool := m.lostB (firstS g p) (wid g) || decide (stM (m.restL (firstS g p) (wid g)) r g p = 2)
set_option maxHeartbeats 1600000 in
theorem isBad_of {w : World} {d : Nat} {F : Nat → Prop} {m : DM} (h : PDisk w d F m) (hL : LaidF w) (r g p : Int) (hf : 0 ≤ firstS g p) :
    Calls Tryz.prog 120 #[.pointer (some ⟨d, 0, none⟩), .int .i64 r, .int .i64 g, .int .i64 p] w fun e w' => e = .returned (.bool (m.badB r g p)) ∧ Ext w w' := by
  have hr := restBytes_of h hL.a.t g p hf
  obtain ⟨LB, hlb⟩ : ∃ LB, m.lostB (firstS g p) (wid g) = LB := ⟨_, rfl⟩
  obtain ⟨L, hl⟩ : ∃ L, m.restL (firstS g p) (wid g) = L := ⟨_, rfl⟩
  have HBB : Hid (m.badB r g p = (LB || decide (stM L r g p = 2))) := Lib.hid (by unfold DM.badB; rw [hlb, hl])
  rw [hlb, hl] at hr
  have HR := Lib.hid hr
  have HL := Lib.hid hL
  clear h hL hr hlb hl
  go_enter Tryz.func120, Tryz.ntmps120
  go_wp2_with fail
  refine HR.out.mono ?_
  rintro e w1 ⟨A, n, c, l, rfl, hb, hl, hx⟩
  have HX := Lib.hid hx
  have HB := Lib.hid hb
  have HLL := Lib.hid hl
  clear hx hb hl
  go_wp2_with fail
  refine (mine_any A n c l r g p _ (HL.out.ext HX.out) HB.out).mono ?_
  rintro e w2 ⟨A2, n2, rfl, _, hx⟩
  have HX := Lib.hid (HX.out.trans hx)
  clear hx
  cases LB with
  | true =>
    generalize stM l r g p = st at *
    generalize mfl l r g p = fl at *
    go_wp2_with fail
    refine bodyPost_ret (v := .bool true) (by simp [results, Tryz.results120, go_sem]) rfl ?_
    refine ⟨by rw [HBB.out]; rfl, ?_⟩
    exact HX.out.alloc _
  | false =>
    obtain rfl := HLL.out rfl
    have HD : Hid (((stM l r g p : Int) == 2) = decide (stM l r g p = 2)) := Lib.hid (by
      by_cases hh : stM l r g p = 2
      · simp [hh]
      · simp [hh]; omega)
    generalize stM l r g p = st at *
    generalize mfl l r g p = fl at *
    go_wp2_with fail
    refine bodyPost_ret (v := .bool ((st : Int) == 2)) (by simp [results, Tryz.results120, go_sem]) rfl ?_
    refine ⟨by rw [HBB.out, HD.out]; rfl, ?_⟩
    exact HX.out.alloc _
end
section
theorem write_size (m : DM) (s : Int) (b : List Nat) : (m.write s b).2.size = m.size := by
  unfold DM.write
  split
  · rfl
  · split
    · rfl
    · split <;> rfl
theorem flush_size (m : DM) : m.flush.2.size = m.size := by
  unfold DM.flush
  split
  · rfl
  · split
    · rfl
    · exact DM.comes_size _ _
structure NInv (m : DM) : Prop where
  ok : m.Ok
  same : ∀ i, m.rest.getD i [] = m.meant.getD i []
  none_ : ∀ i, m.lost.getD i false = false
theorem NInv.of_eq {m m' : DM} (h : NInv m) (hok : m'.Ok) (h1 : m'.rest = m.rest) (h2 : m'.meant = m.meant) (h3 : m'.lost = m.lost) : NInv m' :=
  ⟨hok, fun i => by rw [h1, h2]; exact h.same i, fun i => by rw [h3]; exact h.none_ i⟩
theorem NInv.comes {m : DM} (h : NInv m) {l : List (Nat × List Nat)} (hl : ∀ x ∈ l, x ∈ m.waits) : NInv (m.comes l) := by
  have g := comes_get l m h.ok fun x hx => (h.ok.waits x (hl x hx)).1
  refine ⟨DM.comes_ok l h.ok fun x hx => (h.ok.waits x (hl x hx)).2, fun i => ?_, fun i => ?_⟩
  · rw [(g i).1, (g i).2.1, h.same i]
  · rw [(g i).2.2, h.none_ i]
    split <;> rfl
theorem NInv.write {m : DM} (h : NInv m) (s : Int) {b : List Nat} (hb : ∀ x ∈ b, x < 256) : NInv (m.write s b).2 := by
  have hok := DM.write_ok h.ok s hb
  revert hok
  unfold DM.write
  split
  · intro _; exact h
  · split
    · intro _; exact h
    · split
      · intro hok; exact h.of_eq hok rfl rfl rfl
      · intro hok; exact h.of_eq hok rfl rfl rfl
theorem NInv.act {m : DM} (h : NInv m) (kind : Nat) (sec num : Int) {bytes : List Nat} (hb : ∀ x ∈ bytes, x < 256) (keep : List Bool) (hk : ¬ (3 ≤ kind % 9 ∧ kind % 9 ≤ 5)) : NInv (m.act kind sec num bytes keep).2 := by
  have hok := DM.act_ok h.ok kind sec num hb keep
  have h9 : kind % 9 < 9 := Nat.mod_lt _ (by omega)
  have hcase : kind % 9 = 0 ∨ kind % 9 = 1 ∨ kind % 9 = 2 ∨ kind % 9 = 6 ∨ kind % 9 = 7 ∨ kind % 9 = 8 := by omega
  unfold DM.act at hok ⊢
  rcases hcase with e | e | e | e | e | e
  · simp only [e] at hok ⊢
    revert hok
    unfold DM.flush
    split
    · intro _; exact h
    · split
      · intro hok; exact h.of_eq hok rfl rfl rfl
      · intro hok
        have h2 : NInv { m with power := lessP m.power } := h.of_eq ⟨h.ok.meant, h.ok.lost, h.ok.rests, h.ok.means, h.ok.waits, lessP_le h.ok.power⟩ rfl rfl rfl
        exact (h2.comes (l := m.waits) fun x hx => hx).of_eq hok rfl rfl rfl
  · simp only [e] at hok ⊢
    revert hok
    unfold DM.crash
    split
    · intro _; exact h
    · intro hok; exact (h.comes (l := kept m.waits keep) fun x hx => kept_mem hx).of_eq hok rfl rfl rfl
  · simp only [e] at hok ⊢
    revert hok
    unfold DM.start
    split
    · intro _; exact h
    · intro hok; exact h.of_eq hok rfl rfl rfl
  · simp only [e] at hok ⊢
    exact h.write sec (actB_lt hb)
  · simp only [e] at hok ⊢
    exact h.write sec (actB_lt hb)
  · simp only [e] at hok ⊢
    revert hok
    unfold DM.setPower
    split
    · intro _; exact h
    · split
      · intro _; exact h
      · intro hok; exact h.of_eq hok rfl rfl rfl
theorem NInv.hurt {m : DM} (h : NInv m) (s : Int) : m.hurt s = false := by
  unfold DM.hurt DM.at_ DM.means
  by_cases hh : m.has s = false
  · rw [if_pos hh, if_pos hh]; rfl
  · rw [if_neg hh, if_neg hh, h.none_, h.same]
    simp
theorem NInv.new (n : Nat) : NInv (DM.new n) := by
  refine ⟨DM.new_ok n, fun i => rfl, fun i => ?_⟩
  show (List.replicate n false).getD i false = false
  rw [List.getD_eq_getElem?_getD, List.getElem?_replicate]
  split <;> rfl
end
section
open Go Go.RowKit
def tagV (l : List Nat) (r g p : Int) : Value := .agg #[.int .i64 (mfl l r g p 0), .int .i64 (mfl l r g p 1), .int .i64 (mfl l r g p 2), .int .i64 (mfl l r g p 3), .int .i64 (mfl l r g p 4)]
end
section
open Go Go.RowKit
theorem seal_mine {a b c t e : Int} {s : Int} {body : List Nat} (h : sealE a b c t e body.length s = 0) : stM (sealL a b c t e body s) a b c = 1 ∧ tagV (sealL a b c t e body s) a b c = .agg #[.int .i64 a, .int .i64 b, .int .i64 c, .int .i64 t, .int .i64 e] ∧ mbl (sealL a b c t e body s) a b c = body ∧
    ((mfl (sealL a b c t e body s) a b c 0 : Nat) : Int) = a ∧ ((mfl (sealL a b c t e body s) a b c 1 : Nat) : Int) = b ∧ ((mfl (sealL a b c t e body s) a b c 2 : Nat) : Int) = c ∧ ((mfl (sealL a b c t e body s) a b c 3 : Nat) : Int) = t ∧ ((mfl (sealL a b c t e body s) a b c 4 : Nat) : Int) = e := by
  obtain ⟨hg, hb, q0, q1, q2, q3, q4⟩ := sealL_good h
  obtain ⟨e1, e2, e3⟩ := mine_yes hg ((mineB_iff hg).2 ⟨q0, q1, q2⟩)
  have f0 := e2 0
  have f1 := e2 1
  have f2 := e2 2
  have f3 := e2 3
  have f4 := e2 4
  refine ⟨e1, ?_, e3.trans hb, by rw [f0]; exact q0, by rw [f1]; exact q1, by rw [f2]; exact q2, by rw [f3]; exact q3, by rw [f4]; exact q4⟩
  unfold tagV
  rw [f0, f1, f2, f3, f4, q0, q1, q2, q3, q4]
end
section
open Go Go.RowKit
def bl (s : ByteArray) : List Nat := s.data.toList.map UInt8.toNat
end
section
open Go
structure Ent where
  k : Nat := 0
  cl : Int := 0
  sq : Int := 0
  ok : Nat := 0
  key : ByteArray := ByteArray.empty
  old : ByteArray := ByteArray.empty
  val : ByteArray := ByteArray.empty
instance : Inhabited Ent := ⟨{}⟩
end
section
open Go
structure Rec where
  st : Nat := 0
  ix : Int := 0
  bx : Int := 0
  yb : Int := 0
  wh : Int := 0
instance : Inhabited Rec := ⟨{}⟩
structure CopL where
  st : Nat := 0
  ix : Int := 0
  bx : Int := 0
  yb : Int := 0
  e : Ent := {}
instance : Inhabited CopL := ⟨{}⟩
def Rec.of (p : Rec) (i : Int) : Prop := p.st = 1 ∧ p.ix = i
def CopL.of (c : CopL) (i : Int) : Prop := c.st = 1 ∧ c.ix = i
def gtL (x y a b : Int) : Prop := a < x ∨ (a = x ∧ b < y)
instance (p : Rec) (i : Int) : Decidable (p.of i) := by unfold Rec.of; exact inferInstance
instance (c : CopL) (i : Int) : Decidable (c.of i) := by unfold CopL.of; exact inferInstance
instance (x y a b : Int) : Decidable (gtL x y a b) := by unfold gtL; exact inferInstance
def beyL (p : Rec) (f0 f1 : CopL) (i : Int) : Prop := (p.st = 1 ∧ i < p.ix) ∨ (f0.st = 1 ∧ i < f0.ix) ∨ (f1.st = 1 ∧ i < f1.ix)
def badL (f0 f1 : CopL) : Prop := f0.st = 2 ∨ f1.st = 2
instance (p : Rec) (f0 f1 : CopL) (i : Int) : Decidable (beyL p f0 f1 i) := by unfold beyL; exact inferInstance
instance (f0 f1 : CopL) : Decidable (badL f0 f1) := by unfold badL; exact inferInstance
def candL (p : Rec) (c : CopL) (i : Int) : Prop := c.of i ∧ ¬ gtL p.bx p.yb c.bx c.yb
instance (p : Rec) (c : CopL) (i : Int) : Decidable (candL p c i) := by unfold candL; exact inferInstance
def cop (f0 f1 : CopL) (k : Int) : CopL := if k = 0 then f0 else f1
end
end Go.Proofs.YtgcinagkbdcgiaaGreatDoor
