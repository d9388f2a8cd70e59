/-
  Plain facts on what is hurt, without any program: sectors, places.
  The contract of the program's Wide and sectors.
  The contracts of the tag functions that reckon sectors: start, First, All, Where.
  The contracts of the observers' small functions: isHurt, known, knownPlace, restBytes, meantBytes, isBad.
  The contracts of cell's small functions: known, other, leads, isBlank, which, repeats.
  The contracts of leads and isBlank, as method values; of which over them; of repeats.
-/
import Derived.Test.YtbflofkcfhihcaaDoorQ03
import Derived.Test.YtbflofkcfhihcaaDoorQ11
import Derived.Test.YtbflofkcfhihcaaDoorQ12
import Derived.Test.YtbflofkcfhihcaaDoorQ13
import Derived.Test.YtbflofkcfhihcaaDoorQ15
import Derived.Test.YtbflofkcfhihcaaDoorQ20
import Derived.LoopN
import Derived.Deep.RegionHeld3
namespace Go.Proofs.YtbflofkcfhihcaaDoor
set_option maxRecDepth 100000

/-- A sector is hurt: lost, or other at rest than meant. -/
def DM.hurt (m : DM) (s : Int) : Bool := (m.at_ s).2.1 || !decide ((m.at_ s).1 = (m.means s).1)
/-- Those of n sectors from a on that are hurt. -/
def hurtsIn (h : Int → Bool) (a : Int) (n : Nat) : List Int := ((List.range n).map fun k => a + ((k : Nat) : Int)).filter h
theorem hurtsIn_zero (h : Int → Bool) (a : Int) : hurtsIn h a 0 = [] := rfl
theorem hurtsIn_succ (h : Int → Bool) (a : Int) (n : Nat) : hurtsIn h a (n + 1) = if h (a + (n : Int)) = true then hurtsIn h a n ++ [a + (n : Int)] else hurtsIn h a n := by
  unfold hurtsIn
  rw [List.range_succ, List.map_append, List.filter_append]
  by_cases hh : h (a + (n : Int)) = true
  · simp [hh]
  · simp [hh]
theorem hurtsIn_len (h : Int → Bool) (a : Int) (n : Nat) : (hurtsIn h a n).length ≤ n := by
  unfold hurtsIn
  refine Nat.le_trans (List.length_filter_le _ _) ?_
  simp
theorem hurtsIn_mem {h : Int → Bool} {a : Int} {n : Nat} {s : Int} : s ∈ hurtsIn h a n ↔ h s = true ∧ a ≤ s ∧ s < a + n := by
  unfold hurtsIn
  rw [List.mem_filter, List.mem_map]
  constructor
  · rintro ⟨⟨k, hk, rfl⟩, hh⟩
    rw [List.mem_range] at hk
    exact ⟨hh, by omega, by omega⟩
  · rintro ⟨hh, h1, h2⟩
    exact ⟨⟨(s - a).toNat, by rw [List.mem_range]; omega, by omega⟩, hh⟩
theorem hurtsIn_nil {h : Int → Bool} {a : Int} {n : Nat} (hh : ∀ s, a ≤ s → s < a + n → h s = false) : hurtsIn h a n = [] := by
  rw [List.eq_nil_iff_forall_not_mem]
  intro s hs
  obtain ⟨h1, h2, h3⟩ := hurtsIn_mem.1 hs
  rw [hh s h2 h3] at h1
  cases h1
/-- Is any of n sectors from a on? -/
def anyIn (h : Int → Bool) (a : Int) (n : Nat) : Bool := (List.range n).any fun k => h (a + ((k : Nat) : Int))
theorem anyIn_iff {h : Int → Bool} {a : Int} {n : Nat} : anyIn h a n = true ↔ ∃ s, h s = true ∧ a ≤ s ∧ s < a + n := by
  unfold anyIn
  rw [List.any_eq_true]
  constructor
  · rintro ⟨k, hk, hh⟩
    rw [List.mem_range] at hk
    exact ⟨_, hh, by omega, by omega⟩
  · rintro ⟨s, hh, h1, h2⟩
    refine ⟨(s - a).toNat, by rw [List.mem_range]; omega, ?_⟩
    rw [show a + (((s - a).toNat : Nat) : Int) = s by omega]
    exact hh
theorem anyIn_nil {h : Int → Bool} {a : Int} {n : Nat} : anyIn h a n = !(hurtsIn h a n).isEmpty := by
  rw [Bool.eq_iff_iff, anyIn_iff]
  constructor
  · rintro ⟨s, hs⟩
    have := hurtsIn_mem.2 hs
    cases hl : hurtsIn h a n with
    | nil => rw [hl] at this; cases this
    | cons x l => rfl
  · intro hh
    cases hl : hurtsIn h a n with
    | nil => rw [hl] at hh; cases hh
    | cons x l => exact ⟨x, hurtsIn_mem.1 (by rw [hl]; simp)⟩
theorem anyIn_zero (h : Int → Bool) (a : Int) : anyIn h a 0 = false := rfl
theorem anyIn_succ (h : Int → Bool) (a : Int) (n : Nat) : anyIn h a (n + 1) = (anyIn h a n || h (a + (n : Int))) := by
  unfold anyIn
  rw [List.range_succ, List.any_append]
  simp
/-- The bytes of n sectors from a on. -/
def catS (f : Int → List Nat) (a : Int) : Nat → List Nat
  | 0 => []
  | n + 1 => catS f a n ++ f (a + (n : Int))
theorem catS_succ (f : Int → List Nat) (a : Int) (n : Nat) : catS f a (n + 1) = catS f a n ++ f (a + (n : Int)) := rfl
theorem catS_lt {f : Int → List Nat} {a : Int} {n : Nat} (h : ∀ s, ∀ x ∈ f s, x < 256) : ∀ x ∈ catS f a n, x < 256 := by
  induction n with
  | zero => intro x hx; cases hx
  | succ n ih =>
    intro x hx
    rw [catS_succ, List.mem_append] at hx
    exact hx.elim (ih x) (h _ x)
theorem catS_len {f : Int → List Nat} {a : Int} {n : Nat} (h : ∀ s, (f s).length ≤ 64) : (catS f a n).length ≤ 64 * n := by
  induction n with
  | zero => simp [catS]
  | succ n ih =>
    rw [catS_succ, List.length_append]
    have := h (a + (n : Int))
    omega
theorem catS_congr {f g : Int → List Nat} {a : Int} {n : Nat} (h : ∀ s, a ≤ s → s < a + n → f s = g s) : catS f a n = catS g a n := by
  induction n with
  | zero => rfl
  | succ n ih =>
    rw [catS_succ, catS_succ, ih (fun s h1 h2 => h s h1 (by omega)), h _ (by omega) (by omega)]
/-- What a place has at rest, what it is meant to have, whether one of its sectors is lost. -/
def DM.restL (m : DM) (a : Int) (n : Nat) : List Nat := catS (fun s => (m.at_ s).1) a n
def DM.meantL (m : DM) (a : Int) (n : Nat) : List Nat := catS (fun s => (m.means s).1) a n
def DM.lostB (m : DM) (a : Int) (n : Nat) : Bool := anyIn (fun s => (m.at_ s).2.1) a n
theorem at_sect {m : DM} (h : m.Ok) (s : Int) : (m.at_ s).1 = [] ∨ Sect (m.at_ s).1 := by
  unfold DM.at_
  split
  · exact .inl rfl
  · rename_i hh
    split
    · exact .inl rfl
    · right
      have hlt := DM.has_lt hh
      rw [List.getD_eq_getElem?_getD, List.getElem?_eq_getElem hlt, Option.getD_some]
      exact h.rests _ (List.getElem_mem hlt)
theorem means_sect {m : DM} (h : m.Ok) (s : Int) : (m.means s).1 = [] ∨ Sect (m.means s).1 := by
  unfold DM.means
  split
  · exact .inl rfl
  · rename_i hh
    right
    have hlt := DM.has_lt hh
    have hlt : s.toNat < m.meant.length := by rw [h.meant]; exact hlt
    rw [List.getD_eq_getElem?_getD, List.getElem?_eq_getElem hlt, Option.getD_some]
    exact h.means _ (List.getElem_mem hlt)
theorem sect_lt {b : List Nat} (h : b = [] ∨ Sect b) : ∀ x ∈ b, x < 256 := by
  rcases h with rfl | h
  · intro x hx; cases hx
  · exact h.2
theorem sect_len {b : List Nat} (h : b = [] ∨ Sect b) : b.length ≤ 64 := by
  rcases h with rfl | h
  · simp
  · rw [h.1]; omega
theorem unhurt {m : DM} {s : Int} (h : m.hurt s = false) : (m.at_ s).2.1 = false ∧ (m.at_ s).1 = (m.means s).1 := by
  unfold DM.hurt at h
  rw [Bool.or_eq_false_iff] at h
  exact ⟨h.1, by simpa using h.2⟩
/-- A place none of whose sectors is hurt has what it is meant to have. -/
theorem unhurt_place {m : DM} {a : Int} {n : Nat} (h : anyIn m.hurt a n = false) : m.lostB a n = false ∧ m.restL a n = m.meantL a n := by
  have hs : ∀ s, a ≤ s → s < a + n → m.hurt s = false := fun s h1 h2 => by
    cases hh : m.hurt s with
    | false => rfl
    | true => rw [anyIn_iff.2 ⟨s, hh, h1, h2⟩] at h; cases h
  refine ⟨?_, catS_congr fun s h1 h2 => (unhurt (hs s h1 h2)).2⟩
  unfold DM.lostB
  cases hl : anyIn (fun s => (m.at_ s).2.1) a n with
  | false => rfl
  | true =>
    obtain ⟨s, h1, h2, h3⟩ := anyIn_iff.1 hl
    rw [(unhurt (hs s h2 h3)).1] at h1
    cases h1
/-- What the observers answer of whom: no such disk, replica, place. -/
def knownG (sz : Nat) (r : Int) : Int := if sz = 0 then 1 else if sz < 156 ∨ r < 0 ∨ 7 ≤ r then 2 else 0
def placeG (sz : Nat) (r g p : Int) : Int := if knownG sz r ≠ 0 then knownG sz r else if firstS g p < 0 then 2 else 0
theorem knownG_ok {sz : Nat} {r : Int} (h : knownG sz r = 0) : 156 ≤ sz ∧ 0 ≤ r ∧ r < 7 := by
  unfold knownG at h
  split at h
  · cases h
  · split at h
    · cases h
    · omega
theorem placeG_ok {sz : Nat} {r g p : Int} (h : placeG sz r g p = 0) : knownG sz r = 0 ∧ 0 ≤ firstS g p := by
  unfold placeG at h
  split at h
  · rename_i hh; exact absurd h hh
  · rename_i hh
    split at h
    · cases h
    · exact ⟨by simpa using hh, by omega⟩
end Go.Proofs.YtbflofkcfhihcaaDoor

namespace Go.Proofs.YtbflofkcfhihcaaDoor
set_option maxRecDepth 100000
open Go Go.RowKit

theorem sectors_any (p q : Nat) (w : World) (h : p * q ≤ 9000000000000000000) :
    Calls Tryd.prog 50 #[.agg #[.int .i64 p, .int .i64 q]] w fun e w' => e = .returned (.int .i64 (p * q : Nat)) ∧ Ext w w' := by
  have h' : ((p : Int) * (q : Int)) = ((p * q : Nat) : Int) := by simp
  have HM := Lib.hid h'
  have h0 : (0 : Int) ≤ (p : Int) * (q : Int) := by rw [h']; omega
  have h1 : (p : Int) * (q : Int) ≤ 9000000000000000000 := by rw [h']; omega
  clear h h'
  go_enter Tryd.func50, Tryd.ntmps50
  go_wp2
  go_ret
  exact ⟨by rw [← HM.out]; rfl, (Ext.refl w).alloc _⟩

theorem wide_any (r : Int) (w : World) (hL : LaidT w) :
    Calls Tryd.prog 36 #[.int .i64 r] w fun e w' => e = .returned (.int .i64 (wid r)) ∧ Ext w w' := by
  have HL := Lib.hid hL
  have hf := area_field1
  clear hL
  go_enter Tryd.func36, Tryd.ntmps36
  go_wp2_with fail
  refine (find_any r _ HL.out).mono ?_
  rintro e w1 ⟨rfl, hx⟩
  have HX := Lib.hid hx
  clear hx
  go_wp2_with fail
  go_ret
  exact ⟨rfl, HX.out⟩
end Go.Proofs.YtbflofkcfhihcaaDoor

namespace Go.Proofs.YtbflofkcfhihcaaDoor
set_option maxRecDepth 100000
open Go Go.RowKit

set_option maxHeartbeats 800000 in
theorem start_any (r : Nat) (w : World) (hL : LaidT w) (hr : r ≤ 6) :
    Calls Tryd.prog 35 #[.int .i64 r] w fun e w' => e = .returned (.int .i64 (beg r)) ∧ Ext w w' := by
  have HL := Lib.hid hL
  clear hL
  go_enter Tryd.func35, Tryd.ntmps35
  go_wp2_with fail
  go_loopw [3, 6] (fun b i wr => ∃ k : Nat, k ≤ r ∧ i = .int .i64 k ∧ b = .int .i64 (beg k) ∧ Hid (Ext w wr)) (fun _ i _ => r - (intOf i).toNat)
  case atStart => exact ⟨0, Nat.zero_le _, rfl, rfl, Lib.hid (Ext.refl w)⟩
  case round =>
    obtain ⟨k, hk, rfl, rfl, HX⟩ := hrel
    by_cases hlt : k < r
    · have HB := Lib.hid (beg_next k (by omega))
      have hb := beg_le k
      have hp := plc_wid k
      go_wp2_with fail
      refine (find_any k _ (HL.out.ext HX.out)).mono ?_
      rintro e w1 ⟨rfl, hx⟩
      have HX := Lib.hid (HX.out.trans hx)
      clear hx
      go_wp2_with fail
      refine (sectors_any _ _ _ (by omega)).mono ?_
      rintro e w2 ⟨rfl, hx⟩
      have HX := Lib.hid (HX.out.trans hx)
      clear hx
      go_wp2_with fail
      go_roundw
      case rel => exact ⟨k + 1, by omega, by go_num, by rw [show ((k + 1 : Nat) : Int) = (k : Int) + 1 from rfl, HB.out]; go_num, HX⟩
      case measure => simp [intOf]; omega
    · have HK : Hid (k = r) := Lib.hid (by omega)
      go_wp2_with fail
      go_ret
      exact ⟨by rw [HK.out]; rfl, HX.out⟩

theorem all_any (w : World) (hL : LaidT w) :
    Calls Tryd.prog 39 #[] w fun e w' => e = .returned (.int .i64 156) ∧ Ext w w' := by
  have HL := Lib.hid hL
  clear hL
  go_enter Tryd.func39, Tryd.ntmps39
  go_wp2_with fail
  refine (start_any 6 _ HL.out (by omega)).mono ?_
  rintro e w1 ⟨rfl, hx⟩
  have HX := Lib.hid hx
  clear hx
  go_wp2_with fail
  go_ret
  exact ⟨rfl, HX.out⟩

theorem first_any (r p : Int) (w : World) (hL : LaidT w) :
    Calls Tryd.prog 21 #[.int .i64 r, .int .i64 p] w fun e w' => e = .returned (.int .i64 (firstS r p)) ∧ Ext w w' := by
  have HL := Lib.hid hL
  clear hL
  by_cases h0 : p < 0
  · have HF := Lib.hid (firstS_no (r := r) (p := p) (by omega))
    go_enter Tryd.func21, Tryd.ntmps21
    go_wp2_with fail
    go_ret
    exact ⟨by rw [HF.out]; rfl, Ext.refl w⟩
  by_cases h1 : (plc r : Int) ≤ p
  · have HF := Lib.hid (firstS_no (r := r) (p := p) (by omega))
    go_enter Tryd.func21, Tryd.ntmps21
    go_wp2_with fail
    refine (places_any r _ HL.out).mono ?_
    rintro e w1 ⟨rfl, hx⟩
    have HX := Lib.hid hx
    clear hx
    go_wp2_with fail
    go_ret
    exact ⟨by rw [HF.out]; rfl, HX.out⟩
  have hr := plc_some (r := r) (by omega)
  obtain ⟨r, rfl⟩ := Int.eq_ofNat_of_zero_le (show 0 ≤ r by omega)
  have HF := Lib.hid (firstS_yes (r := r) (p := p) (by omega))
  have hb := beg_le r
  have hpl := plc_le r
  have hw0 := wid_le r
  have h2 : 0 ≤ p * (wid r : Int) := Int.mul_nonneg (by omega) (by omega)
  have h3 : p * (wid r : Int) ≤ 48 * 2 := Int.mul_le_mul (by omega) (by omega) (by omega) (by omega)
  go_enter Tryd.func21, Tryd.ntmps21
  go_wp2_with fail
  refine (places_any r _ HL.out).mono ?_
  rintro e w1 ⟨rfl, hx⟩
  have HX := Lib.hid hx
  clear hx
  go_wp2_with fail
  refine (start_any r _ (HL.out.ext HX.out) (by omega)).mono ?_
  rintro e w2 ⟨rfl, hx⟩
  have HX := Lib.hid (HX.out.trans hx)
  clear hx
  go_wp2_with fail
  refine (wide_any r _ (HL.out.ext HX.out)).mono ?_
  rintro e w3 ⟨rfl, hx⟩
  have HX := Lib.hid (HX.out.trans hx)
  clear hx
  go_wp2_with fail
  go_ret
  exact ⟨by rw [HF.out]; rfl, HX.out⟩
end Go.Proofs.YtbflofkcfhihcaaDoor

namespace Go.Proofs.YtbflofkcfhihcaaDoor
set_option maxRecDepth 100000
open Go Go.RowKit
/-- What Size answers of a pointer, now and later. -/
def Sized (w : World) (p : Option Addr) (sz : Nat) : Prop := ∀ w', Ext w w' → Calls Tryd.prog 38 #[.pointer p] w' fun e w'' => e = .returned (.int .i64 (sz : Nat)) ∧ w' = w''
theorem Sized.ext {w w' : World} {p : Option Addr} {sz : Nat} (h : Sized w p sz) (k : Ext w w') : Sized w' p sz := fun _ hx => h _ (k.trans hx)
theorem Sized.of {w : World} {d : Nat} {F : Nat → Prop} {m : DM} (h : PDisk w d F m) : Sized w (some ⟨d, 0, none⟩) m.size := fun _ hx => size_pd (h.ext hx)

end Go.Proofs.YtbflofkcfhihcaaDoor

namespace Go.Proofs.YtbflofkcfhihcaaDoor
open Go Go.RowKit

theorem cknown_of {w : World} {p : Option Addr} {sz : Nat} (hS : Sized w p sz) (hL : LaidT w) (r g : Int) :
    Calls Tryd.prog 23 #[.pointer p, .int .i64 r, .int .i64 g] w fun e w' => e = .returned (.int .i64 (knownC sz r g)) ∧ Ext w w' := by
  have HS := Lib.hid hS
  have HL := Lib.hid hL
  clear hS hL
  by_cases h0 : sz = 0
  · have HE : Hid (knownC sz r g = 1) := Lib.hid (by unfold knownC; rw [if_pos h0])
    have h1 : ((sz : Int) == 0) = true := by simp [h0]
    clear h0
    go_enter Tryd.func23, Tryd.ntmps23
    go_wp2_with fail
    refine (HS.out _ (Ext.refl _)).mono ?_
    rintro e w1 ⟨rfl, rfl⟩
    go_wp2_with fail
    go_ret
    exact ⟨by rw [HE.out]; rfl, Ext.refl _⟩
  have h1 : ((sz : Int) == 0) = false := by simp; omega
  obtain ⟨E, hE⟩ : ∃ E, knownC sz r g = E := ⟨_, rfl⟩
  have HE := Lib.hid hE
  by_cases h2 : sz < 156
  · have hE2 : knownC sz r g = 2 := by unfold knownC; rw [if_neg h0, if_pos (.inl h2)]
    rw [hE2] at hE
    subst hE
    clear hE2 h0
    go_enter Tryd.func23, Tryd.ntmps23
    go_wp2_with fail
    refine (HS.out _ (Ext.refl _)).mono ?_
    rintro e w1 ⟨rfl, rfl⟩
    go_wp2_with fail
    refine (HS.out _ (Ext.refl _)).mono ?_
    rintro e w1 ⟨rfl, rfl⟩
    go_wp2_with fail
    refine (all_any _ HL.out).mono ?_
    rintro e w1 ⟨rfl, hx⟩
    have HX := Lib.hid hx
    clear hx
    go_wp2_with fail
    go_ret
    exact ⟨by rw [HE.out]; rfl, HX.out⟩
  by_cases hg : g = 1 ∨ g = 2
  · have hg' : ¬ (g ≠ 1 ∧ g ≠ 2) := by omega
    have q : ((g != 1) && (g != 2)) = false := by rcases hg with rfl | rfl <;> rfl
    rcases hg with rfl | rfl
    · clear q hg' 
      by_cases h3 : r < 0
      · have hE2 : knownC sz r 1 = 2 := by unfold knownC; rw [if_neg h0, if_pos (.inr (.inr (.inl h3)))]
        rw [hE2] at hE
        subst hE
        clear hE2 h0
        go_enter Tryd.func23, Tryd.ntmps23
        go_wp2_with fail
        refine (HS.out _ (Ext.refl _)).mono ?_
        rintro e w1 ⟨rfl, rfl⟩
        go_wp2_with fail
        refine (HS.out _ (Ext.refl _)).mono ?_
        rintro e w1 ⟨rfl, rfl⟩
        go_wp2_with fail
        refine (all_any _ HL.out).mono ?_
        rintro e w1 ⟨rfl, hx⟩
        have HX := Lib.hid hx
        clear hx
        go_wp2_with fail
        go_ret
        exact ⟨by rw [HE.out]; rfl, HX.out⟩
      by_cases h4 : 7 ≤ r
      · have hE2 : knownC sz r 1 = 2 := by unfold knownC; rw [if_neg h0, if_pos (.inr (.inr (.inr h4)))]
        rw [hE2] at hE
        subst hE
        clear hE2 h0
        go_enter Tryd.func23, Tryd.ntmps23
        go_wp2_with fail
        refine (HS.out _ (Ext.refl _)).mono ?_
        rintro e w1 ⟨rfl, rfl⟩
        go_wp2_with fail
        refine (HS.out _ (Ext.refl _)).mono ?_
        rintro e w1 ⟨rfl, rfl⟩
        go_wp2_with fail
        refine (all_any _ HL.out).mono ?_
        rintro e w1 ⟨rfl, hx⟩
        have HX := Lib.hid hx
        clear hx
        go_wp2_with fail
        go_ret
        exact ⟨by rw [HE.out]; rfl, HX.out⟩
      · have hE2 : knownC sz r 1 = 0 := by unfold knownC; rw [if_neg h0, if_neg (by omega)]
        rw [hE2] at hE
        subst hE
        clear hE2 h0
        go_enter Tryd.func23, Tryd.ntmps23
        go_wp2_with fail
        refine (HS.out _ (Ext.refl _)).mono ?_
        rintro e w1 ⟨rfl, rfl⟩
        go_wp2_with fail
        refine (HS.out _ (Ext.refl _)).mono ?_
        rintro e w1 ⟨rfl, rfl⟩
        go_wp2_with fail
        refine (all_any _ HL.out).mono ?_
        rintro e w1 ⟨rfl, hx⟩
        have HX := Lib.hid hx
        clear hx
        go_wp2_with fail
        go_ret
        exact ⟨by rw [HE.out]; rfl, HX.out⟩
    · clear q hg' 
      by_cases h3 : r < 0
      · have hE2 : knownC sz r 2 = 2 := by unfold knownC; rw [if_neg h0, if_pos (.inr (.inr (.inl h3)))]
        rw [hE2] at hE
        subst hE
        clear hE2 h0
        go_enter Tryd.func23, Tryd.ntmps23
        go_wp2_with fail
        refine (HS.out _ (Ext.refl _)).mono ?_
        rintro e w1 ⟨rfl, rfl⟩
        go_wp2_with fail
        refine (HS.out _ (Ext.refl _)).mono ?_
        rintro e w1 ⟨rfl, rfl⟩
        go_wp2_with fail
        refine (all_any _ HL.out).mono ?_
        rintro e w1 ⟨rfl, hx⟩
        have HX := Lib.hid hx
        clear hx
        go_wp2_with fail
        go_ret
        exact ⟨by rw [HE.out]; rfl, HX.out⟩
      by_cases h4 : 7 ≤ r
      · have hE2 : knownC sz r 2 = 2 := by unfold knownC; rw [if_neg h0, if_pos (.inr (.inr (.inr h4)))]
        rw [hE2] at hE
        subst hE
        clear hE2 h0
        go_enter Tryd.func23, Tryd.ntmps23
        go_wp2_with fail
        refine (HS.out _ (Ext.refl _)).mono ?_
        rintro e w1 ⟨rfl, rfl⟩
        go_wp2_with fail
        refine (HS.out _ (Ext.refl _)).mono ?_
        rintro e w1 ⟨rfl, rfl⟩
        go_wp2_with fail
        refine (all_any _ HL.out).mono ?_
        rintro e w1 ⟨rfl, hx⟩
        have HX := Lib.hid hx
        clear hx
        go_wp2_with fail
        go_ret
        exact ⟨by rw [HE.out]; rfl, HX.out⟩
      · have hE2 : knownC sz r 2 = 0 := by unfold knownC; rw [if_neg h0, if_neg (by omega)]
        rw [hE2] at hE
        subst hE
        clear hE2 h0
        go_enter Tryd.func23, Tryd.ntmps23
        go_wp2_with fail
        refine (HS.out _ (Ext.refl _)).mono ?_
        rintro e w1 ⟨rfl, rfl⟩
        go_wp2_with fail
        refine (HS.out _ (Ext.refl _)).mono ?_
        rintro e w1 ⟨rfl, rfl⟩
        go_wp2_with fail
        refine (all_any _ HL.out).mono ?_
        rintro e w1 ⟨rfl, hx⟩
        have HX := Lib.hid hx
        clear hx
        go_wp2_with fail
        go_ret
        exact ⟨by rw [HE.out]; rfl, HX.out⟩
  · have g1 : (g != 1) = true := by simp; omega
    have g2 : (g != 2) = true := by simp; omega
    have hE2 : knownC sz r g = 2 := by unfold knownC; rw [if_neg h0, if_pos (.inr (.inl (by omega)))]
    rw [hE2] at hE
    subst hE
    clear hE2 h0 hg
    go_enter Tryd.func23, Tryd.ntmps23
    go_wp2_with fail
    refine (HS.out _ (Ext.refl _)).mono ?_
    rintro e w1 ⟨rfl, rfl⟩
    go_wp2_with fail
    refine (HS.out _ (Ext.refl _)).mono ?_
    rintro e w1 ⟨rfl, rfl⟩
    go_wp2_with fail
    refine (all_any _ HL.out).mono ?_
    rintro e w1 ⟨rfl, hx⟩
    have HX := Lib.hid hx
    clear hx
    go_wp2_with fail
    go_ret
    exact ⟨by rw [HE.out]; rfl, HX.out⟩

theorem other_of (p : Int) (h0 : 0 ≤ p) (h1 : p ≤ 1) (w : World) :
    Calls Tryd.prog 25 #[.int .i64 p] w fun e w' => e = .returned (.int .i64 (otherP p)) ∧ w = w' := by
  have h : p = 0 ∨ p = 1 := by omega
  clear h0 h1
  rcases h with rfl | rfl
  all_goals
    go_enter Tryd.func25, Tryd.ntmps25
    go_wp2_with fail
    go_ret
    exact ⟨rfl, rfl⟩
theorem other0 (w : World) : Calls Tryd.prog 25 #[.int .i64 0] w fun e w' => e = .returned (.int .i64 1) ∧ w = w' := other_of 0 (by omega) (by omega) w
theorem other1 (w : World) : Calls Tryd.prog 25 #[.int .i64 1] w fun e w' => e = .returned (.int .i64 0) ∧ w = w' := other_of 1 (by omega) (by omega) w
end Go.Proofs.YtbflofkcfhihcaaDoor

namespace Go.Proofs.YtbflofkcfhihcaaDoor
open Go Go.RowKit

def pairO (s0 a0 b0 c0 d0 e0 s1 a1 b1 c1 d1 e1 : Int) (A0 A1 : Option Addr) (n0 m0 n1 m1 : Nat) : Obj := .cells #[.int .u8 s0, .int .i64 a0, .int .i64 b0, .int .i64 c0, .int .i64 d0, .int .i64 e0, .slice A0 n0 m0, .int .u8 s1, .int .i64 a1, .int .i64 b1, .int .i64 c1, .int .i64 d1, .int .i64 e1, .slice A1 n1 m1] 62
theorem pair_cells {w : World} {g : Nat} {s0 a0 b0 c0 d0 e0 s1 a1 b1 c1 d1 e1 : Int} {A0 A1 : Option Addr} {n0 m0 n1 m1 : Nat} {t : TypeId} (h : w.heap[g]? = some (.cells #[.int .u8 s0, .int .i64 a0, .int .i64 b0, .int .i64 c0, .int .i64 d0, .int .i64 e0, .slice A0 n0 m0, .int .u8 s1, .int .i64 a1, .int .i64 b1, .int .i64 c1, .int .i64 d1, .int .i64 e1, .slice A1 n1 m1] t (0, 0))) :
    w.cell? ⟨g, 0, none⟩ = some (.int .u8 s0) ∧ w.cell? ⟨g, 1, none⟩ = some (.int .i64 a0) ∧ w.cell? ⟨g, 2, none⟩ = some (.int .i64 b0) ∧ w.cell? ⟨g, 3, none⟩ = some (.int .i64 c0) ∧ w.cell? ⟨g, 4, none⟩ = some (.int .i64 d0) ∧ w.cell? ⟨g, 5, none⟩ = some (.int .i64 e0) ∧ w.cell? ⟨g, 6, none⟩ = some (.slice A0 n0 m0) ∧ w.cell? ⟨g, 7, none⟩ = some (.int .u8 s1) ∧ w.cell? ⟨g, 8, none⟩ = some (.int .i64 a1) ∧ w.cell? ⟨g, 9, none⟩ = some (.int .i64 b1) ∧ w.cell? ⟨g, 10, none⟩ = some (.int .i64 c1) ∧ w.cell? ⟨g, 11, none⟩ = some (.int .i64 d1) ∧ w.cell? ⟨g, 12, none⟩ = some (.int .i64 e1) ∧ w.cell? ⟨g, 13, none⟩ = some (.slice A1 n1 m1) :=
  ⟨cell_of_row w g 0 _ _ _ h, cell_of_row w g 1 _ _ _ h, cell_of_row w g 2 _ _ _ h, cell_of_row w g 3 _ _ _ h, cell_of_row w g 4 _ _ _ h, cell_of_row w g 5 _ _ _ h, cell_of_row w g 6 _ _ _ h, cell_of_row w g 7 _ _ _ h, cell_of_row w g 8 _ _ _ h, cell_of_row w g 9 _ _ _ h, cell_of_row w g 10 _ _ _ h, cell_of_row w g 11 _ _ _ h, cell_of_row w g 12 _ _ _ h, cell_of_row w g 13 _ _ _ h⟩
theorem keep_pair {u w' : World} {g : Nat} {s0 a0 b0 c0 d0 e0 s1 a1 b1 c1 d1 e1 : Int} {A0 A1 : Option Addr} {n0 m0 n1 m1 : Nat} {t : TypeId} (k : Hid (Ext u w')) (h : Hid (u.heap[g]? = some (.cells #[.int .u8 s0, .int .i64 a0, .int .i64 b0, .int .i64 c0, .int .i64 d0, .int .i64 e0, .slice A0 n0 m0, .int .u8 s1, .int .i64 a1, .int .i64 b1, .int .i64 c1, .int .i64 d1, .int .i64 e1, .slice A1 n1 m1] t (0, 0)))) :
    w'.cell? ⟨g, 0, none⟩ = some (.int .u8 s0) ∧ w'.cell? ⟨g, 1, none⟩ = some (.int .i64 a0) ∧ w'.cell? ⟨g, 2, none⟩ = some (.int .i64 b0) ∧ w'.cell? ⟨g, 3, none⟩ = some (.int .i64 c0) ∧ w'.cell? ⟨g, 4, none⟩ = some (.int .i64 d0) ∧ w'.cell? ⟨g, 5, none⟩ = some (.int .i64 e0) ∧ w'.cell? ⟨g, 6, none⟩ = some (.slice A0 n0 m0) ∧ w'.cell? ⟨g, 7, none⟩ = some (.int .u8 s1) ∧ w'.cell? ⟨g, 8, none⟩ = some (.int .i64 a1) ∧ w'.cell? ⟨g, 9, none⟩ = some (.int .i64 b1) ∧ w'.cell? ⟨g, 10, none⟩ = some (.int .i64 c1) ∧ w'.cell? ⟨g, 11, none⟩ = some (.int .i64 d1) ∧ w'.cell? ⟨g, 12, none⟩ = some (.int .i64 e1) ∧ w'.cell? ⟨g, 13, none⟩ = some (.slice A1 n1 m1) := pair_cells ((k.out.block g (Array.getElem?_eq_some_iff.1 h.out).1).trans h.out)

set_option maxRecDepth 100000 in
set_option maxHeartbeats 1600000 in
theorem leads0_of (s0 a0 b0 c0 d0 e0 s1 a1 b1 c1 d1 e1 : Int) (A0 A1 : Option Addr) (n0 m0 n1 m1 : Nat) (w : World) :
    Calls Tryd.prog 43 #[.agg #[.int .u8 s0, .int .i64 a0, .int .i64 b0, .int .i64 c0, .int .i64 d0, .int .i64 e0, .slice A0 n0 m0, .int .u8 s1, .int .i64 a1, .int .i64 b1, .int .i64 c1, .int .i64 d1, .int .i64 e1, .slice A1 n1 m1], .int .i64 0] w fun e w' => e = .returned (.bool (decide (s0 = 1) && decide (d1 ≤ d0))) ∧ Ext w w' := by
  have hT := heap_alloc_new w (.cells #[.int .u8 s0, .int .i64 a0, .int .i64 b0, .int .i64 c0, .int .i64 d0, .int .i64 e0, .slice A0 n0 m0, .int .u8 s1, .int .i64 a1, .int .i64 b1, .int .i64 c1, .int .i64 d1, .int .i64 e1, .slice A1 n1 m1] 62)
  have hE := (Ext.refl w).alloc (.cells #[.int .u8 s0, .int .i64 a0, .int .i64 b0, .int .i64 c0, .int .i64 d0, .int .i64 e0, .slice A0 n0 m0, .int .u8 s1, .int .i64 a1, .int .i64 b1, .int .i64 c1, .int .i64 d1, .int .i64 e1, .slice A1 n1 m1] 62)
  obtain ⟨i0, i1, i2, i3, i4, i5, i6, i7, i8, i9, i10, i11, i12, i13⟩ := pair_cells hT
  have HT := Lib.hid hT
  have HE := Lib.hid hE
  clear hT hE
  go_enter Tryd.func43, Tryd.ntmps43
  go_wp2_with fail
  go_region_held3 (fun w' => w'.cell? ⟨w.heap.size, 0, none⟩ = some (.int .u8 s0) ∧ w'.cell? ⟨w.heap.size, 1, none⟩ = some (.int .i64 a0) ∧ w'.cell? ⟨w.heap.size, 2, none⟩ = some (.int .i64 b0) ∧ w'.cell? ⟨w.heap.size, 3, none⟩ = some (.int .i64 c0) ∧ w'.cell? ⟨w.heap.size, 4, none⟩ = some (.int .i64 d0) ∧ w'.cell? ⟨w.heap.size, 5, none⟩ = some (.int .i64 e0) ∧ w'.cell? ⟨w.heap.size, 6, none⟩ = some (.slice A0 n0 m0) ∧ w'.cell? ⟨w.heap.size, 7, none⟩ = some (.int .u8 s1) ∧ w'.cell? ⟨w.heap.size, 8, none⟩ = some (.int .i64 a1) ∧ w'.cell? ⟨w.heap.size, 9, none⟩ = some (.int .i64 b1) ∧ w'.cell? ⟨w.heap.size, 10, none⟩ = some (.int .i64 c1) ∧ w'.cell? ⟨w.heap.size, 11, none⟩ = some (.int .i64 d1) ∧ w'.cell? ⟨w.heap.size, 12, none⟩ = some (.int .i64 e1) ∧ w'.cell? ⟨w.heap.size, 13, none⟩ = some (.slice A1 n1 m1))
    (first | with_reducible exact ⟨i0, i1, i2, i3, i4, i5, i6, i7, i8, i9, i10, i11, i12, i13⟩ | (refine keep_pair (Lib.hid ?_) HT; repeat (first | exact Ext.refl _ | refine Ext.drew ?_ | refine Ext.alloc ?_ _ | refine Ext.setCell ?_ (by simp) _)))
    (first
      | (go_at_call 25; ((with_reducible refine (other0 _).mono ?_); rintro e w1 ⟨rfl, rfl⟩)))
  all_goals
    clear i0 i1 i2 i3 i4 i5 i6 i7 i8 i9 i10 i11 i12 i13
    by_cases hs : s0 = 1
    · subst hs
      go_wp2_with fail
      go_ret
      exact ⟨by simp, by repeat (first | exact Ext.refl _ | refine Ext.drew ?_ | refine Ext.alloc ?_ _)⟩
    · have hs1 : (s0 == 1) = false := by simpa using hs
      have hs2 := decide_eq_false hs
      clear hs
      go_wp2_with fail
      go_ret
      exact ⟨by rw [hs2]; rfl, by repeat (first | exact Ext.refl _ | refine Ext.drew ?_ | refine Ext.alloc ?_ _)⟩

set_option maxRecDepth 100000 in
set_option maxHeartbeats 1600000 in
theorem leads1_of (s0 a0 b0 c0 d0 e0 s1 a1 b1 c1 d1 e1 : Int) (A0 A1 : Option Addr) (n0 m0 n1 m1 : Nat) (w : World) :
    Calls Tryd.prog 43 #[.agg #[.int .u8 s0, .int .i64 a0, .int .i64 b0, .int .i64 c0, .int .i64 d0, .int .i64 e0, .slice A0 n0 m0, .int .u8 s1, .int .i64 a1, .int .i64 b1, .int .i64 c1, .int .i64 d1, .int .i64 e1, .slice A1 n1 m1], .int .i64 1] w fun e w' => e = .returned (.bool (decide (s1 = 1) && decide (d0 ≤ d1))) ∧ Ext w w' := by
  have hT := heap_alloc_new w (.cells #[.int .u8 s0, .int .i64 a0, .int .i64 b0, .int .i64 c0, .int .i64 d0, .int .i64 e0, .slice A0 n0 m0, .int .u8 s1, .int .i64 a1, .int .i64 b1, .int .i64 c1, .int .i64 d1, .int .i64 e1, .slice A1 n1 m1] 62)
  have hE := (Ext.refl w).alloc (.cells #[.int .u8 s0, .int .i64 a0, .int .i64 b0, .int .i64 c0, .int .i64 d0, .int .i64 e0, .slice A0 n0 m0, .int .u8 s1, .int .i64 a1, .int .i64 b1, .int .i64 c1, .int .i64 d1, .int .i64 e1, .slice A1 n1 m1] 62)
  obtain ⟨i0, i1, i2, i3, i4, i5, i6, i7, i8, i9, i10, i11, i12, i13⟩ := pair_cells hT
  have HT := Lib.hid hT
  have HE := Lib.hid hE
  clear hT hE
  go_enter Tryd.func43, Tryd.ntmps43
  go_wp2_with fail
  go_region_held3 (fun w' => w'.cell? ⟨w.heap.size, 0, none⟩ = some (.int .u8 s0) ∧ w'.cell? ⟨w.heap.size, 1, none⟩ = some (.int .i64 a0) ∧ w'.cell? ⟨w.heap.size, 2, none⟩ = some (.int .i64 b0) ∧ w'.cell? ⟨w.heap.size, 3, none⟩ = some (.int .i64 c0) ∧ w'.cell? ⟨w.heap.size, 4, none⟩ = some (.int .i64 d0) ∧ w'.cell? ⟨w.heap.size, 5, none⟩ = some (.int .i64 e0) ∧ w'.cell? ⟨w.heap.size, 6, none⟩ = some (.slice A0 n0 m0) ∧ w'.cell? ⟨w.heap.size, 7, none⟩ = some (.int .u8 s1) ∧ w'.cell? ⟨w.heap.size, 8, none⟩ = some (.int .i64 a1) ∧ w'.cell? ⟨w.heap.size, 9, none⟩ = some (.int .i64 b1) ∧ w'.cell? ⟨w.heap.size, 10, none⟩ = some (.int .i64 c1) ∧ w'.cell? ⟨w.heap.size, 11, none⟩ = some (.int .i64 d1) ∧ w'.cell? ⟨w.heap.size, 12, none⟩ = some (.int .i64 e1) ∧ w'.cell? ⟨w.heap.size, 13, none⟩ = some (.slice A1 n1 m1))
    (first | with_reducible exact ⟨i0, i1, i2, i3, i4, i5, i6, i7, i8, i9, i10, i11, i12, i13⟩ | (refine keep_pair (Lib.hid ?_) HT; repeat (first | exact Ext.refl _ | refine Ext.drew ?_ | refine Ext.alloc ?_ _ | refine Ext.setCell ?_ (by simp) _)))
    (first
      | (go_at_call 25; ((with_reducible refine (other1 _).mono ?_); rintro e w1 ⟨rfl, rfl⟩)))
  all_goals
    clear i0 i1 i2 i3 i4 i5 i6 i7 i8 i9 i10 i11 i12 i13
    by_cases hs : s1 = 1
    · subst hs
      go_wp2_with fail
      go_ret
      exact ⟨by simp, by repeat (first | exact Ext.refl _ | refine Ext.drew ?_ | refine Ext.alloc ?_ _)⟩
    · have hs1 : (s1 == 1) = false := by simpa using hs
      have hs2 := decide_eq_false hs
      clear hs
      go_wp2_with fail
      go_ret
      exact ⟨by rw [hs2]; rfl, by repeat (first | exact Ext.refl _ | refine Ext.drew ?_ | refine Ext.alloc ?_ _)⟩

end Go.Proofs.YtbflofkcfhihcaaDoor
