/-
  Plain facts on what is hurt, without any program: sectors, places.
  The contract of the program's Wide and sectors.
  The contracts of the tag functions that reckon sectors: start, First, All, Where.
  The contracts of the observers' small functions: isHurt, known, knownPlace, restBytes, meantBytes, isBad.
  The contracts of the statements' reads and Great; a disk since a world.
  The contract of the statements' Great; a round of Do over a list of acts that came in.
  The contracts of the ghost statements' wide and Great; what an act does to a disk, in plain words.
  The contract of the statements' own 'sealed': a frame in one sector or in two, and whether there is one.
-/
import Derived.Test.YtlikhmhomkiadaaGreatDoorR02
import Derived.Test.YtlikhmhomkiadaaGreatDoorR08
import Derived.Test.YtlikhmhomkiadaaGreatDoorR09
import Derived.Test.YtlikhmhomkiadaaGreatDoorR12
import Derived.Test.YtlikhmhomkiadaaGreatDoorR14
import Derived.Test.YtlikhmhomkiadaaGreatDoorR19
import Derived.Test.YtlikhmhomkiadaaGreatDoorR21
import Derived.Test.YtlikhmhomkiadaaGreatDoorR22
import Derived.Deep.RegionHeld3
namespace Go.Proofs.YtlikhmhomkiadaaGreatDoor
set_option maxRecDepth 100000

/-- A sector is hurt: lost, or other at rest than meant. -/
def DM.hurt (m : DM) (s : Int) : Bool := (m.at_ s).2.1 || !decide ((m.at_ s).1 = (m.means s).1)
/-- Those of n sectors from a on that are hurt. -/
def hurtsIn (h : Int → Bool) (a : Int) (n : Nat) : List Int := ((List.range n).map fun k => a + ((k : Nat) : Int)).filter h
theorem hurtsIn_zero (h : Int → Bool) (a : Int) : hurtsIn h a 0 = [] := rfl
theorem hurtsIn_succ (h : Int → Bool) (a : Int) (n : Nat) : hurtsIn h a (n + 1) = if h (a + (n : Int)) = true then hurtsIn h a n ++ [a + (n : Int)] else hurtsIn h a n := by
  unfold hurtsIn
  rw [List.range_succ, List.map_append, List.filter_append]
  by_cases hh : h (a + (n : Int)) = true
  · simp [hh]
  · simp [hh]
theorem hurtsIn_len (h : Int → Bool) (a : Int) (n : Nat) : (hurtsIn h a n).length ≤ n := by
  unfold hurtsIn
  refine Nat.le_trans (List.length_filter_le _ _) ?_
  simp
theorem hurtsIn_mem {h : Int → Bool} {a : Int} {n : Nat} {s : Int} : s ∈ hurtsIn h a n ↔ h s = true ∧ a ≤ s ∧ s < a + n := by
  unfold hurtsIn
  rw [List.mem_filter, List.mem_map]
  constructor
  · rintro ⟨⟨k, hk, rfl⟩, hh⟩
    rw [List.mem_range] at hk
    exact ⟨hh, by omega, by omega⟩
  · rintro ⟨hh, h1, h2⟩
    exact ⟨⟨(s - a).toNat, by rw [List.mem_range]; omega, by omega⟩, hh⟩
theorem hurtsIn_nil {h : Int → Bool} {a : Int} {n : Nat} (hh : ∀ s, a ≤ s → s < a + n → h s = false) : hurtsIn h a n = [] := by
  rw [List.eq_nil_iff_forall_not_mem]
  intro s hs
  obtain ⟨h1, h2, h3⟩ := hurtsIn_mem.1 hs
  rw [hh s h2 h3] at h1
  cases h1
/-- Is any of n sectors from a on? -/
def anyIn (h : Int → Bool) (a : Int) (n : Nat) : Bool := (List.range n).any fun k => h (a + ((k : Nat) : Int))
theorem anyIn_iff {h : Int → Bool} {a : Int} {n : Nat} : anyIn h a n = true ↔ ∃ s, h s = true ∧ a ≤ s ∧ s < a + n := by
  unfold anyIn
  rw [List.any_eq_true]
  constructor
  · rintro ⟨k, hk, hh⟩
    rw [List.mem_range] at hk
    exact ⟨_, hh, by omega, by omega⟩
  · rintro ⟨s, hh, h1, h2⟩
    refine ⟨(s - a).toNat, by rw [List.mem_range]; omega, ?_⟩
    rw [show a + (((s - a).toNat : Nat) : Int) = s by omega]
    exact hh
theorem anyIn_nil {h : Int → Bool} {a : Int} {n : Nat} : anyIn h a n = !(hurtsIn h a n).isEmpty := by
  rw [Bool.eq_iff_iff, anyIn_iff]
  constructor
  · rintro ⟨s, hs⟩
    have := hurtsIn_mem.2 hs
    cases hl : hurtsIn h a n with
    | nil => rw [hl] at this; cases this
    | cons x l => rfl
  · intro hh
    cases hl : hurtsIn h a n with
    | nil => rw [hl] at hh; cases hh
    | cons x l => exact ⟨x, hurtsIn_mem.1 (by rw [hl]; simp)⟩
theorem anyIn_zero (h : Int → Bool) (a : Int) : anyIn h a 0 = false := rfl
theorem anyIn_succ (h : Int → Bool) (a : Int) (n : Nat) : anyIn h a (n + 1) = (anyIn h a n || h (a + (n : Int))) := by
  unfold anyIn
  rw [List.range_succ, List.any_append]
  simp
/-- The bytes of n sectors from a on. -/
def catS (f : Int → List Nat) (a : Int) : Nat → List Nat
  | 0 => []
  | n + 1 => catS f a n ++ f (a + (n : Int))
theorem catS_succ (f : Int → List Nat) (a : Int) (n : Nat) : catS f a (n + 1) = catS f a n ++ f (a + (n : Int)) := rfl
theorem catS_lt {f : Int → List Nat} {a : Int} {n : Nat} (h : ∀ s, ∀ x ∈ f s, x < 256) : ∀ x ∈ catS f a n, x < 256 := by
  induction n with
  | zero => intro x hx; cases hx
  | succ n ih =>
    intro x hx
    rw [catS_succ, List.mem_append] at hx
    exact hx.elim (ih x) (h _ x)
theorem catS_len {f : Int → List Nat} {a : Int} {n : Nat} (h : ∀ s, (f s).length ≤ 64) : (catS f a n).length ≤ 64 * n := by
  induction n with
  | zero => simp [catS]
  | succ n ih =>
    rw [catS_succ, List.length_append]
    have := h (a + (n : Int))
    omega
theorem catS_congr {f g : Int → List Nat} {a : Int} {n : Nat} (h : ∀ s, a ≤ s → s < a + n → f s = g s) : catS f a n = catS g a n := by
  induction n with
  | zero => rfl
  | succ n ih =>
    rw [catS_succ, catS_succ, ih (fun s h1 h2 => h s h1 (by omega)), h _ (by omega) (by omega)]
/-- What a place has at rest, what it is meant to have, whether one of its sectors is lost. -/
def DM.restL (m : DM) (a : Int) (n : Nat) : List Nat := catS (fun s => (m.at_ s).1) a n
def DM.meantL (m : DM) (a : Int) (n : Nat) : List Nat := catS (fun s => (m.means s).1) a n
def DM.lostB (m : DM) (a : Int) (n : Nat) : Bool := anyIn (fun s => (m.at_ s).2.1) a n
theorem at_sect {m : DM} (h : m.Ok) (s : Int) : (m.at_ s).1 = [] ∨ Sect (m.at_ s).1 := by
  unfold DM.at_
  split
  · exact .inl rfl
  · rename_i hh
    split
    · exact .inl rfl
    · right
      have hlt := DM.has_lt hh
      rw [List.getD_eq_getElem?_getD, List.getElem?_eq_getElem hlt, Option.getD_some]
      exact h.rests _ (List.getElem_mem hlt)
theorem means_sect {m : DM} (h : m.Ok) (s : Int) : (m.means s).1 = [] ∨ Sect (m.means s).1 := by
  unfold DM.means
  split
  · exact .inl rfl
  · rename_i hh
    right
    have hlt := DM.has_lt hh
    have hlt : s.toNat < m.meant.length := by rw [h.meant]; exact hlt
    rw [List.getD_eq_getElem?_getD, List.getElem?_eq_getElem hlt, Option.getD_some]
    exact h.means _ (List.getElem_mem hlt)
theorem sect_lt {b : List Nat} (h : b = [] ∨ Sect b) : ∀ x ∈ b, x < 256 := by
  rcases h with rfl | h
  · intro x hx; cases hx
  · exact h.2
theorem sect_len {b : List Nat} (h : b = [] ∨ Sect b) : b.length ≤ 64 := by
  rcases h with rfl | h
  · simp
  · rw [h.1]; omega
theorem unhurt {m : DM} {s : Int} (h : m.hurt s = false) : (m.at_ s).2.1 = false ∧ (m.at_ s).1 = (m.means s).1 := by
  unfold DM.hurt at h
  rw [Bool.or_eq_false_iff] at h
  exact ⟨h.1, by simpa using h.2⟩
/-- A place none of whose sectors is hurt has what it is meant to have. -/
theorem unhurt_place {m : DM} {a : Int} {n : Nat} (h : anyIn m.hurt a n = false) : m.lostB a n = false ∧ m.restL a n = m.meantL a n := by
  have hs : ∀ s, a ≤ s → s < a + n → m.hurt s = false := fun s h1 h2 => by
    cases hh : m.hurt s with
    | false => rfl
    | true => rw [anyIn_iff.2 ⟨s, hh, h1, h2⟩] at h; cases h
  refine ⟨?_, catS_congr fun s h1 h2 => (unhurt (hs s h1 h2)).2⟩
  unfold DM.lostB
  cases hl : anyIn (fun s => (m.at_ s).2.1) a n with
  | false => rfl
  | true =>
    obtain ⟨s, h1, h2, h3⟩ := anyIn_iff.1 hl
    rw [(unhurt (hs s h2 h3)).1] at h1
    cases h1
/-- What the observers answer of whom: no such disk, replica, place. -/
def knownG (sz : Nat) (r : Int) : Int := if sz = 0 then 1 else if sz < 156 ∨ r < 0 ∨ 7 ≤ r then 2 else 0
def placeG (sz : Nat) (r g p : Int) : Int := if knownG sz r ≠ 0 then knownG sz r else if firstS g p < 0 then 2 else 0
theorem knownG_ok {sz : Nat} {r : Int} (h : knownG sz r = 0) : 156 ≤ sz ∧ 0 ≤ r ∧ r < 7 := by
  unfold knownG at h
  split at h
  · cases h
  · split at h
    · cases h
    · omega
theorem placeG_ok {sz : Nat} {r g p : Int} (h : placeG sz r g p = 0) : knownG sz r = 0 ∧ 0 ≤ firstS g p := by
  unfold placeG at h
  split at h
  · rename_i hh; exact absurd h hh
  · rename_i hh
    split at h
    · cases h
    · exact ⟨by simpa using hh, by omega⟩
end Go.Proofs.YtlikhmhomkiadaaGreatDoor

namespace Go.Proofs.YtlikhmhomkiadaaGreatDoor
set_option maxRecDepth 100000
open Go Go.RowKit

theorem sectors_any (p q : Nat) (w : World) (h : p * q ≤ 9000000000000000000) :
    Calls Tryz.prog 116 #[.agg #[.int .i64 p, .int .i64 q]] w fun e w' => e = .returned (.int .i64 (p * q : Nat)) ∧ Ext w w' := by
  have h' : ((p : Int) * (q : Int)) = ((p * q : Nat) : Int) := by simp
  have HM := Lib.hid h'
  have h0 : (0 : Int) ≤ (p : Int) * (q : Int) := by rw [h']; omega
  have h1 : (p : Int) * (q : Int) ≤ 9000000000000000000 := by rw [h']; omega
  clear h h'
  go_enter Tryz.func116, Tryz.ntmps116
  go_wp2
  go_ret
  exact ⟨by rw [← HM.out]; rfl, (Ext.refl w).alloc _⟩

theorem wide_any (r : Int) (w : World) (hL : LaidT w) :
    Calls Tryz.prog 50 #[.int .i64 r] w fun e w' => e = .returned (.int .i64 (wid r)) ∧ Ext w w' := by
  have HL := Lib.hid hL
  have hf := area_field1
  clear hL
  go_enter Tryz.func50, Tryz.ntmps50
  go_wp2_with fail
  refine (find_any r _ HL.out).mono ?_
  rintro e w1 ⟨rfl, hx⟩
  have HX := Lib.hid hx
  clear hx
  go_wp2_with fail
  go_ret
  exact ⟨rfl, HX.out⟩
end Go.Proofs.YtlikhmhomkiadaaGreatDoor

namespace Go.Proofs.YtlikhmhomkiadaaGreatDoor
set_option maxRecDepth 100000
open Go Go.RowKit

set_option maxHeartbeats 800000 in
theorem start_any (r : Nat) (w : World) (hL : LaidT w) (hr : r ≤ 6) :
    Calls Tryz.prog 101 #[.int .i64 r] w fun e w' => e = .returned (.int .i64 (beg r)) ∧ Ext w w' := by
  have HL := Lib.hid hL
  clear hL
  go_enter Tryz.func101, Tryz.ntmps101
  go_wp2_with fail
  go_loopw [3, 6] (fun b i wr => ∃ k : Nat, k ≤ r ∧ i = .int .i64 k ∧ b = .int .i64 (beg k) ∧ Hid (Ext w wr)) (fun _ i _ => r - (intOf i).toNat)
  case atStart => exact ⟨0, Nat.zero_le _, rfl, rfl, Lib.hid (Ext.refl w)⟩
  case round =>
    obtain ⟨k, hk, rfl, rfl, HX⟩ := hrel
    by_cases hlt : k < r
    · have HB := Lib.hid (beg_next k (by omega))
      have hb := beg_le k
      have hp := plc_wid k
      go_wp2_with fail
      refine (find_any k _ (HL.out.ext HX.out)).mono ?_
      rintro e w1 ⟨rfl, hx⟩
      have HX := Lib.hid (HX.out.trans hx)
      clear hx
      go_wp2_with fail
      refine (sectors_any _ _ _ (by omega)).mono ?_
      rintro e w2 ⟨rfl, hx⟩
      have HX := Lib.hid (HX.out.trans hx)
      clear hx
      go_wp2_with fail
      go_roundw
      case rel => exact ⟨k + 1, by omega, by go_num, by rw [show ((k + 1 : Nat) : Int) = (k : Int) + 1 from rfl, HB.out]; go_num, HX⟩
      case measure => simp [intOf]; omega
    · have HK : Hid (k = r) := Lib.hid (by omega)
      go_wp2_with fail
      go_ret
      exact ⟨by rw [HK.out]; rfl, HX.out⟩

theorem all_any (w : World) (hL : LaidT w) :
    Calls Tryz.prog 57 #[] w fun e w' => e = .returned (.int .i64 156) ∧ Ext w w' := by
  have HL := Lib.hid hL
  clear hL
  go_enter Tryz.func57, Tryz.ntmps57
  go_wp2_with fail
  refine (start_any 6 _ HL.out (by omega)).mono ?_
  rintro e w1 ⟨rfl, hx⟩
  have HX := Lib.hid hx
  clear hx
  go_wp2_with fail
  go_ret
  exact ⟨rfl, HX.out⟩

theorem first_any (r p : Int) (w : World) (hL : LaidT w) :
    Calls Tryz.prog 42 #[.int .i64 r, .int .i64 p] w fun e w' => e = .returned (.int .i64 (firstS r p)) ∧ Ext w w' := by
  have HL := Lib.hid hL
  clear hL
  by_cases h0 : p < 0
  · have HF := Lib.hid (firstS_no (r := r) (p := p) (by omega))
    go_enter Tryz.func42, Tryz.ntmps42
    go_wp2_with fail
    go_ret
    exact ⟨by rw [HF.out]; rfl, Ext.refl w⟩
  by_cases h1 : (plc r : Int) ≤ p
  · have HF := Lib.hid (firstS_no (r := r) (p := p) (by omega))
    go_enter Tryz.func42, Tryz.ntmps42
    go_wp2_with fail
    refine (places_any r _ HL.out).mono ?_
    rintro e w1 ⟨rfl, hx⟩
    have HX := Lib.hid hx
    clear hx
    go_wp2_with fail
    go_ret
    exact ⟨by rw [HF.out]; rfl, HX.out⟩
  have hr := plc_some (r := r) (by omega)
  obtain ⟨r, rfl⟩ := Int.eq_ofNat_of_zero_le (show 0 ≤ r by omega)
  have HF := Lib.hid (firstS_yes (r := r) (p := p) (by omega))
  have hb := beg_le r
  have hpl := plc_le r
  have hw0 := wid_le r
  have h2 : 0 ≤ p * (wid r : Int) := Int.mul_nonneg (by omega) (by omega)
  have h3 : p * (wid r : Int) ≤ 48 * 2 := Int.mul_le_mul (by omega) (by omega) (by omega) (by omega)
  go_enter Tryz.func42, Tryz.ntmps42
  go_wp2_with fail
  refine (places_any r _ HL.out).mono ?_
  rintro e w1 ⟨rfl, hx⟩
  have HX := Lib.hid hx
  clear hx
  go_wp2_with fail
  refine (start_any r _ (HL.out.ext HX.out) (by omega)).mono ?_
  rintro e w2 ⟨rfl, hx⟩
  have HX := Lib.hid (HX.out.trans hx)
  clear hx
  go_wp2_with fail
  refine (wide_any r _ (HL.out.ext HX.out)).mono ?_
  rintro e w3 ⟨rfl, hx⟩
  have HX := Lib.hid (HX.out.trans hx)
  clear hx
  go_wp2_with fail
  go_ret
  exact ⟨by rw [HF.out]; rfl, HX.out⟩
end Go.Proofs.YtlikhmhomkiadaaGreatDoor

namespace Go.Proofs.YtlikhmhomkiadaaGreatDoor
set_option maxRecDepth 100000
open Go Go.RowKit

theorem isHurt_of {w : World} {d : Nat} {F : Nat → Prop} {m : DM} (h : PDisk w d F m) (s : Int) :
    Calls Tryz.prog 112 #[.pointer (some ⟨d, 0, none⟩), .int .i64 s] w fun e w' => e = .returned (.bool (m.hurt s)) ∧ Ext w w' := by
  have H := Lib.hid h
  have hr := rest_pd h s
  obtain ⟨l, hl⟩ : ∃ l, (m.at_ s).1 = l := ⟨_, rfl⟩
  obtain ⟨lb, hlb⟩ : ∃ lb, (m.at_ s).2.1 = lb := ⟨_, rfl⟩
  obtain ⟨E, hE⟩ : ∃ E, (m.at_ s).2.2 = E := ⟨_, rfl⟩
  obtain ⟨l2, hl2⟩ : ∃ l, (m.means s).1 = l := ⟨_, rfl⟩
  obtain ⟨E2, hE2⟩ : ∃ E, (m.means s).2 = E := ⟨_, rfl⟩
  have HH : Hid (m.hurt s = (lb || !decide (l = l2))) := Lib.hid (by unfold DM.hurt; rw [hl, hlb, hl2])
  have hm : ∀ w', Ext w w' → Calls Tryz.prog 118 #[.pointer (some ⟨d, 0, none⟩), .int .i64 s] w' fun e w'' => ∃ A n, e = .returned (.tuple #[.slice A n n, .int .i64 E2]) ∧ New w'.heap.size w'' A n l2 ∧ Ext w' w'' := fun w' hx => by
    have := meant_pd (h.ext hx) s
    rwa [hl2, hE2] at this
  rw [hl, hlb, hE] at hr
  have HR := Lib.hid hr
  have HM := Lib.hid hm
  clear h hr hl hlb hE hl2 hE2 hm H
  go_enter Tryz.func112, Tryz.ntmps112
  go_wp2_with fail
  refine HR.out.mono ?_
  rintro e w1 ⟨A, n, rfl, hnew, hx⟩
  have HB := Lib.hid hnew.by
  have HX := Lib.hid hx
  clear hnew hx
  go_wp2_with fail
  refine (HM.out _ HX.out).mono ?_
  rintro e w2 ⟨A2, n2, rfl, hnew, hx⟩
  have HB2 := Lib.hid hnew.by
  have HB := Lib.hid (HB.out.ext hx)
  have HX := Lib.hid (HX.out.trans hx)
  clear hnew hx
  cases lb with
  | true =>
    go_wp2_with fail
    go_ret
    exact ⟨by rw [HH.out]; rfl, HX.out⟩
  | false =>
    go_wp2_with fail
    refine (equal_by A A2 l l2 n n2 n n2 _ HB.out HB2.out).mono ?_
    rintro e w3 ⟨rfl, rfl⟩
    go_wp2_with fail
    go_ret
    exact ⟨by rw [HH.out]; rfl, HX.out⟩

/-- What Size answers of a pointer, now and later. -/
def Sized (w : World) (p : Option Addr) (sz : Nat) : Prop := ∀ w', Ext w w' → Calls Tryz.prog 47 #[.pointer p] w' fun e w'' => e = .returned (.int .i64 (sz : Nat)) ∧ w' = w''
theorem Sized.ext {w w' : World} {p : Option Addr} {sz : Nat} (h : Sized w p sz) (k : Ext w w') : Sized w' p sz := fun _ hx => h _ (k.trans hx)
theorem Sized.of {w : World} {d : Nat} {F : Nat → Prop} {m : DM} (h : PDisk w d F m) : Sized w (some ⟨d, 0, none⟩) m.size := fun _ hx => size_pd (h.ext hx)

theorem gknown_of {w : World} {p : Option Addr} {sz : Nat} (hS : Sized w p sz) (hL : LaidT w) (r : Int) :
    Calls Tryz.prog 56 #[.pointer p, .int .i64 r] w fun e w' => e = .returned (.int .i64 (knownG sz r)) ∧ Ext w w' := by
  have HS := Lib.hid hS
  have HL := Lib.hid hL
  clear hS hL
  by_cases h0 : sz = 0
  · have HE : Hid (knownG sz r = 1) := Lib.hid (by unfold knownG; rw [if_pos h0])
    have h1 : ((sz : Int) == 0) = true := by simp [h0]
    clear h0
    go_enter Tryz.func56, Tryz.ntmps56
    go_wp2_with fail
    refine (HS.out _ (Ext.refl _)).mono ?_
    rintro e w1 ⟨rfl, rfl⟩
    go_wp2_with fail
    go_ret
    exact ⟨by rw [HE.out]; rfl, Ext.refl _⟩
  have h1 : ((sz : Int) == 0) = false := by simp; omega
  obtain ⟨E, hE⟩ : ∃ E, knownG sz r = E := ⟨_, rfl⟩
  have HE := Lib.hid hE
  by_cases h2 : sz < 156
  · have hE2 : knownG sz r = 2 := by unfold knownG; rw [if_neg h0, if_pos (.inl h2)]
    rw [hE2] at hE
    subst hE
    clear hE2 h0
    go_enter Tryz.func56, Tryz.ntmps56
    go_wp2_with fail
    refine (HS.out _ (Ext.refl _)).mono ?_
    rintro e w1 ⟨rfl, rfl⟩
    go_wp2_with fail
    refine (HS.out _ (Ext.refl _)).mono ?_
    rintro e w1 ⟨rfl, rfl⟩
    go_wp2_with fail
    refine (all_any _ HL.out).mono ?_
    rintro e w1 ⟨rfl, hx⟩
    have HX := Lib.hid hx
    clear hx
    go_wp2_with fail
    go_ret
    exact ⟨by rw [HE.out]; rfl, HX.out⟩
  by_cases h3 : r < 0
  · have hE2 : knownG sz r = 2 := by unfold knownG; rw [if_neg h0, if_pos (.inr (.inl h3))]
    rw [hE2] at hE
    subst hE
    clear hE2 h0
    go_enter Tryz.func56, Tryz.ntmps56
    go_wp2_with fail
    refine (HS.out _ (Ext.refl _)).mono ?_
    rintro e w1 ⟨rfl, rfl⟩
    go_wp2_with fail
    refine (HS.out _ (Ext.refl _)).mono ?_
    rintro e w1 ⟨rfl, rfl⟩
    go_wp2_with fail
    refine (all_any _ HL.out).mono ?_
    rintro e w1 ⟨rfl, hx⟩
    have HX := Lib.hid hx
    clear hx
    go_wp2_with fail
    go_ret
    exact ⟨by rw [HE.out]; rfl, HX.out⟩
  by_cases h4 : 7 ≤ r
  · have hE2 : knownG sz r = 2 := by unfold knownG; rw [if_neg h0, if_pos (.inr (.inr h4))]
    rw [hE2] at hE
    subst hE
    clear hE2 h0
    go_enter Tryz.func56, Tryz.ntmps56
    go_wp2_with fail
    refine (HS.out _ (Ext.refl _)).mono ?_
    rintro e w1 ⟨rfl, rfl⟩
    go_wp2_with fail
    refine (HS.out _ (Ext.refl _)).mono ?_
    rintro e w1 ⟨rfl, rfl⟩
    go_wp2_with fail
    refine (all_any _ HL.out).mono ?_
    rintro e w1 ⟨rfl, hx⟩
    have HX := Lib.hid hx
    clear hx
    go_wp2_with fail
    go_ret
    exact ⟨by rw [HE.out]; rfl, HX.out⟩
  · have hE2 : knownG sz r = 0 := by unfold knownG; rw [if_neg h0, if_neg (by omega)]
    rw [hE2] at hE
    subst hE
    clear hE2 h0
    go_enter Tryz.func56, Tryz.ntmps56
    go_wp2_with fail
    refine (HS.out _ (Ext.refl _)).mono ?_
    rintro e w1 ⟨rfl, rfl⟩
    go_wp2_with fail
    refine (HS.out _ (Ext.refl _)).mono ?_
    rintro e w1 ⟨rfl, rfl⟩
    go_wp2_with fail
    refine (all_any _ HL.out).mono ?_
    rintro e w1 ⟨rfl, hx⟩
    have HX := Lib.hid hx
    clear hx
    go_wp2_with fail
    go_ret
    exact ⟨by rw [HE.out]; rfl, HX.out⟩

theorem gplace_of {w : World} {p : Option Addr} {sz : Nat} (hS : Sized w p sz) (hL : LaidT w) (r g pl : Int) :
    Calls Tryz.prog 49 #[.pointer p, .int .i64 r, .int .i64 g, .int .i64 pl] w fun e w' => e = .returned (.int .i64 (placeG sz r g pl)) ∧ Ext w w' := by
  have hk := gknown_of hS hL r
  have HL := Lib.hid hL
  obtain ⟨E, hE⟩ : ∃ E, knownG sz r = E := ⟨_, rfl⟩
  rw [hE] at hk
  have HK := Lib.hid hk
  clear hS hL hk
  by_cases h0 : E = 0
  · subst h0
    by_cases h1 : firstS g pl < 0
    · have HP : Hid (placeG sz r g pl = 2) := Lib.hid (by unfold placeG; rw [hE, if_neg (by simp), if_pos h1])
      clear hE
      go_enter Tryz.func49, Tryz.ntmps49
      go_wp2_with fail
      refine HK.out.mono ?_
      rintro e w1 ⟨rfl, hx⟩
      have HX := Lib.hid hx
      clear hx
      go_wp2_with fail
      refine (first_any g pl _ (HL.out.ext HX.out)).mono ?_
      rintro e w2 ⟨rfl, hx⟩
      have HX := Lib.hid (HX.out.trans hx)
      clear hx
      go_wp2_with fail
      go_ret
      exact ⟨by rw [HP.out]; rfl, HX.out⟩
    · have HP : Hid (placeG sz r g pl = 0) := Lib.hid (by unfold placeG; rw [hE, if_neg (by simp), if_neg h1])
      clear hE
      go_enter Tryz.func49, Tryz.ntmps49
      go_wp2_with fail
      refine HK.out.mono ?_
      rintro e w1 ⟨rfl, hx⟩
      have HX := Lib.hid hx
      clear hx
      go_wp2_with fail
      refine (first_any g pl _ (HL.out.ext HX.out)).mono ?_
      rintro e w2 ⟨rfl, hx⟩
      have HX := Lib.hid (HX.out.trans hx)
      clear hx
      go_wp2_with fail
      go_ret
      exact ⟨by rw [HP.out]; rfl, HX.out⟩
  · have HP : Hid (placeG sz r g pl = E) := Lib.hid (by unfold placeG; rw [hE, if_pos h0])
    have hne : (E != 0) = true := by simpa using h0
    clear hE h0
    go_enter Tryz.func49, Tryz.ntmps49
    go_wp2_with fail
    refine HK.out.mono ?_
    rintro e w1 ⟨rfl, hx⟩
    have HX := Lib.hid hx
    clear hx
    go_wp2_with fail
    go_ret
    exact ⟨by rw [HP.out]; rfl, HX.out⟩
end Go.Proofs.YtlikhmhomkiadaaGreatDoor

namespace Go.Proofs.YtlikhmhomkiadaaGreatDoor
set_option maxRecDepth 100000
open Go Go.RowKit

/-- The disk at d, all of whose blocks were made since w0; nothing that was there in w0 has been written. -/
structure DK (w0 w : World) (d : Nat) (F : Nat → Prop) (m : DM) : Prop where
  disk : PDisk w d F m
  low : ∀ k, F k → w0.heap.size ≤ k
  bel : Ext w0 w
theorem DK.ext {w0 w w' : World} {d : Nat} {F : Nat → Prop} {m : DM} (h : DK w0 w d F m) (k : Ext w w') : DK w0 w' d F m := ⟨h.disk.ext k, h.low, h.bel.trans k⟩
theorem DK.step {w0 w w' : World} {d : Nat} {F : Nat → Prop} {m m' : DM} (h : DK w0 w d F m) (hp : PDisk w' d (grow F w w') m') (hm : Mod F w w') : DK w0 w' d (grow F w w') m' :=
  ⟨hp, fun k hk => hk.elim (h.low k) fun h2 => Nat.le_trans h.bel.size h2.1, Below.mod h.bel hm h.bel.size h.low⟩
theorem DK.mod {w0 w w' : World} {d : Nat} {F G : Nat → Prop} {m : DM} (h : DK w0 w d F m) (hm : Mod G w w') (hG : ∀ k, F k → ¬ G k) (hl : ∀ k, G k → w0.heap.size ≤ k) : DK w0 w' d F m :=
  ⟨h.disk.mod hm hG, h.low, Below.mod h.bel hm h.bel.size hl⟩
theorem DK.fresh {w0 w : World} {d : Nat} {F : Nat → Prop} {m : DM} (h : DK w0 w d F m) {w' : World} {A : Option Addr} {n c : Nat} {e sz : Nat} {xs : List Value} (ho : w'.ownsRow w.heap.size e sz (.slice A n c) n xs) : Off F A := fun p hp hf => by
  subst hp
  have := (ho.lt p.block rfl).1
  have := h.disk.lt _ hf
  omega
/-- Values that came in lie in none of the disk's blocks. -/
theorem DK.vs {w0 w : World} {d : Nat} {F : Nat → Prop} {m : DM} (h : DK w0 w d F m) {A : Option Addr} {n c : Nat} {vs : List Value} (hv : Vs w0 w0.heap.size A n c vs) : 0 < n → Off F A := fun hn p hp hf => by
  obtain ⟨g, o, e, hg, _⟩ := hv.rd hn
  rw [e] at hp
  injection hp with hp
  subst hp
  have := h.low _ hf
  have hg' : g < w0.heap.size := hg
  have : w0.heap.size ≤ g := this
  omega
/-- What was there in w0 lies in none of the disk's blocks. -/
theorem DK.old {w0 w : World} {d : Nat} {F : Nat → Prop} {m : DM} (h : DK w0 w d F m) {A : Option Addr} (hA : ∀ p, A = some p → p.block < w0.heap.size) : Off F A := fun p hp hf => by
  have := hA p hp
  have := h.low _ hf
  omega
theorem Act5.sector (n : Int) (w : World) (B : Nat) (hn : (Lit.int .i64 n).wf = true) : ({ num := n } : Act5).Ok w B :=
  ⟨by show (0 : Nat) < 256; omega, rfl, hn, ⟨rfl, Nat.le_refl _, by show (0 : Nat) ≤ 9223372036854775807; omega, Rd.nil_, fun _ => rfl⟩, ⟨rfl, Nat.le_refl _, by show (0 : Nat) ≤ 9223372036854775807; omega, fun h => absurd h (by show ¬ (0 < 0); omega), fun _ => rfl⟩⟩
theorem rep_of (x : Nat) (hx : x < 256) : actB (x : Int) [] = List.replicate 64 x := by
  unfold actB
  rw [if_pos rfl]
  congr 1
  omega
theorem nat_wf (x : Nat) (hx : x < 256) : (Lit.int .i64 (x : Int)).wf = true := by
  have h1 : (IntKind.i64.min : Int) ≤ (x : Int) := by rw [show (IntKind.i64.min : Int) = -9223372036854775808 by decide]; omega
  have h2 : (x : Int) ≤ IntKind.i64.max := by rw [IntKind.max_i64]; omega
  show (decide (IntKind.i64.min ≤ (x : Int)) && decide ((x : Int) ≤ IntKind.i64.max)) = true
  rw [decide_eq_true h1, decide_eq_true h2]
  rfl
/-- What Sector makes of a number below 256. -/
theorem sector_n (x : Nat) (hx : x < 256) (w : World) :
    Calls Tryz.prog 92 #[.agg #[.int .u8 0, .int .i64 0, .int .i64 (x : Int), .slice none 0 0, .slice none 0 0]] w fun e w' => ∃ A n c, e = .returned (.slice A n c) ∧ w'.ownsRow w.heap.size 5 1 (.slice A n c) n (vb (List.replicate 64 x)) ∧ Ext w w' := by
  have h := sector_of { num := (x : Int) } w (Act5.sector _ _ _ (nat_wf x hx)) (show (0 : Nat) ≤ 140737488355328 by omega)
  rw [rep_of x hx] at h
  exact h

end Go.Proofs.YtlikhmhomkiadaaGreatDoor

namespace Go.Proofs.YtlikhmhomkiadaaGreatDoor
set_option maxRecDepth 100000
open Go Go.RowKit

/-- An act that came in, at a disk made since. -/
theorem do_dk {w0 w : World} {d : Nat} {F : Nat → Prop} {m : DM} (h : DK w0 w d F m) (a : Act5) (ha : a.Ok w0 w0.heap.size) (hn : a.bn ≤ 200) (hfew : m.waits.length ≤ 1000) :
    Calls Tryz.prog 38 #[.pointer (some ⟨d, 0, none⟩), .agg #[.int .u8 (a.kind : Int), .int .i64 a.sec, .int .i64 a.num, .slice a.bA a.bn a.bc, .slice a.kA a.kn a.kc]] w fun e w' =>
      e = .returned (.int .i64 (m.act a.kind a.sec a.num a.bl a.kl).1) ∧ DK w0 w' d (grow F w w') (m.act a.kind a.sec a.num a.bl a.kl).2 := by
  have hd := do_of h.disk a ((ha.below h.bel).more h.bel.size) (h.vs ha.keep) (by omega) (by omega)
  unfold actV at hd
  exact hd.mono fun e w' ⟨h1, h2, h3⟩ => ⟨h1, h.step h2 h3⟩

/-- What Great answers. -/
def GreatE (n : Nat) (l : List Act5) (w : World) (e : Ending) (w' : World) : Prop := ∃ b : Bool, e = .returned (.bool b) ∧ w = w' ∧ (b = false → n ≤ 120 ∧ ∀ a ∈ l, a.bn ≤ 200 ∧ a.kn ≤ 100)

set_option maxRecDepth 100000 in
set_option maxHeartbeats 1600000 in
theorem great_of {w : World} {B : Nat} (A : Option Addr) (n c : Nat) (l : List Act5) (h : Acts w B A n c l) :
    Calls Tryz.prog 37 #[.slice A n c] w (GreatE n l w) := by
  have HA := Lib.hid h
  have hn := Nat.zero_le n
  clear h
  go_enter Tryz.func37, Tryz.ntmps37
  by_cases hn120 : 120 < n
  · go_wp2_with fail
    go_ret
    exact ⟨true, rfl, rfl, fun h => by cases h⟩
  go_wp2_with fail
  go_loopw [3] (fun i wr => ∃ k : Nat, k ≤ n ∧ i = .int .i64 k ∧ wr = w ∧ Hid (∀ a ∈ l.take k, a.bn ≤ 200 ∧ a.kn ≤ 100)) (fun i _ => n - (intOf i).toNat)
  case atStart => exact ⟨0, Nat.zero_le _, rfl, rfl, Lib.hid fun a ha => by simp at ha⟩
  case round =>
    obtain ⟨k, hkn, rfl, rfl, HT⟩ := hrel
    by_cases hlt : k < n
    · obtain ⟨g, o, a, rfl, hg, ha, hok, h0, h1, h2, h3, h4⟩ := HA.out.at_ hlt
      have HAL := Lib.hid ha
      by_cases hb : 200 < a.bn
      · clear ha hok
        go_wp2_with fail
        go_ret
        exact ⟨true, rfl, rfl, fun h => by cases h⟩
      · by_cases hk : 100 < a.kn
        · clear ha hok
          go_wp2_with fail
          go_ret
          exact ⟨true, rfl, rfl, fun h => by cases h⟩
        · clear ha hok
          go_wp2_with fail
          go_roundw
          case rel => exact ⟨k + 1, by omega, by go_num, by first | rfl | trivial, Lib.hid fun b hb' => by
            rw [List.take_add_one, HAL.out] at hb'
            rcases List.mem_append.1 hb' with h | h
            · exact HT.out b h
            · simp only [Option.toList_some, List.mem_singleton] at h
              subst h
              exact ⟨by omega, by omega⟩⟩
          case measure => simp [intOf]; omega
    · go_wp2_with fail
      go_ret
      refine ⟨false, rfl, rfl, fun _ => ⟨by omega, fun a ha => HT.out a ?_⟩⟩
      rw [List.take_of_length_le (by have := HA.out.len; omega)]
      exact ha
end Go.Proofs.YtlikhmhomkiadaaGreatDoor

namespace Go.Proofs.YtlikhmhomkiadaaGreatDoor
set_option maxRecDepth 100000
open Go Go.RowKit

/-- The sectors of a frame, written one behind the other. -/
def DM.puts (m : DM) (s : Int) (L : List Nat) : Nat → DM
  | 0 => m
  | k + 1 => ((m.puts s L k).write (s + (k : Int)) ((L.drop (64 * k)).take 64)).2
/-- How many sectors a tag's place has. -/
def wideN (a b c d e : Int) : Nat := if mayB a b c d e = true then wid b else 0
theorem wideN_le (a b c d e : Int) : wideN a b c d e ≤ 2 := by
  unfold wideN
  split
  · exact wid_le b
  · omega
def Act6.sE (x : Act6) : Int := sealE x.ta x.tb x.tc x.td x.te x.bn (wideN x.ta x.tb x.tc x.td x.te : Nat)
def Act6.sL (x : Act6) : List Nat := sealL x.ta x.tb x.tc x.td x.te x.bl (wideN x.ta x.tb x.tc x.td x.te : Nat)
/-- What an act makes of a disk. -/
def DM.act6 (m : DM) (x : Act6) : DM :=
  if x.sl = true then (if x.sE = 0 then m.puts (firstS x.tb x.tc) x.sL (wideN x.ta x.tb x.tc x.td x.te) else m) else (m.act x.act.kind x.act.sec x.act.num x.act.bl x.act.kl).2
theorem puts_waits (m : DM) (s : Int) (L : List Nat) (k : Nat) : (m.puts s L k).waits.length ≤ m.waits.length + k := by
  induction k with
  | zero => exact Nat.le_refl _
  | succ k ih =>
    unfold DM.puts DM.write
    split
    · show (m.puts s L k).waits.length ≤ _; omega
    · split
      · show (m.puts s L k).waits.length ≤ _; omega
      · split
        · show (m.puts s L k).waits.length ≤ _; omega
        · simp; omega
theorem act6_waits (m : DM) (x : Act6) : (m.act6 x).waits.length ≤ m.waits.length + 2 := by
  unfold DM.act6
  split
  · split
    · have h1 := puts_waits m (firstS x.tb x.tc) x.sL (wideN x.ta x.tb x.tc x.td x.te)
      have h2 := wideN_le x.ta x.tb x.tc x.td x.te
      omega
    · omega
  · have := act_waits m x.act.kind x.act.sec x.act.num x.act.bl x.act.kl
    omega

set_option maxHeartbeats 800000 in
theorem wide6_any (a b c d e : Int) (w : World) (hL : LaidT w) :
    Calls Tryz.prog 40 #[.agg #[.int .i64 a, .int .i64 b, .int .i64 c, .int .i64 d, .int .i64 e]] w fun r w' => r = .returned (.int .i64 (wideN a b c d e : Nat)) ∧ Ext w w' := by
  have hE := (Ext.refl w).alloc (.cells #[.int .i64 a, .int .i64 b, .int .i64 c, .int .i64 d, .int .i64 e] 33)
  have HT := Lib.hid (heap_alloc_new w (.cells #[.int .i64 a, .int .i64 b, .int .i64 c, .int .i64 d, .int .i64 e] 33))
  have HE := Lib.hid hE
  have HL := Lib.hid hL
  clear hE hL
  obtain ⟨W, hW⟩ : ∃ W, wideN a b c d e = W := ⟨_, rfl⟩
  rw [hW]
  by_cases hm : mayB a b c d e = true
  · have HW : Hid (wid b = W) := Lib.hid (by rw [← hW]; unfold wideN; rw [if_pos hm])
    clear hW
    go_enter Tryz.func40, Tryz.ntmps40
    go_wp2_with fail
    refine (may_any _ _ _ _ _ _ (HL.out.ext HE.out)).mono ?_
    rw [hm]
    rintro r w1 ⟨rfl, hx⟩
    have ht := (hx.block _ (Array.getElem?_eq_some_iff.1 HT.out).1).trans HT.out
    have HE := Lib.hid (HE.out.trans hx)
    obtain ⟨⟨i0, i1, i2, i3, i4⟩, _⟩ := five_cells ht
    clear hx ht hm
    go_wp2_with fail
    refine (wide_any _ _ (HL.out.ext HE.out)).mono ?_
    rw [HW.out]
    rintro r w2 ⟨rfl, hx⟩
    have HE := Lib.hid (HE.out.trans hx)
    clear hx
    go_wp2_with fail
    go_ret
    exact ⟨rfl, HE.out⟩
  · have hm' : mayB a b c d e = false := by simpa using hm
    have HW : Hid (W = 0) := Lib.hid (by rw [← hW]; unfold wideN; rw [if_neg hm])
    clear hW hm
    go_enter Tryz.func40, Tryz.ntmps40
    go_wp2_with fail
    refine (may_any _ _ _ _ _ _ (HL.out.ext HE.out)).mono ?_
    rw [hm']
    rintro r w1 ⟨rfl, hx⟩
    have HE := Lib.hid (HE.out.trans hx)
    clear hx hm'
    go_wp2_with fail
    go_ret
    exact ⟨by rw [HW.out]; rfl, HE.out⟩

/-- What Great answers of ghost's acts. -/
def Great6E (n : Nat) (l : List Act6) (w : World) (e : Ending) (w' : World) : Prop := ∃ b : Bool, e = .returned (.bool b) ∧ Ext w w' ∧ (b = false → n ≤ 60 ∧ ∀ a ∈ l, a.bn ≤ 100 ∧ a.act.bn ≤ 200 ∧ a.act.kn ≤ 100)
theorem acts_one6 (w : World) (a : Act5) (h : a.Ok w w.heap.size) : Acts (w.alloc (.cells #[.int .u8 (a.kind : Int), .int .i64 a.sec, .int .i64 a.num, .slice a.bA a.bn a.bc, .slice a.kA a.kn a.kc] 37)) (w.alloc (.cells #[.int .u8 (a.kind : Int), .int .i64 a.sec, .int .i64 a.num, .slice a.bA a.bn a.bc, .slice a.kA a.kn a.kc] 37)).heap.size (some ⟨w.heap.size, 0, none⟩) 1 1 [a] := by
  refine ⟨rfl, Nat.le_refl _, by omega, fun b hb => ?_, fun _ => ⟨w.heap.size, 0, rfl, by simp, fun j b hb k v hv => ?_⟩, fun h => by cases h⟩
  · obtain rfl := List.mem_singleton.1 hb
    exact (h.below ((Ext.refl w).alloc _)).more ((Ext.refl w).alloc _).size
  · match j, hb with
    | 0, hb =>
      injection hb with hb
      subst hb
      rw [World.cell?_alloc_new]
      rw [show 0 + (0 * 5 + k) = k by omega]
      exact (List.getElem?_toArray ..).trans hv

set_option maxRecDepth 100000 in
set_option maxHeartbeats 1600000 in
theorem great6_of {w : World} {B : Nat} (hBw : B ≤ w.heap.size) (A : Option Addr) (n c : Nat) (l : List Act6) (h : Acts6 w B A n c l) :
    Calls Tryz.prog 6 #[.slice A n c] w (Great6E n l w) := by
  have HA := Lib.hid h
  have hn := Nat.zero_le n
  have HBW := Lib.hid hBw
  clear h hBw
  go_enter Tryz.func6, Tryz.ntmps6
  by_cases hn120 : 60 < n
  · go_wp2_with fail
    go_ret
    exact ⟨true, rfl, Ext.refl _, fun h => by cases h⟩
  go_wp2_with fail
  go_loopw [3] (fun i wr => ∃ k : Nat, k ≤ n ∧ i = .int .i64 k ∧ Hid (Ext w wr) ∧ Hid (∀ a ∈ l.take k, a.bn ≤ 100 ∧ a.act.bn ≤ 200 ∧ a.act.kn ≤ 100)) (fun i _ => n - (intOf i).toNat)
  case atStart => exact ⟨0, Nat.zero_le _, rfl, Lib.hid (Ext.refl _), Lib.hid fun a ha => by simp at ha⟩
  case round =>
    obtain ⟨k, hkn, rfl, HX, HT⟩ := hrel
    by_cases hlt : k < n
    · obtain ⟨g, o, a, rfl, hg, ha, hok, hc⟩ := HA.out.at_ hlt
      have HAL := Lib.hid ha
      have HOK : Hid (a.act.Ok wr wr.heap.size) := Lib.hid ((hok.act.below (HX.out.mono HBW.out)).more (Nat.le_trans HBW.out HX.out.size))
      obtain ⟨h0, h1, h2, h3, h4, h5, h6, h7, h8, h9, h10, h11⟩ := hc.below (HX.out.mono HBW.out) hg
      by_cases hb : 100 < a.bn
      · clear ha hok hc
        go_wp2_with fail
        go_ret
        exact ⟨true, rfl, HX.out, fun h => by cases h⟩
      · clear ha hok hc h0 h1 h2 h3 h4 h5
        go_wp2_with fail
        refine (great_of _ 1 1 [a.act] (acts_one6 wr a.act HOK.out)).mono ?_
        rintro e w2 ⟨b, rfl, rfl, hgr⟩
        have HX2 := Lib.hid (HX.out.alloc (.cells #[.int .u8 (a.act.kind : Int), .int .i64 a.act.sec, .int .i64 a.act.num, .slice a.act.bA a.act.bn a.act.bc, .slice a.act.kA a.act.kn a.act.kc] 37))
        have HGR := Lib.hid hgr
        clear hgr
        cases b with
        | true =>
          go_wp2_with fail
          go_ret
          exact ⟨true, rfl, HX2.out, fun h => by cases h⟩
        | false =>
          go_wp2_with fail
          go_roundw
          case rel => exact ⟨k + 1, by omega, by go_num, HX2, Lib.hid fun b hb' => by
            rw [List.take_add_one, HAL.out] at hb'
            rcases List.mem_append.1 hb' with h | h
            · exact HT.out b h
            · simp only [Option.toList_some, List.mem_singleton] at h
              subst h
              have := (HGR.out (by trivial)).2 b.act (List.mem_singleton.2 rfl)
              exact ⟨by omega, this.1, this.2⟩⟩
          case measure => simp [intOf]; omega
    · go_wp2_with fail
      go_ret
      refine ⟨false, rfl, HX.out, fun _ => ⟨by omega, fun a ha => HT.out a ?_⟩⟩
      rw [List.take_of_length_le (by have := HA.out.len; omega)]
      exact ha
end Go.Proofs.YtlikhmhomkiadaaGreatDoor

namespace Go.Proofs.YtlikhmhomkiadaaGreatDoor
set_option maxRecDepth 100000
open Go Go.RowKit

theorem sealE_zero {a b c d e s : Int} {n : Nat} : sealE a b c d e n s = 0 ↔ roomN s ≠ 0 ∧ mayB a b c d e = true ∧ n ≤ roomN s := by
  constructor
  · intro h
    by_cases h1 : roomN s = 0 ∨ mayB a b c d e = false
    · rw [sealE_arg h1] at h; cases h
    · have h0 : roomN s ≠ 0 := fun hh => h1 (.inl hh)
      have hm : mayB a b c d e = true := by
        by_cases hm : mayB a b c d e = true
        · exact hm
        · exact absurd (.inr (by simpa using hm)) h1
      refine ⟨h0, hm, ?_⟩
      rcases Nat.lt_or_ge (roomN s) n with h2 | h2
      · rw [sealE_long h0 hm h2] at h; cases h
      · exact h2
  · rintro ⟨h0, hm, hn⟩
    exact sealE_yes h0 hm hn
theorem sealL_len {a b c d e s : Int} {body : List Nat} (h : sealE a b c d e body.length s = 0) : (sealL a b c d e body s).length = 64 * s.toNat ∧ 1 ≤ s ∧ s ≤ 2 := by
  obtain ⟨h0, hm, hn⟩ := sealE_zero.1 h
  obtain ⟨S, rfl⟩ := Int.eq_ofNat_of_zero_le (show 0 ≤ s by have := roomN_pos (s := s) (by omega); omega)
  have hfit := room_fits hn (by omega)
  rw [sealL_yes h, Int.toNat_natCast, frameL_len (by rw [pl_yes hm, tagBytes_len]) (by omega) (by omega)]
  omega
theorem sealL_good {a b c d e s : Int} {body : List Nat} (h : sealE a b c d e body.length s = 0) : goodB (sealL a b c d e body s) = true ∧ obl (sealL a b c d e body s) = body ∧ (ofl (sealL a b c d e body s) 0 : Int) = a ∧ (ofl (sealL a b c d e body s) 1 : Int) = b ∧ (ofl (sealL a b c d e body s) 2 : Int) = c ∧ (ofl (sealL a b c d e body s) 3 : Int) = d ∧ (ofl (sealL a b c d e body s) 4 : Int) = e := by
  obtain ⟨h0, hm, hn⟩ := sealE_zero.1 h
  obtain ⟨S, rfl⟩ := Int.eq_ofNat_of_zero_le (show 0 ≤ s by have := roomN_pos (s := s) (by omega); omega)
  obtain ⟨a, b, c, d, e, rfl, rfl, rfl, rfl, rfl⟩ := may_nat hm
  have hb88 := roomN_le (S : Int)
  rw [sealL_yes h, Int.toNat_natCast, pl_yes hm]
  simp only [Int.toNat_natCast]
  have hg := seal_good (S := S) hm hn (by omega)
  have hr := (PV_tag hm).2
  rw [ofl_yes hg, ofl_yes hg, ofl_yes hg, ofl_yes hg, ofl_yes hg, obl_yes hg, read_tag (tagBytes_len a b c d e), read_body (tagBytes_len a b c d e) (by omega), hr 0 (by omega), hr 1 (by omega), hr 2 (by omega), hr 3 (by omega), hr 4 (by omega)]
  exact ⟨hg, rfl, rfl, rfl, rfl, rfl, rfl⟩
theorem sealL_lt {a b c d e s : Int} {body : List Nat} (hb : ∀ x ∈ body, x < 256) : ∀ x ∈ sealL a b c d e body s, x < 256 := by
  by_cases h : sealE a b c d e body.length s = 0
  · rw [sealL_yes h]
    refine frameL_lt hb ?_
    rw [pl_yes (sealE_zero.1 h).2.1]
    exact tagBytes_lt _ _ _ _ _
  · rw [sealL_no h]
    simp

/-- One sector or two. -/
def sS (two : Bool) : Int := if two then 2 else 1

end Go.Proofs.YtlikhmhomkiadaaGreatDoor
