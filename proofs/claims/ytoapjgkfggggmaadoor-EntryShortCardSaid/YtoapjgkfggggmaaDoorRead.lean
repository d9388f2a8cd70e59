/-
  The contracts of Read, the program's and the document's: the text that stands at a place of bytes, or which error.
-/
import Derived.Test.YtoapjgkfggggmaaDoorOGet
import Derived.Laws.BytesString
import Derived.Laws.IdiomStrings
namespace Go.Proofs.YtoapjgkfggggmaaDoor
set_option maxRecDepth 100000
open Go Go.RowKit

/-- A text of bytes given as numbers. -/
def str (l : List Nat) : ByteArray := ⟨(l.map UInt8.ofNat).toArray⟩

/-- What Read answers: the text's bytes, the place behind it, and which error (0: none). -/
def readS (l : List Nat) (at_ : Int) : List Nat × Nat × Int :=
  if (getS l at_ 1).2.2 ≠ 0 then ([], 0, (getS l at_ 1).2.2)
  else if l.length - (getS l at_ 1).2.1 < (getS l at_ 1).1 then ([], 0, 10)
  else ((l.drop (getS l at_ 1).2.1).take (getS l at_ 1).1, (getS l at_ 1).2.1 + (getS l at_ 1).1, 0)

theorem getS_one {l : List Nat} {a b : Nat} (hb : l[a]? = some b) : getS l (a : Int) 1 = (b, a + 1, 0) := by
  have ha : a < l.length := (List.getElem?_eq_some_iff.1 hb).1
  rw [getS_yes rfl (by omega) (by omega) (by omega)]
  have e : (l.drop a).take 1 = [b] := by
    have h0 : (l.drop a)[0]? = some b := by rw [List.getElem?_drop]; exact hb
    rw [List.take_add_one, h0]
    simp
  simp [e, num]
theorem getS_end {l : List Nat} : getS l (l.length : Int) 1 = (0, 0, 10) := getS_short rfl (by omega) (by omega) (by omega)
theorem readS_err {l : List Nat} {a e : Int} (h : getS l a 1 = (0, 0, e)) (he : e ≠ 0) : readS l a = ([], 0, e) := by
  unfold readS
  rw [h, if_pos he]
theorem readS_short {l : List Nat} {a b : Nat} (hb : l[a]? = some b) (h : l.length < a + 1 + b) : readS l (a : Int) = ([], 0, 10) := by
  have ha : a < l.length := (List.getElem?_eq_some_iff.1 hb).1
  unfold readS
  rw [getS_one hb, if_neg (by simp), if_pos (by simp only; omega)]
theorem readS_yes {l : List Nat} {a b : Nat} (hb : l[a]? = some b) (h : a + 1 + b ≤ l.length) : readS l (a : Int) = ((l.drop (a + 1)).take b, a + 1 + b, 0) := by
  unfold readS
  rw [getS_one hb, if_neg (by simp), if_neg (by simp only; omega)]

theorem conv_zero {P : Program} (w : World) (src dst e : TypeId) (A : Option Addr) (c : Nat) (hs : P.underlying src = some (.slice e)) (he : P.underlying e = some (.int .u8)) (hd : P.underlying dst = some .string) :
    (convert src dst (.slice A 0 c)).run P w = .ok (.string (str [])) w := by
  rw [run_convert_bytes_string w src dst e _ 0 c hs he hd]
  cases A with
  | none => simp [Conv.bytesToString]; rfl
  | some a =>
    have hl := run_loadCells_list (P := P) w a [] (fun j v hj => by simp at hj)
    rw [run_bytesToString w a 0 c [] hl]
    rfl
theorem conv_some {P : Program} {w : World} {B : Nat} {g o : Nat} {l : List Nat} (hr : Rd w B (some ⟨g, o, none⟩) l) (n c : Nat) (hl : l.length = n) (src dst e : TypeId) (hs : P.underlying src = some (.slice e)) (he : P.underlying e = some (.int .u8)) (hd : P.underlying dst = some .string) :
    (convert src dst (.slice (some ⟨g, o, none⟩) n c)).run P w = .ok (.string (str l)) w := by
  subst hl
  by_cases h0 : l.length = 0
  · rw [h0, List.eq_nil_of_length_eq_zero h0]
    exact conv_zero w src dst e _ c hs he hd
  · have e1 : (l.map UInt8.ofNat).length = l.length := by simp
    have h := run_convert_bytes_back (P := P) w src dst e ⟨g, o, none⟩ c (l.map UInt8.ofNat) hs he hd (fun j hj => by
      have hj' : j < l.length := by simpa using hj
      obtain ⟨g', o', x, hA, _, hx, hx2, hc⟩ := hr.at_ hj'
      injection hA with hA
      injection hA with h1 h2
      subst h1; subst h2
      rw [Addr.add_lit, hc]
      have : (l.map UInt8.ofNat)[j] = UInt8.ofNat x := by
        have h3 := List.getElem?_eq_some_iff.1 hx
        simp [h3.2]
      rw [this]
      simp [Nat.mod_eq_of_lt hx2])
    rw [e1] at h
    exact h

set_option maxHeartbeats 800000 in
theorem oread_any (A : Option Addr) (l : List Nat) (n c B : Nat) (a : Int) (w : World) (hL : Laid w) (hl : l.length = n) (hc : n ≤ c) (hr : Rd w B A l) (hn9 : n ≤ 9000000000000000000) :
    Calls Tryd.prog 55 #[.slice A n c, .int .i64 a] w fun e w' => e = .returned (.tuple #[.string (str (readS l a).1), .int .i64 (readS l a).2.1, .int .i64 (readS l a).2.2]) ∧ w = w' := by
  have H := Lib.hid hL
  clear hL
  have HL := Lib.hid hl
  clear hl
  have HE : Hid (a < 0 ∨ (n : Int) < a ∨ (n : Int) = a ∨ ∃ k : Nat, k < n ∧ a = k) := Lib.hid (by
    by_cases h1 : a < 0
    · exact .inl h1
    · obtain ⟨k, rfl⟩ := Int.eq_ofNat_of_zero_le (show 0 ≤ a by omega)
      by_cases h2 : k < n
      · exact .inr (.inr (.inr ⟨k, h2, rfl⟩))
      · by_cases h3 : k = n
        · exact .inr (.inr (.inl (by omega)))
        · exact .inr (.inl (by omega)))
  have bad : ∀ e : Int, (e == 0) = false → (e != 0) = true → getS l a 1 = (0, 0, e) → Calls Tryd.prog 55 #[.slice A n c, .int .i64 a] w fun e w' => e = .returned (.tuple #[.string (str (readS l a).1), .int .i64 (readS l a).2.1, .int .i64 (readS l a).2.2]) ∧ w = w' := by
    intro e h0 h0' hg
    have HF := Lib.hid (readS_err hg (by simpa using h0))
    have HG := Lib.hid hg
    clear hg HE
    go_enter Tryd.func55, Tryd.ntmps55
    go_wp2_with (go_at_call 49; refine (oget_any _ _ _ _ _ _ _ _ H.out HL.out hr (by omega)).mono ?_; rintro e w' ⟨rfl, rfl⟩; rw [HG.out])
    go_ret3
    exact ⟨by rw [HF.out]; rfl, rfl⟩
  rcases HE.out with h | h | h | ⟨k, hk, rfl⟩
  · exact bad 2 rfl rfl (getS_arg (.inr (.inl h)))
  · exact bad 2 rfl rfl (getS_arg (.inr (.inr (by rw [HL.out]; exact h))))
  · exact bad 10 rfl rfl (by rw [← h, ← HL.out]; exact getS_end)
  · clear bad HE
    obtain ⟨g, o, b, hA, _, hb, hb2, _⟩ := hr.at_ (k := k) (by rw [HL.out]; exact hk)
    subst hA
    have HG := Lib.hid (getS_one hb)
    have HB := Lib.hid hb
    by_cases hlt : n < k + 1 + b
    · have HF := Lib.hid (readS_short hb (by rw [HL.out]; exact hlt))
      clear hb
      go_enter Tryd.func55, Tryd.ntmps55
      go_wp2_with (go_at_call 49; refine (oget_any _ _ _ _ _ _ _ _ H.out HL.out hr (by omega)).mono ?_; rintro e w' ⟨rfl, rfl⟩; rw [HG.out])
      go_ret3
      exact ⟨by rw [HF.out]; rfl, rfl⟩
    · have HF := Lib.hid (readS_yes hb (by rw [HL.out]; omega))
      clear hb
      have hdt : ((l.drop (k + 1)).take b).length = b := by rw [List.length_take, List.length_drop, HL.out]; omega
      by_cases hb0 : b = 0
      · subst hb0
        have hcv := fun A' c' => conv_zero (P := Tryd.prog) w 29 9 5 A' c' Tryd.underlying29 Tryd.underlying5 Tryd.underlying9
        clear hdt
        go_enter Tryd.func55, Tryd.ntmps55
        go_wp2_with (go_at_call 49; refine (oget_any _ _ _ _ _ _ _ _ H.out HL.out hr (by omega)).mono ?_; rintro e w' ⟨rfl, rfl⟩; rw [HG.out])
        all_goals (go_ret3; exact ⟨by rw [HF.out]; simp, rfl⟩)
      · have hcv := fun c' => conv_some (P := Tryd.prog) ((hr.drop rfl (k + 1)).take b) b c' hdt 29 9 5 Tryd.underlying29 Tryd.underlying5 Tryd.underlying9
        have hne : ¬ c = k + 1 := by omega
        clear hdt
        go_enter Tryd.func55, Tryd.ntmps55
        go_wp2_with (go_at_call 49; refine (oget_any _ _ _ _ _ _ _ _ H.out HL.out hr (by omega)).mono ?_; rintro e w' ⟨rfl, rfl⟩; rw [HG.out])
        go_ret3
        exact ⟨by rw [HF.out]; rfl, rfl⟩
set_option maxHeartbeats 800000 in
theorem rread_any (A : Option Addr) (l : List Nat) (n c B : Nat) (a : Int) (w : World) (hl : l.length = n) (hc : n ≤ c) (hr : Rd w B A l) (hn9 : n ≤ 9000000000000000000) :
    Calls Tryd.prog 37 #[.slice A n c, .int .i64 a] w fun e w' => e = .returned (.tuple #[.string (str (readS l a).1), .int .i64 (readS l a).2.1, .int .i64 (readS l a).2.2]) ∧ w = w' := by
  have HL := Lib.hid hl
  clear hl
  have HE : Hid (a < 0 ∨ (n : Int) < a ∨ (n : Int) = a ∨ ∃ k : Nat, k < n ∧ a = k) := Lib.hid (by
    by_cases h1 : a < 0
    · exact .inl h1
    · obtain ⟨k, rfl⟩ := Int.eq_ofNat_of_zero_le (show 0 ≤ a by omega)
      by_cases h2 : k < n
      · exact .inr (.inr (.inr ⟨k, h2, rfl⟩))
      · by_cases h3 : k = n
        · exact .inr (.inr (.inl (by omega)))
        · exact .inr (.inl (by omega)))
  have bad : ∀ e : Int, (e == 0) = false → (e != 0) = true → getS l a 1 = (0, 0, e) → Calls Tryd.prog 37 #[.slice A n c, .int .i64 a] w fun e w' => e = .returned (.tuple #[.string (str (readS l a).1), .int .i64 (readS l a).2.1, .int .i64 (readS l a).2.2]) ∧ w = w' := by
    intro e h0 h0' hg
    have HF := Lib.hid (readS_err hg (by simpa using h0))
    have HG := Lib.hid hg
    clear hg HE
    go_enter Tryd.func37, Tryd.ntmps37
    go_wp2_with (go_at_call 36; refine (rget_any _ _ _ _ _ _ _ _ HL.out hr (by omega)).mono ?_; rintro e w' ⟨rfl, rfl⟩; rw [HG.out])
    go_ret3
    exact ⟨by rw [HF.out]; rfl, rfl⟩
  rcases HE.out with h | h | h | ⟨k, hk, rfl⟩
  · exact bad 2 rfl rfl (getS_arg (.inr (.inl h)))
  · exact bad 2 rfl rfl (getS_arg (.inr (.inr (by rw [HL.out]; exact h))))
  · exact bad 10 rfl rfl (by rw [← h, ← HL.out]; exact getS_end)
  · clear bad HE
    obtain ⟨g, o, b, hA, _, hb, hb2, _⟩ := hr.at_ (k := k) (by rw [HL.out]; exact hk)
    subst hA
    have HG := Lib.hid (getS_one hb)
    have HB := Lib.hid hb
    by_cases hlt : n < k + 1 + b
    · have HF := Lib.hid (readS_short hb (by rw [HL.out]; exact hlt))
      clear hb
      go_enter Tryd.func37, Tryd.ntmps37
      go_wp2_with (go_at_call 36; refine (rget_any _ _ _ _ _ _ _ _ HL.out hr (by omega)).mono ?_; rintro e w' ⟨rfl, rfl⟩; rw [HG.out])
      go_ret3
      exact ⟨by rw [HF.out]; rfl, rfl⟩
    · have HF := Lib.hid (readS_yes hb (by rw [HL.out]; omega))
      clear hb
      have hdt : ((l.drop (k + 1)).take b).length = b := by rw [List.length_take, List.length_drop, HL.out]; omega
      by_cases hb0 : b = 0
      · subst hb0
        have hcv := fun A' c' => conv_zero (P := Tryd.prog) w 29 9 5 A' c' Tryd.underlying29 Tryd.underlying5 Tryd.underlying9
        clear hdt
        go_enter Tryd.func37, Tryd.ntmps37
        go_wp2_with (go_at_call 36; refine (rget_any _ _ _ _ _ _ _ _ HL.out hr (by omega)).mono ?_; rintro e w' ⟨rfl, rfl⟩; rw [HG.out])
        all_goals (go_ret3; exact ⟨by rw [HF.out]; simp, rfl⟩)
      · have hcv := fun c' => conv_some (P := Tryd.prog) ((hr.drop rfl (k + 1)).take b) b c' hdt 29 9 5 Tryd.underlying29 Tryd.underlying5 Tryd.underlying9
        have hne : ¬ c = k + 1 := by omega
        clear hdt
        go_enter Tryd.func37, Tryd.ntmps37
        go_wp2_with (go_at_call 36; refine (rget_any _ _ _ _ _ _ _ _ HL.out hr (by omega)).mono ?_; rintro e w' ⟨rfl, rfl⟩; rw [HG.out])
        go_ret3
        exact ⟨by rw [HF.out]; rfl, rfl⟩
end Go.Proofs.YtoapjgkfggggmaaDoor
