/-
  The walk of the statement that texts are read one behind the other as they were put.
-/
import Derived.Test.YtcnjhblboedbpaaDoorLaws
namespace Go.Proofs.YtcnjhblboedbpaaDoor
open Go Go.RowKit

theorem str_bl (s : ByteArray) : str (bl s) = s := by
  unfold str bl
  rw [List.map_map]
  have e : ((UInt8.ofNat ∘ UInt8.toNat) : UInt8 → UInt8) = id := by
    funext u
    simp
  rw [e, List.map_id]
theorem readS_text (l1 l3 : List Nat) (s : ByteArray) : readS (l1 ++ (s.size :: bl s) ++ l3) (l1.length : Int) = (bl s, l1.length + 1 + s.size, 0) := by
  have hb : (l1 ++ (s.size :: bl s) ++ l3)[l1.length]? = some s.size := by simp
  have hlen : (l1 ++ (s.size :: bl s) ++ l3).length = l1.length + 1 + s.size + l3.length := by simp [bl_length]; omega
  rw [readS_yes hb (by omega)]
  have e : ((l1 ++ (s.size :: bl s) ++ l3).drop (l1.length + 1)).take s.size = bl s := by
    have e1 : l1 ++ (s.size :: bl s) ++ l3 = (l1 ++ [s.size]) ++ (bl s ++ l3) := by simp
    have e2 : l1.length + 1 = (l1 ++ [s.size]).length := by simp
    rw [e1, e2, List.drop_left, List.take_append_of_le_length (by rw [bl_length]; exact Nat.le_refl _), List.take_of_length_le (by rw [bl_length]; exact Nat.le_refl _)]
  rw [e]
theorem readS_texts (l : List Nat) (s t : ByteArray) (m : Nat) (hm : l.length = m) : readS (l ++ (s.size :: bl s) ++ (t.size :: bl t)) ((m : Int) + 1 + (s.size : Int)) = (bl t, m + 1 + s.size + 1 + t.size, 0) := by
  have h := readS_text (l ++ (s.size :: bl s)) [] t
  have hlen : (l ++ (s.size :: bl s)).length = m + 1 + s.size := by simp [bl_length, hm]; omega
  rw [hlen, List.append_nil] at h
  have e : ((m : Int) + 1 + (s.size : Int)) = ((m + 1 + s.size : Nat) : Int) := by omega
  rw [e]
  exact h
set_option maxHeartbeats 4000000 in
set_option maxRecDepth 100000 in
theorem octetTextBack_law (s t : ByteArray) (A : Option Addr) (m c : Nat) (l : List Nat) (w : World) (_ : s.size ≤ maxLen) (_ : t.size ≤ maxLen) (hb : Bs w w.heap.size A m c l) (hL : Laid w) :
    Calls Tryd.prog 6 #[.string s, .string t, .slice A m c] w fun e w' => e = .returned (.bool true) ∧ Below w.heap.size w w' := by
  show Calls Tryd.prog 6 #[.string s, .string t, .slice A m c] w fun e w' => e = .returned (.bool true) ∧ Ext w w'
  have HL := Lib.hid hL
  have HA : Hid (By w A m c l) := Lib.hid hb
  clear hL hb
  have big : (300 < s.size ∨ (s.size ≤ 300 ∧ 300 < t.size) ∨ (s.size ≤ 300 ∧ t.size ≤ 300 ∧ 300 < m)) → Calls Tryd.prog 6 #[.string s, .string t, .slice A m c] w fun e w' => e = .returned (.bool true) ∧ Ext w w' := by
    rintro (h | ⟨h, h'⟩ | ⟨h, h', h''⟩)
    all_goals
      go_enter Tryd.func6, Tryd.ntmps6
      go_wp2_with fail
      refine (awake_any _ HL.out).mono ?_
      rintro e w1 ⟨rfl, hx⟩
      have HE := Lib.hid hx
      clear hx
      go_wp2_with fail
      go_ret
      exact ⟨rfl, HE.out⟩
  by_cases h1 : 300 < s.size
  · exact big (.inl h1)
  by_cases h2 : 300 < t.size
  · exact big (.inr (.inl ⟨by omega, h2⟩))
  by_cases h3 : 300 < m
  · exact big (.inr (.inr ⟨by omega, by omega, h3⟩))
  clear big
  by_cases hs : 255 < s.size
  · by_cases ht : 255 < t.size
    all_goals
      go_enter Tryd.func6, Tryd.ntmps6
      go_wp2_with fail
      refine (awake_any _ HL.out).mono ?_
      rintro e w1 ⟨rfl, hx⟩
      have HE := Lib.hid hx
      clear hx
      go_wp2_with fail
      refine (text_no_by s _ hs (by omega)).mono ?_
      rintro e w2 ⟨rfl, hx⟩
      have HE := Lib.hid (HE.out.trans hx)
      clear hx
      go_wp2_with fail
    · refine (text_no_by t _ ht (by omega)).mono ?_
      rintro e w2 ⟨rfl, hx⟩
      have HE := Lib.hid (HE.out.trans hx)
      clear hx
      go_wp2_with fail
      go_ret
      exact ⟨rfl, HE.out⟩
    · refine (text_by t _ (by omega)).mono ?_
      rintro e w2 ⟨A2, c2, rfl, hb, hx⟩
      have HE := Lib.hid (HE.out.trans hx)
      have hd1 : decide ((t.size : Int) ≤ 255) = true := by simp; omega
      have hd2 : decide (t.size ≤ 255) = true := by simp; omega
      clear hb hx
      go_wp2_with fail
      go_ret
      exact ⟨rfl, HE.out⟩
  · go_enter Tryd.func6, Tryd.ntmps6
    go_wp2_with fail
    refine (awake_any _ HL.out).mono ?_
    rintro e w1 ⟨rfl, hx⟩
    have HE := Lib.hid hx
    have HA := Lib.hid (HA.out.ext hx)
    have HL := Lib.hid (HL.out.ext hx)
    clear hx
    go_wp2_with fail
    refine (text_by s _ (by omega)).mono ?_
    rintro e w2 ⟨A1, c1, rfl, hb, hx⟩
    have HB1 := Lib.hid hb
    have HE := Lib.hid (HE.out.trans hx)
    have HA := Lib.hid (HA.out.ext hx)
    have HL := Lib.hid (HL.out.ext hx)
    clear hb hx
    go_wp2_with fail
    by_cases ht : 255 < t.size
    · refine (text_no_by t _ ht (by omega)).mono ?_
      rintro e w3 ⟨rfl, hx⟩
      have HE := Lib.hid (HE.out.trans hx)
      clear hx
      go_wp2_with fail
      go_ret
      exact ⟨rfl, HE.out⟩
    · refine (text_by t _ (by omega)).mono ?_
      rintro e w3 ⟨A2, c2, rfl, hb, hx⟩
      have HB2 := Lib.hid hb
      have HB1 := Lib.hid (HB1.out.ext hx)
      have HE := Lib.hid (HE.out.trans hx)
      have HA := Lib.hid (HA.out.ext hx)
      have HL := Lib.hid (HL.out.ext hx)
      have hd1 : decide ((t.size : Int) ≤ 255) = true := by simp; omega
      have hd2 : decide (t.size ≤ 255) = true := by simp; omega
      clear hb hx
      go_wp2_with fail
      refine (join3_by _ HA.out HB1.out HB2.out (by omega)).mono ?_
      rintro e w4 ⟨AJ, cJ, rfl, hb, hx⟩
      have HJ := Lib.hid hb
      have HE := Lib.hid (HE.out.trans hx)
      have HL := Lib.hid (HL.out.ext hx)
      have hg1 := readS_text l (t.size :: bl t) s
      have hg2 := readS_texts l s t m HA.out.len
      rw [HA.out.len] at hg1
      generalize hall : l ++ (s.size :: bl s) ++ (t.size :: bl t) = all at *
      have HG1 := Lib.hid hg1
      have HG2 := Lib.hid hg2
      clear hb hx hg1 hg2 hall
      go_wp2_with fail
      refine (read_by _ all _ _ _ _ HL.out HJ.out (by omega)).mono ?_
      rw [HG1.out]
      rw [show str ((bl s, m + 1 + s.size, (0 : Int)).1) = s from str_bl s]
      rintro e w5 ⟨rfl, hx⟩
      have HJ := Lib.hid (HJ.out.ext hx)
      have HE := Lib.hid (HE.out.trans hx)
      have HL := Lib.hid (HL.out.ext hx)
      clear hx
      go_wp2_with fail
      refine (read_by _ all _ _ _ _ HL.out HJ.out (by omega)).mono ?_
      rw [HG2.out]
      rw [show str ((bl t, m + 1 + s.size + 1 + t.size, (0 : Int)).1) = t from str_bl t]
      rintro e w6 ⟨rfl, hx⟩
      have HE := Lib.hid (HE.out.trans hx)
      clear hx
      go_wp2_with fail
      go_ret
      exact ⟨by simp; omega, HE.out⟩
end Go.Proofs.YtcnjhblboedbpaaDoor
