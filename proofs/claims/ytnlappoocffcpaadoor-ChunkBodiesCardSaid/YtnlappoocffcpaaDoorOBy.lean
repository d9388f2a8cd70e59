/-
  The contracts of Put, Get and Fits in the words 'By' and 'Ext', and facts on lists of bytes that go with them.
-/
import Derived.Test.YtnlappoocffcpaaDoorOGet
import Derived.Test.YtnlappoocffcpaaDoorPut
namespace Go.Proofs.YtnlappoocffcpaaDoor
set_option maxRecDepth 100000
open Go Go.RowKit

theorem digs_split (a b n : Nat) : digs (a + b) n = digs a (n % 256 ^ a) ++ digs b (n / 256 ^ a) := by
  induction a generalizing n with
  | zero => simp [digs]
  | succ a ih =>
    have e1 : a + 1 + b = (a + b) + 1 := by omega
    rw [e1, digs, ih, digs, List.cons_append]
    have p1 : 256 ^ (a + 1) = 256 * 256 ^ a := by rw [Nat.pow_succ, Nat.mul_comm]
    rw [p1, Nat.mod_mul_right_mod, Nat.mod_mul_right_div_self, Nat.div_div_eq_div_mul]
theorem digs_one (n : Nat) : digs 1 (n % 256) = (digs 6 n).take 1 := by simp [digs]
theorem getS_put {l1 l3 : List Nat} {x n : Nat} (h : fitsB x n = true) : getS (l1 ++ digs x n ++ l3) (l1.length : Int) x = (n, l1.length + x, 0) := by
  obtain ⟨hw, _, hN⟩ := fits_iff.1 h
  have hlen : (l1 ++ digs x n ++ l3).length = l1.length + x + l3.length := by simp [digs_length]; omega
  rw [getS_yes hw (by omega) (by omega) (by omega)]
  have e : ((l1 ++ digs x n ++ l3).drop (l1.length : Int).toNat).take (x : Int).toNat = digs x n := by
    simp only [Int.toNat_natCast, List.append_assoc, List.drop_left]
    rw [List.take_append_of_le_length (by rw [digs_length]; exact Nat.le_refl _), List.take_of_length_le (by rw [digs_length]; exact Nat.le_refl _)]
  simp only [Int.toNat_natCast] at hN
  rw [e, num_digs x n hN]
  simp
theorem getS_zero {l : List Nat} {x : Nat} (hw : wOk x = true) (h : x ≤ l.length) : getS l 0 x = (num (l.take x), x, 0) := by
  rw [getS_yes hw (by omega) (by omega) (by omega)]
  simp
theorem fits_num {l : List Nat} {x : Nat} (hw : wOk x = true) (h : x ≤ l.length) (hl : ∀ b ∈ l, b < 256) : fitsB x (num (l.take x)) = true := by
  refine fits_iff.2 ⟨hw, by omega, ?_⟩
  have := num_lt (l.take x) (fun b hb => hl b (List.mem_of_mem_take hb))
  rw [List.length_take, Nat.min_eq_left h] at this
  simpa using this
theorem digs_num_take {l : List Nat} {x : Nat} (h : x ≤ l.length) (hl : ∀ b ∈ l, b < 256) : digs x (num (l.take x)) = l.take x := by
  have e := digs_num (l.take x) (fun b hb => hl b (List.mem_of_mem_take hb))
  rw [List.length_take, Nat.min_eq_left h] at e
  exact e
theorem fits_nat {x n : Int} (h : fitsB x n = true) : ∃ x' n' : Nat, x = x' ∧ n = n' := by
  obtain ⟨hw, hn, _⟩ := fits_iff.1 h
  have hx : 0 ≤ x := by rcases wOk_cases hw with h | h | h | h <;> omega
  obtain ⟨x', rfl⟩ := Int.eq_ofNat_of_zero_le hx
  obtain ⟨n', rfl⟩ := Int.eq_ofNat_of_zero_le hn
  exact ⟨x', n', rfl, rfl⟩
theorem put_by (x N : Nat) (w : World) (hL : Laid w) (hf : fitsB x N = true) :
    Calls Tryd.prog 13 #[.int .i64 x, .int .i64 N] w fun e w' => ∃ A' c', e = .returned (.tuple #[.slice A' x c', .int .i64 0]) ∧ By w' A' x c' (digs x N) ∧ Ext w w' :=
  (oput_yes x N w hL hf).mono fun _ _ ⟨A', c', h1, h2, h3⟩ => ⟨A', c', h1, Bs.of_own h2 (digs_lt x N), h3⟩
theorem get_by (A : Option Addr) (l : List Nat) (n c : Nat) (a x : Int) (w : World) (hL : Laid w) (hb : By w A n c l) (hm : n ≤ 9000000000000000000) :
    Calls Tryd.prog 15 #[.slice A n c, .int .i64 a, .int .i64 x] w fun e w' => e = .returned (.tuple #[.int .i64 (getS l a x).1, .int .i64 (getS l a x).2.1, .int .i64 (getS l a x).2.2]) ∧ Ext w w' :=
  (oget_any A l n c _ a x w hL hb.len hb.rd hm).mono fun _ _ ⟨h, hw⟩ => ⟨h, by subst hw; exact Ext.refl _⟩
theorem put_no_by (x n : Int) (w : World) (hL : Laid w) (hf : fitsB x n = false) :
    Calls Tryd.prog 13 #[.int .i64 x, .int .i64 n] w fun e w' => e = .returned (.tuple #[.slice none 0 0, .int .i64 2]) ∧ Ext w w' :=
  (oput_no x n w hL hf).mono fun _ _ ⟨h, hw⟩ => ⟨h, by subst hw; exact Ext.refl _⟩
theorem fits_by (x n : Int) (w : World) (hL : Laid w) :
    Calls Tryd.prog 22 #[.int .i64 x, .int .i64 n] w fun e w' => e = .returned (.bool (fitsB x n)) ∧ Ext w w' :=
  (fits_any x n w hL).mono fun _ _ ⟨h, hw⟩ => ⟨h, by subst hw; exact Ext.refl _⟩
end Go.Proofs.YtnlappoocffcpaaDoor
