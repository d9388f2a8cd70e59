/-
  The contracts of Put, the program's and the document's: the bytes of a number in a width, or which error.
-/
import Derived.Test.YtnlappoocffcpaaDoorLaid
import Derived.Test.YtnlappoocffcpaaDoorCopy
import Derived.OwnWalk
namespace Go.Proofs.YtnlappoocffcpaaDoor
set_option maxRecDepth 100000
open Go Go.RowKit

theorem pad_set (k x N : Nat) (hk : k < x) : (vb (digs k N ++ List.replicate (x - k) 0)).set k (.int .u8 ((N / 256 ^ k % 256 : Nat) : Int)) = vb (digs (k + 1) N ++ List.replicate (x - (k + 1)) 0) := by
  have e : x - k = (x - (k + 1)) + 1 := by omega
  rw [digs_snoc, e, List.replicate_succ]
  simp only [vb, List.map_append, List.map_cons, List.append_assoc, List.map_nil]
  rw [List.set_append_right _ _ (by simp [digs_length])]
  simp [digs_length]

theorem shr_byte (N k : Nat) : (((N : Int) / 2 ^ (8 * k)) % 256) = ((N / 256 ^ k % 256 : Nat) : Int) := by
  have e : (2 : Nat) ^ (8 * k) = 256 ^ k := by rw [Nat.pow_mul]
  rw [← e]
  simp

set_option maxHeartbeats 800000 in
theorem oput_yes (x N : Nat) (w : World) (hL : Laid w) (hf : fitsB x N = true) :
    Calls Tryd.prog 13 #[.int .i64 x, .int .i64 N] w fun e w' => ∃ A' c', e = .returned (.tuple #[.slice A' x c', .int .i64 0]) ∧ w'.ownsRow w.heap.size 5 1 (.slice A' x c') x (vb (digs x N)) ∧ Below w.heap.size w w' := by
  obtain ⟨i0, hi, hz0, hz1, hz2⟩ := info_parts byte_info
  obtain ⟨hw, _, hN⟩ := fits_iff.1 hf
  have hx0 : 1 ≤ x ∧ x ≤ 6 := by rcases wOk_cases hw with h | h | h | h <;> omega
  have hN2 : N < 281474976710656 := by
    have h1 : 256 ^ x ≤ 256 ^ 6 := Nat.pow_le_pow_right (by omega) hx0.2
    simp only [Int.toNat_natCast] at hN
    exact Nat.lt_of_lt_of_le hN (Nat.le_trans h1 (by decide))
  have H := Lib.hid hL
  have HF := Lib.hid hf
  clear hL hf hN hw
  go_enter Tryd.func13, Tryd.ntmps13
  go_wp2_with (first
    | (go_at_call 22; refine (fits_any _ _ _ H.out).mono ?_; rintro e w' ⟨rfl, rfl⟩; rw [HF.out])
    | (at_make; refine wpList_make_full _ rfl _ _ 22 rfl w.heap.size 5 i0 (.int .u8 0) 1 Tryd.underlying22 hi hz0 hz1 .i64 .i64 _ _ x rfl rfl rfl rfl ?b1 ?b2 ?b3 ?_))
  case b1 => rw [hz2]; omega
  case b2 => unfold maxLen; omega
  case b3 => exact Nat.le_refl _
  intro w1 hown hg
  have HO : Hid (w1.ownsRow w.heap.size 5 1 (.slice (some ⟨w.heap.size, 0, none⟩) x x) x (vb (digs 0 N ++ List.replicate (x - 0) 0))) := by
    have e : (madeCells #[Value.int .u8 0] x).toList = vb (digs 0 N ++ List.replicate (x - 0) 0) := by
      rw [toList_madeCells_one]
      simp [vb, digs]
    rw [e] at hown
    exact hown
  have HB := Lib.hid ((Below.refl w.heap.size w).grown hg (Nat.le_refl _) (by simp))
  clear hown hg
  go_wp2_with fail
  go_loopw [15] (fun i wr => ∃ k : Nat, k ≤ x ∧ i = .int .i64 k ∧ Hid (wr.ownsRow w.heap.size 5 1 (.slice (some ⟨w.heap.size, 0, none⟩) x x) x (vb (digs k N ++ List.replicate (x - k) 0))) ∧ Below w.heap.size w wr) (fun i _ => x - (intOf i).toNat)
  case atStart => exact ⟨0, Nat.zero_le _, rfl, HO, HB.out⟩
  case round =>
    obtain ⟨k, hk, rfl, HOk, hbk⟩ := hrel
    have HBk := Lib.hid hbk
    clear hbk
    by_cases hlt : k < x
    · have hcell : ∃ v, wr.cell? ⟨w.heap.size, k, none⟩ = some v := by
        rw [HOk.out.cellAt k (by omega)]
        exact ⟨_, List.getElem?_eq_getElem (by rw [vb_length, List.length_append, digs_length, List.length_replicate]; omega)⟩
      obtain ⟨v0, hv0⟩ := hcell
      have hfz := HOk.out.frozenAt k
      go_wp2_with fail
      go_roundw
      case rel =>
        refine ⟨k + 1, by omega, by go_num, ?_, HBk.out.setCell (Nat.le_refl _) _⟩
        have hs := (HOk.out.stored k (.int .u8 ((N / 256 ^ k % 256 : Nat) : Int))).1
        rw [pad_set k x N hlt] at hs
        rw [← shr_byte] at hs
        exact hs
      case measure => simp [intOf]; omega
    · have HK : Hid (k = x) := Lib.hid (by omega)
      go_wp2_with fail
      go_ret2
      refine ⟨_, _, rfl, ?_, HBk.out⟩
      have := HOk.out
      rw [HK.out, Nat.sub_self, List.replicate_zero, List.append_nil] at this
      exact this

theorem oput_no (x n : Int) (w : World) (hL : Laid w) (hf : fitsB x n = false) :
    Calls Tryd.prog 13 #[.int .i64 x, .int .i64 n] w fun e w' => e = .returned (.tuple #[.slice none 0 0, .int .i64 2]) ∧ w = w' := by
  have H := Lib.hid hL
  have HF := Lib.hid hf
  clear hL hf
  go_enter Tryd.func13, Tryd.ntmps13
  go_wp2_with (go_at_call 22; refine (fits_any _ _ _ H.out).mono ?_; rintro e w' ⟨rfl, rfl⟩; rw [HF.out])
  go_ret2
  exact ⟨rfl, rfl⟩

theorem rput_step {w wr w1 : World} {k q N : Nat} {v v1 : Value} (hq : q = N / 256 ^ k) (hown : wr.ownsRow w.heap.size 5 1 v k (vb (digs k N))) (hbel : Below w.heap.size w wr)
    (hown1 : w1.ownsRow w.heap.size 5 1 v1 (k + 1) (vb (digs k N) ++ [.int .u8 ((q : Int) % 256)])) (hg : (wr.alloc (.cells #[.int .u8 ((q : Int) % 256)] 5)).grownBy w1 v.ownBlock) :
    w1.ownsRow w.heap.size 5 1 v1 (k + 1) (vb (digs (k + 1) N)) ∧ Below w.heap.size w w1 := by
  refine ⟨?_, ?_⟩
  · rw [digs_snoc, vb_append]
    have e : ((q : Int) % 256) = ((N / 256 ^ k % 256 : Nat) : Int) := by rw [← hq]; omega
    rw [e] at hown1
    exact hown1
  · refine (hbel.alloc hbel.size _).grown hg (Nat.le_trans hbel.size (by simp)) ?_
    intro g hg'
    exact (hown.lt g hg').1

end Go.Proofs.YtnlappoocffcpaaDoor
