/-
  A row of the call's own whose cells are overwritten one by one; sums of rows that are xored.
-/
import Derived.Test.YtldgamgdbneneaaPoly
import Derived.Test.YtldgamgdbneneaaMem
import Derived.Lib.SmallJoins
import Derived.Laws.BitsAllLaws
namespace Go.Proofs.Ytldgamgdbneneaa
set_option maxRecDepth 100000
open Go Go.RowKit

def pat (X L : List Nat) (k : Nat) : List Nat := X.take k ++ L.drop k
theorem pat_length {X L : List Nat} {k n : Nat} (hX : X.length = n) (hL : L.length = n) (hk : k ≤ n) : (pat X L k).length = n := by
  unfold pat
  rw [List.length_append, List.length_take, List.length_drop]
  omega
theorem pat_zero (X L : List Nat) : pat X L 0 = L := by simp [pat]
theorem pat_full {X L : List Nat} {n : Nat} (hX : X.length = n) (hL : L.length = n) : pat X L n = X := by
  unfold pat
  rw [List.take_of_length_le (by omega), List.drop_of_length_le (by omega), List.append_nil]
theorem pat_set {X L : List Nat} {k n x : Nat} (hX : X.length = n) (hL : L.length = n) (hk : k < n) (hx : X[k]? = some x) : (pat X L k).set k x = pat X L (k + 1) := by
  unfold pat
  rw [List.set_append_right _ _ (by rw [List.length_take]; omega), List.length_take, Nat.min_eq_left (by omega), Nat.sub_self, List.take_add_one, hx, List.drop_eq_getElem_cons (by omega : k < L.length), List.set_cons_zero, List.append_assoc]
  rfl
theorem vb_set (l : List Nat) (k x : Nat) : (vb l).set k (.int .u8 (x : Int)) = vb (l.set k x) := by
  unfold vb
  rw [List.map_set]
theorem xorL_length {a b : List Nat} {n : Nat} (ha : a.length = n) (hb : b.length = n) : (xorL a b).length = n := by
  unfold xorL
  rw [List.length_zipWith]
  omega
theorem xorL_get {a b : List Nat} {k x y : Nat} (ha : a[k]? = some x) (hb : b[k]? = some y) : (xorL a b)[k]? = some (x ^^^ y) := by
  unfold xorL
  rw [List.getElem?_zipWith, ha, hb]
theorem xorL_lt {a b : List Nat} (ha : ∀ x ∈ a, x < 256) (hb : ∀ x ∈ b, x < 256) : ∀ x ∈ xorL a b, x < 256 := by
  induction a generalizing b with
  | nil => intro x hx; simp [xorL] at hx
  | cons a l ih =>
    cases b with
    | nil => intro x hx; simp [xorL] at hx
    | cons b m =>
      intro x hx
      simp only [xorL, List.zipWith_cons_cons, List.mem_cons] at hx
      rcases hx with rfl | hx
      · exact Nat.xor_lt_two_pow (n := 8) (ha a (by simp)) (hb b (by simp))
      · exact ih (fun y hy => ha y (by simp [hy])) (fun y hy => hb y (by simp [hy])) x hx
theorem crcS_xor3 {a b c : List Nat} {n : Nat} (ha : a.length = n) (hb : b.length = n) (hc : c.length = n) (ga : ∀ x ∈ a, x < 256) (gb : ∀ x ∈ b, x < 256) (gc : ∀ x ∈ c, x < 256) :
    crcS (xorL (xorL a b) c) = crcS a ^^^ crcS b ^^^ crcS c := by
  have e := feed_xor (4294967295 ^^^ 4294967295) 4294967295 (xorL a b) c (by rw [xorL_length ha hb, hc])
  rw [feed_xor 4294967295 4294967295 a b (by rw [ha, hb]), show (4294967295 ^^^ 4294967295) ^^^ 4294967295 = 4294967295 from rfl] at e
  have F : ∀ l : List Nat, crcS l = inv (feed 4294967295 l) := fun _ => rfl
  have h0 : (4294967295 : Nat) < 4294967296 := by omega
  have fa := feed_lt h0 ga
  have fb := feed_lt h0 gb
  have fc := feed_lt h0 gc
  rw [F, F, F, F, e, inv_xor (xor_lt32 (xor_lt32 fa fb) fc), inv_xor fa, inv_xor fb, inv_xor fc]
  generalize feed 4294967295 a = p
  generalize feed 4294967295 b = q
  generalize feed 4294967295 c = r
  generalize (4294967295 : Nat) = f
  rw [show (p ^^^ f) ^^^ (q ^^^ f) ^^^ (r ^^^ f) = (p ^^^ q ^^^ r ^^^ f) ^^^ (f ^^^ f) by ac_rfl, Nat.xor_self, Nat.xor_zero]
/-- A bit of a byte turned about, as the walk writes it. -/
theorem turn_u8 (y m : Nat) (hy : y < 256) (hm : m < 8) : bits .xor .u8 (y : Int) ((2 : Int) ^ m % 256) = ((y ^^^ 2 ^ m : Nat) : Int) := by
  have hpw : 2 ^ m < 256 := by
    have : 2 ^ m < 2 ^ 8 := Nat.pow_lt_pow_right (by omega) hm
    omega
  have e : (2 : Int) ^ m % 256 = ((2 ^ m : Nat) : Int) := by
    rw [Int.natCast_pow]
    refine Int.emod_eq_of_lt (Int.pow_nonneg (by omega)) ?_
    have : ((2 ^ m : Nat) : Int) < 256 := by omega
    rw [Int.natCast_pow] at this
    exact this
  rw [e]
  exact u8_xor_nat y (2 ^ m) hy hpw
theorem pos_ex (x : Int) (m : Int) (hm : 0 < m) : ∃ p : Nat, (IntKind.u64.wrap x).tmod m = (p : Int) ∧ (p : Int) < m := by
  have h0 : 0 ≤ IntKind.u64.wrap x := by rw [IntKind.wrap_u64]; omega
  rw [Int.tmod_eq_emod_of_nonneg h0]
  have h1 := Int.emod_nonneg (IntKind.u64.wrap x) (by omega : m ≠ 0)
  have h2 := Int.emod_lt_of_pos (IntKind.u64.wrap x) hm
  obtain ⟨p, hp⟩ := Int.eq_ofNat_of_zero_le h1
  exact ⟨p, hp, by omega⟩
end Go.Proofs.Ytldgamgdbneneaa
