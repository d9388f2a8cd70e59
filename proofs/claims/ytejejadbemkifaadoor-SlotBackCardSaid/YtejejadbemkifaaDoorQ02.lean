/-
  Plain facts on numbers and lists of bytes, without any program: the digits of a number to the base 256, and which widths there are.
  The contracts of the octet functions that only reckon: bound and Fits of the program, width and Fits of the document's answer.
  The contracts of Get, the program's and the document's: the number that stands at a place of bytes, or which error.
  The contract of the program's own Get: it answers as the document's Get does.
  The contracts of Read, the program's and the document's: the text that stands at a place of bytes, or which error.
  How what is known of the table of bounds is carried over calls that write nothing that was there.
-/
import Derived.Test.YtejejadbemkifaaDoorQ01
import Derived.Tactics
import Derived.Test.YtejejadbemkifaaDoorProg
import Derived.WalkKit
import Derived.WalkSpells
import Derived.BigQuiet
import Derived.Lib.Hide
import Derived.Laws.Bits64
import Derived.Outline
import Derived.Deep.DeepFit
import Derived.Laws.BitsAllLaws
import Derived.Laws.BytesString
import Derived.Laws.IdiomStrings
namespace Go.Proofs.YtejejadbemkifaaDoor
set_option maxRecDepth 100000
open Go

def wOk (x : Int) : Bool := x == 1 || x == 2 || x == 4 || x == 6
def bnd (x : Int) : Int := if x = 1 then 256 else if x = 2 then 65536 else if x = 4 then 4294967296 else if x = 6 then 281474976710656 else 0
def fitsB (x n : Int) : Bool := decide (0 ≤ n) && decide (n < bnd x)

def digs : Nat → Nat → List Nat
  | 0, _ => []
  | k + 1, n => n % 256 :: digs k (n / 256)

theorem digs_length (k n : Nat) : (digs k n).length = k := by
  induction k generalizing n with
  | zero => rfl
  | succ k ih => simp [digs, ih]
theorem digs_lt (k n : Nat) : ∀ b ∈ digs k n, b < 256 := by
  induction k generalizing n with
  | zero => intro b hb; simp [digs] at hb
  | succ k ih =>
    intro b hb
    simp only [digs, List.mem_cons] at hb
    rcases hb with rfl | hb
    · omega
    · exact ih _ b hb
theorem digs_get (k n i : Nat) (h : i < k) : (digs k n)[i]? = some (n / 256 ^ i % 256) := by
  induction k generalizing n i with
  | zero => omega
  | succ k ih =>
    cases i with
    | zero => simp [digs]
    | succ i =>
      simp only [digs, List.getElem?_cons_succ]
      rw [ih _ _ (by omega), Nat.div_div_eq_div_mul, Nat.pow_succ, Nat.mul_comm 256]
theorem digs_take (k n i : Nat) (h : i ≤ k) : (digs k n).take i = digs i n := by
  induction k generalizing n i with
  | zero => obtain rfl : i = 0 := by omega
            rfl
  | succ k ih =>
    cases i with
    | zero => rfl
    | succ i => simp [digs, ih _ _ (show i ≤ k by omega)]
theorem digs_snoc (k n : Nat) : digs (k + 1) n = digs k n ++ [n / 256 ^ k % 256] := by
  induction k generalizing n with
  | zero => simp [digs]
  | succ k ih =>
    rw [digs, ih, digs, Nat.div_div_eq_div_mul, Nat.pow_succ, Nat.mul_comm 256]
    rfl

/-- The number that bytes are, the least significant one first. -/
def num : List Nat → Nat
  | [] => 0
  | b :: r => b + 256 * num r
theorem num_lt (l : List Nat) (h : ∀ b ∈ l, b < 256) : num l < 256 ^ l.length := by
  induction l with
  | nil => simp [num]
  | cons b r ih =>
    have h1 := h b (by simp)
    have h2 := ih (fun c hc => h c (by simp [hc]))
    simp only [num, List.length_cons, Nat.pow_succ]
    omega
theorem num_digs (k n : Nat) (h : n < 256 ^ k) : num (digs k n) = n := by
  induction k generalizing n with
  | zero => simp at h; subst h; rfl
  | succ k ih =>
    have h2 : n / 256 < 256 ^ k := by rw [Nat.pow_succ] at h; omega
    simp only [digs, num, ih _ h2]
    omega
theorem digs_num (l : List Nat) (h : ∀ b ∈ l, b < 256) : digs l.length (num l) = l := by
  induction l with
  | nil => rfl
  | cons b r ih =>
    have h1 := h b (by simp)
    have h2 := ih (fun c hc => h c (by simp [hc]))
    simp only [List.length_cons, digs, num]
    rw [show (b + 256 * num r) % 256 = b by omega, show (b + 256 * num r) / 256 = num r by omega, h2]
theorem num_snoc (l : List Nat) (b : Nat) : num (l ++ [b]) = num l + 256 ^ l.length * b := by
  induction l with
  | nil => simp [num]
  | cons a r ih =>
    simp only [List.cons_append, num, ih, List.length_cons, Nat.pow_succ]
    have e : 256 * (num r + 256 ^ r.length * b) = 256 * num r + 256 ^ r.length * 256 * b := by
      rw [Nat.mul_add, ← Nat.mul_assoc, Nat.mul_comm 256 (256 ^ r.length)]
    omega
theorem wOk_cases {x : Int} (h : wOk x = true) : x = 1 ∨ x = 2 ∨ x = 4 ∨ x = 6 := by
  simp [wOk] at h; omega
theorem bnd_of_wOk {x : Int} (h : wOk x = true) : bnd x = 256 ^ x.toNat := by
  rcases wOk_cases h with rfl | rfl | rfl | rfl <;> rfl
theorem bnd_of_not {x : Int} (h : wOk x = false) : bnd x = 0 := by
  simp [wOk] at h
  simp [bnd, h]
theorem fits_iff {x n : Int} : fitsB x n = true ↔ wOk x = true ∧ 0 ≤ n ∧ n.toNat < 256 ^ x.toNat := by
  by_cases hw : wOk x = true
  · have e := bnd_of_wOk hw
    simp only [fitsB, Bool.and_eq_true, decide_eq_true_eq, hw, true_and, e]
    constructor
    · rintro ⟨h0, h1⟩
      refine ⟨h0, ?_⟩
      have : ((n.toNat : Nat) : Int) < ((256 ^ x.toNat : Nat) : Int) := by rw [Int.toNat_of_nonneg h0, Int.natCast_pow]; exact h1
      omega
    · rintro ⟨h0, h1⟩
      refine ⟨h0, ?_⟩
      have : ((n.toNat : Nat) : Int) < ((256 ^ x.toNat : Nat) : Int) := by omega
      rw [Int.toNat_of_nonneg h0, Int.natCast_pow] at this
      exact this
  · have e := bnd_of_not (by simpa using hw)
    simp only [fitsB, Bool.and_eq_true, decide_eq_true_eq, hw, e]
    constructor
    · rintro ⟨h0, h1⟩; omega
    · rintro ⟨h0, _⟩; simp at h0
end Go.Proofs.YtejejadbemkifaaDoor

namespace Go.Proofs.YtejejadbemkifaaDoor
set_option maxRecDepth 100000
open Go Go.RowKit

/-- What the table of bounds holds. -/
def Laid (w : World) : Prop :=
  w.cell? ⟨1, 0, none⟩ = some (.int .i64 0) ∧ w.cell? ⟨1, 1, none⟩ = some (.int .i64 256) ∧ w.cell? ⟨1, 2, none⟩ = some (.int .i64 65536) ∧ w.cell? ⟨1, 3, none⟩ = some (.int .i64 0) ∧
  w.cell? ⟨1, 4, none⟩ = some (.int .i64 4294967296) ∧ w.cell? ⟨1, 5, none⟩ = some (.int .i64 0) ∧ w.cell? ⟨1, 6, none⟩ = some (.int .i64 281474976710656)

theorem bound_any (x : Int) (w : World) (hL : Laid w) :
    Calls Tryd.prog 26 #[.int .i64 x] w fun e w' => e = .returned (.int .i64 (bnd x)) ∧ w = w' := by
  obtain ⟨h0, h1, h2, h3, h4, h5, h6⟩ := hL
  by_cases hn : x < 0
  · have hb : bnd x = 0 := by unfold bnd; omega
    have HB := Lib.hid hb
    clear hb
    go_enter Tryd.func26, Tryd.ntmps26
    go_wp2_with fail
    go_ret
    exact ⟨by rw [HB.out]; rfl, rfl⟩
  · by_cases hg : 7 ≤ x
    · have hb : bnd x = 0 := by unfold bnd; omega
      have HB := Lib.hid hb
      clear hb
      go_enter Tryd.func26, Tryd.ntmps26
      go_wp2_with fail
      go_ret
      exact ⟨by rw [HB.out]; rfl, rfl⟩
    · have hx : x = 0 ∨ x = 1 ∨ x = 2 ∨ x = 3 ∨ x = 4 ∨ x = 5 ∨ x = 6 := by omega
      clear hn hg
      rcases hx with rfl | rfl | rfl | rfl | rfl | rfl | rfl
      all_goals
        go_enter Tryd.func26, Tryd.ntmps26
        go_wp2_with fail
        go_ret
        exact ⟨rfl, rfl⟩

theorem fits_any (x n : Int) (w : World) (hL : Laid w) :
    Calls Tryd.prog 23 #[.int .i64 x, .int .i64 n] w fun e w' => e = .returned (.bool (fitsB x n)) ∧ w = w' := by
  by_cases hn : 0 ≤ n
  · have H := Lib.hid hL
    clear hL
    go_enter Tryd.func23, Tryd.ntmps23
    go_wp2_with (go_at_call 26; refine (bound_any _ _ H.out).mono ?_; rintro e w' ⟨rfl, rfl⟩)
    go_ret
    exact ⟨by simp [fitsB, hn], rfl⟩
  · have H := Lib.hid hL
    clear hL
    have HF := Lib.hid (show fitsB x n = false by simp only [fitsB, hn, decide_false, Bool.false_and])
    go_enter Tryd.func23, Tryd.ntmps23
    go_wp2_with (go_at_call 26; refine (bound_any _ _ H.out).mono ?_; rintro e w' ⟨rfl, rfl⟩)
    go_ret
    exact ⟨by rw [HF.out]; rfl, rfl⟩

theorem width_any (x : Int) (w : World) :
    Calls Tryd.prog 27 #[.int .i64 x] w fun e w' => e = .returned (.bool (wOk x)) ∧ w = w' := by
  by_cases h1 : x = 1
  · subst h1
    go_enter Tryd.func27, Tryd.ntmps27
    go_wp2_with fail
    go_ret
    exact ⟨rfl, rfl⟩
  by_cases h2 : x = 2
  · subst h2
    go_enter Tryd.func27, Tryd.ntmps27
    go_wp2_with fail
    go_ret
    exact ⟨rfl, rfl⟩
  by_cases h4 : x = 4
  · subst h4
    go_enter Tryd.func27, Tryd.ntmps27
    go_wp2_with fail
    go_ret
    exact ⟨rfl, rfl⟩
  have g1 : (x == 1) = false := by simp [h1]
  have g2 : (x == 2) = false := by simp [h2]
  have g4 : (x == 4) = false := by simp [h4]
  clear h1 h2 h4
  go_enter Tryd.func27, Tryd.ntmps27
  go_wp2_with fail
  go_ret
  exact ⟨by simp [wOk, g1, g2, g4], rfl⟩

theorem div_step (n : Int) (k : Nat) : n / 256 ^ k / 256 = n / 256 ^ (k + 1) := by
  rw [Int.ediv_ediv_of_nonneg (Int.pow_nonneg (by omega)), Int.pow_succ]

theorem rfits_yes (x n : Int) (w : World) (hx : wOk x = true) (hn : 0 ≤ n) (hm : n ≤ 9223372036854775807) :
    Calls Tryd.prog 25 #[.int .i64 x, .int .i64 n] w fun e w' => e = .returned (.bool (fitsB x n)) ∧ w = w' := by
  have hx0 : 1 ≤ x ∧ x ≤ 6 := by rcases wOk_cases hx with rfl | rfl | rfl | rfl <;> omega
  have HX := Lib.hid hx
  clear hx
  go_enter Tryd.func25, Tryd.ntmps25
  go_wp2_with (go_at_call 27; refine (width_any _ _).mono ?_; rintro e w' ⟨rfl, rfl⟩; rw [HX.out])
  go_loop [1, 5] (fun q i => ∃ k : Nat, (k : Int) ≤ x ∧ i = .int .i64 k ∧ q = .int .i64 (n / 256 ^ k)) (fun _ i => (x - intOf i).toNat)
  case atStart => exact ⟨0, by omega, rfl, by simp⟩
  case round =>
    obtain ⟨k, hk, rfl, rfl⟩ := hrel
    have q0 : 0 ≤ n / 256 ^ k := Int.ediv_nonneg hn (Int.pow_nonneg (by omega))
    have q1 : n / 256 ^ k ≤ n := Int.ediv_le_self _ hn
    have q2 : n / 256 ^ k ≤ 9223372036854775807 := by omega
    clear q1
    by_cases hlt : (k : Int) < x
    · go_wp2_with fail
      go_round
      case rel => exact ⟨k + 1, by omega, by go_num, by rw [← div_step]⟩
      case measure => simp [intOf]; omega
    · have hkx : (k : Int) = x := by omega
      have HK := Lib.hid hkx
      clear hkx
      go_wp2_with fail
      go_ret
      refine ⟨?_, rfl⟩
      have hw := bnd_of_wOk HX.out
      have e1 : x.toNat = k := by have := HK.out; omega
      rw [e1] at hw
      simp only [fitsB, hn, hw, decide_true, Bool.true_and]
      refine congrArg (fun b => Ending.returned (Value.bool b)) ?_
      rw [Bool.eq_iff_iff, beq_iff_eq, decide_eq_true_eq]
      have hp : (0 : Int) < 256 ^ k := Int.pow_pos (by omega)
      constructor
      · intro h
        have := Int.emod_lt_of_pos n hp
        have h2 := Int.emod_add_mul_ediv n (256 ^ k)
        rw [h] at h2
        omega
      · intro h
        exact Int.ediv_eq_zero_of_lt hn h
theorem rfits_any (x n : Int) (w : World) (hm : n ≤ 9223372036854775807) :
    Calls Tryd.prog 25 #[.int .i64 x, .int .i64 n] w fun e w' => e = .returned (.bool (fitsB x n)) ∧ w = w' := by
  by_cases hx : wOk x = true
  · by_cases hn : 0 ≤ n
    · exact rfits_yes x n w hx hn hm
    · have HF := Lib.hid (show fitsB x n = false by simp [fitsB, hn])
      have HX := Lib.hid hx
      clear hx
      go_enter Tryd.func25, Tryd.ntmps25
      go_wp2_with (go_at_call 27; refine (width_any _ _).mono ?_; rintro e w' ⟨rfl, rfl⟩; rw [HX.out])
      go_ret
      exact ⟨by rw [HF.out]; rfl, rfl⟩
  · have hx' : wOk x = false := by simpa using hx
    have HF := Lib.hid (show fitsB x n = false by simp only [fitsB, bnd_of_not hx', Bool.and_eq_false_iff, decide_eq_false_iff_not]; omega)
    have HX := Lib.hid hx'
    clear hx hx'
    go_enter Tryd.func25, Tryd.ntmps25
    go_wp2_with (go_at_call 27; refine (width_any _ _).mono ?_; rintro e w' ⟨rfl, rfl⟩; rw [HX.out])
    go_ret
    exact ⟨by rw [HF.out]; rfl, rfl⟩
end Go.Proofs.YtejejadbemkifaaDoor

namespace Go.Proofs.YtejejadbemkifaaDoor
set_option maxRecDepth 100000
open Go Go.RowKit

/-- What Get answers: the number, the place behind it, and which error (0: none). -/
def getS (l : List Nat) (at_ x : Int) : Nat × Nat × Int :=
  if wOk x = false ∨ at_ < 0 ∨ (l.length : Int) < at_ then (0, 0, 2)
  else if (l.length : Int) - at_ < x then (0, 0, 10)
  else (num ((l.drop at_.toNat).take x.toNat), at_.toNat + x.toNat, 0)

theorem getS_arg {l : List Nat} {at_ x : Int} (h : wOk x = false ∨ at_ < 0 ∨ (l.length : Int) < at_) : getS l at_ x = (0, 0, 2) := by
  unfold getS
  rw [if_pos h]
theorem getS_short {l : List Nat} {at_ x : Int} (h1 : wOk x = true) (h2 : 0 ≤ at_) (h3 : at_ ≤ l.length) (h4 : (l.length : Int) - at_ < x) : getS l at_ x = (0, 0, 10) := by
  unfold getS
  rw [if_neg (by rw [h1]; simp; omega), if_pos h4]
theorem getS_yes {l : List Nat} {at_ x : Int} (h1 : wOk x = true) (h2 : 0 ≤ at_) (h3 : at_ ≤ l.length) (h4 : x ≤ (l.length : Int) - at_) : getS l at_ x = (num ((l.drop at_.toNat).take x.toNat), at_.toNat + x.toNat, 0) := by
  unfold getS
  rw [if_neg (by rw [h1]; simp; omega), if_neg (by omega)]

theorem num_step {l : List Nat} {a k x : Nat} (h : l[a + k]? = some x) : num ((l.drop a).take (k + 1)) = num ((l.drop a).take k) + 256 ^ k * x := by
  have e : (l.drop a)[k]? = some x := by rw [List.getElem?_drop]; exact h
  have hk : k < (l.drop a).length := (List.getElem?_eq_some_iff.1 e).1
  rw [List.take_add_one, e, Option.toList_some, num_snoc, List.length_take, Nat.min_eq_left (by omega)]
theorem num_take_lt {l : List Nat} (hl : ∀ b ∈ l, b < 256) (a k : Nat) (hk : k ≤ 6) : num ((l.drop a).take k) < 281474976710656 := by
  have h1 := num_lt ((l.drop a).take k) (fun b hb => hl b (List.mem_of_mem_drop (List.mem_of_mem_take hb)))
  have h2 : ((l.drop a).take k).length ≤ 6 := by rw [List.length_take]; omega
  exact Nat.lt_of_lt_of_le h1 (Nat.le_trans (Nat.pow_le_pow_right (by omega) h2) (by decide))
theorem pow_le_48 (k : Nat) (hk : k ≤ 6) : 256 ^ k ≤ 281474976710656 := Nat.le_trans (Nat.pow_le_pow_right (by omega) hk) (by decide)

set_option maxHeartbeats 800000 in
theorem rget_any (A : Option Addr) (l : List Nat) (n c B : Nat) (a x : Int) (w : World) (hl : l.length = n) (hr : Rd w B A l) (hm : n ≤ 9000000000000000000) :
    Calls Tryd.prog 18 #[.slice A n c, .int .i64 a, .int .i64 x] w fun e w' => e = .returned (.tuple #[.int .i64 (getS l a x).1, .int .i64 (getS l a x).2.1, .int .i64 (getS l a x).2.2]) ∧ w = w' := by
  by_cases h1 : wOk x = true
  · by_cases h2 : a < 0
    · have HF := Lib.hid (getS_arg (l := l) (at_ := a) (x := x) (.inr (.inl h2)))
      have HX := Lib.hid h1
      clear h1 hl
      go_enter Tryd.func18, Tryd.ntmps18
      go_wp2_with (go_at_call 27; refine (width_any _ _).mono ?_; rintro e w' ⟨rfl, rfl⟩; rw [HX.out])
      go_ret3
      exact ⟨by rw [HF.out]; rfl, rfl⟩
    · by_cases h3 : (n : Int) < a
      · have HF := Lib.hid (getS_arg (l := l) (at_ := a) (x := x) (.inr (.inr (by rw [hl]; exact h3))))
        have HX := Lib.hid h1
        clear h1 hl
        go_enter Tryd.func18, Tryd.ntmps18
        go_wp2_with (go_at_call 27; refine (width_any _ _).mono ?_; rintro e w' ⟨rfl, rfl⟩; rw [HX.out])
        go_ret3
        exact ⟨by rw [HF.out]; rfl, rfl⟩
      · have hx0 : 1 ≤ x ∧ x ≤ 6 := by rcases wOk_cases h1 with rfl | rfl | rfl | rfl <;> omega
        by_cases h4 : (n : Int) - a < x
        · have HF := Lib.hid (getS_short (l := l) (at_ := a) (x := x) h1 (by omega) (by omega) (by omega))
          have HX := Lib.hid h1
          clear h1 hl
          go_enter Tryd.func18, Tryd.ntmps18
          go_wp2_with (go_at_call 27; refine (width_any _ _).mono ?_; rintro e w' ⟨rfl, rfl⟩; rw [HX.out])
          go_ret3
          exact ⟨by rw [HF.out]; rfl, rfl⟩
        · obtain ⟨a, rfl⟩ := Int.eq_ofNat_of_zero_le (show 0 ≤ a by omega)
          obtain ⟨x, rfl⟩ := Int.eq_ofNat_of_zero_le (show 0 ≤ x by omega)
          have HF := Lib.hid (getS_yes (l := l) (at_ := a) (x := x) h1 (by omega) (by omega) (by omega))
          have HX := Lib.hid h1
          have HL := Lib.hid hl
          have hlt := hr.lt
          have HLT := Lib.hid hlt
          clear h1 hl hlt
          go_enter Tryd.func18, Tryd.ntmps18
          go_wp2_with (go_at_call 27; refine (width_any _ _).mono ?_; rintro e w' ⟨rfl, rfl⟩; rw [HX.out])
          go_loop [9, 10, 11] (fun s p i => ∃ k : Nat, k ≤ x ∧ i = .int .i64 k ∧ p = .int .i64 ((256 ^ k : Nat) : Int) ∧ s = .int .i64 ((num ((l.drop a).take k) : Nat) : Int)) (fun _ _ i => x - (intOf i).toNat)
          case atStart => exact ⟨0, Nat.zero_le _, rfl, rfl, rfl⟩
          case round =>
            obtain ⟨k, hk, rfl, rfl, rfl⟩ := hrel
            by_cases hkx : k < x
            · obtain ⟨g, o, b, hA, _, hb, hb2, hc⟩ := hr.at_ (k := a + k) (by rw [HL.out]; omega)
              subst hA
              have hc' : w.cell? ⟨g, o + (a + k), none⟩ = some (.int .u8 ((b : Nat) : Int)) := hc
              have HS := Lib.hid (num_step hb)
              have hs1 := num_take_lt HLT.out a k (by omega)
              have hp := pow_le_48 k (by omega)
              have hmul : (256 ^ k) * b ≤ 281474976710656 * 255 := Nat.mul_le_mul hp (by omega)
              have hpn : 256 ^ (k + 1) = 256 * 256 ^ k := by rw [Nat.pow_succ, Nat.mul_comm]
              have HP := Lib.hid hpn
              clear hb hpn hc
              generalize hsn : num ((l.drop a).take k) = sn at *
              generalize hpk : 256 ^ k = pk at *
              have hmul' : (pk : Int) * (b : Int) ≤ 281474976710656 * 255 := by rw [← Int.natCast_mul]; omega
              have hmul0 : 0 ≤ (pk : Int) * (b : Int) := Int.mul_nonneg (by omega) (by omega)
              clear hsn hpk
              go_wp2_with fail
              go_round
              case rel => exact ⟨k + 1, by omega, by go_num, by rw [HP.out]; go_num, by rw [HS.out]; go_num⟩
              case measure => simp [intOf]; omega
            · have HK : Hid (k = x) := Lib.hid (by omega)
              go_wp2_with fail
              go_ret3
              exact ⟨by rw [HF.out, HK.out]; simp, rfl⟩
  · have HF := Lib.hid (getS_arg (l := l) (at_ := a) (x := x) (.inl (by simpa using h1)))
    have HX := Lib.hid (show wOk x = false by simpa using h1)
    clear h1 hl
    go_enter Tryd.func18, Tryd.ntmps18
    go_wp2_with (go_at_call 27; refine (width_any _ _).mono ?_; rintro e w' ⟨rfl, rfl⟩; rw [HX.out])
    go_ret3
    exact ⟨by rw [HF.out]; rfl, rfl⟩
end Go.Proofs.YtejejadbemkifaaDoor

namespace Go.Proofs.YtejejadbemkifaaDoor
set_option maxRecDepth 100000
open Go Go.RowKit

theorem i64_or_nat (a b : Nat) (ha : a < 9223372036854775808) (hb : b < 9223372036854775808) : bits .or .i64 (a : Int) (b : Int) = ((a ||| b : Nat) : Int) := by
  have h : a ||| b < 2 ^ 63 := Nat.or_lt_two_pow (by omega) (by omega)
  show IntKind.i64.wrap ((BitVec.ofInt 64 (a : Int) ||| BitVec.ofInt 64 (b : Int)).toNat : Int) = _
  rw [BitVec.toNat_or, ofInt_u64 a (by omega), ofInt_u64 b (by omega), IntKind.wrap_i64]
  omega
theorem or_step (s b k : Nat) (hk : k ≤ 5) (hs : s < 256 ^ k) (hb : b < 256) : bits .or .i64 (s : Int) (wrap64 ((b : Int) * 2 ^ (8 * k))) = ((s + 256 ^ k * b : Nat) : Int) := by
  have e : (2 : Nat) ^ (8 * k) = 256 ^ k := by rw [Nat.pow_mul]
  have e' : ((b : Int) * 2 ^ (8 * k)) = ((b * 256 ^ k : Nat) : Int) := by rw [← e]; simp
  have hp : 256 ^ k ≤ 1099511627776 := Nat.le_trans (Nat.pow_le_pow_right (by omega) hk) (by decide)
  have hm : b * 256 ^ k ≤ 255 * 1099511627776 := Nat.mul_le_mul (by omega) hp
  rw [e', IntWalk.wrap64_in _ ⟨by omega, by omega⟩, i64_or_nat _ _ (by omega) (by omega), Nat.or_comm, nat_join (8 * k) _ _ (by rw [e]; exact Nat.mul_mod_left _ _) (by rw [e]; exact hs), Nat.mul_comm]
  congr 1
  omega

theorem num_take_lt' {l : List Nat} (hl : ∀ b ∈ l, b < 256) (a k : Nat) : num ((l.drop a).take k) < 256 ^ k := by
  have h1 := num_lt ((l.drop a).take k) (fun b hb => hl b (List.mem_of_mem_drop (List.mem_of_mem_take hb)))
  exact Nat.lt_of_lt_of_le h1 (Nat.pow_le_pow_right (by omega) (List.length_take_le _ _))

set_option maxHeartbeats 800000 in
theorem oget_any (A : Option Addr) (l : List Nat) (n c B : Nat) (a x : Int) (w : World) (hL : Laid w) (hl : l.length = n) (hr : Rd w B A l) (hm : n ≤ 9000000000000000000) :
    Calls Tryd.prog 17 #[.slice A n c, .int .i64 a, .int .i64 x] w fun e w' => e = .returned (.tuple #[.int .i64 (getS l a x).1, .int .i64 (getS l a x).2.1, .int .i64 (getS l a x).2.2]) ∧ w = w' := by
  have H := Lib.hid hL
  clear hL
  by_cases h1 : wOk x = true
  · have hx0 : 1 ≤ x ∧ x ≤ 6 := by rcases wOk_cases h1 with rfl | rfl | rfl | rfl <;> omega
    have hb0 : (bnd x == 0) = false := by rcases wOk_cases h1 with rfl | rfl | rfl | rfl <;> rfl
    by_cases h2 : a < 0
    · have HF := Lib.hid (getS_arg (l := l) (at_ := a) (x := x) (.inr (.inl h2)))
      clear h1 hl
      go_enter Tryd.func17, Tryd.ntmps17
      go_wp2_with (go_at_call 26; refine (bound_any _ _ H.out).mono ?_; rintro e w' ⟨rfl, rfl⟩)
      go_ret3
      exact ⟨by rw [HF.out]; rfl, rfl⟩
    · by_cases h3 : (n : Int) < a
      · have HF := Lib.hid (getS_arg (l := l) (at_ := a) (x := x) (.inr (.inr (by rw [hl]; exact h3))))
        clear h1 hl
        go_enter Tryd.func17, Tryd.ntmps17
        go_wp2_with (go_at_call 26; refine (bound_any _ _ H.out).mono ?_; rintro e w' ⟨rfl, rfl⟩)
        go_ret3
        exact ⟨by rw [HF.out]; rfl, rfl⟩
      · by_cases h4 : (n : Int) - a < x
        · have HF := Lib.hid (getS_short (l := l) (at_ := a) (x := x) h1 (by omega) (by omega) (by omega))
          clear h1 hl
          go_enter Tryd.func17, Tryd.ntmps17
          go_wp2_with (go_at_call 26; refine (bound_any _ _ H.out).mono ?_; rintro e w' ⟨rfl, rfl⟩)
          go_ret3
          exact ⟨by rw [HF.out]; rfl, rfl⟩
        · obtain ⟨a, rfl⟩ := Int.eq_ofNat_of_zero_le (show 0 ≤ a by omega)
          obtain ⟨x, rfl⟩ := Int.eq_ofNat_of_zero_le (show 0 ≤ x by omega)
          have HF := Lib.hid (getS_yes (l := l) (at_ := a) (x := x) h1 (by omega) (by omega) (by omega))
          have HL := Lib.hid hl
          have hlt := hr.lt
          have HLT := Lib.hid hlt
          clear h1 hl hlt
          go_enter Tryd.func17, Tryd.ntmps17
          go_wp2_with (go_at_call 26; refine (bound_any _ _ H.out).mono ?_; rintro e w' ⟨rfl, rfl⟩)
          go_loop [6, 30] (fun s i => ∃ k : Nat, k ≤ x ∧ i = .int .i64 k ∧ s = .int .i64 ((num ((l.drop a).take k) : Nat) : Int)) (fun _ i => x - (intOf i).toNat)
          case atStart => exact ⟨0, Nat.zero_le _, rfl, rfl⟩
          case round =>
            obtain ⟨k, hk, rfl, rfl⟩ := hrel
            by_cases hkx : k < x
            · obtain ⟨g, o, b, hA, _, hb, hb2, hc⟩ := hr.at_ (k := a + k) (by rw [HL.out]; omega)
              subst hA
              have hc' : w.cell? ⟨g, o + (a + k), none⟩ = some (.int .u8 ((b : Nat) : Int)) := hc
              have HS := Lib.hid (num_step hb)
              have hs1 := num_take_lt HLT.out a k (by omega)
              clear hb hc
              go_wp2_with fail
              go_round
              case rel => exact ⟨k + 1, by omega, by go_num, by rw [HS.out]; exact congrArg (Value.int .i64) (or_step _ b k (by omega) (num_take_lt' HLT.out a k) hb2)⟩
              case measure => simp [intOf]; omega
            · have HK : Hid (k = x) := Lib.hid (by omega)
              go_wp2_with fail
              go_ret3
              exact ⟨by rw [HF.out, HK.out]; simp, rfl⟩
  · have HF := Lib.hid (getS_arg (l := l) (at_ := a) (x := x) (.inl (by simpa using h1)))
    have hb0 : (bnd x == 0) = true := by rw [bnd_of_not (by simpa using h1)]; rfl
    clear h1 hl
    go_enter Tryd.func17, Tryd.ntmps17
    go_wp2_with (go_at_call 26; refine (bound_any _ _ H.out).mono ?_; rintro e w' ⟨rfl, rfl⟩)
    go_ret3
    exact ⟨by rw [HF.out]; rfl, rfl⟩
end Go.Proofs.YtejejadbemkifaaDoor

namespace Go.Proofs.YtejejadbemkifaaDoor
set_option maxRecDepth 100000
open Go Go.RowKit

/-- A text of bytes given as numbers. -/
def str (l : List Nat) : ByteArray := ⟨(l.map UInt8.ofNat).toArray⟩

/-- What Read answers: the text's bytes, the place behind it, and which error (0: none). -/
def readS (l : List Nat) (at_ : Int) : List Nat × Nat × Int :=
  if (getS l at_ 1).2.2 ≠ 0 then ([], 0, (getS l at_ 1).2.2)
  else if l.length - (getS l at_ 1).2.1 < (getS l at_ 1).1 then ([], 0, 10)
  else ((l.drop (getS l at_ 1).2.1).take (getS l at_ 1).1, (getS l at_ 1).2.1 + (getS l at_ 1).1, 0)

theorem getS_one {l : List Nat} {a b : Nat} (hb : l[a]? = some b) : getS l (a : Int) 1 = (b, a + 1, 0) := by
  have ha : a < l.length := (List.getElem?_eq_some_iff.1 hb).1
  rw [getS_yes rfl (by omega) (by omega) (by omega)]
  have e : (l.drop a).take 1 = [b] := by
    have h0 : (l.drop a)[0]? = some b := by rw [List.getElem?_drop]; exact hb
    rw [List.take_add_one, h0]
    simp
  simp [e, num]
theorem getS_end {l : List Nat} : getS l (l.length : Int) 1 = (0, 0, 10) := getS_short rfl (by omega) (by omega) (by omega)
theorem readS_err {l : List Nat} {a e : Int} (h : getS l a 1 = (0, 0, e)) (he : e ≠ 0) : readS l a = ([], 0, e) := by
  unfold readS
  rw [h, if_pos he]
theorem readS_short {l : List Nat} {a b : Nat} (hb : l[a]? = some b) (h : l.length < a + 1 + b) : readS l (a : Int) = ([], 0, 10) := by
  have ha : a < l.length := (List.getElem?_eq_some_iff.1 hb).1
  unfold readS
  rw [getS_one hb, if_neg (by simp), if_pos (by simp only; omega)]
theorem readS_yes {l : List Nat} {a b : Nat} (hb : l[a]? = some b) (h : a + 1 + b ≤ l.length) : readS l (a : Int) = ((l.drop (a + 1)).take b, a + 1 + b, 0) := by
  unfold readS
  rw [getS_one hb, if_neg (by simp), if_neg (by simp only; omega)]

theorem conv_zero {P : Program} (w : World) (src dst e : TypeId) (A : Option Addr) (c : Nat) (hs : P.underlying src = some (.slice e)) (he : P.underlying e = some (.int .u8)) (hd : P.underlying dst = some .string) :
    (convert src dst (.slice A 0 c)).run P w = .ok (.string (str [])) w := by
  rw [run_convert_bytes_string w src dst e _ 0 c hs he hd]
  cases A with
  | none => simp [Conv.bytesToString]; rfl
  | some a =>
    have hl := run_loadCells_list (P := P) w a [] (fun j v hj => by simp at hj)
    rw [run_bytesToString w a 0 c [] hl]
    rfl
theorem conv_some {P : Program} {w : World} {B : Nat} {g o : Nat} {l : List Nat} (hr : Rd w B (some ⟨g, o, none⟩) l) (n c : Nat) (hl : l.length = n) (src dst e : TypeId) (hs : P.underlying src = some (.slice e)) (he : P.underlying e = some (.int .u8)) (hd : P.underlying dst = some .string) :
    (convert src dst (.slice (some ⟨g, o, none⟩) n c)).run P w = .ok (.string (str l)) w := by
  subst hl
  by_cases h0 : l.length = 0
  · rw [h0, List.eq_nil_of_length_eq_zero h0]
    exact conv_zero w src dst e _ c hs he hd
  · have e1 : (l.map UInt8.ofNat).length = l.length := by simp
    have h := run_convert_bytes_back (P := P) w src dst e ⟨g, o, none⟩ c (l.map UInt8.ofNat) hs he hd (fun j hj => by
      have hj' : j < l.length := by simpa using hj
      obtain ⟨g', o', x, hA, _, hx, hx2, hc⟩ := hr.at_ hj'
      injection hA with hA
      injection hA with h1 h2
      subst h1; subst h2
      rw [Addr.add_lit, hc]
      have : (l.map UInt8.ofNat)[j] = UInt8.ofNat x := by
        have h3 := List.getElem?_eq_some_iff.1 hx
        simp [h3.2]
      rw [this]
      simp [Nat.mod_eq_of_lt hx2])
    rw [e1] at h
    exact h

end Go.Proofs.YtejejadbemkifaaDoor

namespace Go.Proofs.YtejejadbemkifaaDoor
set_option maxRecDepth 100000
open Go Go.RowKit

theorem Laid.keep {w w' : World} (h : Laid w) (hk : ∀ p : Addr, p.block < w.heap.size → w'.cell? p = w.cell? p) : Laid w' := by
  have hlt : 1 < w.heap.size := World.block_lt_of_cell? w _ h.1
  unfold Laid at h ⊢
  obtain ⟨h0, h1, h2, h3, h4, h5, h6⟩ := h
  exact ⟨(hk _ hlt).trans h0, (hk _ hlt).trans h1, (hk _ hlt).trans h2, (hk _ hlt).trans h3, (hk _ hlt).trans h4, (hk _ hlt).trans h5, (hk _ hlt).trans h6⟩
theorem Laid.below {w w' : World} (h : Laid w) (hb : Below w.heap.size w w') : Laid w' := h.keep fun _ hp => hb.cell hp
theorem Laid.drewN {w : World} (h : Laid w) (k : Nat) : Laid (w.drewN k) := h
theorem Laid.ext {a b : World} (h : Laid a) (k : Ext a b) : Laid b := h.below k
end Go.Proofs.YtejejadbemkifaaDoor
