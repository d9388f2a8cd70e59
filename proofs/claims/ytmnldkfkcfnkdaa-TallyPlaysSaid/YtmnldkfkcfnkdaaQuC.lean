/-
  The contracts of quorum's Most, Has, Add, Of.
-/
import Derived.Test.YtmnldkfkcfnkdaaQuSpec
import Derived.Test.YtmnldkfkcfnkdaaULists
import Derived.Test.YtmnldkfkcfnkdaaLsOwn
import Derived.Test.YtmnldkfkcfnkdaaKMod
import Derived.Test.YtmnldkfkcfnkdaaProg
import Derived.WalkKit
import Derived.WalkSpells
import Derived.BigQuiet
import Derived.OwnWalk
import Derived.Laws.AppendOwnNone
import Derived.Lib.Hide
import Derived.Laws.BitsAllLaws
namespace Go.Proofs.Ytmnldkfkcfnkdaa
set_option maxRecDepth 100000
open Go Go.RowKit

theorem mayHold_of (i : Int) (w : World) : Calls Try.prog 36 #[.int .i64 i] w fun e w' => e = .returned (.bool (decide (0 ≤ i ∧ i < 7))) ∧ w = w' := by
  obtain ⟨b, hb⟩ : ∃ b, decide (0 ≤ i ∧ i < 7) = b := ⟨_, rfl⟩
  rw [hb]
  have HB := Lib.hid hb
  clear hb
  by_cases h0 : 0 ≤ i
  · by_cases h1 : i < 7
    · have hb := HB.out
      rw [decide_eq_true ⟨h0, h1⟩] at hb
      subst hb
      go_enter Try.func36, Try.ntmps36
      go_wp2_with fail
      go_ret
      exact ⟨rfl, rfl⟩
    · have hb := HB.out
      rw [decide_eq_false fun h => h1 h.2] at hb
      subst hb
      go_enter Try.func36, Try.ntmps36
      go_wp2_with fail
      go_ret
      exact ⟨rfl, rfl⟩
  · have hb := HB.out
    rw [decide_eq_false fun h => h0 h.1] at hb
    subst hb
    go_enter Try.func36, Try.ntmps36
    go_wp2_with fail
    go_ret
    exact ⟨rfl, rfl⟩
theorem most_of (n : Int) (w : World) : Calls Try.prog 26 #[.int .i64 n] w fun e w' => e = .returned (.int .i64 (mostQ n : Int)) ∧ w = w' := by
  by_cases h3 : n = 3
  · subst h3
    go_enter Try.func26, Try.ntmps26
    go_wp2_with fail
    go_ret
    exact ⟨rfl, rfl⟩
  by_cases h5 : n = 5
  · subst h5
    go_enter Try.func26, Try.ntmps26
    go_wp2_with fail
    go_ret
    exact ⟨rfl, rfl⟩
  by_cases h7 : n = 7
  · subst h7
    go_enter Try.func26, Try.ntmps26
    go_wp2_with fail
    go_ret
    exact ⟨rfl, rfl⟩
  have HM := Lib.hid (show mostQ n = 0 by unfold mostQ; rw [if_neg h3, if_neg h5, if_neg h7])
  have e3 : (n == 3) = false := by simpa using h3
  have e5 : (n == 5) = false := by simpa using h5
  have e7 : (n == 7) = false := by simpa using h7
  clear h3 h5 h7
  go_enter Try.func26, Try.ntmps26
  go_wp2_with fail
  go_ret
  exact ⟨by rw [HM.out]; rfl, rfl⟩
set_option maxRecDepth 100000 in
theorem and_bit : ∀ s : Fin 256, ∀ k : Fin 7, (bits .and .u8 (s.1 : Int) ((2 : Int) ^ k.1 % 256) != 0) = s.1.testBit k.1 := by decide +kernel
set_option maxRecDepth 100000 in
theorem or_bit : ∀ s : Fin 256, ∀ k : Fin 7, bits .or .u8 (s.1 : Int) ((2 : Int) ^ k.1 % 256) = ((s.1 ||| 2 ^ k.1 : Nat) : Int) := by decide +kernel
theorem has_of (s : Nat) (hs : s < 256) (i : Int) (w : World) : Calls Try.prog 40 #[.int .u8 (s : Int), .int .i64 i] w fun e w' => e = .returned (.bool (hasQ s i)) ∧ w = w' := by
  have HM := Lib.hid (fun V => mayHold_of i V)
  by_cases h : 0 ≤ i ∧ i < 7
  · rw [decide_eq_true h] at HM
    obtain ⟨k, rfl⟩ : ∃ k : Nat, i = (k : Int) := ⟨i.toNat, by omega⟩
    have HH := Lib.hid (show hasQ s (k : Int) = s.testBit k by unfold hasQ; rw [decide_eq_true h]; rfl)
    have hk : k < 7 := by omega
    clear h
    go_enter Try.func40, Try.ntmps40
    go_wp2_with fail
    refine (HM.out _).mono ?_
    rintro e w1 ⟨rfl, rfl⟩
    go_wp2_with fail
    go_ret
    exact ⟨by rw [HH.out, ← and_bit ⟨s, hs⟩ ⟨k, by omega⟩]; rfl, rfl⟩
  · rw [decide_eq_false h] at HM
    have HH := Lib.hid (show hasQ s i = false by unfold hasQ; rw [decide_eq_false h]; rfl)
    clear h
    go_enter Try.func40, Try.ntmps40
    go_wp2_with fail
    refine (HM.out _).mono ?_
    rintro e w1 ⟨rfl, rfl⟩
    go_wp2_with fail
    go_ret
    exact ⟨by rw [HH.out]; rfl, rfl⟩
theorem addQ_lt {s : Nat} (hs : s < 256) (i : Int) : addQ s i < 256 := by
  unfold addQ
  split
  · rename_i h
    exact add_lt ⟨s, hs⟩ ⟨i.toNat, by omega⟩
  · exact hs
theorem add_of (s : Nat) (hs : s < 256) (i : Int) (w : World) : Calls Try.prog 23 #[.int .u8 (s : Int), .int .i64 i] w fun e w' => e = .returned (.int .u8 (addQ s i : Int)) ∧ w = w' := by
  have HM := Lib.hid (fun V => mayHold_of i V)
  by_cases h : 0 ≤ i ∧ i < 7
  · rw [decide_eq_true h] at HM
    obtain ⟨k, rfl⟩ : ∃ k : Nat, i = (k : Int) := ⟨i.toNat, by omega⟩
    have HH := Lib.hid (show addQ s (k : Int) = s ||| 2 ^ k by unfold addQ; rw [if_pos h]; rfl)
    have hk : k < 7 := by omega
    clear h
    go_enter Try.func23, Try.ntmps23
    go_wp2_with fail
    refine (HM.out _).mono ?_
    rintro e w1 ⟨rfl, rfl⟩
    go_wp2_with fail
    go_ret
    exact ⟨by rw [HH.out, ← or_bit ⟨s, hs⟩ ⟨k, by omega⟩]; rfl, rfl⟩
  · rw [decide_eq_false h] at HM
    have HH := Lib.hid (show addQ s i = s by unfold addQ; rw [if_neg h])
    clear h
    go_enter Try.func23, Try.ntmps23
    go_wp2_with fail
    refine (HM.out _).mono ?_
    rintro e w1 ⟨rfl, rfl⟩
    go_wp2_with fail
    go_ret
    exact ⟨by rw [HH.out]; rfl, rfl⟩
def intC (k : Int) : List Value := [.int .i64 k]
abbrev LsI (w : World) (A : Option Addr) (n c : Nat) (l : List Int) : Prop := Ls intC 1 w w.heap.size A n c l
theorem LsI.ext {w w' : World} {A : Option Addr} {n c : Nat} {l : List Int} (h : LsI w A n c l) (k : Ext w w') : LsI w' A n c l := by
  have h2 := Ls.below h k
  exact ⟨h2.len, h2.cap, h2.most, fun hn => by
    obtain ⟨g, o, e, hg, hc⟩ := h2.rd hn
    exact ⟨g, o, e, Nat.lt_of_lt_of_le hg k.size, hc⟩, h2.nil_⟩
theorem ofQ_lt {s : Nat} (hs : s < 256) : ∀ l : List Int, ofQ s l < 256
  | [] => hs
  | a :: l => ofQ_lt (addQ_lt hs a) l
theorem ofQ_take {s k : Nat} {l : List Int} {a : Int} (h : l[k]? = some a) : ofQ s (l.take (k + 1)) = addQ (ofQ s (l.take k)) a := by
  unfold ofQ
  rw [List.take_add_one, h, List.foldl_append]
  rfl
end Go.Proofs.Ytmnldkfkcfnkdaa
