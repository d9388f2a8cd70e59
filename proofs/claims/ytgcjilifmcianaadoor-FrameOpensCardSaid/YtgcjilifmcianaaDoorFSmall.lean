/-
  The contracts of the frame's small functions (Room, wholeSectors, isZero; the document's Room and blank), and of the library's Clone, Equal, Count at bytes.
-/
import Derived.Test.YtgcjilifmcianaaDoorProg
import Derived.Test.YtgcjilifmcianaaDoorFSpec
import Derived.Test.YtgcjilifmcianaaDoorSC
import Derived.Test.YtgcjilifmcianaaDoorApp
import Derived.WalkKit
import Derived.WalkSpells
import Derived.WalkLawsBesides
import Derived.BigQuiet
import Derived.Lib.Hide
import Derived.Lib.SliceRun
import Derived.Shelf.Bytes.SlCountOne
import Derived.Shelf.Bytes.SlSmallAll
namespace Go.Proofs.YtgcjilifmcianaaDoor
open Go Go.RowKit

theorem room_any (s : Int) (w : World) :
    Calls Tryd.prog 13 #[.int .i64 s] w fun e w' => e = .returned (.int .i64 (roomN s)) ∧ w = w' := by
  by_cases h1 : s = 1
  · subst h1
    go_enter Tryd.func13, Tryd.ntmps13
    go_wp2_with fail
    go_ret
    exact ⟨rfl, rfl⟩
  · by_cases h2 : s = 2
    · subst h2
      go_enter Tryd.func13, Tryd.ntmps13
      go_wp2_with fail
      go_ret
      exact ⟨rfl, rfl⟩
    · have g1 : (s != 1) = true := by simp; omega
      have g2 : (s != 2) = true := by simp; omega
      have HF := Lib.hid (roomN_no h1 h2)
      clear h1 h2
      go_enter Tryd.func13, Tryd.ntmps13
      go_wp2_with fail
      go_ret
      exact ⟨by rw [HF.out]; rfl, rfl⟩

theorem rroom_any (s : Int) (w : World) :
    Calls Tryd.prog 14 #[.int .i64 s] w fun e w' => e = .returned (.int .i64 (roomN s)) ∧ w = w' := by
  by_cases h1 : s = 1
  · subst h1
    go_enter Tryd.func14, Tryd.ntmps14
    go_wp2_with fail
    go_ret
    exact ⟨rfl, rfl⟩
  · by_cases h2 : s = 2
    · subst h2
      go_enter Tryd.func14, Tryd.ntmps14
      go_wp2_with fail
      go_ret
      exact ⟨rfl, rfl⟩
    · have g1 : (s == 1) = false := by simp; omega
      have g2 : (s == 2) = false := by simp; omega
      have HF := Lib.hid (roomN_no h1 h2)
      clear h1 h2
      go_enter Tryd.func14, Tryd.ntmps14
      go_wp2_with fail
      go_ret
      exact ⟨by rw [HF.out]; rfl, rfl⟩

/-- How many sectors so many bytes fill, or 0. -/
def wsN (n : Nat) : Nat := if n % 64 = 0 then n / 64 else 0
theorem whole_any (A : Option Addr) (n c : Nat) (w : World) (hn : n ≤ 9223372036854775807) :
    Calls Tryd.prog 30 #[.slice A n c] w fun e w' => e = .returned (.int .i64 (wsN n : Nat)) ∧ w = w' := by
  by_cases h : n % 64 = 0
  · have HF : Hid (wsN n = n / 64) := Lib.hid (by unfold wsN; rw [if_pos h])
    go_enter Tryd.func30, Tryd.ntmps30
    go_wp2_with fail
    go_ret
    exact ⟨by rw [HF.out]; rfl, rfl⟩
  · have HF : Hid (wsN n = 0) := Lib.hid (by unfold wsN; rw [if_neg h])
    go_enter Tryd.func30, Tryd.ntmps30
    go_wp2_with fail
    go_ret
    exact ⟨by rw [HF.out]; rfl, rfl⟩

theorem zero_take_step {l : List Nat} {k : Nat} (h : zeroB (l.take k) = true) (hx : l[k]? = some 0) : zeroB (l.take (k + 1)) = true := by
  unfold zeroB at h ⊢
  rw [List.take_add_one, hx]
  simp only [Option.toList_some, List.all_append, h, Bool.true_and]
  rfl
theorem zero_not {l : List Nat} {k x : Nat} (hx : l[k]? = some x) (h : x ≠ 0) : zeroB l = false := by
  unfold zeroB
  rw [List.all_eq_false]
  exact ⟨x, List.mem_of_getElem? hx, by simpa using h⟩
theorem blank_any (A : Option Addr) (n c : Nat) (l : List Nat) (w : World) (hb : By w A n c l) :
    Calls Tryd.prog 35 #[.slice A n c] w fun e w' => e = .returned (.bool (zeroB l)) ∧ w = w' := by
  have hn : n ≤ 9223372036854775807 := Nat.le_trans (Bs.cap hb) (Bs.most hb)
  have HB := Lib.hid hb
  clear hb
  go_enter Tryd.func35, Tryd.ntmps35
  go_wp2_with fail
  go_loop [3] (fun i => ∃ k : Nat, k ≤ n ∧ i = .int .i64 k ∧ Hid (zeroB (l.take k) = true)) (fun i => n - (intOf i).toNat)
  case atStart => exact ⟨0, Nat.zero_le _, rfl, Lib.hid rfl⟩
  case round =>
    obtain ⟨k, hk, rfl, HZ⟩ := hrel
    by_cases hlt : k < n
    · obtain ⟨g, o, x, hA, _, hx, hx2, hcx⟩ := HB.out.rd.at_ (k := k) (by rw [HB.out.len]; exact hlt)
      subst hA
      by_cases h0 : x = 0
      · subst h0
        have HZ2 := Lib.hid (zero_take_step HZ.out hx)
        clear hx
        go_wp2_with fail
        go_round
        case rel => exact ⟨k + 1, by omega, by go_num, HZ2⟩
        case measure => simp [intOf]; omega
      · have HF := Lib.hid (zero_not hx h0)
        have hb0 : ((x : Int) != 0) = true := by simp; omega
        clear hx h0
        go_wp2_with fail
        go_ret
        exact ⟨by rw [HF.out]; rfl, rfl⟩
    · have HF : Hid (zeroB l = true) := by
        have := HZ.out
        rw [List.take_of_length_le (by have := HB.out.len; omega)] at this
        exact Lib.hid this
      go_wp2_with fail
      go_ret
      exact ⟨by rw [HF.out]; rfl, rfl⟩
end Go.Proofs.YtgcjilifmcianaaDoor
