/-
  The contracts of the disk's small functions: made, known, running, Size, Waits, Up.
-/
import Derived.Test.YtldgamgdbneneaaKDisk
import Derived.WalkKit
import Derived.WalkSpells
import Derived.WalkLawsBesides
import Derived.BigQuiet
import Derived.Deep.QuietTactic
import Derived.Lib.Hide
import Derived.Outline
import Derived.LaidEqlPtr
namespace Go.Proofs.Ytldgamgdbneneaa
set_option maxRecDepth 100000
open Go Go.RowKit

theorem eql_self (a : Addr) (w : World) : (binOp .eql 24 (.pointer (some a)) (.pointer (some a))).run Try.prog w = .ok (.bool true) w := by
  have hi : (Try.prog.info? 48).isSome = true := by kernel_rfl
  obtain ⟨j, hj⟩ := Option.isSome_iff_exists.1 hi
  exact run_eql_ptr_same w a Try.underlying24 hj
theorem eql_nil_some (a : Addr) (w : World) : (binOp .eql 24 (.pointer none) (.pointer (some a))).run Try.prog w = .ok (.bool false) w := by
  have h : ∀ d : Nat, (Op.equalIn (d + 1) 24 (.pointer none) (.pointer (some a))).run Try.prog w = .ok false w := fun d => by
    simp [Op.equalIn, run_underlying Try.underlying24]
  simp only [binOp]
  simp [Op.equal, Op.maxDepth, h 9999]
set_option maxRecDepth 100000 in
set_option maxHeartbeats 400000 in
theorem made_yes (d : Nat) (w : World) (h : w.cell? ⟨d, 0, none⟩ = some (.pointer (some ⟨d, 0, none⟩))) :
    Calls Try.prog 13 #[.pointer (some ⟨d, 0, none⟩)] w fun e w' => e = .returned (.bool true) ∧ w = w' := by
  have he := eql_self
  go_enter Try.func13, Try.ntmps13
  go_wp2
  go_ret
  exact ⟨rfl, rfl⟩
/-- A pointer to no disk that New returned: nil, or to one whose first cell is nil. -/
def Unmade (w : World) (p : Option Addr) : Prop := p = none ∨ ∃ d, p = some ⟨d, 0, none⟩ ∧ w.cell? ⟨d, 0, none⟩ = some (.pointer none)
set_option maxRecDepth 100000 in
set_option maxHeartbeats 400000 in
theorem made_no (p : Option Addr) (w : World) (h : Unmade w p) :
    Calls Try.prog 13 #[.pointer p] w fun e w' => e = .returned (.bool false) ∧ w = w' := by
  rcases h with rfl | ⟨d, rfl, h⟩
  · go_enter Try.func13, Try.ntmps13
    go_wp2
    go_ret
    exact ⟨rfl, rfl⟩
  · have he := eql_nil_some
    go_enter Try.func13, Try.ntmps13
    go_wp2
    go_ret
    exact ⟨rfl, rfl⟩

/-- Are these numbers of sectors of a disk of n? -/
def knownE (n : Nat) (zs : List Int) : Int := if ∀ z ∈ zs, 0 ≤ z ∧ z < (n : Int) then 0 else 2
set_option maxRecDepth 100000 in
set_option maxHeartbeats 1600000 in
theorem known_yes (d g n : Nat) (A : Option Addr) (k c : Nat) (zs : List Int) (w : World) (h : w.cell? ⟨d, 0, none⟩ = some (.pointer (some ⟨d, 0, none⟩))) (h3 : w.cell? ⟨d, 3, none⟩ = some (.slice (some ⟨g, 0, none⟩) n n))
    (hk : zs.length = k) (hk2 : k ≤ 1000) (hz : 0 < k → ∃ b, A = some ⟨b, 0, none⟩ ∧ ∀ (j : Nat) (z : Int), zs[j]? = some z → w.cell? ⟨b, j, none⟩ = some (.int .i64 z)) :
    Calls Try.prog 40 #[.pointer (some ⟨d, 0, none⟩), .slice A k c] w fun e w' => e = .returned (.int .i64 (knownE n zs)) ∧ w = w' := by
  have HK := Lib.hid hk
  have HZ := Lib.hid hz
  clear hk hz
  go_enter Try.func40, Try.ntmps40
  go_wp2_with fail
  refine (made_yes d _ h).mono ?_
  rintro e w1 ⟨rfl, rfl⟩
  go_wp2_with fail
  go_loopw [12] (fun i wr => ∃ j : Nat, j ≤ k ∧ i = .int .i64 j ∧ w = wr ∧ ∀ z ∈ zs.take j, 0 ≤ z ∧ z < (n : Int)) (fun i _ => k - (intOf i).toNat)
  case atStart => exact ⟨0, Nat.zero_le _, rfl, rfl, by simp⟩
  case round =>
    obtain ⟨j, hj, rfl, rfl, hall⟩ := hrel
    have HA := Lib.hid hall
    clear hall
    by_cases hlt : j < k
    · obtain ⟨b, rfl, hc⟩ := HZ.out (by omega)
      obtain ⟨z, hzj⟩ : ∃ z, zs[j]? = some z := ⟨_, List.getElem?_eq_getElem (by rw [HK.out]; exact hlt)⟩
      have hcz := hc j z hzj
      have HJ := Lib.hid hzj
      clear hc hzj
      have no : ¬ (0 ≤ z ∧ z < (n : Int)) → Ending.returned (Value.int .i64 2) = .returned (.int .i64 (knownE n zs)) := fun hn => by
        have hm : z ∈ zs := List.mem_of_getElem? HJ.out
        unfold knownE
        rw [if_neg fun ha => hn (ha z hm)]
      have HNO := Lib.hid no
      clear no
      by_cases h0 : z < 0
      · go_wp2_with fail
        go_ret
        exact ⟨HNO.out (by omega), rfl⟩
      · by_cases h1 : (n : Int) ≤ z
        · go_wp2_with fail
          go_ret
          exact ⟨HNO.out (by omega), rfl⟩
        · go_wp2_with fail
          go_roundw
          case rel => exact ⟨j + 1, by omega, by go_num, trivial, fun y hy => by
            rw [List.take_add_one, HJ.out] at hy
            rcases List.mem_append.1 hy with hy | hy
            · exact HA.out y hy
            · simp at hy; subst hy; omega⟩
          case measure => simp [intOf]; omega
    · have HF : Hid (knownE n zs = 0) := Lib.hid (by
        have := HA.out
        rw [List.take_of_length_le (by rw [HK.out]; omega)] at this
        unfold knownE
        rw [if_pos this])
      go_wp2_with fail
      go_ret
      exact ⟨by rw [HF.out]; rfl, rfl⟩
end Go.Proofs.Ytldgamgdbneneaa
