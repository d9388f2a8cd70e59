/-
  Plain facts on disks: what waits at a disk that is down; what a disk answers that is down.
-/
import Derived.Test.YtmfbeglidhejkaaDTorn
namespace Go.Proofs.Ytmfbeglidhejkaa

structure WInv (m : DM) (k : Nat) : Prop where
  four : m.size = 4
  down : m.down = true → m.waits = []
  few : m.waits.length ≤ k
theorem WInv.new : WInv (DM.new 4) 0 := ⟨rfl, fun _ => rfl, Nat.zero_le _⟩
theorem act_few (m : DM) (kind : Nat) (sec num : Int) (bytes : List Nat) (keep : List Bool) : (m.act kind sec num bytes keep).2.waits.length ≤ m.waits.length + 1 := by
  unfold DM.act
  split
  · unfold DM.flush; split
    · simp
    · split <;> simp
  · unfold DM.crash; split <;> simp
  · unfold DM.start; split <;> simp
  · unfold DM.flip; split <;> simp
  · unfold DM.lose; split <;> simp
  · unfold DM.stray; split <;> simp
  · unfold DM.setPower; split
    · simp
    · split <;> simp
  · unfold DM.write; split
    · simp
    · split
      · simp
      · split <;> simp
theorem down_not_up {m : DM} (h : m.down = true) : m.up = false := by unfold DM.up; rw [h]; rfl
theorem up_not_down {m : DM} (h : ¬ m.up = false) : m.down = false := by
  cases hd : m.down with
  | false => rfl
  | true => exact absurd (down_not_up hd) h
theorem act_down (m : DM) (kind : Nat) (sec num : Int) (bytes : List Nat) (keep : List Bool) (h : m.down = true → m.waits = []) : (m.act kind sec num bytes keep).2.down = true → (m.act kind sec num bytes keep).2.waits = [] := by
  unfold DM.act
  split
  · unfold DM.flush; split
    · exact h
    · split
      · exact h
      · intro _; rfl
  · unfold DM.crash; split
    · exact h
    · intro _; rfl
  · unfold DM.start; split
    · exact h
    · intro h; cases h
  · unfold DM.flip; split <;> exact h
  · unfold DM.lose; split <;> exact h
  · unfold DM.stray; split <;> exact h
  · unfold DM.setPower; split
    · exact h
    · split <;> exact h
  · unfold DM.write; split
    · exact h
    · rename_i hu
      split
      · exact h
      · split
        · exact h
        · intro hd
          have : m.down = true := hd
          rw [up_not_down hu] at this
          cases this
theorem WInv.act {m : DM} {k : Nat} (h : WInv m k) (kind : Nat) (sec num : Int) (bytes : List Nat) (keep : List Bool) : WInv (m.act kind sec num bytes keep).2 (k + 1) :=
  ⟨by rw [DM.act_size]; exact h.four, act_down m kind sec num bytes keep h.down, Nat.le_trans (act_few m kind sec num bytes keep) (Nat.succ_le_succ h.few)⟩
/-- A crash: the disk is down, and nothing waits. -/
theorem crash_down {m : DM} {k : Nat} (h : WInv m k) (keep : List Bool) : WInv (m.crash keep).2 k ∧ (m.crash keep).2.down = true := by
  unfold DM.crash
  split
  · rename_i hd
    exact ⟨h, hd⟩
  · exact ⟨⟨by show (DM.comes _ _).size = 4; rw [DM.comes_size]; exact h.four, fun _ => rfl, Nat.zero_le _⟩, rfl⟩
theorem WInv.started {m : DM} {k : Nat} (h : WInv m k) : WInv m.start.2 k := by
  unfold DM.start
  split
  · exact h
  · exact ⟨h.four, fun hd => (by cases hd), h.few⟩
theorem crash_up {m : DM} (h : m.up = true) (keep : List Bool) : (m.crash keep).1 = 0 := by
  unfold DM.crash
  rw [if_neg]
  rw [up_not_down (by rw [h]; simp)]
  simp
/-- What a disk answers that is down. -/
structure Downs (m : DM) (s : Nat) : Prop where
  read : m.read (s : Int) = ([], 5)
  write : ∀ b, m.write (s : Int) b = (5, m)
  flush : m.flush = (5, m)
  crash : ∀ k, m.crash k = (5, m)
  start : m.start.1 = 0
  again : m.start.2.start = (2, m.start.2)
  up : m.start.2.up = true
  comes : (m.at_ (s : Int) = ([], true, 0) ∧ m.start.2.read (s : Int) = ([], 50)) ∨ ∃ b, m.at_ (s : Int) = (b, false, 0) ∧ m.start.2.read (s : Int) = (b, 0)
theorem Downs.of {m : DM} {k : Nat} (h : WInv m k) (hd : m.down = true) {s : Nat} (hs : s < 4) : Downs m s := by
  have hu := down_not_up hd
  have hh : m.has (s : Int) = true := DM.has_iff.2 ⟨by omega, by rw [h.four]; omega⟩
  have hst : m.start = (0, { m with down := false, dead := false, power := -1 }) := by
    unfold DM.start
    rw [if_neg (by rw [hd]; simp)]
  refine ⟨?_, fun b => ?_, ?_, fun k => ?_, by rw [hst], by rw [hst]; rfl, by rw [hst]; rfl, ?_⟩
  · unfold DM.read; rw [if_pos hu]
  · unfold DM.write; rw [if_pos hu]
  · unfold DM.flush; rw [if_pos hu]
  · unfold DM.crash; rw [if_pos hd]
  · have hr : m.start.2.read (s : Int) = (if m.lost.getD s false = true then ([], (50 : Int)) else (m.rest.getD s [], 0)) := by
      rw [hst]
      unfold DM.read
      have hh' : ({ m with down := false, dead := false, power := -1 } : DM).has (s : Int) = true := hh
      rw [if_neg (show ¬ DM.up _ = false from fun h => by cases h), if_neg (by rw [hh']; simp), Int.toNat_natCast]
      show (match lastW m.waits s with | some b => (b, (0 : Int)) | none => if m.lost.getD s false = true then ([], 50) else (m.rest.getD s [], 0)) = _
      rw [h.down hd]
      rfl
    have ha : m.at_ (s : Int) = (if m.lost.getD s false = true then ([], true, (0 : Int)) else (m.rest.getD s [], false, 0)) := by
      unfold DM.at_
      rw [if_neg (by rw [hh]; simp), Int.toNat_natCast]
    rw [hr, ha]
    by_cases hl : m.lost.getD s false = true
    · rw [if_pos hl, if_pos hl]
      exact .inl ⟨rfl, rfl⟩
    · rw [if_neg hl, if_neg hl]
      exact .inr ⟨_, rfl, rfl⟩
end Go.Proofs.Ytmfbeglidhejkaa
