/-
  Plain facts for GhostHealed and GhostHonest: a disk that is taken up again; what Mine tells of a frame that was written.
-/
import Derived.Test.YtldgamgdbneneaaDoorQ24
import Derived.Test.YtldgamgdbneneaaDoorQ28
namespace Go.Proofs.YtldgamgdbneneaaDoor
open Go Go.RowKit

def DM.downed (m : DM) : DM := if m.up = true then m else (m.crash []).2
def DM.raised (m : DM) : DM := (m.start.2.setPower 1000).2
theorem downed_ok {m : DM} (h : m.Ok) : m.downed.Ok := by
  unfold DM.downed
  split
  · exact h
  · exact DM.crash_ok h []
theorem crash_size (m : DM) (k : List Bool) : (m.crash k).2.size = m.size := act_size m 1 0 0 [] k
theorem start_size (m : DM) : m.start.2.size = m.size := act_size m 2 0 0 [] []
theorem setPower_size (m : DM) (n : Int) : (m.setPower n).2.size = m.size := act_size m 8 0 n [] []
theorem heal_ready {m : DM} (hok : m.Ok) (hs : m.size = 156) {N : Nat} (hw : m.waits.length ≤ N) : m.downed.raised.Ok ∧ Ready m.downed.raised 3 ∧ m.downed.raised.waits.length ≤ N := by
  have hd : m.downed.size = 156 ∧ m.downed.waits.length ≤ N ∧ (m.downed.up = true ∨ m.downed.down = true) := by
    unfold DM.downed
    split
    · rename_i hu
      exact ⟨hs, hw, .inl hu⟩
    · refine ⟨(crash_size _ _).trans hs, ?_, ?_⟩
      · unfold DM.crash; split
        · exact hw
        · simp
      · unfold DM.crash; split
        · rename_i hdn; exact .inr hdn
        · exact .inr rfl
  have hok2 := downed_ok hok
  generalize m.downed = p at *
  obtain ⟨h1, h2, h3⟩ := hd
  have hst : p.start.2.size = 156 ∧ p.start.2.waits.length ≤ N ∧ p.start.2.up = true := by
    refine ⟨(start_size _).trans h1, ?_, ?_⟩
    · unfold DM.start; split <;> exact h2
    · unfold DM.start
      split
      · rename_i hdn
        exact h3.resolve_right (by rw [hdn]; simp)
      · rfl
  have hok3 := DM.start_ok hok2
  unfold DM.raised
  generalize p.start.2 = q at *
  obtain ⟨g1, g2, g3⟩ := hst
  refine ⟨DM.setPower_ok hok3 1000, ?_, ?_⟩
  · have e : q.setPower 1000 = (0, { q with power := 1000 }) := by
      unfold DM.setPower
      rw [if_neg (by rw [g3]; simp), if_neg (by omega)]
    rw [e]
    exact ⟨g3, g1, .inr (by show (3 : Int) ≤ 1000; omega)⟩
  · unfold DM.setPower
    split
    · exact g2
    · split <;> exact g2
/-- What Mine tells of a frame at its own place. -/
theorem seal_mine {a b c t e : Int} {s : Int} {body : List Nat} (h : sealE a b c t e body.length s = 0) : stM (sealL a b c t e body s) a b c = 1 ∧ tagV (sealL a b c t e body s) a b c = .agg #[.int .i64 a, .int .i64 b, .int .i64 c, .int .i64 t, .int .i64 e] ∧ mbl (sealL a b c t e body s) a b c = body ∧
    ((mfl (sealL a b c t e body s) a b c 0 : Nat) : Int) = a ∧ ((mfl (sealL a b c t e body s) a b c 1 : Nat) : Int) = b ∧ ((mfl (sealL a b c t e body s) a b c 2 : Nat) : Int) = c ∧ ((mfl (sealL a b c t e body s) a b c 3 : Nat) : Int) = t ∧ ((mfl (sealL a b c t e body s) a b c 4 : Nat) : Int) = e := by
  obtain ⟨hg, hb, q0, q1, q2, q3, q4⟩ := sealL_good h
  obtain ⟨e1, e2, e3⟩ := mine_yes hg ((mineB_iff hg).2 ⟨q0, q1, q2⟩)
  have f0 := e2 0
  have f1 := e2 1
  have f2 := e2 2
  have f3 := e2 3
  have f4 := e2 4
  refine ⟨e1, ?_, e3.trans hb, by rw [f0]; exact q0, by rw [f1]; exact q1, by rw [f2]; exact q2, by rw [f3]; exact q3, by rw [f4]; exact q4⟩
  unfold tagV
  rw [f0, f1, f2, f3, f4, q0, q1, q2, q3, q4]
theorem may_place {a b c t e : Int} (hm : mayB a b c t e = true) : placeG 156 a b c = 0 := by
  obtain ⟨h1, h2, h3, h4, h5, h6, _⟩ := mayB_iff.1 hm
  have hk : knownG 156 a = 0 := by
    unfold knownG
    rw [if_neg (by omega), if_neg (by omega)]
  have hf := first_wid ⟨h5, h6⟩
  unfold placeG
  rw [hk, if_neg (by simp), if_neg (by omega)]
/-- All of a frame that may be: it can be written, how long it is, what it tells. -/
theorem may_all {a b c t e : Int} {n : Nat} {body : List Nat} (hm : mayB a b c t e = true) (hn : n ≤ 43) (hb : body.length = n) : sealE a b c t e body.length (wid b : Nat) = 0 ∧ (sealL a b c t e body (wid b : Nat)).length = 64 * wid b ∧ 1 ≤ wid b ∧ 0 ≤ firstS b c ∧ firstS b c + wid b ≤ 156 := by
  obtain ⟨h1, h2, h3, h4, h5, h6, _⟩ := mayB_iff.1 hm
  have hw1 := wid_pos (r := b) ⟨h3, h4⟩
  have hw2 := wid_le b
  have hE : sealE a b c t e body.length (wid b : Nat) = 0 := sealE_yes (by rcases (by omega : wid b = 1 ∨ wid b = 2) with e | e <;> rw [e] <;> decide) hm (by rw [hb]; rcases (by omega : wid b = 1 ∨ wid b = 2) with e | e <;> rw [e] <;> (simp [roomN]; omega))
  have hl := (sealL_len hE).1
  rw [Int.toNat_natCast] at hl
  exact ⟨hE, hl, hw1, (first_wid ⟨h5, h6⟩).1, (first_wid ⟨h5, h6⟩).2⟩
end Go.Proofs.YtldgamgdbneneaaDoor
