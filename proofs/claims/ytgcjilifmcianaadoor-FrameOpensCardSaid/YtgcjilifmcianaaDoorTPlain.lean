/-
  Plain facts: a valid tag's bytes are parsed as it was; bytes that are parsed are those of what they are.
-/
import Derived.Test.YtgcjilifmcianaaDoorTSpec
namespace Go.Proofs.YtgcjilifmcianaaDoor
open Go

theorem pfld_tag (a b c d e k : Nat) (hk : k < 5) (h : fld a b c d e k < 256 ^ wth k) : pfld (tagBytes a b c d e) k = fld a b c d e k := by
  have key : ((tagBytes a b c d e).drop (pos k)).take (wth k) = digs (wth k) (fld a b c d e k) := by
    have hj' : k = 0 ∨ k = 1 ∨ k = 2 ∨ k = 3 ∨ k = 4 := by omega
    rcases hj' with rfl | rfl | rfl | rfl | rfl <;> rfl
  unfold pfld
  rw [key, num_digs _ _ h]
theorem PV_tag {a b c d e : Nat} (h : mayB a b c d e = true) : PV (tagBytes a b c d e) = true ∧ ∀ k, k < 5 → pf (tagBytes a b c d e) k = fld a b c d e k := by
  have hf : ∀ k, k < 5 → pfld (tagBytes a b c d e) k = fld a b c d e k := fun k hk => pfld_tag a b c d e k hk (by
    have := (fits_iff.1 (fld_fits h k)).2.2
    simpa using this)
  have hv : PV (tagBytes a b c d e) = true := PV_both (tagBytes_len a b c d e) (by
    rw [hf 0 (by omega), hf 1 (by omega), hf 2 (by omega), hf 3 (by omega), hf 4 (by omega)]
    exact h)
  exact ⟨hv, fun k hk => by rw [pf_yes hv, hf k hk]⟩
theorem tagBytes_of {l : List Nat} (h : l.length = 15) (hl : ∀ b ∈ l, b < 256) : tagBytes (pfld l 0) (pfld l 1) (pfld l 2) (pfld l 3) (pfld l 4) = l := by
  have step : ∀ k, k < 5 → digs (wth k) (pfld l k) = (l.drop (pos k)).take (wth k) := by
    intro k hk
    have hp := pos_step hk
    have h15 := pos_le (k + 1)
    have e := digs_num ((l.drop (pos k)).take (wth k)) (fun b hb => hl b (List.mem_of_mem_drop (List.mem_of_mem_take hb)))
    rw [List.length_take, List.length_drop, Nat.min_eq_left (by omega)] at e
    exact e
  have fl : ∀ k, k < 5 → fld (pfld l 0) (pfld l 1) (pfld l 2) (pfld l 3) (pfld l 4) k = pfld l k := by
    intro k hk
    have hj' : k = 0 ∨ k = 1 ∨ k = 2 ∨ k = 3 ∨ k = 4 := by omega
    rcases hj' with rfl | rfl | rfl | rfl | rfl <;> rfl
  have all : ∀ k, k ≤ 5 → pre (fld (pfld l 0) (pfld l 1) (pfld l 2) (pfld l 3) (pfld l 4)) k = l.take (pos k) := by
    intro k
    induction k with
    | zero => intro _; simp [pre, pos]
    | succ k ih =>
      intro hk
      rw [pre, ih (by omega), fl k (by omega), step k (by omega), pos_step (by omega), List.take_add]
  have := all 5 (by omega)
  rw [show pos 5 = 15 from rfl, List.take_of_length_le (by omega)] at this
  exact this
/-- Valid bytes are those of what they are. -/
theorem pl_of {l : List Nat} (h : PV l = true) (hl : ∀ b ∈ l, b < 256) : pl (pf l 0) (pf l 1) (pf l 2) (pf l 3) (pf l 4) = l ∧ pr (pf l 0) (pf l 1) (pf l 2) (pf l 3) (pf l 4) = 0 := by
  have hp : l.length = 15 ∧ mayB (pfld l 0) (pfld l 1) (pfld l 2) (pfld l 3) (pfld l 4) = true := by
    unfold PV at h
    simpa using h
  rw [pf_yes h, pf_yes h, pf_yes h, pf_yes h, pf_yes h]
  exact ⟨by rw [pl_yes hp.2]; simp only [Int.toNat_natCast]; exact tagBytes_of hp.1 hl, pr_yes hp.2⟩
end Go.Proofs.YtgcjilifmcianaaDoor
