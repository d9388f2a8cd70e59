/-
  Plain facts on bodies (a ballot, and an entry behind it), without any program.
-/
import Derived.Test.YtejejadbemkifaaESpec
namespace Go.Proofs.Ytejejadbemkifaa
set_option maxRecDepth 100000
open Go

/-- Which ballots may be. -/
def balE (x y : Int) : Bool := decide (1 ≤ x ∧ x ≤ 1099511627776 ∧ 0 ≤ y ∧ y ≤ 6)
theorem balE_iff {x y : Int} : balE x y = true ↔ (1 ≤ x ∧ x ≤ 1099511627776 ∧ 0 ≤ y ∧ y ≤ 6) := by unfold balE; exact decide_eq_true_iff
def bodyL (x y : Int) (e : Ent) : List Nat := digs 6 x.toNat ++ [y.toNat] ++ enL e
theorem bodyL_len {x y : Int} {e : Ent} (h : enOk e = true) : 8 ≤ (bodyL x y e).length ∧ (bodyL x y e).length ≤ 59 := by
  have := enL_len h
  unfold bodyL
  simp only [List.length_append, List.length_cons, List.length_nil, digs_length]
  omega
theorem bodyL_lt {x y : Int} {e : Ent} (h : enOk e = true) (hb : balE x y = true) : ∀ z ∈ bodyL x y e, z < 256 := by
  have hb := balE_iff.1 hb
  intro z hz
  unfold bodyL at hz
  simp only [List.mem_append, List.mem_singleton] at hz
  rcases hz with (hz | hz) | hz
  · exact digs_lt _ _ _ hz
  · omega
  · exact enL_lt h _ hz
/-- The body that bytes are. -/
def bdR (l : List Nat) : Option (Nat × Nat × Ent) :=
  if l.length < 7 then none else (enR l 7).bind fun r => if r.2 = l.length ∧ balE (num (l.take 6) : Nat) (l.getD 6 0 : Nat) = true then some (num (l.take 6), l.getD 6 0, r.1) else none
theorem bd_back {x y : Int} {e : Ent} (h : enOk e = true) (hb : balE x y = true) : ∃ a b : Nat, x = a ∧ y = b ∧ bdR (bodyL x y e) = some (a, b, e) := by
  have hbb := balE_iff.1 hb
  obtain ⟨a, rfl⟩ := Int.eq_ofNat_of_zero_le (show 0 ≤ x by omega)
  obtain ⟨b, rfl⟩ := Int.eq_ofNat_of_zero_le (show 0 ≤ y by omega)
  refine ⟨a, b, rfl, rfl, ?_⟩
  have hlen := bodyL_len (x := (a : Int)) (y := (b : Int)) h
  have h7 : (digs 6 a ++ [b]).length = 7 := by simp [digs_length]
  have hL : bodyL (a : Int) (b : Int) e = (digs 6 a ++ [b]) ++ enL e ++ [] := by unfold bodyL; simp
  have hr : enR (bodyL (a : Int) (b : Int) e) 7 = some (e, (bodyL (a : Int) (b : Int) e).length) := by
    have := en_back h (digs 6 a ++ [b]) []
    rw [← hL, h7] at this
    rw [this, hL]
    simp only [List.append_nil, List.length_append, h7]
  have ht : (bodyL (a : Int) (b : Int) e).take 6 = digs 6 a := by
    unfold bodyL
    rw [List.append_assoc, List.take_append_of_le_length (by rw [digs_length]; exact Nat.le_refl _), List.take_of_length_le (by rw [digs_length]; exact Nat.le_refl _)]
    rfl
  have h6 : (bodyL (a : Int) (b : Int) e).getD 6 0 = b := by
    rw [List.getD_eq_getElem?_getD]
    unfold bodyL
    rw [List.append_assoc, List.getElem?_append_right (by rw [digs_length]; exact Nat.le_refl _), digs_length]
    rfl
  unfold bdR
  rw [if_neg (by omega), hr]
  simp only [Option.bind_some]
  rw [ht, h6, num_digs 6 a (by omega)]
  simp [hb]
theorem bd_of {l : List Nat} {a b : Nat} {e : Ent} (hl : ∀ x ∈ l, x < 256) (h : bdR l = some (a, b, e)) : bodyL a b e = l ∧ enOk e = true ∧ balE a b = true := by
  unfold bdR at h
  by_cases h7 : l.length < 7
  · rw [if_pos h7] at h; cases h
  · rw [if_neg h7] at h
    cases hr : enR l 7 with
    | none => rw [hr] at h; cases h
    | some r =>
      obtain ⟨e', n⟩ := r
      rw [hr] at h
      simp only [Option.bind_some] at h
      by_cases hc : n = l.length ∧ balE (num (l.take 6) : Nat) (l.getD 6 0 : Nat) = true
      · rw [if_pos hc] at h
        injection h with h
        injection h with ha h
        injection h with hb he
        subst ha hb he
        obtain ⟨hn, hbal⟩ := hc
        obtain ⟨_, _, h3, h4⟩ := en_of hl hr
        refine ⟨?_, h4, hbal⟩
        have hd : digs 6 (num (l.take 6)) = l.take 6 := by
          have := digs_num (l.take 6) (fun x hx => hl x (List.mem_of_mem_take hx))
          rw [List.length_take, Nat.min_eq_left (by omega)] at this
          exact this
        unfold bodyL
        rw [Int.toNat_natCast, Int.toNat_natCast, hd, ← h3, hn]
        have h6 : (l.drop 6).take 1 = [l.getD 6 0] := take_one (getD_some (by omega))
        rw [← h6]
        have e1 : l.take 6 ++ (l.drop 6).take 1 = l.take 7 := by rw [← List.take_add]
        have e2 : (l.drop 7).take (l.length - 7) = l.drop 7 := List.take_of_length_le (by rw [List.length_drop]; exact Nat.le_refl _)
        rw [e1, e2, List.take_append_drop]
      · rw [if_neg hc] at h; cases h
/-- A body that is cut, or has more behind it, is none. -/
theorem bd_other {l l' : List Nat} (hl : ∀ x ∈ l, x < 256) (hl' : ∀ x ∈ l', x < 256) {a b : Nat} {e : Ent} (h : bdR l = some (a, b, e)) (hne : l'.length ≠ l.length) (hp : (∃ t, l = l' ++ t) ∨ ∃ t, l' = l ++ t) : bdR l' = none := by
  cases hr : bdR l' with
  | none => rfl
  | some r =>
    exfalso
    have key : ∀ (x y : List Nat), (∀ z ∈ x, z < 256) → (∃ r, bdR x = some r) → (∃ r, bdR y = some r) → (∃ t, y = x ++ t) → y.length = x.length := by
      intro x y hx hxr hyr ht
      obtain ⟨r1, h1⟩ := hxr
      obtain ⟨r2, h2⟩ := hyr
      obtain ⟨t, rfl⟩ := ht
      unfold bdR at h1 h2
      split at h1
      · cases h1
      · split at h2
        · cases h2
        · cases e1 : enR x 7 with
          | none => rw [e1] at h1; cases h1
          | some r =>
            obtain ⟨e1', n1⟩ := r
            rw [e1] at h1
            simp only [Option.bind_some] at h1
            split at h1
            · rename_i hc
              have hn : n1 = x.length := hc.1
              have := en_agree hx e1 (l' := x ++ t) (by rw [hn, List.take_left, List.take_of_length_le (Nat.le_refl _)])
              rw [this] at h2
              simp only [Option.bind_some] at h2
              split at h2
              · rename_i hc2
                have h3 : n1 = (x ++ t).length := hc2.1
                omega
              · cases h2
            · cases h1
    rcases hp with hp | hp
    · exact hne (key l' l hl' ⟨_, hr⟩ ⟨_, h⟩ hp).symm
    · exact hne (key l l' hl ⟨_, h⟩ ⟨_, hr⟩ hp)
end Go.Proofs.Ytejejadbemkifaa
