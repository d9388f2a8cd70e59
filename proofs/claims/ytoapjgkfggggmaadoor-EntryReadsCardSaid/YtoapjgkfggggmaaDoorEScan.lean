/-
  Plain facts: a reader that goes on behind what is too short, and what it has read then. No program.
-/
import Derived.Test.YtoapjgkfggggmaaDoorEPlain
namespace Go.Proofs.YtoapjgkfggggmaaDoor
open Go

/-- A number of w bytes at a place: the number, the place behind it (the same where it is too short), is it too short. -/
def nmS (l : List Nat) (a w : Nat) : Nat × Nat × Bool := if a + w ≤ l.length then (num ((l.drop a).take w), a + w, false) else (0, a, true)
/-- A text at a place, likewise. -/
def txS (l : List Nat) (a : Nat) : ByteArray × Nat × Bool := match rdT l a with | some (s, b) => (s, b, false) | none => (ByteArray.empty, a, true)
theorem nmS_yes {l : List Nat} {a w : Nat} (h : a + w ≤ l.length) : nmS l a w = (num ((l.drop a).take w), a + w, false) := if_pos h
theorem nmS_no {l : List Nat} {a w : Nat} (h : l.length < a + w) : nmS l a w = (0, a, true) := if_neg (by omega)
theorem nmS_le {l : List Nat} {a w : Nat} (h : a ≤ l.length) : (nmS l a w).2.1 ≤ l.length := by
  unfold nmS
  split
  · assumption
  · exact h
theorem nmS_lt {l : List Nat} (hl : ∀ x ∈ l, x < 256) (a w : Nat) : (nmS l a w).1 < 256 ^ w := by
  unfold nmS
  split
  · exact num_take_lt' hl a w
  · exact Nat.pow_pos (by omega)
theorem nmS_one {l : List Nat} {a x : Nat} (h : l[a]? = some x) : nmS l a 1 = (x, a + 1, false) := by
  have ha : a < l.length := (List.getElem?_eq_some_iff.1 h).1
  rw [nmS_yes (by omega), take_one h]
  simp [num]
/-- What Get answers, told so. -/
theorem getS_nm {l : List Nat} {a w : Nat} (hw : wOk w = true) (h : a ≤ l.length) : getS l (a : Int) (w : Int) = if (nmS l a w).2.2 = true then (0, 0, 10) else ((nmS l a w).1, (nmS l a w).2.1, 0) := by
  by_cases hs : a + w ≤ l.length
  · rw [nmS_yes hs, getS_yes hw (by omega) (by omega) (by omega)]
    simp
  · rw [nmS_no (by omega), getS_short hw (by omega) (by omega) (by omega)]
    simp
theorem nmS_bad {l : List Nat} {a w : Nat} (h : (nmS l a w).2.2 = true) : nmS l a w = (0, a, true) := by
  by_cases hs : a + w ≤ l.length
  · rw [nmS_yes hs] at h; cases h
  · exact nmS_no (by omega)
theorem txS_bad {l : List Nat} {a : Nat} (h : (txS l a).2.2 = true) : txS l a = (ByteArray.empty, a, true) ∧ rdT l a = none := by
  unfold txS at h ⊢
  split at h
  · cases h
  · rename_i hr
    rw [hr]
    exact ⟨rfl, rfl⟩
theorem txS_ok {l : List Nat} {a : Nat} (h : (txS l a).2.2 = false) : rdT l a = some ((txS l a).1, (txS l a).2.1) := by
  unfold txS at h ⊢
  split at h
  · rename_i hr
    rw [hr]
  · cases h
theorem txS_le {l : List Nat} {a : Nat} (h : a ≤ l.length) : (txS l a).2.1 ≤ l.length := by
  unfold txS
  split
  · rename_i hr
    obtain ⟨n, _, h2, _, h4⟩ := rdT_inv h hr
    dsimp only
    omega
  · exact h
/-- What Read answers, told so. -/
theorem readS_none {l : List Nat} {a : Nat} (ha : a ≤ l.length) (h : rdT l a = none) : readS l (a : Int) = ([], 0, 10) := by
  by_cases hlt : a < l.length
  · have hx : l[a]? = some l[a] := List.getElem?_eq_getElem hlt
    by_cases hn : a + 1 + l[a] ≤ l.length
    · rw [rdT_some hx hn] at h
      cases h
    · exact readS_short hx (by omega)
  · have he : a = l.length := by omega
    subst he
    exact readS_err getS_end (by omega)
theorem readS_some {l : List Nat} {a b : Nat} {s : ByteArray} (ha : a ≤ l.length) (h : rdT l a = some (s, b)) : str (readS l (a : Int)).1 = s ∧ (readS l (a : Int)).2.1 = b ∧ (readS l (a : Int)).2.2 = 0 := by
  obtain ⟨n, h1, h2, h3, h4⟩ := rdT_inv ha h
  rw [readS_yes h1 h2]
  exact ⟨h3.symm, h4.symm, rfl⟩
theorem txS_read {l : List Nat} {a : Nat} (ha : a ≤ l.length) : (str (readS l (a : Int)).1 = (txS l a).1) ∧ (((txS l a).2.2 = true ∧ (readS l (a : Int)).2.1 = 0 ∧ (readS l (a : Int)).2.2 = 10) ∨ ((txS l a).2.2 = false ∧ (readS l (a : Int)).2.1 = (txS l a).2.1 ∧ (readS l (a : Int)).2.2 = 0)) := by
  cases hb : (txS l a).2.2 with
  | true =>
    obtain ⟨e, hn⟩ := txS_bad hb
    rw [readS_none ha hn, e]
    exact ⟨rfl, .inl ⟨rfl, rfl, rfl⟩⟩
  | false =>
    obtain ⟨h1, h2, h3⟩ := readS_some ha (txS_ok hb)
    exact ⟨h1, .inr ⟨rfl, h2, h3⟩⟩
/-- An operation at a place: its kind, its texts, the place behind, was it too short. -/
def opA (l : List Nat) (a : Nat) : Nat := (nmS l a 1).2.1
def opB (l : List Nat) (a : Nat) : Nat := (txS l (opA l a)).2.1
def opC (l : List Nat) (a : Nat) : Nat := (txS l (opB l a)).2.1
def opD (l : List Nat) (a : Nat) : Nat := (txS l (opC l a)).2.1
def opBad (l : List Nat) (a : Nat) : Bool := (nmS l a 1).2.2 || (txS l (opA l a)).2.2 || (txS l (opB l a)).2.2 || (txS l (opC l a)).2.2
/-- An entry at a place. -/
def enA (l : List Nat) (a : Nat) : Nat := (nmS l a 1).2.1
def enB (l : List Nat) (a : Nat) : Nat := (nmS l (enA l a) 1).2.1
def enC (l : List Nat) (a : Nat) : Nat := (nmS l (enB l a) 6).2.1
def enS (l : List Nat) (a : Nat) : Ent × Nat × Bool :=
  if (nmS l a 1).1 = 2 then
    ({ k := 2, cl := ((nmS l (enA l a) 1).1 : Nat), sq := ((nmS l (enB l a) 6).1 : Nat), ok := (nmS l (enC l a) 1).1, key := (txS l (opA l (enC l a))).1, old := (txS l (opB l (enC l a))).1, val := (txS l (opC l (enC l a))).1 },
      opD l (enC l a), (nmS l a 1).2.2 || (nmS l (enA l a) 1).2.2 || (nmS l (enB l a) 6).2.2 || opBad l (enC l a))
  else ({ k := (nmS l a 1).1 }, enA l a, (nmS l a 1).2.2)
theorem opA_le {l : List Nat} {a : Nat} (h : a ≤ l.length) : opA l a ≤ l.length := nmS_le h
theorem opB_le {l : List Nat} {a : Nat} (h : a ≤ l.length) : opB l a ≤ l.length := txS_le (opA_le h)
theorem opC_le {l : List Nat} {a : Nat} (h : a ≤ l.length) : opC l a ≤ l.length := txS_le (opB_le h)
theorem opD_le {l : List Nat} {a : Nat} (h : a ≤ l.length) : opD l a ≤ l.length := txS_le (opC_le h)
theorem enA_le {l : List Nat} {a : Nat} (h : a ≤ l.length) : enA l a ≤ l.length := nmS_le h
theorem enB_le {l : List Nat} {a : Nat} (h : a ≤ l.length) : enB l a ≤ l.length := nmS_le (enA_le h)
theorem enC_le {l : List Nat} {a : Nat} (h : a ≤ l.length) : enC l a ≤ l.length := nmS_le (enB_le h)
theorem enS_le {l : List Nat} {a : Nat} (h : a ≤ l.length) : (enS l a).2.1 ≤ l.length := by
  unfold enS
  split
  · exact opD_le (enC_le h)
  · exact enA_le h
theorem or4_false {a b c d : Bool} (h : (a || b || c || d) = false) : a = false ∧ b = false ∧ c = false ∧ d = false := by
  cases a <;> cases b <;> cases c <;> cases d <;> simp_all
/-- What is read there as an entry that is valid. -/
theorem enS_spec {l : List Nat} {a : Nat} (ha : a ≤ l.length) :
    ((enS l a).2.2 = false ∧ enOk (enS l a).1 = true ∧ enR l a = some ((enS l a).1, (enS l a).2.1)) ∨ (((enS l a).2.2 = true ∨ enOk (enS l a).1 = false) ∧ enR l a = none) := by
  by_cases hlt : a < l.length
  · obtain ⟨x, hx⟩ : ∃ x, l[a]? = some x := ⟨_, List.getElem?_eq_getElem hlt⟩
    have hn := nmS_one hx
    have hA : enA l a = a + 1 := by unfold enA; rw [hn]
    by_cases h2 : x = 2
    · subst h2
      have hS : enS l a = ({ k := 2, cl := ((nmS l (enA l a) 1).1 : Nat), sq := ((nmS l (enB l a) 6).1 : Nat), ok := (nmS l (enC l a) 1).1, key := (txS l (opA l (enC l a))).1, old := (txS l (opB l (enC l a))).1, val := (txS l (opC l (enC l a))).1 }, opD l (enC l a), (nmS l a 1).2.2 || (nmS l (enA l a) 1).2.2 || (nmS l (enB l a) 6).2.2 || opBad l (enC l a)) := by
        unfold enS
        rw [if_pos (by rw [hn])]
      cases hb : (enS l a).2.2 with
      | true =>
        refine .inr ⟨.inl rfl, enR_raw ?_⟩
        rw [hS] at hb
        dsimp only at hb
        rw [hn, hA] at hb
        by_cases h9 : a + 9 ≤ l.length
        · have e1 : nmS l (a + 1) 1 = (num ((l.drop (a + 1)).take 1), a + 2, false) := nmS_yes (by omega)
          have hB : enB l a = a + 2 := by unfold enB; rw [hA, e1]
          have e2 : nmS l (a + 2) 6 = (num ((l.drop (a + 2)).take 6), a + 8, false) := nmS_yes (by omega)
          have hC : enC l a = a + 8 := by unfold enC; rw [hB, e2]
          have e3 : nmS l (a + 8) 1 = (num ((l.drop (a + 8)).take 1), a + 9, false) := nmS_yes (by omega)
          have hOA : opA l (a + 8) = a + 9 := by unfold opA; rw [e3]
          rw [hB, e1, e2, hC] at hb
          simp only [Bool.or_false, Bool.false_or] at hb
          unfold opBad at hb
          rw [e3, hOA] at hb
          simp only [Bool.false_or] at hb
          cases t1 : (txS l (a + 9)).2.2 with
          | true => exact enRaw_t1 hx (txS_bad t1).2
          | false =>
            have r1 := txS_ok t1
            have hOB : opB l (a + 8) = (txS l (a + 9)).2.1 := by unfold opB; rw [hOA]
            rw [t1, hOB] at hb
            cases t2 : (txS l (txS l (a + 9)).2.1).2.2 with
            | true => exact enRaw_t2 hx r1 (txS_bad t2).2
            | false =>
              have r2 := txS_ok t2
              have hOC : opC l (a + 8) = (txS l (txS l (a + 9)).2.1).2.1 := by unfold opC; rw [hOB]
              rw [t2, hOC] at hb
              simp only [Bool.false_or] at hb
              exact enRaw_t3 hx r1 r2 (txS_bad hb).2
        · exact enRaw_nine hx (by omega)
      | false =>
        rw [hS] at hb
        dsimp only at hb
        obtain ⟨_, b1, b2, b3⟩ := or4_false hb
        unfold opBad at b3
        obtain ⟨b4, t1, t2, t3⟩ := or4_false b3
        rw [hA] at b1
        have g1 : a + 2 ≤ l.length := by
          by_cases h : a + 1 + 1 ≤ l.length
          · exact h
          · rw [nmS_no (by omega)] at b1; cases b1
        have e1 : nmS l (a + 1) 1 = (num ((l.drop (a + 1)).take 1), a + 2, false) := nmS_yes (by omega)
        have hB : enB l a = a + 2 := by unfold enB; rw [hA, e1]
        rw [hB] at b2
        have g2 : a + 8 ≤ l.length := by
          by_cases h : a + 2 + 6 ≤ l.length
          · exact h
          · rw [nmS_no (by omega)] at b2; cases b2
        have e2 : nmS l (a + 2) 6 = (num ((l.drop (a + 2)).take 6), a + 8, false) := nmS_yes (by omega)
        have hC : enC l a = a + 8 := by unfold enC; rw [hB, e2]
        rw [hC] at b4 t1 t2 t3
        have g3 : a + 9 ≤ l.length := by
          by_cases h : a + 8 + 1 ≤ l.length
          · exact h
          · rw [nmS_no (by omega)] at b4; cases b4
        have e3 : nmS l (a + 8) 1 = (l.getD (a + 8) 0, a + 9, false) := nmS_one (getD_some (by omega))
        have e1' : nmS l (a + 1) 1 = (l.getD (a + 1) 0, a + 2, false) := nmS_one (getD_some (by omega))
        have hOA : opA l (a + 8) = a + 9 := by unfold opA; rw [e3]
        have hOB : opB l (a + 8) = (txS l (a + 9)).2.1 := by unfold opB; rw [hOA]
        have hOC : opC l (a + 8) = (txS l (txS l (a + 9)).2.1).2.1 := by unfold opC; rw [hOB]
        have hOD : opD l (a + 8) = (txS l (txS l (txS l (a + 9)).2.1).2.1).2.1 := by unfold opD; rw [hOC]
        rw [hOA] at t1
        rw [hOB] at t2
        rw [hOC] at t3
        have hr := enRaw_op hx g3 (txS_ok t1) (txS_ok t2) (txS_ok t3)
        have hS1 : (enS l a).1 = { k := 2, cl := (l.getD (a + 1) 0 : Nat), sq := (num ((l.drop (a + 2)).take 6) : Nat), ok := l.getD (a + 8) 0, key := (txS l (a + 9)).1, old := (txS l (txS l (a + 9)).2.1).1, val := (txS l (txS l (txS l (a + 9)).2.1).2.1).1 } := by
          rw [hS, hA, hB, hC, e1', e2, e3, hOA, hOB, hOC]
        have hS2 : (enS l a).2.1 = (txS l (txS l (txS l (a + 9)).2.1).2.1).2.1 := by
          rw [hS, hC, hOD]
        rw [← hS1, ← hS2] at hr
        cases hk : enOk (enS l a).1 with
        | true => exact .inl ⟨rfl, rfl, enR_yes hr hk⟩
        | false => exact .inr ⟨.inr rfl, enR_no hr hk⟩
    · have hS : enS l a = ({ k := x }, a + 1, false) := by
        unfold enS
        rw [if_neg (by rw [hn]; exact h2), hA, hn]
      rw [hS]
      dsimp only
      by_cases h1 : x = 1
      · subst h1
        have hk : enOk { k := 1 } = true := by decide
        exact .inl ⟨rfl, hk, enR_yes (enRaw_noop hx) hk⟩
      · exact .inr ⟨.inr (bad_of (by dsimp only; omega)), enR_raw (enRaw_kind hx h1 h2)⟩
  · have hn : nmS l a 1 = (0, a, true) := nmS_no (by omega)
    refine .inr ⟨.inl ?_, enR_raw (enRaw_end (by omega))⟩
    unfold enS
    rw [if_neg (by rw [hn]; simp), hn]
/-- What is read as a body. -/
def psB (l : List Nat) : Bool := (nmS l 0 6).2.2 || (nmS l (nmS l 0 6).2.1 1).2.2
def psA (l : List Nat) : Nat := (nmS l (nmS l 0 6).2.1 1).2.1
theorem psA_le (l : List Nat) : psA l ≤ l.length := nmS_le (nmS_le (Nat.zero_le _))
theorem psS_spec {l : List Nat} :
    ((psB l = false ∧ (enS l (psA l)).2.2 = false ∧ (enS l (psA l)).2.1 = l.length ∧ balE ((nmS l 0 6).1 : Nat) ((nmS l (nmS l 0 6).2.1 1).1 : Nat) = true ∧ enOk (enS l (psA l)).1 = true) ∧ bdR l = some ((nmS l 0 6).1, (nmS l (nmS l 0 6).2.1 1).1, (enS l (psA l)).1)) ∨
    ((psB l = true ∨ (enS l (psA l)).2.2 = true ∨ (enS l (psA l)).2.1 ≠ l.length ∨ balE ((nmS l 0 6).1 : Nat) ((nmS l (nmS l 0 6).2.1 1).1 : Nat) = false ∨ enOk (enS l (psA l)).1 = false) ∧ bdR l = none) := by
  by_cases h7 : l.length < 7
  · refine .inr ⟨.inl ?_, by unfold bdR; rw [if_pos h7]⟩
    unfold psB
    by_cases h6 : l.length < 6
    · rw [nmS_no (by omega)]; rfl
    · rw [nmS_yes (by omega)]
      dsimp only
      rw [nmS_no (by omega)]
      rfl
  · have e1 : nmS l 0 6 = (num (l.take 6), 6, false) := by rw [nmS_yes (by omega)]; simp
    have e2 : nmS l 6 1 = (l.getD 6 0, 7, false) := nmS_one (getD_some (by omega))
    have hA : psA l = 7 := by unfold psA; rw [e1]; dsimp only; rw [e2]
    have hB : psB l = false := by unfold psB; rw [e1]; dsimp only; rw [e2]; rfl
    rw [hA, hB, e1]
    dsimp only
    rw [e2]
    dsimp only
    have hd : bdR l = (enR l 7).bind fun r => if r.2 = l.length ∧ balE (num (l.take 6) : Nat) (l.getD 6 0 : Nat) = true then some (num (l.take 6), l.getD 6 0, r.1) else none := by
      unfold bdR
      rw [if_neg h7]
    rcases enS_spec (l := l) (a := 7) (by omega) with ⟨h1, h2, h3⟩ | ⟨h1, h3⟩
    · rw [hd, h3]
      simp only [Option.bind_some]
      by_cases hn : (enS l 7).2.1 = l.length
      · cases hb : balE (num (l.take 6) : Nat) (l.getD 6 0 : Nat) with
        | true => rw [if_pos ⟨hn, rfl⟩]; exact .inl ⟨⟨trivial, h1, hn, rfl, h2⟩, rfl⟩
        | false => rw [if_neg (by simp)]; exact .inr ⟨.inr (.inr (.inr (.inl rfl))), rfl⟩
      · rw [if_neg (fun h => hn h.1)]
        exact .inr ⟨.inr (.inr (.inl hn)), rfl⟩
    · rw [hd, h3]
      refine .inr ⟨?_, rfl⟩
      rcases h1 with h1 | h1
      · exact .inr (.inl h1)
      · exact .inr (.inr (.inr (.inr h1)))
end Go.Proofs.YtoapjgkfggggmaaDoor
