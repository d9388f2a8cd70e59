/-
  Plain facts: a reader that goes on behind what is too short, and what it has read then. No program.
-/
import Derived.Test.YtmbmpabjclkhlaaGreatDoorQ00
import Derived.Test.YtmbmpabjclkhlaaGreatDoorQ05
import Derived.Test.YtmbmpabjclkhlaaGreatDoorQ06
import Derived.Test.YtmbmpabjclkhlaaGreatDoorQ07
import Derived.Test.YtmbmpabjclkhlaaGreatDoorQ08
import Derived.Test.YtmbmpabjclkhlaaGreatDoorQ09
import Derived.Deep.RegionHeld3
import Derived.Laws.EntriesVeiled
namespace Go.Proofs.YtmbmpabjclkhlaaGreatDoor
set_option maxRecDepth 100000
section
open Go
def nmS (l : List Nat) (a w : Nat) : Nat × Nat × Bool := if a + w ≤ l.length then (num ((l.drop a).take w), a + w, false) else (0, a, true)
def txS (l : List Nat) (a : Nat) : ByteArray × Nat × Bool := match rdT l a with | some (s, b) => (s, b, false) | none => (ByteArray.empty, a, true)
theorem nmS_yes {l : List Nat} {a w : Nat} (h : a + w ≤ l.length) : nmS l a w = (num ((l.drop a).take w), a + w, false) := if_pos h
theorem nmS_no {l : List Nat} {a w : Nat} (h : l.length < a + w) : nmS l a w = (0, a, true) := if_neg (by omega)
theorem nmS_le {l : List Nat} {a w : Nat} (h : a ≤ l.length) : (nmS l a w).2.1 ≤ l.length := by
  unfold nmS
  split
  · assumption
  · exact h
theorem nmS_lt {l : List Nat} (hl : ∀ x ∈ l, x < 256) (a w : Nat) : (nmS l a w).1 < 256 ^ w := by
  unfold nmS
  split
  · exact num_take_lt' hl a w
  · exact Nat.pow_pos (by omega)
theorem nmS_one {l : List Nat} {a x : Nat} (h : l[a]? = some x) : nmS l a 1 = (x, a + 1, false) := by
  have ha : a < l.length := (List.getElem?_eq_some_iff.1 h).1
  rw [nmS_yes (by omega), take_one h]
  simp [num]
theorem getS_nm {l : List Nat} {a w : Nat} (hw : wOk w = true) (h : a ≤ l.length) : getS l (a : Int) (w : Int) = if (nmS l a w).2.2 = true then (0, 0, 10) else ((nmS l a w).1, (nmS l a w).2.1, 0) := by
  by_cases hs : a + w ≤ l.length
  · rw [nmS_yes hs, getS_yes hw (by omega) (by omega) (by omega)]
    simp
  · rw [nmS_no (by omega), getS_short hw (by omega) (by omega) (by omega)]
    simp
theorem nmS_bad {l : List Nat} {a w : Nat} (h : (nmS l a w).2.2 = true) : nmS l a w = (0, a, true) := by
  by_cases hs : a + w ≤ l.length
  · rw [nmS_yes hs] at h; cases h
  · exact nmS_no (by omega)
theorem txS_bad {l : List Nat} {a : Nat} (h : (txS l a).2.2 = true) : txS l a = (ByteArray.empty, a, true) ∧ rdT l a = none := by
  unfold txS at h ⊢
  split at h
  · cases h
  · rename_i hr
    rw [hr]
    exact ⟨rfl, rfl⟩
theorem txS_ok {l : List Nat} {a : Nat} (h : (txS l a).2.2 = false) : rdT l a = some ((txS l a).1, (txS l a).2.1) := by
  unfold txS at h ⊢
  split at h
  · rename_i hr
    rw [hr]
  · cases h
theorem txS_le {l : List Nat} {a : Nat} (h : a ≤ l.length) : (txS l a).2.1 ≤ l.length := by
  unfold txS
  split
  · rename_i hr
    obtain ⟨n, _, h2, _, h4⟩ := rdT_inv h hr
    dsimp only
    omega
  · exact h
theorem readS_none {l : List Nat} {a : Nat} (ha : a ≤ l.length) (h : rdT l a = none) : readS l (a : Int) = ([], 0, 10) := by
  by_cases hlt : a < l.length
  · have hx : l[a]? = some l[a] := List.getElem?_eq_getElem hlt
    by_cases hn : a + 1 + l[a] ≤ l.length
    · rw [rdT_some hx hn] at h
      cases h
    · exact readS_short hx (by omega)
  · have he : a = l.length := by omega
    subst he
    exact readS_err getS_end (by omega)
theorem readS_some {l : List Nat} {a b : Nat} {s : ByteArray} (ha : a ≤ l.length) (h : rdT l a = some (s, b)) : str (readS l (a : Int)).1 = s ∧ (readS l (a : Int)).2.1 = b ∧ (readS l (a : Int)).2.2 = 0 := by
  obtain ⟨n, h1, h2, h3, h4⟩ := rdT_inv ha h
  rw [readS_yes h1 h2]
  exact ⟨h3.symm, h4.symm, rfl⟩
theorem txS_read {l : List Nat} {a : Nat} (ha : a ≤ l.length) : (str (readS l (a : Int)).1 = (txS l a).1) ∧ (((txS l a).2.2 = true ∧ (readS l (a : Int)).2.1 = 0 ∧ (readS l (a : Int)).2.2 = 10) ∨ ((txS l a).2.2 = false ∧ (readS l (a : Int)).2.1 = (txS l a).2.1 ∧ (readS l (a : Int)).2.2 = 0)) := by
  cases hb : (txS l a).2.2 with
  | true =>
    obtain ⟨e, hn⟩ := txS_bad hb
    rw [readS_none ha hn, e]
    exact ⟨rfl, .inl ⟨rfl, rfl, rfl⟩⟩
  | false =>
    obtain ⟨h1, h2, h3⟩ := readS_some ha (txS_ok hb)
    exact ⟨h1, .inr ⟨rfl, h2, h3⟩⟩
def opA (l : List Nat) (a : Nat) : Nat := (nmS l a 1).2.1
def opB (l : List Nat) (a : Nat) : Nat := (txS l (opA l a)).2.1
def opC (l : List Nat) (a : Nat) : Nat := (txS l (opB l a)).2.1
def opD (l : List Nat) (a : Nat) : Nat := (txS l (opC l a)).2.1
def opBad (l : List Nat) (a : Nat) : Bool := (nmS l a 1).2.2 || (txS l (opA l a)).2.2 || (txS l (opB l a)).2.2 || (txS l (opC l a)).2.2
def enA (l : List Nat) (a : Nat) : Nat := (nmS l a 1).2.1
def enB (l : List Nat) (a : Nat) : Nat := (nmS l (enA l a) 1).2.1
def enC (l : List Nat) (a : Nat) : Nat := (nmS l (enB l a) 6).2.1
def enS (l : List Nat) (a : Nat) : Ent × Nat × Bool :=
  if (nmS l a 1).1 = 2 then
    ({ k := 2, cl := ((nmS l (enA l a) 1).1 : Nat), sq := ((nmS l (enB l a) 6).1 : Nat), ok := (nmS l (enC l a) 1).1, key := (txS l (opA l (enC l a))).1, old := (txS l (opB l (enC l a))).1, val := (txS l (opC l (enC l a))).1 },
      opD l (enC l a), (nmS l a 1).2.2 || (nmS l (enA l a) 1).2.2 || (nmS l (enB l a) 6).2.2 || opBad l (enC l a))
  else ({ k := (nmS l a 1).1 }, enA l a, (nmS l a 1).2.2)
theorem or4_false {a b c d : Bool} (h : (a || b || c || d) = false) : a = false ∧ b = false ∧ c = false ∧ d = false := by
  cases a <;> cases b <;> cases c <;> cases d <;> simp_all
theorem enS_spec {l : List Nat} {a : Nat} (ha : a ≤ l.length) :
    ((enS l a).2.2 = false ∧ enOk (enS l a).1 = true ∧ enR l a = some ((enS l a).1, (enS l a).2.1)) ∨ (((enS l a).2.2 = true ∨ enOk (enS l a).1 = false) ∧ enR l a = none) := by
  by_cases hlt : a < l.length
  · obtain ⟨x, hx⟩ : ∃ x, l[a]? = some x := ⟨_, List.getElem?_eq_getElem hlt⟩
    have hn := nmS_one hx
    have hA : enA l a = a + 1 := by unfold enA; rw [hn]
    by_cases h2 : x = 2
    · subst h2
      have hS : enS l a = ({ k := 2, cl := ((nmS l (enA l a) 1).1 : Nat), sq := ((nmS l (enB l a) 6).1 : Nat), ok := (nmS l (enC l a) 1).1, key := (txS l (opA l (enC l a))).1, old := (txS l (opB l (enC l a))).1, val := (txS l (opC l (enC l a))).1 }, opD l (enC l a), (nmS l a 1).2.2 || (nmS l (enA l a) 1).2.2 || (nmS l (enB l a) 6).2.2 || opBad l (enC l a)) := by
        unfold enS
        rw [if_pos (by rw [hn])]
      cases hb : (enS l a).2.2 with
      | true =>
        refine .inr ⟨.inl rfl, enR_raw ?_⟩
        rw [hS] at hb
        dsimp only at hb
        rw [hn, hA] at hb
        by_cases h9 : a + 9 ≤ l.length
        · have e1 : nmS l (a + 1) 1 = (num ((l.drop (a + 1)).take 1), a + 2, false) := nmS_yes (by omega)
          have hB : enB l a = a + 2 := by unfold enB; rw [hA, e1]
          have e2 : nmS l (a + 2) 6 = (num ((l.drop (a + 2)).take 6), a + 8, false) := nmS_yes (by omega)
          have hC : enC l a = a + 8 := by unfold enC; rw [hB, e2]
          have e3 : nmS l (a + 8) 1 = (num ((l.drop (a + 8)).take 1), a + 9, false) := nmS_yes (by omega)
          have hOA : opA l (a + 8) = a + 9 := by unfold opA; rw [e3]
          rw [hB, e1, e2, hC] at hb
          simp only [Bool.or_false, Bool.false_or] at hb
          unfold opBad at hb
          rw [e3, hOA] at hb
          simp only [Bool.false_or] at hb
          cases t1 : (txS l (a + 9)).2.2 with
          | true => exact enRaw_t1 hx (txS_bad t1).2
          | false =>
            have r1 := txS_ok t1
            have hOB : opB l (a + 8) = (txS l (a + 9)).2.1 := by unfold opB; rw [hOA]
            rw [t1, hOB] at hb
            cases t2 : (txS l (txS l (a + 9)).2.1).2.2 with
            | true => exact enRaw_t2 hx r1 (txS_bad t2).2
            | false =>
              have r2 := txS_ok t2
              have hOC : opC l (a + 8) = (txS l (txS l (a + 9)).2.1).2.1 := by unfold opC; rw [hOB]
              rw [t2, hOC] at hb
              simp only [Bool.false_or] at hb
              exact enRaw_t3 hx r1 r2 (txS_bad hb).2
        · exact enRaw_nine hx (by omega)
      | false =>
        rw [hS] at hb
        dsimp only at hb
        obtain ⟨_, b1, b2, b3⟩ := or4_false hb
        unfold opBad at b3
        obtain ⟨b4, t1, t2, t3⟩ := or4_false b3
        rw [hA] at b1
        have g1 : a + 2 ≤ l.length := by
          by_cases h : a + 1 + 1 ≤ l.length
          · exact h
          · rw [nmS_no (by omega)] at b1; cases b1
        have e1 : nmS l (a + 1) 1 = (num ((l.drop (a + 1)).take 1), a + 2, false) := nmS_yes (by omega)
        have hB : enB l a = a + 2 := by unfold enB; rw [hA, e1]
        rw [hB] at b2
        have g2 : a + 8 ≤ l.length := by
          by_cases h : a + 2 + 6 ≤ l.length
          · exact h
          · rw [nmS_no (by omega)] at b2; cases b2
        have e2 : nmS l (a + 2) 6 = (num ((l.drop (a + 2)).take 6), a + 8, false) := nmS_yes (by omega)
        have hC : enC l a = a + 8 := by unfold enC; rw [hB, e2]
        rw [hC] at b4 t1 t2 t3
        have g3 : a + 9 ≤ l.length := by
          by_cases h : a + 8 + 1 ≤ l.length
          · exact h
          · rw [nmS_no (by omega)] at b4; cases b4
        have e3 : nmS l (a + 8) 1 = (l.getD (a + 8) 0, a + 9, false) := nmS_one (getD_some (by omega))
        have e1' : nmS l (a + 1) 1 = (l.getD (a + 1) 0, a + 2, false) := nmS_one (getD_some (by omega))
        have hOA : opA l (a + 8) = a + 9 := by unfold opA; rw [e3]
        have hOB : opB l (a + 8) = (txS l (a + 9)).2.1 := by unfold opB; rw [hOA]
        have hOC : opC l (a + 8) = (txS l (txS l (a + 9)).2.1).2.1 := by unfold opC; rw [hOB]
        have hOD : opD l (a + 8) = (txS l (txS l (txS l (a + 9)).2.1).2.1).2.1 := by unfold opD; rw [hOC]
        rw [hOA] at t1
        rw [hOB] at t2
        rw [hOC] at t3
        have hr := enRaw_op hx g3 (txS_ok t1) (txS_ok t2) (txS_ok t3)
        have hS1 : (enS l a).1 = { k := 2, cl := (l.getD (a + 1) 0 : Nat), sq := (num ((l.drop (a + 2)).take 6) : Nat), ok := l.getD (a + 8) 0, key := (txS l (a + 9)).1, old := (txS l (txS l (a + 9)).2.1).1, val := (txS l (txS l (txS l (a + 9)).2.1).2.1).1 } := by
          rw [hS, hA, hB, hC, e1', e2, e3, hOA, hOB, hOC]
        have hS2 : (enS l a).2.1 = (txS l (txS l (txS l (a + 9)).2.1).2.1).2.1 := by
          rw [hS, hC, hOD]
        rw [← hS1, ← hS2] at hr
        cases hk : enOk (enS l a).1 with
        | true => exact .inl ⟨rfl, rfl, enR_yes hr hk⟩
        | false => exact .inr ⟨.inr rfl, enR_no hr hk⟩
    · have hS : enS l a = ({ k := x }, a + 1, false) := by
        unfold enS
        rw [if_neg (by rw [hn]; exact h2), hA, hn]
      rw [hS]
      dsimp only
      by_cases h1 : x = 1
      · subst h1
        have hk : enOk { k := 1 } = true := by decide
        exact .inl ⟨rfl, hk, enR_yes (enRaw_noop hx) hk⟩
      · exact .inr ⟨.inr (bad_of (by dsimp only; omega)), enR_raw (enRaw_kind hx h1 h2)⟩
  · have hn : nmS l a 1 = (0, a, true) := nmS_no (by omega)
    refine .inr ⟨.inl ?_, enR_raw (enRaw_end (by omega))⟩
    unfold enS
    rw [if_neg (by rw [hn]; simp), hn]
def psB (l : List Nat) : Bool := (nmS l 0 6).2.2 || (nmS l (nmS l 0 6).2.1 1).2.2
def psA (l : List Nat) : Nat := (nmS l (nmS l 0 6).2.1 1).2.1
theorem psS_spec {l : List Nat} :
    ((psB l = false ∧ (enS l (psA l)).2.2 = false ∧ (enS l (psA l)).2.1 = l.length ∧ balE ((nmS l 0 6).1 : Nat) ((nmS l (nmS l 0 6).2.1 1).1 : Nat) = true ∧ enOk (enS l (psA l)).1 = true) ∧ bdR l = some ((nmS l 0 6).1, (nmS l (nmS l 0 6).2.1 1).1, (enS l (psA l)).1)) ∨
    ((psB l = true ∨ (enS l (psA l)).2.2 = true ∨ (enS l (psA l)).2.1 ≠ l.length ∨ balE ((nmS l 0 6).1 : Nat) ((nmS l (nmS l 0 6).2.1 1).1 : Nat) = false ∨ enOk (enS l (psA l)).1 = false) ∧ bdR l = none) := by
  by_cases h7 : l.length < 7
  · refine .inr ⟨.inl ?_, by unfold bdR; rw [if_pos h7]⟩
    unfold psB
    by_cases h6 : l.length < 6
    · rw [nmS_no (by omega)]; rfl
    · rw [nmS_yes (by omega)]
      dsimp only
      rw [nmS_no (by omega)]
      rfl
  · have e1 : nmS l 0 6 = (num (l.take 6), 6, false) := by rw [nmS_yes (by omega)]; simp
    have e2 : nmS l 6 1 = (l.getD 6 0, 7, false) := nmS_one (getD_some (by omega))
    have hA : psA l = 7 := by unfold psA; rw [e1]; dsimp only; rw [e2]
    have hB : psB l = false := by unfold psB; rw [e1]; dsimp only; rw [e2]; rfl
    rw [hA, hB, e1]
    dsimp only
    rw [e2]
    dsimp only
    have hd : bdR l = (enR l 7).bind fun r => if r.2 = l.length ∧ balE (num (l.take 6) : Nat) (l.getD 6 0 : Nat) = true then some (num (l.take 6), l.getD 6 0, r.1) else none := by
      unfold bdR
      rw [if_neg h7]
    rcases enS_spec (l := l) (a := 7) (by omega) with ⟨h1, h2, h3⟩ | ⟨h1, h3⟩
    · rw [hd, h3]
      simp only [Option.bind_some]
      by_cases hn : (enS l 7).2.1 = l.length
      · cases hb : balE (num (l.take 6) : Nat) (l.getD 6 0 : Nat) with
        | true => rw [if_pos ⟨hn, rfl⟩]; exact .inl ⟨⟨trivial, h1, hn, rfl, h2⟩, rfl⟩
        | false => rw [if_neg (by simp)]; exact .inr ⟨.inr (.inr (.inr (.inl rfl))), rfl⟩
      · rw [if_neg (fun h => hn h.1)]
        exact .inr ⟨.inr (.inr (.inl hn)), rfl⟩
    · rw [hd, h3]
      refine .inr ⟨?_, rfl⟩
      rcases h1 with h1 | h1
      · exact .inr (.inl h1)
      · exact .inr (.inr (.inr (.inr h1)))
end
section
open Go Go.RowKit
theorem withinE_any (a n b : Int) (w : World) :
    Calls Tryz.prog 213 #[.int .i64 a, .int .i64 n, .int .i64 b] w fun e w' => e = .returned (.bool (decide (a ≤ n) && decide (n ≤ b))) ∧ w' = w := by
  cases h1 : decide (a ≤ n) <;> cases h2 : decide (n ≤ b)
  all_goals
    go_enter Tryz.func213, Tryz.ntmps213
    go_wp2_with fail
    go_ret
    exact ⟨rfl, rfl⟩
def limK (k : Nat) : Int := if 1 ≤ k ∧ k ≤ 4 then 8 else 0
def limO (k : Nat) : Int := if k = 4 then 16 else 0
def limV (k : Nat) : Int := if k = 4 ∨ k = 2 then 16 else 0
set_option maxHeartbeats 600000 in
theorem limits_any (k : Nat) (w : World) :
    Calls Tryz.prog 282 #[.int .u8 (k : Int)] w fun e w' => e = .returned (.agg #[.int .i64 (limK k), .int .i64 (limO k), .int .i64 (limV k)]) ∧ Ext w w' := by
  by_cases h4 : k = 4
  · subst h4
    try clear h4
    try clear h2
    try clear h1
    go_enter Tryz.func282, Tryz.ntmps282
    go_wp2_with fail
    refine bodyPost_ret (v := .agg #[.int .i64 8, .int .i64 16, .int .i64 16]) ?_ rfl ⟨rfl, (Ext.refl w).alloc _⟩
    simp [results, Tryz.results282, go_sem]
  by_cases h2 : k = 2
  · subst h2
    try clear h4
    try clear h2
    try clear h1
    go_enter Tryz.func282, Tryz.ntmps282
    go_wp2_with fail
    refine bodyPost_ret (v := .agg #[.int .i64 8, .int .i64 0, .int .i64 16]) ?_ rfl ⟨rfl, (Ext.refl w).alloc _⟩
    simp [results, Tryz.results282, go_sem]
  by_cases h1 : k = 1
  · subst h1
    try clear h4
    try clear h2
    try clear h1
    go_enter Tryz.func282, Tryz.ntmps282
    go_wp2_with fail
    refine bodyPost_ret (v := .agg #[.int .i64 8, .int .i64 0, .int .i64 0]) ?_ rfl ⟨rfl, (Ext.refl w).alloc _⟩
    simp [results, Tryz.results282, go_sem]
  by_cases h3 : k = 3
  · subst h3
    try clear h4
    try clear h2
    try clear h1
    go_enter Tryz.func282, Tryz.ntmps282
    go_wp2_with fail
    refine bodyPost_ret (v := .agg #[.int .i64 8, .int .i64 0, .int .i64 0]) ?_ rfl ⟨rfl, (Ext.refl w).alloc _⟩
    simp [results, Tryz.results282, go_sem]
  · have e1 : limK k = 0 := if_neg (by omega)
    have e2 : limO k = 0 := if_neg (by omega)
    have e3 : limV k = 0 := if_neg (by omega)
    rw [e1, e2, e3]
    have g4 : ((k : Int) == 4) = false := by rw [beq_eq_false_iff_ne]; omega
    have g2 : ((k : Int) == 2) = false := by rw [beq_eq_false_iff_ne]; omega
    have g1 : ((k : Int) == 1) = false := by rw [beq_eq_false_iff_ne]; omega
    have g3 : ((k : Int) == 3) = false := by rw [beq_eq_false_iff_ne]; omega
    clear e1 e2 e3 h4 h2 h1 h3
    go_enter Tryz.func282, Tryz.ntmps282
    go_wp2_with fail
    refine bodyPost_ret (v := .agg #[.int .i64 0, .int .i64 0, .int .i64 0]) ?_ rfl ⟨rfl, (Ext.refl w).alloc _⟩
    simp [results, Tryz.results282, go_sem]
theorem texts_any (w : World) :
    Calls Tryz.prog 255 #[] w fun e w' => e = .returned (.agg #[.func (.func 283) #[] #[], .func (.func 284) #[] #[], .func (.func 285) #[] #[]]) ∧ Ext w w' := by
  go_enter Tryz.func255, Tryz.ntmps255
  go_wp2_with fail
  refine bodyPost_ret (v := .agg #[.func (.func 283) #[] #[], .func (.func 284) #[] #[], .func (.func 285) #[] #[]]) ?_ rfl ⟨rfl, (Ext.refl w).alloc _⟩
  simp [results, Tryz.results255, go_sem]
theorem texts_at0 (w : World) : (Instr.index 335 (.agg #[.func (.func 283) #[] #[], .func (.func 284) #[] #[], .func (.func 285) #[] #[]]) (.int .i64 0)).run Tryz.prog w = .ok (.func (.func 283) #[] #[]) w := by show _ = _; kernel_rfl
theorem texts_at1 (w : World) : (Instr.index 335 (.agg #[.func (.func 283) #[] #[], .func (.func 284) #[] #[], .func (.func 285) #[] #[]]) (.int .i64 1)).run Tryz.prog w = .ok (.func (.func 284) #[] #[]) w := by show _ = _; kernel_rfl
theorem texts_at2 (w : World) : (Instr.index 335 (.agg #[.func (.func 283) #[] #[], .func (.func 284) #[] #[], .func (.func 285) #[] #[]]) (.int .i64 2)).run Tryz.prog w = .ok (.func (.func 285) #[] #[]) w := by show _ = _; kernel_rfl
theorem key_of (g : Nat) (w : World) :
    Calls Tryz.prog 283 #[.pointer (some ⟨g, 0, none⟩)] w fun e w' => e = .returned (.pointer (some ⟨g, 1, none⟩)) ∧ w' = w := by
  go_enter Tryz.func283, Tryz.ntmps283
  go_wp2_with fail
  go_ret
  exact ⟨rfl, rfl⟩
theorem old_of (g : Nat) (w : World) :
    Calls Tryz.prog 284 #[.pointer (some ⟨g, 0, none⟩)] w fun e w' => e = .returned (.pointer (some ⟨g, 2, none⟩)) ∧ w' = w := by
  go_enter Tryz.func284, Tryz.ntmps284
  go_wp2_with fail
  go_ret
  exact ⟨rfl, rfl⟩
theorem val_of (g : Nat) (w : World) :
    Calls Tryz.prog 285 #[.pointer (some ⟨g, 0, none⟩)] w fun e w' => e = .returned (.pointer (some ⟨g, 3, none⟩)) ∧ w' = w := by
  go_enter Tryz.func285, Tryz.ntmps285
  go_wp2_with fail
  go_ret
  exact ⟨rfl, rfl⟩
set_option maxHeartbeats 600000 in
theorem mayBallot_any (x y : Int) (w : World) :
    Calls Tryz.prog 137 #[.agg #[.int .i64 x, .int .i64 y]] w fun e w' => e = .returned (.bool (balE x y)) ∧ Ext w w' := by
  have HE := Lib.hid ((Ext.refl w).alloc (.cells #[.int .i64 x, .int .i64 y] 38))
  have hb : balE x y = ((decide (1 ≤ x) && decide (x ≤ 1099511627776)) && (decide (0 ≤ y) && decide (y ≤ 6))) := by
    rw [Bool.eq_iff_iff, balE_iff]
    simp [and_assoc]
  have HB := Lib.hid hb
  rw [hb]
  clear hb
  cases h1 : (decide (1 ≤ x) && decide (x ≤ 1099511627776))
  all_goals
    have H1 := Lib.hid h1
    clear h1
    go_enter Tryz.func137, Tryz.ntmps137
    go_wp2_with fail
    refine (withinE_any _ _ _ _).mono ?_
    rw [H1.out]
    rintro e w1 ⟨rfl, rfl⟩
    go_wp2_with (refine (withinE_any _ _ _ _).mono ?_; rintro e w1 ⟨rfl, rfl⟩)
    go_ret
    exact ⟨rfl, HE.out⟩
end
section
open Go Go.RowKit
theorem str_empty (s : ByteArray) : s.toList.isEmpty = decide (s.size = 0) := by
  rw [ByteArray.toList_eq]
  obtain ⟨⟨l⟩⟩ := s
  cases l with
  | nil => rfl
  | cons x r =>
    have h : ¬ (ByteArray.size ⟨⟨x :: r⟩⟩ = 0) := fun h => by cases h
    rw [decide_eq_false h]
    rfl
theorem str_ne_empty (s : ByteArray) : (!s.toList.isEmpty) = decide (s.size ≠ 0) := by
  rw [str_empty]
  by_cases h : s.size = 0 <;> simp [h]
theorem opOk_big {k : Nat} {key old val : ByteArray} (h : limK k < key.size ∨ limO k < old.size ∨ limV k < val.size) : opOk k key old val = false := by
  rw [Bool.eq_false_iff]
  intro hk
  have := opOk_iff.1 hk
  unfold limK limO limV at h
  split at h <;> split at h <;> split at h <;> omega
theorem opOk_not_big {k : Nat} {key old val : ByteArray} (h : ¬ (limK k < key.size ∨ limO k < old.size ∨ limV k < val.size)) : opOk k key old val = decide (key.size ≠ 0) := by
  rw [Bool.eq_iff_iff, opOk_iff, decide_eq_true_iff]
  unfold limK limO limV at h
  split at h <;> split at h <;> split at h <;> omega
theorem four_cells {w : World} {g : Nat} {x0 x1 x2 x3 : Value} {t : TypeId} (h : w.heap[g]? = some (.cells #[x0, x1, x2, x3] t (0, 0))) :
    w.cell? ⟨g, 0, none⟩ = some x0 ∧ w.cell? ⟨g, 1, none⟩ = some x1 ∧ w.cell? ⟨g, 2, none⟩ = some x2 ∧ w.cell? ⟨g, 3, none⟩ = some x3 :=
  ⟨cell_of_row w g 0 _ _ _ h, cell_of_row w g 1 _ _ _ h, cell_of_row w g 2 _ _ _ h, cell_of_row w g 3 _ _ _ h⟩
theorem three_cellsE {w : World} {g : Nat} {x0 x1 x2 : Value} {t : TypeId} (h : w.heap[g]? = some (.cells #[x0, x1, x2] t (0, 0))) :
    w.cell? ⟨g, 0, none⟩ = some x0 ∧ w.cell? ⟨g, 1, none⟩ = some x1 ∧ w.cell? ⟨g, 2, none⟩ = some x2 :=
  ⟨cell_of_row w g 0 _ _ _ h, cell_of_row w g 1 _ _ _ h, cell_of_row w g 2 _ _ _ h⟩
theorem heap_extE {w w' : World} {g : Nat} {o : Obj} (h : w.heap[g]? = some o) (k : Ext w w') : w'.heap[g]? = some o := (k.block g (Array.getElem?_eq_some_iff.1 h).1).trans h
set_option maxHeartbeats 1000000 in
theorem mayOp_any (k : Nat) (key old val : ByteArray) (w : World) :
    Calls Tryz.prog 254 #[.agg #[.int .u8 (k : Int), .string key, .string old, .string val]] w fun e w' => e = .returned (.bool (opOk k key old val)) ∧ Ext w w' := by
  have HE := Lib.hid ((Ext.refl w).alloc (.cells #[.int .u8 (k : Int), .string key, .string old, .string val] 40))
  have HT := Lib.hid (heap_alloc_new w (.cells #[.int .u8 (k : Int), .string key, .string old, .string val] 40))
  obtain ⟨a, ha⟩ : ∃ a, limK k = a := ⟨_, rfl⟩
  obtain ⟨b, hb⟩ : ∃ b, limO k = b := ⟨_, rfl⟩
  obtain ⟨c, hc⟩ : ∃ c, limV k = c := ⟨_, rfl⟩
  obtain ⟨r, hr⟩ : ∃ r, opOk k key old val = r := ⟨_, rfl⟩
  rw [hr]
  have HL := Lib.hid (limits_any k)
  rw [ha, hb, hc] at HL
  have fin : ∀ x y : Bool, x = y → Ending.returned (Value.bool x) = .returned (.bool y) := fun x y h => by rw [h]
  go_enter Tryz.func254, Tryz.ntmps254
  go_wp2_with fail
  refine (HL.out _).mono ?_
  rintro e w1 ⟨rfl, hx⟩
  have hT := heap_extE HT.out hx
  have HE := Lib.hid (HE.out.trans hx)
  have hx2 := (Ext.refl w1).alloc (.cells #[.int .i64 a, .int .i64 b, .int .i64 c] 233)
  have HM := Lib.hid (heap_alloc_new w1 (.cells #[.int .i64 a, .int .i64 b, .int .i64 c] 233))
  have HT := Lib.hid (heap_extE hT hx2)
  obtain ⟨i0, i1, i2, i3⟩ := four_cells HT.out
  have HE := Lib.hid (HE.out.trans hx2)
  clear hx hT hx2
  go_wp2_with fail
  have hsz : (w1.alloc (.cells #[.int .i64 a, .int .i64 b, .int .i64 c] 233)).heap.size = w1.heap.size + 1 := by simp
  generalize (w1.alloc (.cells #[.int .i64 a, .int .i64 b, .int .i64 c] 233)) = w2 at *
  have HF := Lib.hid (heap_alloc_new w2 (.cells #[.int .u8 (k : Int), .string key, .string old, .string val] 333))
  have hsz : w2.heap.size = w1.heap.size + 1 := by assumption
  rw [hsz] at HF
  refine (texts_any _).mono ?_
  rintro e w3 ⟨rfl, hx⟩
  have hx2 := ((Ext.refl w2).alloc (.cells #[.int .u8 (k : Int), .string key, .string old, .string val] 333)).trans hx
  have hF := heap_extE HF.out hx
  have hM := heap_extE HM.out hx2
  have hO := heap_extE HT.out hx2
  have HE := Lib.hid (HE.out.trans hx2)
  clear i0 i1 i2 i3 hx hx2
  obtain ⟨f0, f1, f2, f3⟩ := four_cells hF
  obtain ⟨m0, m1, m2⟩ := three_cellsE hM
  obtain ⟨_, o1, _, _⟩ := four_cells hO
  clear hF hM hO f0
  have t0 := texts_at0
  have t1 := texts_at1
  have t2 := texts_at2
  go_wp2_with fail
  refine wp_loop_rounds 4 ?_
  rw [rounds_succ]
  go_wp2_with fail
  go_region_held3 (fun w' => w'.cell? ⟨w1.heap.size + 1, 1, none⟩ = some (.string key) ∧ w'.cell? ⟨w1.heap.size, 0, none⟩ = some (.int .i64 a))
    (first | with_reducible exact ⟨f1, m0⟩ | go_keep)
    (first
      | (go_at_call 283; ((with_reducible refine (key_of _ _).mono ?_); rintro r w' ⟨rfl, rfl⟩)))
  by_cases q : a < (key.size : Int)
  · have HRF : Hid (r = false) := Lib.hid (by rw [← hr]; exact opOk_big (.inl (by omega)))
    clear ha hb hc hr
    go_wp2_with fail
    go_ret
    exact ⟨fin _ _ HRF.out.symm, by first | exact HE.out.drew | exact HE.out.drew.drew | exact HE.out.drew.drew.drew⟩
  have q0 := q
  clear q
  go_wp2_with fail
  rw [rounds_succ]
  go_wp2_with fail
  go_region_held3 (fun w' => w'.cell? ⟨w1.heap.size + 1, 2, none⟩ = some (.string old) ∧ w'.cell? ⟨w1.heap.size, 1, none⟩ = some (.int .i64 b))
    (first | with_reducible exact ⟨f2, m1⟩ | go_keep)
    (first
      | (go_at_call 284; ((with_reducible refine (old_of _ _).mono ?_); rintro r w' ⟨rfl, rfl⟩)))
  by_cases q : b < (old.size : Int)
  · have HRF : Hid (r = false) := Lib.hid (by rw [← hr]; exact opOk_big (.inr (.inl (by omega))))
    clear ha hb hc hr
    go_wp2_with fail
    go_ret
    exact ⟨fin _ _ HRF.out.symm, by first | exact HE.out.drew | exact HE.out.drew.drew | exact HE.out.drew.drew.drew⟩
  have q1 := q
  clear q
  go_wp2_with fail
  rw [rounds_succ]
  go_wp2_with fail
  go_region_held3 (fun w' => w'.cell? ⟨w1.heap.size + 1, 3, none⟩ = some (.string val) ∧ w'.cell? ⟨w1.heap.size, 2, none⟩ = some (.int .i64 c))
    (first | with_reducible exact ⟨f3, m2⟩ | go_keep)
    (first
      | (go_at_call 285; ((with_reducible refine (val_of _ _).mono ?_); rintro r w' ⟨rfl, rfl⟩)))
  by_cases q : c < (val.size : Int)
  · have HRF : Hid (r = false) := Lib.hid (by rw [← hr]; exact opOk_big (.inr (.inr (by omega))))
    clear ha hb hc hr
    go_wp2_with fail
    go_ret
    exact ⟨fin _ _ HRF.out.symm, by first | exact HE.out.drew | exact HE.out.drew.drew | exact HE.out.drew.drew.drew⟩
  have q2 := q
  clear q
  go_wp2_with fail
  rw [rounds_succ]
  go_wp2_with fail
  go_ret
  refine ⟨fin _ _ ?_, HE.out.drew.drew.drew⟩
  rw [← hr, opOk_not_big (by rw [ha, hb, hc]; omega)]
  exact str_ne_empty key
end
section
open Go Go.RowKit
theorem toList_nil (s : ByteArray) : s.toList = [] ↔ s.size = 0 := by
  rw [← List.isEmpty_iff, str_empty, decide_eq_true_iff]
theorem ent_eql_noop (cl sq : Int) (ok : Nat) (key old val : ByteArray) (w : World) :
    (binOp .eql 42 (.agg #[.int .u8 1, .int .i64 cl, .int .i64 sq, .int .u8 (ok : Int), .string key, .string old, .string val]) (.agg #[.int .u8 1, .int .i64 0, .int .i64 0, .int .u8 0, .string ⟨#[]⟩, .string ⟨#[]⟩, .string ⟨#[]⟩])).run Tryz.prog w = .ok (.bool (enOk ⟨1, cl, sq, ok, key, old, val⟩)) w := by
  obtain ⟨r, hr⟩ : ∃ r, enOk ⟨1, cl, sq, ok, key, old, val⟩ = r := ⟨_, rfl⟩
  rw [hr]
  have hf : Tryz.prog.stoodInHeld 42 = false := by kernel_rfl
  have hu := Tryz.underlying42
  have hu2 := Tryz.underlying40
  rw [run_eql_struct, run_equalIn_agg _ _ _ _ _ (by rw [Program.fieldsOf, hu]) hf, Program.fieldsOf, hu]
  simp [Op.eqFields, go_sem]
  simp only [toList_nil]
  have hb : ∀ b : Bool, enOk ⟨1, cl, sq, ok, key, old, val⟩ = b → Result.ok (α := Value) (Value.bool b) w = Result.ok (Value.bool r) w := fun b h => by rw [← h, hr]
  by_cases h1 : cl = 0
  · by_cases h2 : sq = 0
    · by_cases h3 : ok = 0
      · by_cases h4 : key.size = 0
        · by_cases h5 : old.size = 0
          · by_cases h6 : val.size = 0
            · rw [if_pos h1, if_pos h2, if_pos h3, if_pos h4, if_pos h5, if_pos h6]
              exact hb _ (enOk_iff.2 (.inl ⟨rfl, h1, h2, h3, h4, h5, h6⟩))
            · rw [if_pos h1, if_pos h2, if_pos h3, if_pos h4, if_pos h5, if_neg h6]
              exact hb _ (bad_of (by dsimp only; omega))
          · rw [if_pos h1, if_pos h2, if_pos h3, if_pos h4, if_neg h5]
            exact hb _ (bad_of (by dsimp only; omega))
        · rw [if_pos h1, if_pos h2, if_pos h3, if_neg h4]
          exact hb _ (bad_of (by dsimp only; omega))
      · rw [if_pos h1, if_pos h2, if_neg h3]
        exact hb _ (bad_of (by dsimp only; omega))
    · rw [if_pos h1, if_neg h2]
      exact hb _ (bad_of (by dsimp only; omega))
  · rw [if_neg h1]
    exact hb _ (bad_of (by dsimp only; omega))
theorem cast_ne_one (n : Nat) : ((n : Int) != 1) = !(n == 1) := by
  rw [Bool.eq_iff_iff]
  simp
  omega
theorem enOk_two (cl sq : Int) (ok : Nat) (key old val : ByteArray) : enOk ⟨2, cl, sq, ok, key, old, val⟩ = ((decide (0 ≤ cl) && decide (cl ≤ 3)) && ((decide (1 ≤ sq) && decide (sq ≤ 1099511627776)) && (opOk ok key old val && !(ok == 1)))) := by
  rw [Bool.eq_iff_iff, enOk_iff]
  simp [and_assoc]
set_option maxHeartbeats 1000000 in
theorem mayE_any (k : Nat) (cl sq : Int) (ok : Nat) (key old val : ByteArray) (w : World) :
    Calls Tryz.prog 214 #[.agg #[.int .u8 (k : Int), .int .i64 cl, .int .i64 sq, .int .u8 (ok : Int), .string key, .string old, .string val]] w fun e w' => e = .returned (.bool (enOk ⟨k, cl, sq, ok, key, old, val⟩)) ∧ Ext w w' := by
  have HE := Lib.hid ((Ext.refl w).alloc (.cells #[.int .u8 (k : Int), .int .i64 cl, .int .i64 sq, .int .u8 (ok : Int), .string key, .string old, .string val] 42))
  have HT := Lib.hid (heap_alloc_new w (.cells #[.int .u8 (k : Int), .int .i64 cl, .int .i64 sq, .int .u8 (ok : Int), .string key, .string old, .string val] 42))
  have fin : ∀ x y : Bool, x = y → Ending.returned (Value.bool x) = .returned (.bool y) := fun x y h => by rw [h]
  by_cases h1 : k = 1
  · subst h1
    have hq := ent_eql_noop cl sq ok key old val
    have hg : Tryz.prog.eqGuardType Tryz.prog.depth 42 = false := by kernel_rfl
    go_enter Tryz.func214, Tryz.ntmps214
    go_wp2_with fail
    go_ret
    exact ⟨rfl, HE.out⟩
  have e1 : ((k : Int) == 1) = false := by rw [beq_eq_false_iff_ne]; omega
  by_cases h2 : k = 2
  · subst h2
    have HC := Lib.hid (enOk_two cl sq ok key old val)
    obtain ⟨q, hq⟩ : ∃ q, enOk ⟨2, cl, sq, ok, key, old, val⟩ = q := ⟨_, rfl⟩
    rw [hq] at HC ⊢
    clear hq e1 h1
    cases b1 : (decide (0 ≤ cl) && decide (cl ≤ 3)) <;> cases b2 : (decide (1 ≤ sq) && decide (sq ≤ 1099511627776)) <;> cases b3 : opOk ok key old val
    all_goals
      rw [b1, b2, b3] at HC
      have B1 := Lib.hid b1
      have B2 := Lib.hid b2
      have B3 := Lib.hid b3
      clear b1 b2 b3
      go_enter Tryz.func214, Tryz.ntmps214
      go_wp2_with fail
      refine (withinE_any _ _ _ _).mono ?_
      rw [B1.out]
      rintro e w1 ⟨rfl, rfl⟩
      go_wp2_with (refine (withinE_any _ _ _ _).mono ?_; rw [B2.out]; rintro e w1 ⟨rfl, rfl⟩)
      first
        | (go_ret; exact ⟨fin _ _ HC.out.symm, HE.out⟩)
        | (refine (mayOp_any _ _ _ _ _).mono ?_
           rw [B3.out]
           rintro e w2 ⟨rfl, hx⟩
           have hc := cell_of_row w2 w.heap.size 3 _ _ _ (heap_extE HT.out hx)
           have HE := Lib.hid (HE.out.trans hx)
           clear hx
           go_wp2_with fail
           go_ret
           refine ⟨fin _ _ ?_, HE.out⟩
           rw [HC.out]
           first
             | rfl
             | (simp only [Bool.true_and]; exact cast_ne_one _))
  · have e2 : ((k : Int) == 2) = false := by rw [beq_eq_false_iff_ne]; omega
    have HB : Hid (enOk ⟨k, cl, sq, ok, key, old, val⟩ = false) := Lib.hid (bad_of (by dsimp only; omega))
    clear h1 h2
    go_enter Tryz.func214, Tryz.ntmps214
    go_wp2_with fail
    go_ret
    exact ⟨fin _ _ HB.out.symm, HE.out⟩
end
section
open Go Go.RowKit
theorem text_by (s : ByteArray) (w : World) (hs : s.size ≤ 255) :
    Calls Tryz.prog 256 #[.string s] w fun e w' => ∃ A' c', e = .returned (.tuple #[.slice A' (s.size + 1) c', .int .i64 0]) ∧ By w' A' (s.size + 1) c' (s.size :: bl s) ∧ Ext w w' :=
  (otext_yes s w hs).mono fun _ _ ⟨A', c', h1, h2, h3⟩ => ⟨A', c', h1, Bs.of_own h2 (by
    intro b hb
    simp only [List.mem_cons] at hb
    rcases hb with rfl | hb
    · omega
    · exact bl_lt s b hb), h3⟩
end
section
open Go Go.RowKit
theorem join4e {A1 A2 A3 A4 : Option Addr} {n1 n2 n3 n4 c1 c2 c3 c4 : Nat} {l1 l2 l3 l4 : List Nat} (w : World) (h1 : By w A1 n1 c1 l1) (h2 : By w A2 n2 c2 l2) (h3 : By w A3 n3 c3 l3) (h4 : By w A4 n4 c4 l4) (hN : n1 + n2 + n3 + n4 ≤ 140737488355328) :
    Calls Tryz.prog 139 #[.slice (some ⟨w.heap.size, 0, none⟩) 4 4] (w.alloc (.cells #[.slice A1 n1 c1, .slice A2 n2 c2, .slice A3 n3 c3, .slice A4 n4 c4] 45)) fun e w' => ∃ A' c', e = .returned (.slice A' (n1 + n2 + n3 + n4) c') ∧ By w' A' (n1 + n2 + n3 + n4) c' (l1 ++ l2 ++ l3 ++ l4) ∧ Ext w w' := by
  have hcat : cat [(.slice A1 n1 c1, l1), (.slice A2 n2 c2, l2), (.slice A3 n3 c3, l3), (.slice A4 n4 c4, l4)] = l1 ++ l2 ++ l3 ++ l4 := by simp [cat]
  rw [← hcat]
  refine join_by _ 4 _ w _ rfl rfl ?_ (by rw [hcat, List.length_append, List.length_append, List.length_append, h1.len, h2.len, h3.len, h4.len]) ?_ (by omega) hN
  · intro p hp
    simp only [List.mem_cons, List.not_mem_nil, or_false] at hp
    rcases hp with rfl | rfl | rfl | rfl
    · exact ⟨_, _, _, rfl, h1⟩
    · exact ⟨_, _, _, rfl, h2⟩
    · exact ⟨_, _, _, rfl, h3⟩
    · exact ⟨_, _, _, rfl, h4⟩
  · rw [hcat]
    intro b hb
    simp only [List.mem_append] at hb
    rcases hb with ((h | h) | h) | h
    · exact h1.rd.lt b h
    · exact h2.rd.lt b h
    · exact h3.rd.lt b h
    · exact h4.rd.lt b h
theorem eput_of (x N : Nat) (w : World) (hL : Laid w) (hf : fitsB x N = true) :
    Calls Tryz.prog 140 #[.int .i64 x, .int .i64 N] w fun e w' => ∃ A' c', e = .returned (.slice A' x c') ∧ By w' A' x c' (digs x N) ∧ Ext w w' := by
  have HC := Lib.hid (put_by x N w hL hf)
  clear hL hf
  go_enter Tryz.func140, Tryz.ntmps140
  go_wp2_with fail
  refine HC.out.mono ?_
  rintro e w1 ⟨A1, c1, rfl, hb, hx⟩
  have HB := Lib.hid hb
  have HX := Lib.hid hx
  clear hb hx
  go_wp2_with fail
  go_ret
  exact ⟨A1, c1, rfl, HB.out, HX.out⟩
theorem four_cells_1 {w : World} {g : Nat} {x0 x1 x2 x3 : Value} {t : TypeId} (h : w.heap[g]? = some (.cells #[x0, x1, x2, x3] t (0, 0))) : w.cell? ⟨g, 0, none⟩ = some x0 ∧ w.cell? ⟨g, 1, none⟩ = some x1 ∧ True := ⟨cell_of_row w g 0 _ _ _ h, cell_of_row w g 1 _ _ _ h, trivial⟩
theorem four_cells_2 {w : World} {g : Nat} {x0 x1 x2 x3 : Value} {t : TypeId} (h : w.heap[g]? = some (.cells #[x0, x1, x2, x3] t (0, 0))) : w.cell? ⟨g, 0, none⟩ = some x0 ∧ w.cell? ⟨g, 2, none⟩ = some x2 ∧ True := ⟨cell_of_row w g 0 _ _ _ h, cell_of_row w g 2 _ _ _ h, trivial⟩
theorem four_cells_3 {w : World} {g : Nat} {x0 x1 x2 x3 : Value} {t : TypeId} (h : w.heap[g]? = some (.cells #[x0, x1, x2, x3] t (0, 0))) : w.cell? ⟨g, 0, none⟩ = some x0 ∧ w.cell? ⟨g, 3, none⟩ = some x3 ∧ True := ⟨cell_of_row w g 0 _ _ _ h, cell_of_row w g 3 _ _ _ h, trivial⟩
set_option maxHeartbeats 1000000 in
theorem putOp_of (k : Nat) (key old val : ByteArray) (w : World) (hL : Laid w) (hk : k < 256) (h1 : key.size ≤ 255) (h2 : old.size ≤ 255) (h3 : val.size ≤ 255) :
    Calls Tryz.prog 215 #[.agg #[.int .u8 (k : Int), .string key, .string old, .string val]] w fun e w' => ∃ A' c', e = .returned (.slice A' (1 + (key.size + 1) + (old.size + 1) + (val.size + 1)) c') ∧ By w' A' (1 + (key.size + 1) + (old.size + 1) + (val.size + 1)) c' ([k] ++ tx key ++ tx old ++ tx val) ∧ Ext w w' := by
  have hx := (Ext.refl w).alloc (.cells #[.int .u8 (k : Int), .string key, .string old, .string val] 40)
  have HT := Lib.hid (heap_alloc_new w (.cells #[.int .u8 (k : Int), .string key, .string old, .string val] 40))
  have HE := Lib.hid hx
  have HL := Lib.hid (hL.ext hx)
  have HF : Hid (fitsB 1 k = true) := Lib.hid (fits_iff.2 ⟨rfl, by omega, by simpa using hk⟩)
  have HD : Hid (digs 1 k = [k]) := Lib.hid (by simp [digs]; omega)
  have HS := Lib.hid (And.intro h1 (And.intro h2 h3))
  have t0 := texts_at0
  have t1 := texts_at1
  have t2 := texts_at2
  clear hx hL h1 h2 h3
  go_enter Tryz.func215, Tryz.ntmps215
  go_wp2_with fail
  refine (eput_of 1 k _ HL.out HF.out).mono ?_
  rw [HD.out]
  rintro e w1 ⟨A1, c1, rfl, hb, hx⟩
  have hT := heap_extE HT.out hx
  have HE := Lib.hid (HE.out.trans hx)
  have HL := Lib.hid (HL.out.ext hx)
  have HB := Lib.hid hb
  obtain ⟨i0, i1, i2, i3⟩ := four_cells hT
  clear hx hb hT
  go_wp2_with fail
  have hx2 := (Ext.refl w1).alloc (.cells #[.int .u8 (k : Int), .string key, .string old, .string val] 333)
  have hF := heap_alloc_new w1 (.cells #[.int .u8 (k : Int), .string key, .string old, .string val] 333)
  generalize hg : w1.heap.size = g at *
  refine (texts_any _).mono ?_
  rintro e w2 ⟨rfl, hx⟩
  have HF4 := Lib.hid (heap_extE hF hx)
  have HE := Lib.hid (HE.out.trans (hx2.trans hx))
  have HL := Lib.hid (HL.out.ext (hx2.trans hx))
  have HB := Lib.hid (HB.out.ext (hx2.trans hx))
  clear i0 i1 i2 i3 hx hx2 hF
  go_wp2_with fail
  refine wp_loop_rounds 4 ?_
  rw [rounds_succ]
  go_wp2_with fail
  refine (key_of _ _).mono ?_
  rintro e v10 ⟨rfl, rfl⟩
  obtain ⟨_, i1, _⟩ := four_cells_1 HF4.out
  go_wp2_with fail
  refine (text_by key _ HS.out.1).mono ?_
  rintro e v11 ⟨A11, c11, rfl, hb, hx⟩
  have HB2 : Hid (By _ A11 _ c11 (tx key)) := Lib.hid hb
  have HB := Lib.hid (HB.out.ext hx)
  have HE := Lib.hid (HE.out.trans hx)
  have HF4 := Lib.hid (heap_extE HF4.out hx)
  clear hb hx i1
  go_wp2_with fail
  refine (join2_by _ HB.out HB2.out (by have := HS.out; omega)).mono ?_
  rintro e v12 ⟨A12, c12, rfl, hb, hx⟩
  have HB := Lib.hid hb
  have HE := Lib.hid (HE.out.trans hx)
  have HF4 := Lib.hid (heap_extE HF4.out hx)
  clear hb hx HB2
  go_wp2_with fail
  rw [rounds_succ]
  go_wp2_with fail
  refine (old_of _ _).mono ?_
  rintro e v20 ⟨rfl, rfl⟩
  obtain ⟨_, i2, _⟩ := four_cells_2 HF4.out
  go_wp2_with fail
  refine (text_by old _ HS.out.2.1).mono ?_
  rintro e v21 ⟨A21, c21, rfl, hb, hx⟩
  have HB2 : Hid (By _ A21 _ c21 (tx old)) := Lib.hid hb
  have HB := Lib.hid (HB.out.ext hx)
  have HE := Lib.hid (HE.out.trans hx)
  have HF4 := Lib.hid (heap_extE HF4.out hx)
  clear hb hx i2
  go_wp2_with fail
  refine (join2_by _ HB.out HB2.out (by have := HS.out; omega)).mono ?_
  rintro e v22 ⟨A22, c22, rfl, hb, hx⟩
  have HB := Lib.hid hb
  have HE := Lib.hid (HE.out.trans hx)
  have HF4 := Lib.hid (heap_extE HF4.out hx)
  clear hb hx HB2
  go_wp2_with fail
  rw [rounds_succ]
  go_wp2_with fail
  refine (val_of _ _).mono ?_
  rintro e v30 ⟨rfl, rfl⟩
  obtain ⟨_, i3, _⟩ := four_cells_3 HF4.out
  go_wp2_with fail
  refine (text_by val _ HS.out.2.2).mono ?_
  rintro e v31 ⟨A31, c31, rfl, hb, hx⟩
  have HB2 : Hid (By _ A31 _ c31 (tx val)) := Lib.hid hb
  have HB := Lib.hid (HB.out.ext hx)
  have HE := Lib.hid (HE.out.trans hx)
  have HF4 := Lib.hid (heap_extE HF4.out hx)
  clear hb hx i3
  go_wp2_with fail
  refine (join2_by _ HB.out HB2.out (by have := HS.out; omega)).mono ?_
  rintro e v32 ⟨A32, c32, rfl, hb, hx⟩
  have HB := Lib.hid hb
  have HE := Lib.hid (HE.out.trans hx)
  have HF4 := Lib.hid (heap_extE HF4.out hx)
  clear hb hx HB2
  go_wp2_with fail
  rw [rounds_succ]
  go_wp2_with fail
  go_ret
  exact ⟨_, _, rfl, HB.out, HE.out⟩
end
end Go.Proofs.YtmbmpabjclkhlaaGreatDoor
