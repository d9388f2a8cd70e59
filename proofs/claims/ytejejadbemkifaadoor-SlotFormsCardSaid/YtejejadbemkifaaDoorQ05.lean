/-
  The contracts of slot's small functions: other, isFrame, isFor, isBad, isNone; cmp's Compare and Or; compare.
  Plain facts on entries: what the functions answer, told in one form; entries that are altered.
  Plain facts: a reader that goes on behind what is too short, and what it has read then. No program.
  The contract of the document's own comparison of bytes: it tells whether two lists of bytes are the same, and leaves the memory as it was.
-/
import Derived.Test.YtejejadbemkifaaDoorQ01
import Derived.Test.YtejejadbemkifaaDoorQ04
import Derived.Deep.RegionHeld3
import Derived.LoopN
import Derived.Test.YtejejadbemkifaaDoorProg
import Derived.WalkSpells
import Derived.BigQuiet
import Derived.Deep.QuietTactic
import Derived.Lib.Hide
import Derived.Outline
namespace Go.Proofs.YtejejadbemkifaaDoor
set_option maxRecDepth 100000
open Go Go.RowKit

theorem other_of (k : Int) (hk : k = 0 ∨ k = 1) (w : World) : Calls Tryd.prog 48 #[.int .i64 k] w fun e w' => e = .returned (.int .i64 (1 - k)) ∧ w' = w := by
  rcases hk with rfl | rfl
  · go_enter Tryd.func48, Tryd.ntmps48
    go_wp2
    go_ret
    exact ⟨rfl, rfl⟩
  · go_enter Tryd.func48, Tryd.ntmps48
    go_wp2
    go_ret
    exact ⟨rfl, rfl⟩
theorem isFrame_of (k : Int) (hk : k = 0 ∨ k = 1) (w : World) : Calls Tryd.prog 22 #[.int .i64 k] w fun e w' => e = .returned (.bool true) ∧ w' = w := by
  rcases hk with rfl | rfl
  · go_enter Tryd.func22, Tryd.ntmps22
    go_wp2
    go_ret
    exact ⟨rfl, rfl⟩
  · go_enter Tryd.func22, Tryd.ntmps22
    go_wp2
    go_ret
    exact ⟨rfl, rfl⟩
theorem isFor_of (st ix i : Int) (w : World) : Calls Tryd.prog 39 #[.int .u8 st, .int .i64 ix, .int .i64 i] w fun e w' => e = .returned (.bool (st == 1 && ix == i)) ∧ w' = w := by
  obtain ⟨b, hb⟩ : ∃ b, (st == 1) = b := ⟨_, rfl⟩
  obtain ⟨c, hc⟩ : ∃ c, (ix == i) = c := ⟨_, rfl⟩
  rw [hb, hc]
  cases b <;>
  · go_enter Tryd.func39, Tryd.ntmps39
    go_wp2
    go_ret
    exact ⟨rfl, rfl⟩
theorem isBad_of (st : Int) (w : World) : Calls Tryd.prog 42 #[.int .u8 st] w fun e w' => e = .returned (.bool (st != 0 && st != 1)) ∧ w' = w := by
  obtain ⟨b, hb⟩ : ∃ b, (st != 0) = b := ⟨_, rfl⟩
  obtain ⟨c, hc⟩ : ∃ c, (st != 1) = c := ⟨_, rfl⟩
  rw [hb, hc]
  cases b <;>
  · go_enter Tryd.func42, Tryd.ntmps42
    go_wp2
    go_ret
    exact ⟨rfl, rfl⟩
theorem isNaN_of (x : Int) (w : World) : Calls Tryd.prog 60 #[.int .i64 x] w fun e w' => e = .returned (.bool false) ∧ w' = w := by
  go_enter Tryd.func60, Tryd.ntmps60
  go_wp2
  go_ret
  exact ⟨by simp, rfl⟩
/-- Two numbers compared: -1, 0 or 1. -/
def cmpI (x y : Int) : Int := if x < y then -1 else if y < x then 1 else 0
theorem cmpI_cases (x y : Int) : (cmpI x y = -1 ∧ x < y) ∨ (cmpI x y = 0 ∧ x = y) ∨ (cmpI x y = 1 ∧ y < x) := by
  unfold cmpI
  by_cases h : x < y
  · exact .inl ⟨if_pos h, h⟩
  · rw [if_neg h]
    by_cases h2 : y < x
    · exact .inr (.inr ⟨if_pos h2, h2⟩)
    · exact .inr (.inl ⟨if_neg h2, by omega⟩)
theorem compare_of (x y : Int) (w : World) : Calls Tryd.prog 54 #[.int .i64 x, .int .i64 y] w fun e w' => e = .returned (.int .i64 (cmpI x y)) ∧ w' = w := by
  have HN := Lib.hid isNaN_of
  obtain ⟨z, hz⟩ : ∃ z, cmpI x y = z := ⟨_, rfl⟩
  have hc := cmpI_cases x y
  rw [hz] at hc ⊢
  clear hz
  rcases hc with ⟨rfl, h⟩ | ⟨rfl, h⟩ | ⟨rfl, h⟩
  · have h1 : decide (x < y) = true := decide_eq_true h
    go_enter Tryd.func54, Tryd.ntmps54
    go_wp2_with fail
    refine (HN.out _ _).mono ?_
    rintro e w1 ⟨rfl, rfl⟩
    go_wp2_with fail
    refine (HN.out _ _).mono ?_
    rintro e w1 ⟨rfl, rfl⟩
    go_wp2_with fail
    go_ret
    exact ⟨rfl, rfl⟩
  · subst h
    go_enter Tryd.func54, Tryd.ntmps54
    go_wp2_with fail
    refine (HN.out _ _).mono ?_
    rintro e w1 ⟨rfl, rfl⟩
    go_wp2_with fail
    refine (HN.out _ _).mono ?_
    rintro e w1 ⟨rfl, rfl⟩
    go_wp2_with fail
    go_ret
    exact ⟨rfl, rfl⟩
  · have h1 : ¬ x < y := by omega
    go_enter Tryd.func54, Tryd.ntmps54
    go_wp2_with fail
    refine (HN.out _ _).mono ?_
    rintro e w1 ⟨rfl, rfl⟩
    go_wp2_with fail
    refine (HN.out _ _).mono ?_
    rintro e w1 ⟨rfl, rfl⟩
    go_wp2_with fail
    go_ret
    exact ⟨rfl, rfl⟩
/-- The first of two numbers that is not 0. -/
def orI (a b : Int) : Int := if a = 0 then b else a
theorem or_of (g c : Nat) (a b : Int) (w : World) (h0 : w.cell? ⟨g, 0, none⟩ = some (.int .i64 a)) (h1 : w.cell? ⟨g, 1, none⟩ = some (.int .i64 b)) :
    Calls Tryd.prog 53 #[.slice (some ⟨g, 0, none⟩) 2 c] w fun e w' => e = .returned (.int .i64 (orI a b)) ∧ w' = w := by
  by_cases ha : a = 0
  · subst ha
    by_cases hb : b = 0
    · subst hb
      go_enter Tryd.func53, Tryd.ntmps53
      go_wp2_with fail
      refine wp_loop_rounds 3 ?_
      rw [rounds_succ]
      go_wp2_with fail
      rw [rounds_succ]
      go_wp2_with fail
      rw [rounds_succ]
      go_wp2_with fail
      go_ret
      exact ⟨rfl, rfl⟩
    · have hb2 : (b != 0) = true := by simpa using hb
      go_enter Tryd.func53, Tryd.ntmps53
      go_wp2_with fail
      refine wp_loop_rounds 3 ?_
      rw [rounds_succ]
      go_wp2_with fail
      rw [rounds_succ]
      go_wp2_with fail
      go_ret
      exact ⟨rfl, rfl⟩
  · have ha2 : (a != 0) = true := by simpa using ha
    have he : orI a b = a := if_neg ha
    rw [he]
    go_enter Tryd.func53, Tryd.ntmps53
    go_wp2_with fail
    refine wp_loop_rounds 3 ?_
    rw [rounds_succ]
    go_wp2_with fail
    go_ret
    exact ⟨rfl, rfl⟩
end Go.Proofs.YtejejadbemkifaaDoor

namespace Go.Proofs.YtejejadbemkifaaDoor
set_option maxRecDepth 100000
open Go

/-- An entry's bytes, or none, and which error. -/
def eL (e : Ent) : List Nat := if enOk e = true then enL e else []
def eR (e : Ent) : Int := if enOk e = true then 0 else 2
theorem eL_yes {e : Ent} (h : enOk e = true) : eL e = enL e := if_pos h
theorem eR_yes {e : Ent} (h : enOk e = true) : eR e = 0 := if_pos h
theorem eL_no {e : Ent} (h : enOk e = false) : eL e = [] := by unfold eL; rw [h]; rfl
theorem eR_no {e : Ent} (h : enOk e = false) : eR e = 2 := by unfold eR; rw [h]; rfl
/-- A body's bytes, or none, and which error. -/
def pL (x y : Int) (e : Ent) : List Nat := if balE x y = true ∧ enOk e = true then bodyL x y e else []
def pR (x y : Int) (e : Ent) : Int := if balE x y = true ∧ enOk e = true then 0 else 2
theorem pL_yes {x y : Int} {e : Ent} (hb : balE x y = true) (h : enOk e = true) : pL x y e = bodyL x y e := if_pos ⟨hb, h⟩
theorem pR_yes {x y : Int} {e : Ent} (hb : balE x y = true) (h : enOk e = true) : pR x y e = 0 := if_pos ⟨hb, h⟩
theorem pL_nob {x y : Int} {e : Ent} (hb : balE x y = false) : pL x y e = [] := by unfold pL; rw [hb, if_neg (by simp)]
theorem pR_nob {x y : Int} {e : Ent} (hb : balE x y = false) : pR x y e = 2 := by unfold pR; rw [hb, if_neg (by simp)]
theorem pL_no {x y : Int} {e : Ent} (h : enOk e = false) : pL x y e = [] := by unfold pL; rw [h, if_neg (by simp)]
theorem pR_no {x y : Int} {e : Ent} (h : enOk e = false) : pR x y e = 2 := by unfold pR; rw [h, if_neg (by simp)]
/-- What is read at a place: the entry, the place behind it, and which error. -/
def rdE (l : List Nat) (a : Int) : Ent × Nat × Int := if a < 0 ∨ (l.length : Int) < a then ({}, 0, 2) else match enR l a.toNat with | some (e, n) => (e, n, 0) | none => ({}, 0, 90)
theorem rdE_arg {l : List Nat} {a : Int} (h : a < 0 ∨ (l.length : Int) < a) : rdE l a = ({}, 0, 2) := if_pos h
theorem rdE_some {l : List Nat} {a n : Nat} {e : Ent} (ha : a ≤ l.length) (h : enR l a = some (e, n)) : rdE l (a : Int) = (e, n, 0) := by
  unfold rdE
  rw [if_neg (by omega), Int.toNat_natCast, h]
theorem rdE_none {l : List Nat} {a : Nat} (ha : a ≤ l.length) (h : enR l a = none) : rdE l (a : Int) = ({}, 0, 90) := by
  unfold rdE
  rw [if_neg (by omega), Int.toNat_natCast, h]
/-- The body that bytes are: the ballot, the entry, and which error. -/
def psE (l : List Nat) : Nat × Nat × Ent × Int := match bdR l with | some (x, y, e) => (x, y, e, 0) | none => (0, 0, {}, 90)
theorem psE_some {l : List Nat} {x y : Nat} {e : Ent} (h : bdR l = some (x, y, e)) : psE l = (x, y, e, 0) := by unfold psE; rw [h]
theorem psE_none {l : List Nat} (h : bdR l = none) : psE l = (0, 0, {}, 90) := by unfold psE; rw [h]
theorem enR_no {l : List Nat} {a n : Nat} {e : Ent} (h : enRaw l a = some (e, n)) (hk : enOk e = false) : enR l a = none := by unfold enR; rw [h]; simp [hk]
theorem enR_yes {l : List Nat} {a n : Nat} {e : Ent} (h : enRaw l a = some (e, n)) (hk : enOk e = true) : enR l a = some (e, n) := by unfold enR; rw [h]; simp [hk]
theorem enR_raw {l : List Nat} {a : Nat} (h : enRaw l a = none) : enR l a = none := by unfold enR; rw [h]; rfl
theorem enRaw_noop {l : List Nat} {a : Nat} (h : l[a]? = some 1) : enRaw l a = some ({ k := 1 }, a + 1) := by unfold enRaw; rw [if_pos h]
theorem enRaw_op {l : List Nat} {a b1 b2 b3 : Nat} {s1 s2 s3 : ByteArray} (h : l[a]? = some 2) (h9 : a + 9 ≤ l.length) (r1 : rdT l (a + 9) = some (s1, b1)) (r2 : rdT l b1 = some (s2, b2)) (r3 : rdT l b2 = some (s3, b3)) :
    enRaw l a = some ({ k := 2, cl := (l.getD (a + 1) 0 : Nat), sq := (num ((l.drop (a + 2)).take 6) : Nat), ok := l.getD (a + 8) 0, key := s1, old := s2, val := s3 }, b3) := by
  unfold enRaw
  rw [if_neg (by rw [h]; simp), if_pos ⟨h, h9⟩, r1]
  simp only [Option.bind_some]
  rw [r2]
  simp only [Option.bind_some]
  rw [r3]
  rfl
theorem enRaw_kind {l : List Nat} {a x : Nat} (h : l[a]? = some x) (h1 : x ≠ 1) (h2 : x ≠ 2) : enRaw l a = none := by
  unfold enRaw
  rw [if_neg (by rw [h]; simpa using h1), if_neg (by rw [h]; simp [h2])]
theorem enRaw_end {l : List Nat} {a : Nat} (h : l.length ≤ a) : enRaw l a = none := by
  unfold enRaw
  rw [if_neg (by rw [List.getElem?_eq_none h]; simp), if_neg (by rw [List.getElem?_eq_none h]; simp)]
theorem enRaw_nine {l : List Nat} {a : Nat} (h : l[a]? = some 2) (h9 : l.length < a + 9) : enRaw l a = none := by
  unfold enRaw
  rw [if_neg (by rw [h]; simp), if_neg (by omega)]
theorem enRaw_t1 {l : List Nat} {a : Nat} (h : l[a]? = some 2) (r1 : rdT l (a + 9) = none) : enRaw l a = none := by
  unfold enRaw
  rw [if_neg (by rw [h]; simp), r1]
  split <;> rfl
theorem enRaw_t2 {l : List Nat} {a b1 : Nat} {s1 : ByteArray} (h : l[a]? = some 2) (r1 : rdT l (a + 9) = some (s1, b1)) (r2 : rdT l b1 = none) : enRaw l a = none := by
  unfold enRaw
  rw [if_neg (by rw [h]; simp), r1]
  split
  · simp only [Option.bind_some]
    rw [r2]
    rfl
  · rfl
theorem enRaw_t3 {l : List Nat} {a b1 b2 : Nat} {s1 s2 : ByteArray} (h : l[a]? = some 2) (r1 : rdT l (a + 9) = some (s1, b1)) (r2 : rdT l b1 = some (s2, b2)) (r3 : rdT l b2 = none) : enRaw l a = none := by
  unfold enRaw
  rw [if_neg (by rw [h]; simp), r1]
  split
  · simp only [Option.bind_some]
    rw [r2]
    simp only [Option.bind_some]
    rw [r3]
    rfl
  · rfl
/-- An entry that is altered so may not be. -/
theorem bad_of {e : Ent} (h : ¬ ((e.k = 1 ∧ e.cl = 0 ∧ e.sq = 0 ∧ e.ok = 0 ∧ e.key.size = 0 ∧ e.old.size = 0 ∧ e.val.size = 0) ∨ (e.k = 2 ∧ 0 ≤ e.cl ∧ e.cl ≤ 3 ∧ 1 ≤ e.sq ∧ e.sq ≤ 1099511627776 ∧ (1 ≤ e.key.size ∧ e.key.size ≤ 8 ∧ e.old.size ≤ 16 ∧ e.val.size ≤ 16 ∧ (((e.ok = 1 ∨ e.ok = 3) ∧ e.old.size = 0 ∧ e.val.size = 0) ∨ (e.ok = 2 ∧ e.old.size = 0) ∨ e.ok = 4)) ∧ e.ok ≠ 1))) : enOk e = false := by
  rw [Bool.eq_false_iff]
  intro hk
  have := enOk_iff.1 hk
  rw [opOk_iff] at this
  exact h this
theorem good_of {e : Ent} (h : enOk e = true) : ((e.k = 1 ∧ e.cl = 0 ∧ e.sq = 0 ∧ e.ok = 0 ∧ e.key.size = 0 ∧ e.old.size = 0 ∧ e.val.size = 0) ∨ (e.k = 2 ∧ 0 ≤ e.cl ∧ e.cl ≤ 3 ∧ 1 ≤ e.sq ∧ e.sq ≤ 1099511627776 ∧ (1 ≤ e.key.size ∧ e.key.size ≤ 8 ∧ e.old.size ≤ 16 ∧ e.val.size ≤ 16 ∧ (((e.ok = 1 ∨ e.ok = 3) ∧ e.old.size = 0 ∧ e.val.size = 0) ∨ (e.ok = 2 ∧ e.old.size = 0) ∨ e.ok = 4)) ∧ e.ok ≠ 1)) := by
  have := enOk_iff.1 h
  rw [opOk_iff] at this
  exact this
end Go.Proofs.YtejejadbemkifaaDoor

namespace Go.Proofs.YtejejadbemkifaaDoor
set_option maxRecDepth 100000
open Go

/-- A number of w bytes at a place: the number, the place behind it (the same where it is too short), is it too short. -/
def nmS (l : List Nat) (a w : Nat) : Nat × Nat × Bool := if a + w ≤ l.length then (num ((l.drop a).take w), a + w, false) else (0, a, true)
/-- A text at a place, likewise. -/
def txS (l : List Nat) (a : Nat) : ByteArray × Nat × Bool := match rdT l a with | some (s, b) => (s, b, false) | none => (ByteArray.empty, a, true)
theorem nmS_yes {l : List Nat} {a w : Nat} (h : a + w ≤ l.length) : nmS l a w = (num ((l.drop a).take w), a + w, false) := if_pos h
theorem nmS_no {l : List Nat} {a w : Nat} (h : l.length < a + w) : nmS l a w = (0, a, true) := if_neg (by omega)
theorem nmS_le {l : List Nat} {a w : Nat} (h : a ≤ l.length) : (nmS l a w).2.1 ≤ l.length := by
  unfold nmS
  split
  · assumption
  · exact h
theorem nmS_lt {l : List Nat} (hl : ∀ x ∈ l, x < 256) (a w : Nat) : (nmS l a w).1 < 256 ^ w := by
  unfold nmS
  split
  · exact num_take_lt' hl a w
  · exact Nat.pow_pos (by omega)
theorem nmS_one {l : List Nat} {a x : Nat} (h : l[a]? = some x) : nmS l a 1 = (x, a + 1, false) := by
  have ha : a < l.length := (List.getElem?_eq_some_iff.1 h).1
  rw [nmS_yes (by omega), take_one h]
  simp [num]
/-- What Get answers, told so. -/
theorem getS_nm {l : List Nat} {a w : Nat} (hw : wOk w = true) (h : a ≤ l.length) : getS l (a : Int) (w : Int) = if (nmS l a w).2.2 = true then (0, 0, 10) else ((nmS l a w).1, (nmS l a w).2.1, 0) := by
  by_cases hs : a + w ≤ l.length
  · rw [nmS_yes hs, getS_yes hw (by omega) (by omega) (by omega)]
    simp
  · rw [nmS_no (by omega), getS_short hw (by omega) (by omega) (by omega)]
    simp
theorem nmS_bad {l : List Nat} {a w : Nat} (h : (nmS l a w).2.2 = true) : nmS l a w = (0, a, true) := by
  by_cases hs : a + w ≤ l.length
  · rw [nmS_yes hs] at h; cases h
  · exact nmS_no (by omega)
theorem txS_bad {l : List Nat} {a : Nat} (h : (txS l a).2.2 = true) : txS l a = (ByteArray.empty, a, true) ∧ rdT l a = none := by
  unfold txS at h ⊢
  split at h
  · cases h
  · rename_i hr
    rw [hr]
    exact ⟨rfl, rfl⟩
theorem txS_ok {l : List Nat} {a : Nat} (h : (txS l a).2.2 = false) : rdT l a = some ((txS l a).1, (txS l a).2.1) := by
  unfold txS at h ⊢
  split at h
  · rename_i hr
    rw [hr]
  · cases h
theorem txS_le {l : List Nat} {a : Nat} (h : a ≤ l.length) : (txS l a).2.1 ≤ l.length := by
  unfold txS
  split
  · rename_i hr
    obtain ⟨n, _, h2, _, h4⟩ := rdT_inv h hr
    dsimp only
    omega
  · exact h
/-- What Read answers, told so. -/
theorem readS_none {l : List Nat} {a : Nat} (ha : a ≤ l.length) (h : rdT l a = none) : readS l (a : Int) = ([], 0, 10) := by
  by_cases hlt : a < l.length
  · have hx : l[a]? = some l[a] := List.getElem?_eq_getElem hlt
    by_cases hn : a + 1 + l[a] ≤ l.length
    · rw [rdT_some hx hn] at h
      cases h
    · exact readS_short hx (by omega)
  · have he : a = l.length := by omega
    subst he
    exact readS_err getS_end (by omega)
theorem readS_some {l : List Nat} {a b : Nat} {s : ByteArray} (ha : a ≤ l.length) (h : rdT l a = some (s, b)) : str (readS l (a : Int)).1 = s ∧ (readS l (a : Int)).2.1 = b ∧ (readS l (a : Int)).2.2 = 0 := by
  obtain ⟨n, h1, h2, h3, h4⟩ := rdT_inv ha h
  rw [readS_yes h1 h2]
  exact ⟨h3.symm, h4.symm, rfl⟩
theorem txS_read {l : List Nat} {a : Nat} (ha : a ≤ l.length) : (str (readS l (a : Int)).1 = (txS l a).1) ∧ (((txS l a).2.2 = true ∧ (readS l (a : Int)).2.1 = 0 ∧ (readS l (a : Int)).2.2 = 10) ∨ ((txS l a).2.2 = false ∧ (readS l (a : Int)).2.1 = (txS l a).2.1 ∧ (readS l (a : Int)).2.2 = 0)) := by
  cases hb : (txS l a).2.2 with
  | true =>
    obtain ⟨e, hn⟩ := txS_bad hb
    rw [readS_none ha hn, e]
    exact ⟨rfl, .inl ⟨rfl, rfl, rfl⟩⟩
  | false =>
    obtain ⟨h1, h2, h3⟩ := readS_some ha (txS_ok hb)
    exact ⟨h1, .inr ⟨rfl, h2, h3⟩⟩
/-- An operation at a place: its kind, its texts, the place behind, was it too short. -/
def opA (l : List Nat) (a : Nat) : Nat := (nmS l a 1).2.1
def opB (l : List Nat) (a : Nat) : Nat := (txS l (opA l a)).2.1
def opC (l : List Nat) (a : Nat) : Nat := (txS l (opB l a)).2.1
def opD (l : List Nat) (a : Nat) : Nat := (txS l (opC l a)).2.1
def opBad (l : List Nat) (a : Nat) : Bool := (nmS l a 1).2.2 || (txS l (opA l a)).2.2 || (txS l (opB l a)).2.2 || (txS l (opC l a)).2.2
/-- An entry at a place. -/
def enA (l : List Nat) (a : Nat) : Nat := (nmS l a 1).2.1
def enB (l : List Nat) (a : Nat) : Nat := (nmS l (enA l a) 1).2.1
def enC (l : List Nat) (a : Nat) : Nat := (nmS l (enB l a) 6).2.1
def enS (l : List Nat) (a : Nat) : Ent × Nat × Bool :=
  if (nmS l a 1).1 = 2 then
    ({ k := 2, cl := ((nmS l (enA l a) 1).1 : Nat), sq := ((nmS l (enB l a) 6).1 : Nat), ok := (nmS l (enC l a) 1).1, key := (txS l (opA l (enC l a))).1, old := (txS l (opB l (enC l a))).1, val := (txS l (opC l (enC l a))).1 },
      opD l (enC l a), (nmS l a 1).2.2 || (nmS l (enA l a) 1).2.2 || (nmS l (enB l a) 6).2.2 || opBad l (enC l a))
  else ({ k := (nmS l a 1).1 }, enA l a, (nmS l a 1).2.2)
theorem opA_le {l : List Nat} {a : Nat} (h : a ≤ l.length) : opA l a ≤ l.length := nmS_le h
theorem opB_le {l : List Nat} {a : Nat} (h : a ≤ l.length) : opB l a ≤ l.length := txS_le (opA_le h)
theorem opC_le {l : List Nat} {a : Nat} (h : a ≤ l.length) : opC l a ≤ l.length := txS_le (opB_le h)
theorem opD_le {l : List Nat} {a : Nat} (h : a ≤ l.length) : opD l a ≤ l.length := txS_le (opC_le h)
theorem enA_le {l : List Nat} {a : Nat} (h : a ≤ l.length) : enA l a ≤ l.length := nmS_le h
theorem enB_le {l : List Nat} {a : Nat} (h : a ≤ l.length) : enB l a ≤ l.length := nmS_le (enA_le h)
theorem enC_le {l : List Nat} {a : Nat} (h : a ≤ l.length) : enC l a ≤ l.length := nmS_le (enB_le h)
theorem enS_le {l : List Nat} {a : Nat} (h : a ≤ l.length) : (enS l a).2.1 ≤ l.length := by
  unfold enS
  split
  · exact opD_le (enC_le h)
  · exact enA_le h
theorem or4_false {a b c d : Bool} (h : (a || b || c || d) = false) : a = false ∧ b = false ∧ c = false ∧ d = false := by
  cases a <;> cases b <;> cases c <;> cases d <;> simp_all
/-- What is read there as an entry that is valid. -/
theorem enS_spec {l : List Nat} {a : Nat} (ha : a ≤ l.length) :
    ((enS l a).2.2 = false ∧ enOk (enS l a).1 = true ∧ enR l a = some ((enS l a).1, (enS l a).2.1)) ∨ (((enS l a).2.2 = true ∨ enOk (enS l a).1 = false) ∧ enR l a = none) := by
  by_cases hlt : a < l.length
  · obtain ⟨x, hx⟩ : ∃ x, l[a]? = some x := ⟨_, List.getElem?_eq_getElem hlt⟩
    have hn := nmS_one hx
    have hA : enA l a = a + 1 := by unfold enA; rw [hn]
    by_cases h2 : x = 2
    · subst h2
      have hS : enS l a = ({ k := 2, cl := ((nmS l (enA l a) 1).1 : Nat), sq := ((nmS l (enB l a) 6).1 : Nat), ok := (nmS l (enC l a) 1).1, key := (txS l (opA l (enC l a))).1, old := (txS l (opB l (enC l a))).1, val := (txS l (opC l (enC l a))).1 }, opD l (enC l a), (nmS l a 1).2.2 || (nmS l (enA l a) 1).2.2 || (nmS l (enB l a) 6).2.2 || opBad l (enC l a)) := by
        unfold enS
        rw [if_pos (by rw [hn])]
      cases hb : (enS l a).2.2 with
      | true =>
        refine .inr ⟨.inl rfl, enR_raw ?_⟩
        rw [hS] at hb
        dsimp only at hb
        rw [hn, hA] at hb
        by_cases h9 : a + 9 ≤ l.length
        · have e1 : nmS l (a + 1) 1 = (num ((l.drop (a + 1)).take 1), a + 2, false) := nmS_yes (by omega)
          have hB : enB l a = a + 2 := by unfold enB; rw [hA, e1]
          have e2 : nmS l (a + 2) 6 = (num ((l.drop (a + 2)).take 6), a + 8, false) := nmS_yes (by omega)
          have hC : enC l a = a + 8 := by unfold enC; rw [hB, e2]
          have e3 : nmS l (a + 8) 1 = (num ((l.drop (a + 8)).take 1), a + 9, false) := nmS_yes (by omega)
          have hOA : opA l (a + 8) = a + 9 := by unfold opA; rw [e3]
          rw [hB, e1, e2, hC] at hb
          simp only [Bool.or_false, Bool.false_or] at hb
          unfold opBad at hb
          rw [e3, hOA] at hb
          simp only [Bool.false_or] at hb
          cases t1 : (txS l (a + 9)).2.2 with
          | true => exact enRaw_t1 hx (txS_bad t1).2
          | false =>
            have r1 := txS_ok t1
            have hOB : opB l (a + 8) = (txS l (a + 9)).2.1 := by unfold opB; rw [hOA]
            rw [t1, hOB] at hb
            cases t2 : (txS l (txS l (a + 9)).2.1).2.2 with
            | true => exact enRaw_t2 hx r1 (txS_bad t2).2
            | false =>
              have r2 := txS_ok t2
              have hOC : opC l (a + 8) = (txS l (txS l (a + 9)).2.1).2.1 := by unfold opC; rw [hOB]
              rw [t2, hOC] at hb
              simp only [Bool.false_or] at hb
              exact enRaw_t3 hx r1 r2 (txS_bad hb).2
        · exact enRaw_nine hx (by omega)
      | false =>
        rw [hS] at hb
        dsimp only at hb
        obtain ⟨_, b1, b2, b3⟩ := or4_false hb
        unfold opBad at b3
        obtain ⟨b4, t1, t2, t3⟩ := or4_false b3
        rw [hA] at b1
        have g1 : a + 2 ≤ l.length := by
          by_cases h : a + 1 + 1 ≤ l.length
          · exact h
          · rw [nmS_no (by omega)] at b1; cases b1
        have e1 : nmS l (a + 1) 1 = (num ((l.drop (a + 1)).take 1), a + 2, false) := nmS_yes (by omega)
        have hB : enB l a = a + 2 := by unfold enB; rw [hA, e1]
        rw [hB] at b2
        have g2 : a + 8 ≤ l.length := by
          by_cases h : a + 2 + 6 ≤ l.length
          · exact h
          · rw [nmS_no (by omega)] at b2; cases b2
        have e2 : nmS l (a + 2) 6 = (num ((l.drop (a + 2)).take 6), a + 8, false) := nmS_yes (by omega)
        have hC : enC l a = a + 8 := by unfold enC; rw [hB, e2]
        rw [hC] at b4 t1 t2 t3
        have g3 : a + 9 ≤ l.length := by
          by_cases h : a + 8 + 1 ≤ l.length
          · exact h
          · rw [nmS_no (by omega)] at b4; cases b4
        have e3 : nmS l (a + 8) 1 = (l.getD (a + 8) 0, a + 9, false) := nmS_one (getD_some (by omega))
        have e1' : nmS l (a + 1) 1 = (l.getD (a + 1) 0, a + 2, false) := nmS_one (getD_some (by omega))
        have hOA : opA l (a + 8) = a + 9 := by unfold opA; rw [e3]
        have hOB : opB l (a + 8) = (txS l (a + 9)).2.1 := by unfold opB; rw [hOA]
        have hOC : opC l (a + 8) = (txS l (txS l (a + 9)).2.1).2.1 := by unfold opC; rw [hOB]
        have hOD : opD l (a + 8) = (txS l (txS l (txS l (a + 9)).2.1).2.1).2.1 := by unfold opD; rw [hOC]
        rw [hOA] at t1
        rw [hOB] at t2
        rw [hOC] at t3
        have hr := enRaw_op hx g3 (txS_ok t1) (txS_ok t2) (txS_ok t3)
        have hS1 : (enS l a).1 = { k := 2, cl := (l.getD (a + 1) 0 : Nat), sq := (num ((l.drop (a + 2)).take 6) : Nat), ok := l.getD (a + 8) 0, key := (txS l (a + 9)).1, old := (txS l (txS l (a + 9)).2.1).1, val := (txS l (txS l (txS l (a + 9)).2.1).2.1).1 } := by
          rw [hS, hA, hB, hC, e1', e2, e3, hOA, hOB, hOC]
        have hS2 : (enS l a).2.1 = (txS l (txS l (txS l (a + 9)).2.1).2.1).2.1 := by
          rw [hS, hC, hOD]
        rw [← hS1, ← hS2] at hr
        cases hk : enOk (enS l a).1 with
        | true => exact .inl ⟨rfl, rfl, enR_yes hr hk⟩
        | false => exact .inr ⟨.inr rfl, enR_no hr hk⟩
    · have hS : enS l a = ({ k := x }, a + 1, false) := by
        unfold enS
        rw [if_neg (by rw [hn]; exact h2), hA, hn]
      rw [hS]
      dsimp only
      by_cases h1 : x = 1
      · subst h1
        have hk : enOk { k := 1 } = true := by decide
        exact .inl ⟨rfl, hk, enR_yes (enRaw_noop hx) hk⟩
      · exact .inr ⟨.inr (bad_of (by dsimp only; omega)), enR_raw (enRaw_kind hx h1 h2)⟩
  · have hn : nmS l a 1 = (0, a, true) := nmS_no (by omega)
    refine .inr ⟨.inl ?_, enR_raw (enRaw_end (by omega))⟩
    unfold enS
    rw [if_neg (by rw [hn]; simp), hn]
/-- What is read as a body. -/
def psB (l : List Nat) : Bool := (nmS l 0 6).2.2 || (nmS l (nmS l 0 6).2.1 1).2.2
def psA (l : List Nat) : Nat := (nmS l (nmS l 0 6).2.1 1).2.1
theorem psA_le (l : List Nat) : psA l ≤ l.length := nmS_le (nmS_le (Nat.zero_le _))
theorem psS_spec {l : List Nat} :
    ((psB l = false ∧ (enS l (psA l)).2.2 = false ∧ (enS l (psA l)).2.1 = l.length ∧ balE ((nmS l 0 6).1 : Nat) ((nmS l (nmS l 0 6).2.1 1).1 : Nat) = true ∧ enOk (enS l (psA l)).1 = true) ∧ bdR l = some ((nmS l 0 6).1, (nmS l (nmS l 0 6).2.1 1).1, (enS l (psA l)).1)) ∨
    ((psB l = true ∨ (enS l (psA l)).2.2 = true ∨ (enS l (psA l)).2.1 ≠ l.length ∨ balE ((nmS l 0 6).1 : Nat) ((nmS l (nmS l 0 6).2.1 1).1 : Nat) = false ∨ enOk (enS l (psA l)).1 = false) ∧ bdR l = none) := by
  by_cases h7 : l.length < 7
  · refine .inr ⟨.inl ?_, by unfold bdR; rw [if_pos h7]⟩
    unfold psB
    by_cases h6 : l.length < 6
    · rw [nmS_no (by omega)]; rfl
    · rw [nmS_yes (by omega)]
      dsimp only
      rw [nmS_no (by omega)]
      rfl
  · have e1 : nmS l 0 6 = (num (l.take 6), 6, false) := by rw [nmS_yes (by omega)]; simp
    have e2 : nmS l 6 1 = (l.getD 6 0, 7, false) := nmS_one (getD_some (by omega))
    have hA : psA l = 7 := by unfold psA; rw [e1]; dsimp only; rw [e2]
    have hB : psB l = false := by unfold psB; rw [e1]; dsimp only; rw [e2]; rfl
    rw [hA, hB, e1]
    dsimp only
    rw [e2]
    dsimp only
    have hd : bdR l = (enR l 7).bind fun r => if r.2 = l.length ∧ balE (num (l.take 6) : Nat) (l.getD 6 0 : Nat) = true then some (num (l.take 6), l.getD 6 0, r.1) else none := by
      unfold bdR
      rw [if_neg h7]
    rcases enS_spec (l := l) (a := 7) (by omega) with ⟨h1, h2, h3⟩ | ⟨h1, h3⟩
    · rw [hd, h3]
      simp only [Option.bind_some]
      by_cases hn : (enS l 7).2.1 = l.length
      · cases hb : balE (num (l.take 6) : Nat) (l.getD 6 0 : Nat) with
        | true => rw [if_pos ⟨hn, rfl⟩]; exact .inl ⟨⟨trivial, h1, hn, rfl, h2⟩, rfl⟩
        | false => rw [if_neg (by simp)]; exact .inr ⟨.inr (.inr (.inr (.inl rfl))), rfl⟩
      · rw [if_neg (fun h => hn h.1)]
        exact .inr ⟨.inr (.inr (.inl hn)), rfl⟩
    · rw [hd, h3]
      refine .inr ⟨?_, rfl⟩
      rcases h1 with h1 | h1
      · exact .inr (.inl h1)
      · exact .inr (.inr (.inr (.inr h1)))
end Go.Proofs.YtejejadbemkifaaDoor

namespace Go.Proofs.YtejejadbemkifaaDoor
set_option maxRecDepth 100000
open Go Go.RowKit

set_option maxHeartbeats 400000 in
theorem same_any (A A' : Option Addr) (l l' : List Nat) (n n' c c' B : Nat) (w : World) (hl : l.length = n) (hl' : l'.length = n') (hr : Rd w B A l) (hr' : Rd w B A' l') (hm : n ≤ maxLen) :
    Calls Tryd.prog 10 #[.slice A n c, .slice A' n' c'] w fun e w' => e = .returned (.bool (decide (l = l'))) ∧ ∃ k, w' = w.drewN k := by
  unfold maxLen at hm
  by_cases hne : n = n'
  · subst hne
    have HL := Lib.hid hl
    have HL' := Lib.hid hl'
    clear hl hl'
    go_enter Tryd.func10, Tryd.ntmps10
    go_wp2_with fail
    go_loopw [5] (fun i wr => ∃ k : Nat, k ≤ n ∧ i = .int .i64 k ∧ (∃ j, wr = w.drewN j) ∧ l.take k = l'.take k) (fun i _ => n - (intOf i).toNat)
    case atStart => exact ⟨0, Nat.zero_le _, rfl, ⟨0, rfl⟩, rfl⟩
    case round =>
      obtain ⟨k, hk, rfl, ⟨j, rfl⟩, htk⟩ := hrel
      have HT := Lib.hid htk
      clear htk
      by_cases hlt : k < n
      · obtain ⟨g, o, x, hA, _, hx, hx2, hcx⟩ := hr.at_ (k := k) (by rw [HL.out]; exact hlt)
        obtain ⟨g', o', y, hA', _, hy, hy2, hcy⟩ := hr'.at_ (k := k) (by rw [HL'.out]; exact hlt)
        subst hA; subst hA'
        have HX := Lib.hid hx
        have HY := Lib.hid hy
        clear hx hy
        by_cases hxy : x = y
        · subst hxy
          have hb : (((x : Nat) : Int) != ((x : Nat) : Int)) = false := by simp
          go_wp2_with fail
          go_quiet (fail)
          go_wp2_with fail
          go_roundw
          case rel => exact ⟨k + 1, by omega, by go_num, ⟨_, rfl⟩, take_step HT.out HX.out HY.out⟩
          case measure => simp [intOf]; omega
        · have hb : (((x : Nat) : Int) != ((y : Nat) : Int)) = true := by rw [bne_iff_ne]; omega
          have HF := Lib.hid (ne_of_get HX.out HY.out hxy)
          clear hxy
          go_wp2_with fail
          go_quiet (fail)
          go_wp2_with fail
          go_ret
          exact ⟨by rw [HF.out]; rfl, _, drewN_add _ _ _⟩
      · have HF : Hid (decide (l = l') = true) := by
          apply Lib.hid
          have := HT.out
          rw [List.take_of_length_le (by have := HL.out; omega), List.take_of_length_le (by have := HL'.out; omega)] at this
          simpa using this
        go_wp2_with fail
        go_ret
        exact ⟨by rw [HF.out]; rfl, _, rfl⟩
  · have HF := Lib.hid (show decide (l = l') = false by
      simp only [decide_eq_false_iff_not]
      rintro rfl
      exact hne (hl.symm.trans hl'))
    have hb : (((n : Nat) : Int) != ((n' : Nat) : Int)) = true := by rw [bne_iff_ne]; omega
    clear hne hl hl'
    go_enter Tryd.func10, Tryd.ntmps10
    go_wp2_with fail
    go_ret
    exact ⟨by rw [HF.out]; rfl, 0, rfl⟩
end Go.Proofs.YtejejadbemkifaaDoor
