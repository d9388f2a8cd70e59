/-
  Plain facts on disks: what comes through a crash of writes that waited; what a fault at one sector leaves alone; what a disk that is down does.
-/
import Derived.Test.YtmfbeglidhejkaaDLaws
namespace Go.Proofs.Ytmfbeglidhejkaa

/-- The first n writes: the k-th one (from 1 on) is of k alone, of the sector that the list says modulo 4. -/
def wsOf (secs : List Nat) : Nat → List (Nat × List Nat)
  | 0 => []
  | n + 1 => wsOf secs n ++ [(secs.getD n 0 % 4, List.replicate 64 (n + 1))]
theorem wsOf_length (secs : List Nat) (n : Nat) : (wsOf secs n).length = n := by
  induction n with
  | zero => rfl
  | succ n ih => simp [wsOf, ih]
/-- Which of the first n writes of a sector is the last one that is kept; 0: none. -/
def lastOf (secs : List Nat) (keep : List Bool) : Nat → Nat → Nat
  | 0, _ => 0
  | n + 1, s => if keep[n]? = some true ∧ secs.getD n 0 % 4 = s then n + 1 else lastOf secs keep n s
theorem lastOf_le (secs : List Nat) (keep : List Bool) (n s : Nat) : lastOf secs keep n s ≤ n := by
  induction n with
  | zero => exact Nat.le_refl _
  | succ n ih =>
    unfold lastOf
    split <;> omega
theorem torn_last (secs : List Nat) (keep : List Bool) (n s : Nat) : lastW (kept (wsOf secs n) keep) s = if lastOf secs keep n s = 0 then none else some (List.replicate 64 (lastOf secs keep n s)) := by
  induction n with
  | zero => simp [wsOf, kept, lastW, lastOf]
  | succ n ih =>
    rw [wsOf, kept_snoc, wsOf_length]
    by_cases hk : keep[n]? = some true
    · rw [if_pos hk, lastW_snoc]
      by_cases hs : secs.getD n 0 % 4 = s
      · have e : lastOf secs keep (n + 1) s = n + 1 := by unfold lastOf; rw [if_pos ⟨hk, hs⟩]
        rw [if_pos hs, e, if_neg (by omega)]
      · have e : lastOf secs keep (n + 1) s = lastOf secs keep n s := by
          show (if keep[n]? = some true ∧ secs.getD n 0 % 4 = s then n + 1 else lastOf secs keep n s) = _
          rw [if_neg fun h => hs h.2]
        rw [if_neg hs, ih, e]
    · have e : lastOf secs keep (n + 1) s = lastOf secs keep n s := by
        show (if keep[n]? = some true ∧ secs.getD n 0 % 4 = s then n + 1 else lastOf secs keep n s) = _
        rw [if_neg fun h => hk h.1]
      rw [if_neg hk, ih, e]
/-- The disk of four sectors for which the first n writes wait. -/
def TD (secs : List Nat) (n : Nat) : DM := { DM.new 4 with waits := wsOf secs n }
theorem TD_size (secs : List Nat) (n : Nat) : (TD secs n).size = 4 := rfl
theorem TD_step (secs : List Nat) (n : Nat) : (TD secs n).write ((secs.getD n 0 % 4 : Nat) : Int) (List.replicate 64 (n + 1)) = (0, TD secs (n + 1)) := by
  have hh : (TD secs n).has ((secs.getD n 0 % 4 : Nat) : Int) = true := DM.has_iff.2 ⟨by omega, by rw [TD_size]; omega⟩
  have h2 : ¬ ((TD secs n).has ((secs.getD n 0 % 4 : Nat) : Int) = false ∨ (List.replicate 64 (n + 1)).length ≠ 64) := by rw [hh]; simp
  unfold DM.write
  rw [if_neg (show ¬ (TD secs n).up = false from fun h => by cases h), if_neg h2, if_neg (show ¬ (TD secs n).power = 0 from fun h => by cases h)]
  rw [Int.toNat_natCast]
  rfl
theorem TD_ok (secs : List Nat) (n : Nat) (hn : n ≤ 255) : (TD secs n).Ok := by
  induction n with
  | zero => exact DM.new_ok 4
  | succ n ih =>
    have h := DM.write_ok (ih (by omega)) ((secs.getD n 0 % 4 : Nat) : Int) (b := List.replicate 64 (n + 1)) (fun x hx => by rw [(List.mem_replicate.1 hx).2]; omega)
    rw [TD_step] at h
    exact h
theorem torn_read (secs : List Nat) (keep : List Bool) (n s : Nat) (hn : n ≤ 255) (hs : s < 4) :
    ((TD secs n).crash keep).1 = 0 ∧ ((TD secs n).crash keep).2.up = false ∧ ((TD secs n).crash keep).2.waits = [] ∧ ((TD secs n).crash keep).2.start.1 = 0 ∧ ((TD secs n).crash keep).2.start.2.up = true ∧ ((TD secs n).crash keep).2.start.2.read (s : Int) = (List.replicate 64 (lastOf secs keep n s), 0) := by
  have hc : (TD secs n).crash keep = (0, { (TD secs n).comes (kept (TD secs n).waits keep) with waits := [], down := true }) := by
    unfold DM.crash
    rw [if_neg (show ¬ (TD secs n).down = true from fun h => by cases h)]
  have g := comes_get (kept (TD secs n).waits keep) (TD secs n) (TD_ok secs n hn) (fun x hx => ((TD_ok secs n hn).waits x (kept_mem hx)).1) s
  have hl := torn_last secs keep n s
  have hsz : ((TD secs n).comes (kept (TD secs n).waits keep)).size = 4 := by rw [DM.comes_size]; rfl
  rw [hc]
  refine ⟨rfl, rfl, rfl, rfl, rfl, ?_⟩
  have hh : ({ (TD secs n).comes (kept (TD secs n).waits keep) with waits := [], down := false, dead := false, power := -1 } : DM).has (s : Int) = true := DM.has_iff.2 ⟨by omega, by show (s : Int) < (((TD secs n).comes (kept (TD secs n).waits keep)).size : Nat); rw [hsz]; omega⟩
  show ({ (TD secs n).comes (kept (TD secs n).waits keep) with waits := [], down := false, dead := false, power := -1 } : DM).read (s : Int) = _
  unfold DM.read
  rw [if_neg (show ¬ DM.up _ = false from fun h => by cases h), if_neg (by rw [hh]; simp), Int.toNat_natCast]
  show (if ((TD secs n).comes (kept (TD secs n).waits keep)).lost.getD s false = true then ([], (50 : Int)) else (((TD secs n).comes (kept (TD secs n).waits keep)).rest.getD s [], 0)) = _
  have hw : (TD secs n).waits = wsOf secs n := rfl
  have hlost : (TD secs n).lost.getD s false = false := by
    show (List.replicate 4 false).getD s false = false
    rw [List.getD_eq_getElem?_getD, List.getElem?_replicate]
    split <;> rfl
  have hrest : (TD secs n).rest.getD s [] = List.replicate 64 0 := by
    show (List.replicate 4 z64).getD s [] = _
    rw [List.getD_eq_getElem?_getD, List.getElem?_replicate, if_pos hs]
    rfl
  rw [g.1, g.2.2, hw, hl, hlost, hrest]
  by_cases h0 : lastOf secs keep n s = 0
  · rw [if_pos h0, h0]
    rfl
  · rw [if_neg h0]
    rfl

/-- A fault at a sector: it is answered, nothing waits that didn't, nothing else is meant; what is read of any other sector is the same. -/
theorem fault_apart {m : DM} (kind a b s : Nat) (hk : kind = 3 ∨ kind = 4 ∨ kind = 5) (ha : a < m.size) (hb : b < m.size) (hs : s ≠ (if kind = 5 then b else a)) :
    (m.act kind (a : Int) (b : Int) [] []).1 = 0 ∧ (m.act kind (a : Int) (b : Int) [] []).2.waits = m.waits ∧ (m.act kind (a : Int) (b : Int) [] []).2.meant = m.meant ∧ (m.act kind (a : Int) (b : Int) [] []).2.read (s : Int) = m.read (s : Int) := by
  have hA : m.has (a : Int) = true := DM.has_iff.2 ⟨by omega, by omega⟩
  have hB : m.has (b : Int) = true := DM.has_iff.2 ⟨by omega, by omega⟩
  have rd : ∀ m' : DM, m'.up = m.up → m'.size = m.size → m'.waits = m.waits → m'.lost.getD s false = m.lost.getD s false → m'.rest.getD s [] = m.rest.getD s [] → m'.read (s : Int) = m.read (s : Int) := by
    intro m' h1 h2 h3 h4 h5
    have hh : m'.has (s : Int) = m.has (s : Int) := by unfold DM.has; rw [h2]
    unfold DM.read
    rw [h1, hh, h3, Int.toNat_natCast, h4, h5]
  rcases hk with rfl | rfl | rfl
  · have hs' : a ≠ s := fun h => hs (by simp [h])
    have e : m.act 3 (a : Int) (b : Int) [] [] = (0, { m with rest := m.rest.set a (flipB (m.rest.getD a []) (b % 512)) }) := by
      show m.flip (a : Int) (b : Int) = _
      unfold DM.flip
      rw [if_neg (by rw [hA]; simp), Int.toNat_natCast, Int.toNat_natCast]
    rw [e]
    exact ⟨rfl, rfl, rfl, rd _ rfl (by simp [DM.size]) rfl rfl (getD_set_ne hs')⟩
  · have hs' : a ≠ s := fun h => hs (by simp [h])
    have e : m.act 4 (a : Int) (b : Int) [] [] = (0, { m with lost := m.lost.set a true }) := by
      show m.lose (a : Int) = _
      unfold DM.lose
      rw [if_neg (by rw [hA]; simp), Int.toNat_natCast]
    rw [e]
    exact ⟨rfl, rfl, rfl, rd _ rfl rfl rfl (getD_set_ne hs') rfl⟩
  · have hs' : b ≠ s := fun h => hs (by simp [h])
    have e : m.act 5 (a : Int) (b : Int) [] [] = (0, { m with rest := m.rest.set b (m.rest.getD a []), lost := m.lost.set b (m.lost.getD a false) }) := by
      show m.stray (a : Int) (b : Int) = _
      unfold DM.stray
      rw [if_neg (by rw [hA, hB]; simp), Int.toNat_natCast, Int.toNat_natCast]
    rw [e]
    exact ⟨rfl, rfl, rfl, rd _ rfl (by simp [DM.size]) rfl (getD_set_ne hs') (getD_set_ne hs')⟩
end Go.Proofs.Ytmfbeglidhejkaa
