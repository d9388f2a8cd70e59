/-
  The document's disk: its head, and the calls that touch no more than that.
-/
import Derived.Test.YtldgamgdbneneaaKDisk
import Derived.Test.YtldgamgdbneneaaKMod
import Derived.Lib.Hide
namespace Go.Proofs.Ytldgamgdbneneaa
set_option maxRecDepth 100000
open Go Go.RowKit

/-- The head's seven cells: three rows, the pending writes, down, dead, power. -/
structure RHead (w : World) (d gr cr gm cm gl cl : Nat) (pv : Value) (m : DM) : Prop where
  head : w.heap[d]? = some (.cells #[.slice (some ⟨gr, 0, none⟩) m.size cr, .slice (some ⟨gm, 0, none⟩) m.size cm, .slice (some ⟨gl, 0, none⟩) m.size cl, pv, .bool m.down, .bool m.dead, .int .i64 m.power] 41 (0, 0))
  n1 : 1 ≤ m.size ∧ m.size ≤ 1024
section
variable {w w' : World} {d gr cr gm cm gl cl : Nat} {pv : Value} {m : DM} {F : Nat → Prop}
theorem RHead.mod (h : RHead w d gr cr gm cm gl cl pv m) (k : Mod F w w') (hd : ¬ F d) : RHead w' d gr cr gm cm gl cl pv m := ⟨heap_mod h.head k hd, h.n1⟩
theorem RHead.ext (h : RHead w d gr cr gm cm gl cl pv m) (k : Ext w w') : RHead w' d gr cr gm cm gl cl pv m := h.mod (F := fun _ => False) (Mod.of_ext k) fun h => h
theorem RHead.cells (h : RHead w d gr cr gm cm gl cl pv m) :
    (w.cell? ⟨d, 0, none⟩ = some (.slice (some ⟨gr, 0, none⟩) m.size cr) ∧ w.cell? ⟨d, 1, none⟩ = some (.slice (some ⟨gm, 0, none⟩) m.size cm) ∧ w.cell? ⟨d, 2, none⟩ = some (.slice (some ⟨gl, 0, none⟩) m.size cl) ∧ w.cell? ⟨d, 3, none⟩ = some pv ∧ w.cell? ⟨d, 4, none⟩ = some (.bool m.down) ∧ w.cell? ⟨d, 5, none⟩ = some (.bool m.dead) ∧ w.cell? ⟨d, 6, none⟩ = some (.int .i64 m.power)) ∧
      ∀ i, w.frozen? ⟨d, i, none⟩ = false :=
  ⟨⟨cell_of_row w d 0 _ _ _ h.head, cell_of_row w d 1 _ _ _ h.head, cell_of_row w d 2 _ _ _ h.head, cell_of_row w d 3 _ _ _ h.head, cell_of_row w d 4 _ _ _ h.head, cell_of_row w d 5 _ _ _ h.head, cell_of_row w d 6 _ _ _ h.head⟩, fun i => frozen_of_row w d i _ _ h.head⟩

set_option maxRecDepth 100000 in
set_option maxHeartbeats 600000 in
theorem rhas_of (h : RHead w d gr cr gm cm gl cl pv m) (s : Int) :
    Calls Try.prog 45 #[.pointer (some ⟨d, 0, none⟩), .int .i64 s] w fun e w' => e = .returned (.bool (m.has s)) ∧ w = w' := by
  obtain ⟨⟨c0, _⟩, _⟩ := h.cells
  have HE : Hid (m.has s = (decide (0 ≤ s) && decide (s < (m.size : Int)))) := Lib.hid (by unfold DM.has; rfl)
  clear h
  generalize m.size = n at *
  by_cases h0 : 0 ≤ s
  · by_cases h1 : s < (n : Int)
    · go_enter Try.func45, Try.ntmps45
      go_wp2_with fail
      go_ret
      exact ⟨by rw [HE.out]; simp [h0, h1], rfl⟩
    · go_enter Try.func45, Try.ntmps45
      go_wp2_with fail
      go_ret
      exact ⟨by rw [HE.out]; simp [h0, h1], rfl⟩
  · go_enter Try.func45, Try.ntmps45
    go_wp2_with fail
    go_ret
    exact ⟨by rw [HE.out, decide_eq_false (show ¬ 0 ≤ s by omega)]; rfl, rfl⟩
/-- Power is used. -/
def spendM (m : DM) : DM := if m.power = 0 then { m with dead := true } else { m with power := lessP m.power }
set_option maxRecDepth 100000 in
set_option maxHeartbeats 600000 in
theorem rspend_of (h : RHead w d gr cr gm cm gl cl pv m) (hp : -1 ≤ m.power ∧ m.power ≤ 9223372036854775807) :
    Calls Try.prog 43 #[.pointer (some ⟨d, 0, none⟩)] w fun e w' => e = .returned (.bool (decide (m.power ≠ 0))) ∧ RHead w' d gr cr gm cm gl cl pv (spendM m) ∧ Mod (fun i => i = d) w w' := by
  have H := Lib.hid h
  obtain ⟨⟨_, _, _, _, _, c5, c6⟩, hf⟩ := h.cells
  have f5 := hf 5
  have f6 := hf 6
  obtain ⟨p, hpp⟩ : ∃ p, m.power = p := ⟨_, rfl⟩
  have HP := Lib.hid hpp
  rw [hpp] at c6 hp
  clear h hf hpp
  generalize m.dead = dd at c5
  by_cases h0 : p = 0
  · subst h0
    go_enter Try.func43, Try.ntmps43
    go_wp2_with fail
    go_ret
    have e : spendM m = { m with dead := true } := if_pos HP.out
    rw [e]
    exact ⟨by rw [HP.out]; rfl, ⟨row_set 5 H.out.head _ rfl, H.out.n1⟩, Mod.setCell (F := fun i => i = d) (Mod.refl _ _) (.inl rfl) _⟩
  · have g0 : (p == 0) = false := by simpa using h0
    have e : spendM m = { m with power := lessP p } := by unfold spendM; rw [if_neg (by rw [HP.out]; exact h0), HP.out]
    by_cases h1 : 0 < p
    · have hw : IntKind.i64.wrap (p - 1) = p - 1 := IntWalk.i64_in _ (by omega)
      have HE := Lib.hid e
      have HL : Hid (lessP p = p - 1) := Lib.hid (if_pos h1)
      have H0 := Lib.hid h0
      clear e
      go_enter Try.func43, Try.ntmps43
      go_wp2_with fail
      go_ret
      rw [HE.out, HL.out]
      exact ⟨by rw [HP.out]; first | (rw [decide_eq_true (show p ≠ 0 from H0.out)]; rfl) | (rw [decide_eq_false H0.out]; rfl), ⟨row_set 6 H.out.head _ rfl, H.out.n1⟩, Mod.setCell (F := fun i => i = d) (Mod.refl _ _) (.inl rfl) _⟩
    · have HE := Lib.hid e
      have HL : Hid (lessP p = p) := Lib.hid (if_neg h1)
      have H0 := Lib.hid h0
      clear e
      go_enter Try.func43, Try.ntmps43
      go_wp2_with fail
      go_ret
      rw [HE.out, HL.out]
      refine ⟨by rw [HP.out]; first | (rw [decide_eq_true (show p ≠ 0 from H0.out)]; rfl) | (rw [decide_eq_false H0.out]; rfl), ⟨?_, H.out.n1⟩, Mod.refl _ _⟩
      have := H.out.head
      rw [HP.out] at this
      exact this
set_option maxRecDepth 100000 in
set_option maxHeartbeats 600000 in
theorem rstart_of (h : RHead w d gr cr gm cm gl cl pv m) :
    Calls Try.prog 25 #[.pointer (some ⟨d, 0, none⟩)] w fun e w' => e = .returned (.int .i64 m.start.1) ∧ RHead w' d gr cr gm cm gl cl pv m.start.2 ∧ Mod (fun i => i = d) w w' := by
  have H := Lib.hid h
  obtain ⟨⟨_, _, _, _, c4, c5, c6⟩, hf⟩ := h.cells
  have f4 := hf 4
  have f5 := hf 5
  have f6 := hf 6
  clear h hf
  by_cases hd : m.down = true
  · have e : m.start = (0, { m with down := false, dead := false, power := -1 }) := by unfold DM.start; rw [if_neg (by rw [hd]; simp)]
    have HE := Lib.hid e
    rw [hd] at c4
    clear e hd
    generalize m.dead = dd at c5
    generalize m.power = pp at c6
    go_enter Try.func25, Try.ntmps25
    go_wp2_with fail
    go_ret
    rw [HE.out]
    exact ⟨rfl, ⟨row_set 6 (row_set 5 (row_set 4 H.out.head _ rfl) _ rfl) _ rfl, H.out.n1⟩, ((Mod.setCell (F := fun i => i = d) (Mod.refl _ _) (.inl rfl) _).setCell (.inl rfl) _).setCell (.inl rfl) _⟩
  · have hd' : m.down = false := by simpa using hd
    have e : m.start = (2, m) := by unfold DM.start; rw [if_pos hd']
    have HE := Lib.hid e
    rw [hd'] at c4
    clear e hd hd'
    go_enter Try.func25, Try.ntmps25
    go_wp2_with fail
    go_ret
    rw [HE.out]
    exact ⟨rfl, H.out, Mod.refl _ _⟩
set_option maxRecDepth 100000 in
set_option maxHeartbeats 600000 in
theorem rpower_of (h : RHead w d gr cr gm cm gl cl pv m) (n : Int) :
    Calls Try.prog 29 #[.pointer (some ⟨d, 0, none⟩), .int .i64 n] w fun e w' => e = .returned (.int .i64 (m.setPower n).1) ∧ RHead w' d gr cr gm cm gl cl pv (m.setPower n).2 ∧ Mod (fun i => i = d) w w' := by
  have H := Lib.hid h
  obtain ⟨⟨_, _, _, _, c4, c5, c6⟩, hf⟩ := h.cells
  have f6 := hf 6
  clear h hf
  by_cases hu : m.up = true
  · have hd : m.down = false ∧ m.dead = false := by
      unfold DM.up at hu
      cases h1 : m.down <;> cases h2 : m.dead <;> simp_all
    rw [hd.1] at c4
    rw [hd.2] at c5
    have HU := Lib.hid hu
    clear hd hu
    by_cases hn : n < 0
    · have e : m.setPower n = (2, m) := by unfold DM.setPower; rw [if_neg (by rw [HU.out]; simp), if_pos hn]
      have HE := Lib.hid e
      clear e
      go_enter Try.func29, Try.ntmps29
      go_wp2_with fail
      go_ret
      rw [HE.out]
      exact ⟨rfl, H.out, Mod.refl _ _⟩
    · have e : m.setPower n = (0, { m with power := n }) := by unfold DM.setPower; rw [if_neg (by rw [HU.out]; simp), if_neg hn]
      have HE := Lib.hid e
      clear e
      generalize m.power = pp at c6
      go_enter Try.func29, Try.ntmps29
      go_wp2_with fail
      go_ret
      rw [HE.out]
      exact ⟨rfl, ⟨row_set 6 H.out.head _ rfl, H.out.n1⟩, Mod.setCell (F := fun i => i = d) (Mod.refl _ _) (.inl rfl) _⟩
  · have e : m.setPower n = (5, m) := by unfold DM.setPower; rw [if_pos (by simpa using hu)]
    have HE := Lib.hid e
    have hd : m.down = true ∨ (m.down = false ∧ m.dead = true) := by
      unfold DM.up at hu
      cases h1 : m.down <;> cases h2 : m.dead <;> simp_all
    clear e hu
    rcases hd with hd | hd
    · rw [hd] at c4
      clear hd
      go_enter Try.func29, Try.ntmps29
      go_wp2_with fail
      go_ret
      rw [HE.out]
      exact ⟨rfl, H.out, Mod.refl _ _⟩
    · rw [hd.1] at c4
      rw [hd.2] at c5
      clear hd
      go_enter Try.func29, Try.ntmps29
      go_wp2_with fail
      go_ret
      rw [HE.out]
      exact ⟨rfl, H.out, Mod.refl _ _⟩
end
end Go.Proofs.Ytldgamgdbneneaa
