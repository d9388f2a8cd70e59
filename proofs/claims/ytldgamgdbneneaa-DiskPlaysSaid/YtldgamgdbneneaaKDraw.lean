/-
  The contracts of the disk's draw, Power, Start, New.
-/
import Derived.Test.YtldgamgdbneneaaKSmall2
namespace Go.Proofs.Ytldgamgdbneneaa
set_option maxRecDepth 100000
open Go Go.RowKit

/-- The head of a disk. -/
def HeadAt (w : World) (d : Nat) (x0 : Value) (st p : Int) (x3 x4 : Value) : Prop := w.heap[d]? = some (.cells #[x0, .int .u8 st, .int .i64 p, x3, x4] 48 (0, 0))
theorem PD.headAt {w : World} {d g : Nat} {pv : Value} {m : DM} (h : PD w d g pv m) : HeadAt w d (.pointer (some ⟨d, 0, none⟩)) (stOf m) m.power (.slice (some ⟨g, 0, none⟩) m.size m.size) pv := h.head
/-- The disk with another head: what else it holds is as it was. -/
theorem PD.head_turned {w w' : World} {d g : Nat} {pv : Value} {m : DM} (h : PD w d g pv m) (k : Mod (fun i => i = d) w w') (st p : Int) (hh : HeadAt w' d (.pointer (some ⟨d, 0, none⟩)) st p (.slice (some ⟨g, 0, none⟩) m.size m.size) pv)
    (m' : DM) (hok : m'.Ok) (h1 : m'.rest = m.rest) (h2 : m'.meant = m.meant) (h3 : m'.lost = m.lost) (h4 : m'.waits = m.waits) (hs : stOf m' = st) (hp : m'.power = p) (ht : p ≤ 9223372036854775807) : PD w' d g pv m' := by
  have hz : m'.size = m.size := by unfold DM.size; rw [h1]
  refine ⟨hok, by rw [hz]; exact h.n1, by rw [hp]; exact ht, by rw [hs, hp, hz]; exact hh, ?_, ?_, h.dg, h.pd⟩
  · obtain ⟨cur, c1, c2, c3⟩ := h.med.mod k (fun e => h.dg e.symm)
    exact ⟨cur, c1, by rw [hz]; exact c2, fun s hs j v hv => c3 s (by rw [← hz]; exact hs) j v (by unfold DM.sec at hv ⊢; rw [h1, h2, h3] at hv; exact hv)⟩
  · rw [h4]
    exact own_mod h.pen k fun i hi => (h.pd i hi).1

theorem Mod.own_cell {d : Nat} {a b : World} (h : Mod (fun i => i = d) a b) (k : Nat) (v : Value) : Mod (fun i => i = d) a (b.setCell ⟨d, k, none⟩ v) := h.setCell (p := ⟨d, k, none⟩) (.inl rfl) v
def drawE (p : Int) : Int := if p = 0 then 5 else 0
def drawS (p st : Int) : Int := if p = 0 then 1 else st
set_option maxRecDepth 100000 in
set_option maxHeartbeats 800000 in
theorem draw_of {w : World} {d : Nat} {x0 x3 x4 : Value} {st p : Int} (h : HeadAt w d x0 st p x3 x4) (hp : -1 ≤ p) (hp2 : p ≤ 9223372036854775807) :
    Calls Try.prog 38 #[.pointer (some ⟨d, 0, none⟩)] w fun e w' => e = .returned (.int .i64 (drawE p)) ∧ HeadAt w' d x0 (drawS p st) (lessP p) x3 x4 ∧ Mod (fun i => i = d) w w' := by
  obtain ⟨⟨c0, c1, c2, c3, c4⟩, f0, f1, f2, f3, f4⟩ := cells5 h
  have H := Lib.hid h
  clear h
  by_cases h1 : p = -1
  · subst h1
    go_enter Try.func38, Try.ntmps38
    go_wp2_with fail
    go_ret
    exact ⟨rfl, H.out, Mod.refl _ _⟩
  · by_cases h0 : p = 0
    · subst h0
      go_enter Try.func38, Try.ntmps38
      go_wp2_with fail
      go_ret
      exact ⟨rfl, row_set 1 H.out _ rfl, (Mod.refl _ _).own_cell _ _⟩
    · have g1 : (p == -1) = false := by simpa using h1
      have g0 : (p == 0) = false := by simpa using h0
      have HL : Hid (lessP p = p - 1) := Lib.hid (by unfold lessP; rw [if_pos (by omega)])
      have HI : Hid (drawE p = 0 ∧ drawS p st = st) := Lib.hid ⟨if_neg h0, if_neg h0⟩
      clear h0 h1
      go_enter Try.func38, Try.ntmps38
      go_wp2_with fail
      go_ret
      exact ⟨by rw [HI.out.1]; rfl, by rw [HI.out.2, HL.out]; exact row_set 2 H.out _ rfl, (Mod.refl _ _).own_cell _ _⟩

set_option maxRecDepth 100000 in
set_option maxHeartbeats 800000 in
theorem power_of {w : World} {d g : Nat} {pv : Value} {m : DM} (h : PD w d g pv m) (n : Int) (hn : n ≤ 9223372036854775807) :
    Calls Try.prog 20 #[.pointer (some ⟨d, 0, none⟩), .int .i64 n] w fun e w' => e = .returned (.int .i64 (m.setPower n).1) ∧ PD w' d g pv (m.setPower n).2 ∧ Mod (fun i => i = d) w w' := by
  have hr := running_of h none 0 0 [] (ZsAt.nil_ w)
  have HR := Lib.hid hr
  have H := Lib.hid h
  have HE : Hid (runE m [] = if m.up = false then 5 else 0) := Lib.hid (by
    unfold runE knownE
    simp)
  have HP : Hid (m.setPower n = if m.up = false then (5, m) else if n < 0 then (2, m) else (0, { m with power := n })) := Lib.hid rfl
  have HO := Lib.hid (DM.setPower_ok h.ok n)
  obtain ⟨⟨c0, c1, c2, c3, c4⟩, f0, f1, f2, f3, f4⟩ := h.cells
  clear h hr
  by_cases hu : m.up = false
  · have HE : Hid (runE m [] = 5) := Lib.hid (by rw [HE.out, if_pos hu])
    have HP : Hid (m.setPower n = (5, m)) := Lib.hid (by rw [HP.out, if_pos hu])
    clear hu
    go_enter Try.func20, Try.ntmps20
    go_wp2_with fail
    refine HR.out.mono ?_
    rw [HE.out]
    rintro e w1 ⟨rfl, rfl⟩
    go_wp2_with fail
    go_ret
    exact ⟨by rw [HP.out]; rfl, by rw [HP.out]; exact H.out, Mod.refl _ _⟩
  · have HE : Hid (runE m [] = 0) := Lib.hid (by rw [HE.out, if_neg hu])
    by_cases hn0 : n < 0
    · have HP : Hid (m.setPower n = (2, m)) := Lib.hid (by rw [HP.out, if_neg hu, if_pos hn0])
      clear hu
      go_enter Try.func20, Try.ntmps20
      go_wp2_with fail
      refine HR.out.mono ?_
      rw [HE.out]
      rintro e w1 ⟨rfl, rfl⟩
      go_wp2_with fail
      go_ret
      exact ⟨by rw [HP.out]; rfl, by rw [HP.out]; exact H.out, Mod.refl _ _⟩
    · have HP : Hid (m.setPower n = (0, { m with power := n })) := Lib.hid (by rw [HP.out, if_neg hu, if_neg hn0])
      clear hu
      go_enter Try.func20, Try.ntmps20
      go_wp2_with fail
      refine HR.out.mono ?_
      rw [HE.out]
      rintro e w1 ⟨rfl, rfl⟩
      go_wp2_with fail
      go_ret
      have hm : Mod (fun i => i = d) w (w.setCell ⟨d, 2, none⟩ (.int .i64 n)) := (Mod.refl _ _).own_cell _ _
      refine ⟨by rw [HP.out]; rfl, ?_, hm⟩
      exact H.out.head_turned hm (stOf m) n (row_set 2 H.out.head _ rfl) _ HO.out (by rw [HP.out]) (by rw [HP.out]) (by rw [HP.out]) (by rw [HP.out]) (by rw [HP.out]; rfl) (by rw [HP.out]) hn

set_option maxRecDepth 100000 in
set_option maxHeartbeats 800000 in
theorem start_of {w : World} {d g : Nat} {pv : Value} {m : DM} (h : PD w d g pv m) :
    Calls Try.prog 16 #[.pointer (some ⟨d, 0, none⟩)] w fun e w' => e = .returned (.int .i64 m.start.1) ∧ PD w' d g pv m.start.2 ∧ Mod (fun i => i = d) w w' := by
  have H := Lib.hid h
  have HP : Hid (m.start = if m.down = false then (2, m) else (0, { m with down := false, dead := false, power := -1 })) := Lib.hid rfl
  have HO := Lib.hid (DM.start_ok h.ok)
  have hst := stOf_down (m := m)
  obtain ⟨⟨c0, c1, c2, c3, c4⟩, f0, f1, f2, f3, f4⟩ := h.cells
  clear h
  by_cases hd : m.down = true
  · rw [hst.2 hd] at c1
    have HP : Hid (m.start = (0, { m with down := false, dead := false, power := -1 })) := Lib.hid (by rw [HP.out, if_neg (by rw [hd]; simp)])
    clear hd hst
    go_enter Try.func16, Try.ntmps16
    go_wp2_with fail
    refine (made_yes d _ c0).mono ?_
    rintro e w1 ⟨rfl, rfl⟩
    go_wp2_with fail
    go_ret
    have hm : Mod (fun i => i = d) w ((w.setCell ⟨d, 1, none⟩ (.int .u8 0)).setCell ⟨d, 2, none⟩ (.int .i64 (-1))) := ((Mod.refl _ _).own_cell _ _).own_cell _ _
    refine ⟨by rw [HP.out]; rfl, ?_, hm⟩
    exact H.out.head_turned hm 0 (-1) (row_set 2 (row_set 1 H.out.head _ rfl) _ rfl) _ HO.out (by rw [HP.out]) (by rw [HP.out]) (by rw [HP.out]) (by rw [HP.out]) (by rw [HP.out]; rfl) (by rw [HP.out]) (by omega)
  · have hs : (stOf m == 2) = false := by
      have : ¬ stOf m = 2 := fun e => hd (hst.1 e)
      simpa using this
    have hs2 : (stOf m != 2) = true := by
      have : ¬ stOf m = 2 := fun e => hd (hst.1 e)
      simpa using this
    have HP : Hid (m.start = (2, m)) := Lib.hid (by rw [HP.out, if_pos (by simpa using hd)])
    clear hd hst
    generalize stOf m = st at *
    go_enter Try.func16, Try.ntmps16
    go_wp2_with fail
    refine (made_yes d _ c0).mono ?_
    rintro e w1 ⟨rfl, rfl⟩
    go_wp2_with fail
    go_ret
    exact ⟨by rw [HP.out]; rfl, by rw [HP.out]; exact H.out, Mod.refl _ _⟩
end Go.Proofs.Ytldgamgdbneneaa
