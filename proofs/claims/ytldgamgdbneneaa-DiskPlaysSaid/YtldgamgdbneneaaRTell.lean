/-
  The document's disk: At, Read.
-/
import Derived.Test.YtldgamgdbneneaaRCome
namespace Go.Proofs.Ytldgamgdbneneaa
open Go Go.RowKit

theorem wflat_at : ∀ {l : List (Nat × List Nat)} {r : List (Nat × Nat)} {k : Nat} {x : Nat × List Nat} {y : Nat × Nat}, l[k]? = some x → r[k]? = some y → (wflat l r)[k * 2]? = some (.int .i64 (x.1 : Int)) ∧ (wflat l r)[k * 2 + 1]? = some (slV y)
  | [], _, k, x, y, h, _ => by simp at h
  | _ :: _, [], k, x, y, _, h => by simp at h
  | a :: l, b :: r, 0, x, y, h, h2 => by
    simp only [List.getElem?_cons_zero, Option.some.injEq] at h h2
    subst h; subst h2
    exact ⟨rfl, rfl⟩
  | a :: l, b :: r, k + 1, x, y, h, h2 => by
    simp only [List.getElem?_cons_succ] at h h2
    have := wflat_at h h2
    rw [show (k + 1) * 2 = k * 2 + 2 by omega, show k * 2 + 2 + 1 = k * 2 + 1 + 2 by omega]
    exact this
/-- The pending write at a place. -/
theorem RDq.waitAt {w : World} {d : Nat} {p : Nat → Nat} {q : Nm} {m : DM} (h : RDq w d p q m) {k : Nat} (hk : k < m.waits.length) : ∃ g c x y, q.pv = .slice (some ⟨g, 0, none⟩) m.waits.length c ∧ m.waits[k]? = some x ∧ q.WB[k]? = some y ∧ w.cell? ⟨g, k * 2, none⟩ = some (.int .i64 (x.1 : Int)) ∧ w.cell? ⟨g, k * 2 + 1, none⟩ = some (slV y) ∧ p y.1 = 6 ∧ Byt w y x.2 ∧ x.1 < m.size ∧ Sect x.2 := by
  obtain ⟨x, hx⟩ : ∃ x, m.waits[k]? = some x := ⟨_, List.getElem?_eq_getElem hk⟩
  obtain ⟨y, hy⟩ : ∃ y, q.WB[k]? = some y := ⟨_, List.getElem?_eq_getElem (by rw [h.wl]; exact hk)⟩
  obtain ⟨w1, w2⟩ := wflat_at hx hy
  have hw := h.ok.waits x (List.mem_of_getElem? hx)
  have hb := h.wb k y hy
  rw [List.getD_eq_getElem?_getD, hx, Option.getD_some] at hb
  rcases h.pen.2 with ⟨_, h0⟩ | ⟨g, cap, cur, hv, _, hg, hrest⟩
  · omega
  · have hc := h.pen.cells (g := g) (by rw [hv]; rfl)
    have e1 := hc _ _ w1
    have e2 := hc _ _ w2
    rw [Addr.add_lit, Nat.zero_add] at e1 e2
    exact ⟨g, cap, x, y, hv, hx, hy, e1, e2, hb.1, hb.2, hw.1, hw.2⟩

section
variable {w : World} {d : Nat} {p : Nat → Nat} {m : DM}
set_option maxRecDepth 100000 in
set_option maxHeartbeats 1200000 in
theorem rat_out (h : RD w d p m) (s : Int) : Calls Try.prog 35 #[.pointer (some ⟨d, 0, none⟩), .int .i64 s] w fun e w' => ∃ A n c, e = .returned (.tuple #[.slice A n c, .bool (m.at_ s).2.1, .int .i64 (m.at_ s).2.2]) ∧ By w' A n c (m.at_ s).1 ∧ Ext w w' := by
  obtain ⟨⟨q, hq⟩, hlt⟩ := h
  have hh := rhas_of hq.head s
  by_cases hs : m.has s = false
  · rw [hs] at hh
    have HH := Lib.hid hh
    have HE : Hid (m.at_ s = ([], false, 2)) := Lib.hid (by unfold DM.at_; rw [if_pos hs])
    clear hh hs hq hlt
    go_enter Try.func35, Try.ntmps35
    go_wp2_with fail
    refine HH.out.mono ?_
    rintro e w1 ⟨rfl, rfl⟩
    go_wp2_with fail
    refine bodyPost_ret (v := .tuple #[.slice none 0 0, .bool false, .int .i64 2]) (by simp [results, Try.results35, go_sem]) rfl ?_
    exact ⟨none, 0, 0, by rw [HE.out], by rw [HE.out]; exact By.nil_ _, Ext.refl _⟩
  have hs' : m.has s = true := by simpa using hs
  obtain ⟨s0, s1⟩ := DM.has_iff.1 hs'
  obtain ⟨j, rfl⟩ := Int.eq_ofNat_of_zero_le s0
  have hj : j < m.size := by omega
  rw [hs'] at hh
  have HH := Lib.hid hh
  obtain ⟨⟨d0, _, d2, _⟩, _⟩ := hq.head.cells
  obtain ⟨hc, _, _⟩ := hq.lostAt hj
  obtain ⟨x, hx, hxc, _, _⟩ := hq.restAt hj
  have hsec : Sect (m.rest.getD j []) := by
    have hil : j < m.rest.length := hj
    rw [List.getD_eq_getElem?_getD, List.getElem?_eq_getElem hil, Option.getD_some]
    exact hq.ok.rests _ (List.getElem_mem hil)
  have HB := Lib.hid ((hq.rb j x hx).2.by hsec.2)
  have hsz := hq.head.n1.2
  unfold slV at hxc
  by_cases hlo : m.lost.getD j false = true
  · have HE : Hid (m.at_ (j : Int) = ([], true, 0)) := Lib.hid (by unfold DM.at_; rw [if_neg hs, Int.toNat_natCast, if_pos hlo])
    rw [hlo] at hc
    clear hh hs hs' hq hlt hlo hx hsec
    go_enter Try.func35, Try.ntmps35
    go_wp2_with fail
    refine HH.out.mono ?_
    rintro e w1 ⟨rfl, rfl⟩
    go_wp2_with fail
    refine bodyPost_ret (v := .tuple #[.slice none 0 0, .bool true, .int .i64 0]) (by simp [results, Try.results35, go_sem]) rfl ?_
    exact ⟨none, 0, 0, by rw [HE.out], by rw [HE.out]; exact By.nil_ _, Ext.refl _⟩
  · have HE : Hid (m.at_ (j : Int) = (m.rest.getD j [], false, 0)) := Lib.hid (by unfold DM.at_; rw [if_neg hs, Int.toNat_natCast, if_neg hlo])
    rw [show m.lost.getD j false = false by simpa using hlo] at hc
    clear hh hs hs' hq hlt hlo hx hsec
    go_enter Try.func35, Try.ntmps35
    go_wp2_with fail
    refine HH.out.mono ?_
    rintro e w1 ⟨rfl, rfl⟩
    go_wp2_with fail
    refine (copy_by (some ⟨x.1, 0, none⟩) (m.rest.getD j []) 64 x.2 _ HB.out (by omega)).mono ?_
    rintro e w2 ⟨A1, c1, rfl, hb, hx, _⟩
    have HB1 := Lib.hid hb
    have HX1 := Lib.hid hx
    clear hb hx
    go_wp2_with fail
    refine bodyPost_ret (v := .tuple #[.slice A1 64 c1, .bool false, .int .i64 0]) (by simp [results, Try.results35, go_sem]) rfl ?_
    exact ⟨_, _, _, by rw [HE.out], by rw [HE.out]; exact HB1.out, HX1.out⟩
end
end Go.Proofs.Ytldgamgdbneneaa
