/-
  The contracts of snap's parse in one form, load, and Open.
-/
import Derived.Test.YtmbmpabjclkhlaaGreatDoorN00
import Derived.Test.YtmbmpabjclkhlaaGreatDoorN15
import Derived.Test.YtmbmpabjclkhlaaGreatDoorN17
namespace Go.Proofs.YtmbmpabjclkhlaaGreatDoor
set_option maxRecDepth 100000
section
open Go Go.RowKit
theorem getS_six {l : List Nat} (h : 6 ≤ l.length) : getS l 0 6 = (num ((l.drop 0).take 6), 6, 0) := getS_yes (by decide) (by omega) (by omega) (by omega)
theorem getS_oneY {l : List Nat} {a : Nat} (h : a + 1 ≤ l.length) : getS l (a : Int) 1 = (num ((l.drop a).take 1), a + 1, 0) := getS_yes (by decide) (by omega) (by omega) (by omega)
theorem yparse_of (A : Option Addr) (n c : Nat) (l : List Nat) (w : World) (hL : LaidY w) (hb : By w A n c l) (hm : n ≤ 1000) :
    Calls Tryz.prog 180 #[.slice A n c] w fun e w' => e = .returned (.tuple #[.agg #[.int .i64 ((manS l).ix : Int), .int .i64 ((manS l).ar : Int), .int .i64 ((manS l).ct : Int)], .int .i64 (manE l)]) ∧ Ext w w' := by
  have hlen := hb.len
  have no : manB l = false → ∀ e : Ending, ∀ w' : World, (e = .returned (.tuple #[.agg #[.int .i64 0, .int .i64 0, .int .i64 0], .int .i64 130]) ∧ Ext w w') → (e = .returned (.tuple #[.agg #[.int .i64 ((manS l).ix : Int), .int .i64 ((manS l).ar : Int), .int .i64 ((manS l).ct : Int)], .int .i64 (manE l)]) ∧ Ext w w') := fun hf e w' h => by
    unfold manS manE
    rw [if_neg (by rw [hf]; simp), if_neg (by rw [hf]; simp)]
    exact h
  have short : l.length ≠ 8 → manB l = false := fun h => by
    unfold manB
    rw [decide_eq_false h]
    rfl
  by_cases h6 : l.length < 6
  · exact (yparse_g0 A n c l w hL hb hm (getS_short (by decide) (by omega) (by omega) (by omega))).mono (no (short (by omega)))
  have g0 := getS_six (l := l) (by omega)
  by_cases h7 : l.length < 7
  · exact (yparse_g1 A n c l w hL hb hm _ g0 (getS_short (by decide) (by omega) (by omega) (by omega))).mono (no (short (by omega)))
  have g1 := getS_oneY (l := l) (a := 6) (by omega)
  by_cases h8 : l.length < 8
  · exact (yparse_g2 A n c l w hL hb hm _ _ g0 g1 (getS_short (by decide) (by omega) (by omega) (by omega))).mono (no (short (by omega)))
  have g2 := getS_oneY (l := l) (a := 7) (by omega)
  by_cases hn : n = 8
  case neg => exact (yparse_len A n c l w hL hb hm _ _ _ g0 g1 g2 hn).mono (no (short (by omega)))
  have hl8 : l.length = 8 := by omega
  have hmb : manB l = manOk (manR l) := by unfold manB; rw [decide_eq_true hl8]; rfl
  have bad : ¬ (1 ≤ (manR l).ix ∧ (manR l).ix ≤ 1099511627752 ∧ (manR l).ar ≤ 1 ∧ 1 ≤ (manR l).ct ∧ (manR l).ct ≤ 8) → manB l = false := fun h => by rw [hmb]; exact decide_eq_false h
  cases hix : inI 1 ((manR l).ix : Int) 1099511627752 with
  | false =>
    refine (yparse_ix A n c l w hL hb hm _ _ _ g0 g1 g2 hn hix).mono (no (bad fun h => ?_))
    rw [inI_iff.2 (by omega)] at hix
    cases hix
  | true =>
  have b0 := inI_iff.1 hix
  cases har : inI 0 ((manR l).ar : Int) 1 with
  | false =>
    refine (yparse_ar A n c l w hL hb hm _ _ _ g0 g1 g2 hn hix har).mono (no (bad fun h => ?_))
    rw [inI_iff.2 (by omega)] at har
    cases har
  | true =>
  have b1 := inI_iff.1 har
  cases hct : inI 1 ((manR l).ct : Int) 8 with
  | false =>
    refine (yparse_ct A n c l w hL hb hm _ _ _ g0 g1 g2 hn hix har hct).mono (no (bad fun h => ?_))
    rw [inI_iff.2 (by omega)] at hct
    cases hct
  | true =>
  have b2 := inI_iff.1 hct
  have hy : manB l = true := by rw [hmb]; exact manOk_iff.2 (by omega)
  refine (yparse_yes A n c l w hL hb hm _ _ _ g0 g1 g2 hn hix har hct).mono fun e w' h => ?_
  unfold manS manE
  rw [if_pos hy, if_pos hy]
  exact h
theorem three_cellsY {w : World} {g : Nat} {x0 x1 x2 : Value} {t : TypeId} (h : w.heap[g]? = some (.cells #[x0, x1, x2] t (0, 0))) :
    (w.cell? ⟨g, 0, none⟩ = some x0 ∧ w.cell? ⟨g, 1, none⟩ = some x1 ∧ w.cell? ⟨g, 2, none⟩ = some x2) ∧ (w.frozen? ⟨g, 0, none⟩ = false ∧ w.frozen? ⟨g, 1, none⟩ = false ∧ w.frozen? ⟨g, 2, none⟩ = false) :=
  ⟨⟨cell_of_row w g 0 _ _ _ h, cell_of_row w g 1 _ _ _ h, cell_of_row w g 2 _ _ _ h⟩, ⟨frozen_of_row w g 0 _ _ h, frozen_of_row w g 1 _ _ h, frozen_of_row w g 2 _ _ h⟩⟩
theorem three_extY {w w' : World} (h : Ext w w') {g : Nat} (hg : w.heap.size ≤ g) (x0 x1 x2 : Value) :
    Ext w (((w'.setCell ⟨g, 0, none⟩ x0).setCell ⟨g, 1, none⟩ x1).setCell ⟨g, 2, none⟩ x2) :=
  ((h.setCell (p := ⟨g, 0, none⟩) hg _).setCell (p := ⟨g, 1, none⟩) hg _).setCell (p := ⟨g, 2, none⟩) hg _
def LoadsY (w : World) (p : Option Addr) (r : Int) (V : Nat) (B : List Nat) (E : Int) : Prop :=
  ∀ W, Ext w W → Calls Tryz.prog 179 #[.pointer p, .int .i64 r, .int .i64 2] W fun e w' => ∃ A N, e = .returned (.tuple #[.int .i64 (V : Int), .slice A N N, .int .i64 E]) ∧ By w' A N N B ∧ Ext W w'
def ldE3 (V : Nat) (B : List Nat) (E : Int) : Int := if E ≠ 0 then E else if V = 0 then 0 else manE B
def ldS3 (V : Nat) (B : List Nat) (E : Int) : ShM := if E ≠ 0 then {} else if V = 0 then {} else manS B
set_option maxHeartbeats 1600000 in
theorem yload_of {w : World} {p : Option Addr} {r : Int} {V : Nat} {B : List Nat} {E : Int} (h : LoadsY w p r V B E) (hL : LaidY w) (hB : B.length ≤ 43) :
    Calls Tryz.prog 96 #[.pointer p, .int .i64 r] w fun e w' => e = .returned (.tuple #[.agg #[.int .i64 ((ldS3 V B E).ix : Int), .int .i64 ((ldS3 V B E).ar : Int), .int .i64 ((ldS3 V B E).ct : Int)], .int .i64 (ldE3 V B E)]) ∧ Ext w w' := by
  have hx := (Ext.refl w).alloc (.cells #[.int .i64 0, .int .i64 0, .int .i64 0] 106)
  have HZ := Lib.hid (heap_alloc_new w (.cells #[.int .i64 0, .int .i64 0, .int .i64 0] 106))
  have HX := Lib.hid hx
  have HL := Lib.hid hL
  have HLD := Lib.hid (h _ hx)
  have HE : Hid (ldE3 V B E = if E ≠ 0 then E else if V = 0 then 0 else manE B) := Lib.hid rfl
  have HF : Hid (ldS3 V B E = if E ≠ 0 then {} else if V = 0 then {} else manS B) := Lib.hid rfl
  have HBL := Lib.hid hB
  clear hx h hL hB
  by_cases h0 : E = 0
  · subst h0
    by_cases hv : V = 0
    · subst hv
      have HE2 : Hid (ldE3 0 B 0 = 0 ∧ ldS3 0 B 0 = {}) := Lib.hid ⟨by rw [HE.out]; simp, by rw [HF.out]; simp⟩
      rw [HE2.out.1, HE2.out.2]
      go_enter Tryz.func96, Tryz.ntmps96
      go_wp2_with fail
      refine HLD.out.mono ?_
      rintro e w1 ⟨A, N, rfl, hb, hx⟩
      have HZ := Lib.hid ((hx.block _ (Array.getElem?_eq_some_iff.1 HZ.out).1).trans HZ.out)
      have HX := Lib.hid (HX.out.trans hx)
      clear hb hx
      obtain ⟨⟨d0, d1, d2⟩, f0, f1, f2⟩ := three_cellsY HZ.out
      go_wp2_with fail
      refine bodyPost_ret (v := .tuple #[.agg #[.int .i64 0, .int .i64 0, .int .i64 0], .int .i64 0]) ?_ rfl ⟨rfl, three_extY HX.out (Nat.le_refl _) _ _ _⟩
      simp [results, Tryz.results96, go_sem, d0, d1, d2]
    · have hv' : ((V : Int) == 0) = false := by simpa using hv
      have HE2 : Hid (ldE3 V B 0 = manE B ∧ ldS3 V B 0 = manS B) := Lib.hid ⟨by rw [HE.out]; simp [hv], by rw [HF.out]; simp [hv]⟩
      rw [HE2.out.1, HE2.out.2]
      clear hv
      go_enter Tryz.func96, Tryz.ntmps96
      go_wp2_with fail
      refine HLD.out.mono ?_
      rintro e w1 ⟨A, N, rfl, hb, hx⟩
      have HB := Lib.hid hb
      have hN : N ≤ 1000 := by
        have h1 := hb.len
        have h2 := HBL.out
        omega
      have HZ := Lib.hid ((hx.block _ (Array.getElem?_eq_some_iff.1 HZ.out).1).trans HZ.out)
      have HX := Lib.hid (HX.out.trans hx)
      clear hb hx
      go_wp2_with fail
      refine (yparse_of A N N B _ (HL.out.ext HX.out) HB.out hN).mono ?_
      rintro e w2 ⟨rfl, hx⟩
      have HZ := Lib.hid ((hx.block _ (Array.getElem?_eq_some_iff.1 HZ.out).1).trans HZ.out)
      have HX := Lib.hid (HX.out.trans hx)
      clear hx hN
      obtain ⟨⟨d0, d1, d2⟩, f0, f1, f2⟩ := three_cellsY HZ.out
      go_wp2_with fail
      refine bodyPost_ret (v := .tuple #[.agg #[.int .i64 ((manS B).ix : Int), .int .i64 ((manS B).ar : Int), .int .i64 ((manS B).ct : Int)], .int .i64 (manE B)]) ?_ rfl ⟨rfl, three_extY HX.out (Nat.le_refl _) _ _ _⟩
      simp [results, Tryz.results96, go_sem, d0, d1, d2]
  · have hne : (E != 0) = true := by simpa using h0
    have HE2 : Hid (ldE3 V B E = E ∧ ldS3 V B E = {}) := Lib.hid ⟨by rw [HE.out]; simp [h0], by rw [HF.out]; simp [h0]⟩
    rw [HE2.out.1, HE2.out.2]
    clear h0
    go_enter Tryz.func96, Tryz.ntmps96
    go_wp2_with fail
    refine HLD.out.mono ?_
    rintro e w1 ⟨A, N, rfl, hb, hx⟩
    have HZ := Lib.hid ((hx.block _ (Array.getElem?_eq_some_iff.1 HZ.out).1).trans HZ.out)
    have HX := Lib.hid (HX.out.trans hx)
    clear hb hx
    obtain ⟨⟨d0, d1, d2⟩, f0, f1, f2⟩ := three_cellsY HZ.out
    go_wp2_with fail
    refine bodyPost_ret (v := .tuple #[.agg #[.int .i64 0, .int .i64 0, .int .i64 0], .int .i64 E]) ?_ rfl ⟨rfl, three_extY HX.out (Nat.le_refl _) _ _ _⟩
    simp [results, Tryz.results96, go_sem, d0, d1, d2]
end
section
open Go Go.RowKit
theorem LoadsY.of {w : World} {d : Nat} {F : Nat → Prop} {m : DM} (h : PDisk w d F m) (hL : LaidY w) (r : Int) (hk : knownC m.size r 2 = 0) (hfew : m.waits.length ≤ 1000000) : LoadsY w (some ⟨d, 0, none⟩) r (m.loadV r 2) (m.loadB r 2) (m.loadE r 2) :=
  fun _ hx => Load_of (h.ext hx) (hL.f.ext hx) r 2 hfew hk
theorem LoadsY.no {w : World} {p : Option Addr} {sz : Nat} (hS : ∀ W, Ext w W → Sized W p sz) (hL : LaidY w) (r : Int) (hk : knownC sz r 2 ≠ 0) : LoadsY w p r 0 [] (knownC sz r 2) :=
  fun W hx => (Load_unknown (hS W hx) (hL.f.ext hx).a.t r 2 hk).mono fun _ _ ⟨he, hx'⟩ => ⟨none, 0, he, By.nil_ _, hx'⟩
set_option maxHeartbeats 1600000 in
theorem yopen_none (p : Option Addr) (r c : Int) (w : World) (hsz : Calls Tryz.prog 60 #[.pointer p] w fun e w' => e = .returned (.int .i64 0) ∧ w = w') :
    Calls Tryz.prog 36 #[.pointer p, .int .i64 r, .int .i64 c] w fun e w' => e = .returned (.tuple #[.pointer none, .int .i64 1]) ∧ Ext w w' := by
  have HS := Lib.hid hsz
  clear hsz
  go_enter Tryz.func36, Tryz.ntmps36
  go_wp2_with fail
  refine HS.out.mono ?_
  rintro e w1 ⟨rfl, rfl⟩
  go_wp2_with fail
  go_ret2
  exact ⟨rfl, Ext.refl _⟩
set_option maxHeartbeats 1600000 in
theorem yopen_inc {p : Option Addr} (r c : Int) (sz : Nat) (w : World) (h0 : sz ≠ 0) (hc : inI 1 c 1099511627776 = false) (hsz : Calls Tryz.prog 60 #[.pointer p] w fun e w' => e = .returned (.int .i64 (sz : Int)) ∧ w = w') :
    Calls Tryz.prog 36 #[.pointer p, .int .i64 r, .int .i64 c] w fun e w' => e = .returned (.tuple #[.pointer none, .int .i64 2]) ∧ Ext w w' := by
  have HS := Lib.hid hsz
  have HC := Lib.hid hc
  have hne : ((sz : Int) == 0) = false := by simpa using h0
  clear hsz hc h0
  go_enter Tryz.func36, Tryz.ntmps36
  go_wp2_with fail
  refine HS.out.mono ?_
  rintro e w1 ⟨rfl, rfl⟩
  go_wp2_with fail
  refine (ywithin_of 1 c 1099511627776 _).mono ?_
  rw [HC.out]
  rintro e w1 ⟨rfl, rfl⟩
  go_wp2_with fail
  go_ret2
  exact ⟨rfl, Ext.refl _⟩
set_option maxHeartbeats 1600000 in
theorem yopen_bad {p : Option Addr} {r : Int} {V : Nat} {B : List Nat} {E : Int} (c : Int) (sz : Nat) (w : World) (h0 : sz ≠ 0) (hc : inI 1 c 1099511627776 = true) (hsz : Calls Tryz.prog 60 #[.pointer p] w fun e w' => e = .returned (.int .i64 (sz : Int)) ∧ w = w')
    (h : LoadsY w p r V B E) (hL : LaidY w) (hB : B.length ≤ 43) (hE : ldE3 V B E ≠ 0) :
    Calls Tryz.prog 36 #[.pointer p, .int .i64 r, .int .i64 c] w fun e w' => e = .returned (.tuple #[.pointer none, .int .i64 (ldE3 V B E)]) ∧ Ext w w' := by
  have HS := Lib.hid hsz
  have HC := Lib.hid hc
  have HD := Lib.hid (yload_of h hL hB)
  obtain ⟨G, hG⟩ : ∃ G, ldE3 V B E = G := ⟨_, rfl⟩
  rw [hG] at HD hE ⊢
  have hne : ((sz : Int) == 0) = false := by simpa using h0
  have hGn : (G != 0) = true := by simpa using hE
  clear hsz hc h0 h hL hB hG hE
  go_enter Tryz.func36, Tryz.ntmps36
  go_wp2_with fail
  refine HS.out.mono ?_
  rintro e w1 ⟨rfl, rfl⟩
  go_wp2_with fail
  refine (ywithin_of 1 c 1099511627776 _).mono ?_
  rw [HC.out]
  rintro e w1 ⟨rfl, rfl⟩
  go_wp2_with fail
  refine HD.out.mono ?_
  rintro e w1 ⟨rfl, hx⟩
  have HX := Lib.hid hx
  clear hx
  go_wp2_with fail
  go_ret2
  exact ⟨rfl, HX.out.alloc _⟩
end
end Go.Proofs.YtmbmpabjclkhlaaGreatDoor
