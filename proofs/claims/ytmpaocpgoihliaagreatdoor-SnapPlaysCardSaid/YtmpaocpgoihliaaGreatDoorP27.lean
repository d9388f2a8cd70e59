/-
  The contracts of snap's parse in one form, load, and Open.
-/
import Derived.Test.YtmpaocpgoihliaaGreatDoorP00
import Derived.Test.YtmpaocpgoihliaaGreatDoorP07
import Derived.Test.YtmpaocpgoihliaaGreatDoorP09
import Derived.Test.YtmpaocpgoihliaaGreatDoorP10
import Derived.Test.YtmpaocpgoihliaaGreatDoorP12
import Derived.Test.YtmpaocpgoihliaaGreatDoorP13
import Derived.Test.YtmpaocpgoihliaaGreatDoorP15
import Derived.Test.YtmpaocpgoihliaaGreatDoorP17
import Derived.Test.YtmpaocpgoihliaaGreatDoorP19
import Derived.Deep.DeepCutAuto
import Derived.RegionTactic
import Derived.Deep.RegionHeld3
import Derived.Deep.QuietTactic
import Derived.BigQuiet
namespace Go.Proofs.YtmpaocpgoihliaaGreatDoor
set_option maxRecDepth 100000
section
open Go Go.RowKit
theorem getS_six {l : List Nat} (h : 6 ≤ l.length) : getS l 0 6 = (num ((l.drop 0).take 6), 6, 0) := getS_yes (by decide) (by omega) (by omega) (by omega)
theorem getS_oneY {l : List Nat} {a : Nat} (h : a + 1 ≤ l.length) : getS l (a : Int) 1 = (num ((l.drop a).take 1), a + 1, 0) := getS_yes (by decide) (by omega) (by omega) (by omega)
theorem yparse_of (A : Option Addr) (n c : Nat) (l : List Nat) (w : World) (hL : LaidY w) (hb : By w A n c l) (hm : n ≤ 1000) :
 Calls Tryz.prog 153 #[.slice A n c] w fun e w' => e = .returned (.tuple #[.agg #[.int .i64 ((manS l).ix : Int), .int .i64 ((manS l).ar : Int), .int .i64 ((manS l).ct : Int)], .int .i64 (manE l)]) ∧ Ext w w' := by
 have hlen := hb.len
 have no : manB l = false → ∀ e : Ending, ∀ w' : World, (e = .returned (.tuple #[.agg #[.int .i64 0, .int .i64 0, .int .i64 0], .int .i64 130]) ∧ Ext w w') → (e = .returned (.tuple #[.agg #[.int .i64 ((manS l).ix : Int), .int .i64 ((manS l).ar : Int), .int .i64 ((manS l).ct : Int)], .int .i64 (manE l)]) ∧ Ext w w') := fun hf e w' h => by
  unfold manS manE
  rw [if_neg (by rw [hf]; simp), if_neg (by rw [hf]; simp)]
  exact h
 have short : l.length ≠ 8 → manB l = false := fun h => by
  unfold manB
  rw [decide_eq_false h]
  rfl
 by_cases h6 : l.length < 6
 ·exact (yparse_g0 A n c l w hL hb hm (getS_short (by decide) (by omega) (by omega) (by omega))).mono (no (short (by omega)))
 have g0 := getS_six (l := l) (by omega)
 by_cases h7 : l.length < 7
 ·exact (yparse_g1 A n c l w hL hb hm _ g0 (getS_short (by decide) (by omega) (by omega) (by omega))).mono (no (short (by omega)))
 have g1 := getS_oneY (l := l) (a := 6) (by omega)
 by_cases h8 : l.length < 8
 ·exact (yparse_g2 A n c l w hL hb hm _ _ g0 g1 (getS_short (by decide) (by omega) (by omega) (by omega))).mono (no (short (by omega)))
 have g2 := getS_oneY (l := l) (a := 7) (by omega)
 by_cases hn : n = 8
 case neg => exact (yparse_len A n c l w hL hb hm _ _ _ g0 g1 g2 hn).mono (no (short (by omega)))
 have hl8 : l.length = 8 := by omega
 have hmb : manB l = manOk (manR l) := by unfold manB; rw [decide_eq_true hl8]; rfl
 have bad : ¬ (1 ≤ (manR l).ix ∧ (manR l).ix ≤ 1099511627752 ∧ (manR l).ar ≤ 1 ∧ 1 ≤ (manR l).ct ∧ (manR l).ct ≤ 8) → manB l = false := fun h => by rw [hmb]; exact decide_eq_false h
 cases hix : inI 1 ((manR l).ix : Int) 1099511627752 with
 | false =>
  refine (yparse_ix A n c l w hL hb hm _ _ _ g0 g1 g2 hn hix).mono (no (bad fun h => ?_))
  rw [inI_iff.2 (by omega)] at hix
  cases hix
 | true =>
 have b0 := inI_iff.1 hix
 cases har : inI 0 ((manR l).ar : Int) 1 with
 | false =>
  refine (yparse_ar A n c l w hL hb hm _ _ _ g0 g1 g2 hn hix har).mono (no (bad fun h => ?_))
  rw [inI_iff.2 (by omega)] at har
  cases har
 | true =>
 have b1 := inI_iff.1 har
 cases hct : inI 1 ((manR l).ct : Int) 8 with
 | false =>
  refine (yparse_ct A n c l w hL hb hm _ _ _ g0 g1 g2 hn hix har hct).mono (no (bad fun h => ?_))
  rw [inI_iff.2 (by omega)] at hct
  cases hct
 | true =>
 have b2 := inI_iff.1 hct
 have hy : manB l = true := by rw [hmb]; exact manOk_iff.2 (by omega)
 refine (yparse_yes A n c l w hL hb hm _ _ _ g0 g1 g2 hn hix har hct).mono fun e w' h => ?_
 unfold manS manE
 rw [if_pos hy, if_pos hy]
 exact h
theorem three_cellsY {w : World} {g : Nat} {x0 x1 x2 : Value} {t : TypeId} (h : w.heap[g]? = some (.cells #[x0, x1, x2] t (0, 0))) :
 (w.cell? ⟨g, 0, none⟩ = some x0 ∧ w.cell? ⟨g, 1, none⟩ = some x1 ∧ w.cell? ⟨g, 2, none⟩ = some x2) ∧ (w.frozen? ⟨g, 0, none⟩ = false ∧ w.frozen? ⟨g, 1, none⟩ = false ∧ w.frozen? ⟨g, 2, none⟩ = false) :=
 ⟨⟨cell_of_row w g 0 _ _ _ h, cell_of_row w g 1 _ _ _ h, cell_of_row w g 2 _ _ _ h⟩, ⟨frozen_of_row w g 0 _ _ h, frozen_of_row w g 1 _ _ h, frozen_of_row w g 2 _ _ h⟩⟩
theorem three_extY {w w' : World} (h : Ext w w') {g : Nat} (hg : w.heap.size ≤ g) (x0 x1 x2 : Value) :
 Ext w (((w'.setCell ⟨g, 0, none⟩ x0).setCell ⟨g, 1, none⟩ x1).setCell ⟨g, 2, none⟩ x2) :=
 ((h.setCell (p := ⟨g, 0, none⟩) hg _).setCell (p := ⟨g, 1, none⟩) hg _).setCell (p := ⟨g, 2, none⟩) hg _
def LoadsY (w : World) (p : Option Addr) (r : Int) (V : Nat) (B : List Nat) (E : Int) : Prop :=
 ∀ W, Ext w W → Calls Tryz.prog 152 #[.pointer p, .int .i64 r, .int .i64 2] W fun e w' => ∃ A N, e = .returned (.tuple #[.int .i64 (V : Int), .slice A N N, .int .i64 E]) ∧ By w' A N N B ∧ Ext W w'
def ldE3 (V : Nat) (B : List Nat) (E : Int) : Int := if E ≠ 0 then E else if V = 0 then 0 else manE B
def ldS3 (V : Nat) (B : List Nat) (E : Int) : ShM := if E ≠ 0 then {} else if V = 0 then {} else manS B
set_option maxHeartbeats 1600000 in
theorem yload_of {w : World} {p : Option Addr} {r : Int} {V : Nat} {B : List Nat} {E : Int} (h : LoadsY w p r V B E) (hL : LaidY w) (hB : B.length ≤ 43) :
 Calls Tryz.prog 68 #[.pointer p, .int .i64 r] w fun e w' => e = .returned (.tuple #[.agg #[.int .i64 ((ldS3 V B E).ix : Int), .int .i64 ((ldS3 V B E).ar : Int), .int .i64 ((ldS3 V B E).ct : Int)], .int .i64 (ldE3 V B E)]) ∧ Ext w w' := by
 have hx := (Ext.refl w).alloc (.cells #[.int .i64 0, .int .i64 0, .int .i64 0] 137)
 have HZ := Lib.hid (heap_alloc_new w (.cells #[.int .i64 0, .int .i64 0, .int .i64 0] 137))
 have HX := Lib.hid hx
 have HL := Lib.hid hL
 have HLD := Lib.hid (h _ hx)
 have HE : Hid (ldE3 V B E = if E ≠ 0 then E else if V = 0 then 0 else manE B) := Lib.hid rfl
 have HF : Hid (ldS3 V B E = if E ≠ 0 then {} else if V = 0 then {} else manS B) := Lib.hid rfl
 have HBL := Lib.hid hB
 clear hx h hL hB
 by_cases h0 : E = 0
 ·subst h0
  by_cases hv : V = 0
  ·subst hv
   have HE2 : Hid (ldE3 0 B 0 = 0 ∧ ldS3 0 B 0 = {}) := Lib.hid ⟨by rw [HE.out]; simp, by rw [HF.out]; simp⟩
   rw [HE2.out.1, HE2.out.2]
   go_enter Tryz.func68, Tryz.ntmps68
   go_wp2_with fail
   refine HLD.out.mono ?_
   rintro e w1 ⟨A, N, rfl, hb, hx⟩
   have HZ := Lib.hid ((hx.block _ (Array.getElem?_eq_some_iff.1 HZ.out).1).trans HZ.out)
   have HX := Lib.hid (HX.out.trans hx)
   clear hb hx
   obtain ⟨⟨d0, d1, d2⟩, f0, f1, f2⟩ := three_cellsY HZ.out
   go_wp2_with fail
   refine bodyPost_ret (v := .tuple #[.agg #[.int .i64 0, .int .i64 0, .int .i64 0], .int .i64 0]) ?_ rfl ⟨rfl, three_extY HX.out (Nat.le_refl _) _ _ _⟩
   simp [results, Tryz.results68, go_sem, d0, d1, d2]
  ·have hv' : ((V : Int) == 0) = false := by simpa using hv
   have HE2 : Hid (ldE3 V B 0 = manE B ∧ ldS3 V B 0 = manS B) := Lib.hid ⟨by rw [HE.out]; simp [hv], by rw [HF.out]; simp [hv]⟩
   rw [HE2.out.1, HE2.out.2]
   clear hv
   go_enter Tryz.func68, Tryz.ntmps68
   go_wp2_with fail
   refine HLD.out.mono ?_
   rintro e w1 ⟨A, N, rfl, hb, hx⟩
   have HB := Lib.hid hb
   have hN : N ≤ 1000 := by
    have h1 := hb.len
    have h2 := HBL.out
    omega
   have HZ := Lib.hid ((hx.block _ (Array.getElem?_eq_some_iff.1 HZ.out).1).trans HZ.out)
   have HX := Lib.hid (HX.out.trans hx)
   clear hb hx
   go_wp2_with fail
   refine (yparse_of A N N B _ (HL.out.ext HX.out) HB.out hN).mono ?_
   rintro e w2 ⟨rfl, hx⟩
   have HZ := Lib.hid ((hx.block _ (Array.getElem?_eq_some_iff.1 HZ.out).1).trans HZ.out)
   have HX := Lib.hid (HX.out.trans hx)
   clear hx hN
   obtain ⟨⟨d0, d1, d2⟩, f0, f1, f2⟩ := three_cellsY HZ.out
   go_wp2_with fail
   refine bodyPost_ret (v := .tuple #[.agg #[.int .i64 ((manS B).ix : Int), .int .i64 ((manS B).ar : Int), .int .i64 ((manS B).ct : Int)], .int .i64 (manE B)]) ?_ rfl ⟨rfl, three_extY HX.out (Nat.le_refl _) _ _ _⟩
   simp [results, Tryz.results68, go_sem, d0, d1, d2]
 ·have hne : (E != 0) = true := by simpa using h0
  have HE2 : Hid (ldE3 V B E = E ∧ ldS3 V B E = {}) := Lib.hid ⟨by rw [HE.out]; simp [h0], by rw [HF.out]; simp [h0]⟩
  rw [HE2.out.1, HE2.out.2]
  clear h0
  go_enter Tryz.func68, Tryz.ntmps68
  go_wp2_with fail
  refine HLD.out.mono ?_
  rintro e w1 ⟨A, N, rfl, hb, hx⟩
  have HZ := Lib.hid ((hx.block _ (Array.getElem?_eq_some_iff.1 HZ.out).1).trans HZ.out)
  have HX := Lib.hid (HX.out.trans hx)
  clear hb hx
  obtain ⟨⟨d0, d1, d2⟩, f0, f1, f2⟩ := three_cellsY HZ.out
  go_wp2_with fail
  refine bodyPost_ret (v := .tuple #[.agg #[.int .i64 0, .int .i64 0, .int .i64 0], .int .i64 E]) ?_ rfl ⟨rfl, three_extY HX.out (Nat.le_refl _) _ _ _⟩
  simp [results, Tryz.results68, go_sem, d0, d1, d2]
end
section
open Go Go.RowKit
theorem LoadsY.of {w : World} {d : Nat} {F : Nat → Prop} {m : DM} (h : PDisk w d F m) (hL : LaidY w) (r : Int) (hk : knownC m.size r 2 = 0) (hfew : m.waits.length ≤ 1000000) : LoadsY w (some ⟨d, 0, none⟩) r (m.loadV r 2) (m.loadB r 2) (m.loadE r 2) :=
 fun _ hx => Load_of (h.ext hx) (hL.f.ext hx) r 2 hfew hk
theorem LoadsY.no {w : World} {p : Option Addr} {sz : Nat} (hS : ∀ W, Ext w W → Sized W p sz) (hL : LaidY w) (r : Int) (hk : knownC sz r 2 ≠ 0) : LoadsY w p r 0 [] (knownC sz r 2) :=
 fun W hx => (Load_unknown (hS W hx) (hL.f.ext hx).a.t r 2 hk).mono fun _ _ ⟨he, hx'⟩ => ⟨none, 0, he, By.nil_ _, hx'⟩
set_option maxHeartbeats 1600000 in
theorem yopen_inc {p : Option Addr} (r c : Int) (sz : Nat) (w : World) (h0 : sz ≠ 0) (hc : inI 1 c 1099511627776 = false) (hsz : Calls Tryz.prog 33 #[.pointer p] w fun e w' => e = .returned (.int .i64 (sz : Int)) ∧ w = w') :
 Calls Tryz.prog 23 #[.pointer p, .int .i64 r, .int .i64 c] w fun e w' => e = .returned (.tuple #[.pointer none, .int .i64 2]) ∧ Ext w w' := by
 have HS := Lib.hid hsz
 have HC := Lib.hid hc
 have hne : ((sz : Int) == 0) = false := by simpa using h0
 clear hsz hc h0
 go_enter Tryz.func23, Tryz.ntmps23
 go_wp2_with fail
 refine HS.out.mono ?_
 rintro e w1 ⟨rfl, rfl⟩
 go_wp2_with fail
 refine (ywithin_of 1 c 1099511627776 _).mono ?_
 rw [HC.out]
 rintro e w1 ⟨rfl, rfl⟩
 go_wp2_with fail
 go_ret2
 exact ⟨rfl, Ext.refl _⟩
set_option maxHeartbeats 1600000 in
theorem yopen_bad {p : Option Addr} {r : Int} {V : Nat} {B : List Nat} {E : Int} (c : Int) (sz : Nat) (w : World) (h0 : sz ≠ 0) (hc : inI 1 c 1099511627776 = true) (hsz : Calls Tryz.prog 33 #[.pointer p] w fun e w' => e = .returned (.int .i64 (sz : Int)) ∧ w = w')
 (h : LoadsY w p r V B E) (hL : LaidY w) (hB : B.length ≤ 43) (hE : ldE3 V B E ≠ 0) :
 Calls Tryz.prog 23 #[.pointer p, .int .i64 r, .int .i64 c] w fun e w' => e = .returned (.tuple #[.pointer none, .int .i64 (ldE3 V B E)]) ∧ Ext w w' := by
 have HS := Lib.hid hsz
 have HC := Lib.hid hc
 have HD := Lib.hid (yload_of h hL hB)
 obtain ⟨G, hG⟩ : ∃ G, ldE3 V B E = G := ⟨_, rfl⟩
 rw [hG] at HD hE ⊢
 have hne : ((sz : Int) == 0) = false := by simpa using h0
 have hGn : (G != 0) = true := by simpa using hE
 clear hsz hc h0 h hL hB hG hE
 go_enter Tryz.func23, Tryz.ntmps23
 go_wp2_with fail
 refine HS.out.mono ?_
 rintro e w1 ⟨rfl, rfl⟩
 go_wp2_with fail
 refine (ywithin_of 1 c 1099511627776 _).mono ?_
 rw [HC.out]
 rintro e w1 ⟨rfl, rfl⟩
 go_wp2_with fail
 refine HD.out.mono ?_
 rintro e w1 ⟨rfl, hx⟩
 have HX := Lib.hid hx
 clear hx
 go_wp2_with fail
 go_ret2
 exact ⟨rfl, HX.out.alloc _⟩
end
section
open Go Go.RowKit
set_option maxHeartbeats 1000000 in
theorem zparse_own (A : Option Addr) (n c : Nat) (l : List Nat) (w : World) (hL : Laid w) (hb : By w A n c l) (hn : n ≤ 140737488355000) :
 Calls Tryz.prog 222 #[.slice A n c] w fun e w' => ∃ A' N' c', e = .returned (.tuple #[.int .i64 ((paZ l).1 : Nat), .slice A' N' c', .int .i64 (paZ l).2.2]) ∧ By w' A' N' c' (paZ l).2.1 ∧ (∀ p, A' = some p → w.heap.size ≤ p.block) ∧ Ext w w' := by
 have hg := get_by A l n c 0 1 w hL hb (by omega)
 have HB := Lib.hid hb
 have hlen := hb.len
 cases l with
 | nil =>
  rw [getS_nilZ] at hg
  have HG := Lib.hid hg
  clear hL hb hg hlen
  go_enter Tryz.func222, Tryz.ntmps222
  go_wp2_with fail
  refine HG.out.mono ?_
  rintro e w1 ⟨rfl, hx⟩
  have HX := Lib.hid hx
  clear hx
  go_wp2_with fail
  refine bodyPost_ret (v := .tuple #[.int .i64 0, .slice none 0 0, .int .i64 120]) (by simp [results, Tryz.results222, go_sem]) rfl ?_
  exact ⟨none, 0, 0, rfl, By.nil_ _, (fun p hp => by cases hp), HX.out⟩
 | cons x r =>
  rw [getS_cons] at hg
  have HG := Lib.hid hg
  have e : paZ (x :: r) = if 1 ≤ x ∧ x ≤ 8 ∧ r.length ≤ 80 then (x, r, 0) else (0, [], 120) := rfl
  rw [e]
  rw [List.length_cons] at hlen
  have hx9 : x < 256 := hb.rd.lt x (List.mem_cons_self ..)
  clear hL hb hg e
  cases hin : inZ 1 (x : Int) 8 with
  | false =>
   have hno : ¬ (1 ≤ x ∧ x ≤ 8 ∧ r.length ≤ 80) := fun h => by
    have := inZ_iff.2 (show (1 : Int) ≤ (x : Int) ∧ (x : Int) ≤ 8 by omega)
    rw [hin] at this
    cases this
   rw [if_neg hno]
   have HIN := Lib.hid hin
   clear hno hin hlen
   go_enter Tryz.func222, Tryz.ntmps222
   go_wp2_with fail
   refine HG.out.mono ?_
   rintro e w1 ⟨rfl, hx⟩
   have HX := Lib.hid hx
   clear hx
   go_wp2_with fail
   refine (zcount_of _ _).mono ?_
   rw [HIN.out]
   rintro e w2 ⟨rfl, rfl⟩
   go_wp2_with fail
   refine bodyPost_ret (v := .tuple #[.int .i64 0, .slice none 0 0, .int .i64 120]) (by simp [results, Tryz.results222, go_sem]) rfl ?_
   exact ⟨none, 0, 0, rfl, By.nil_ _, (fun p hp => by cases hp), HX.out⟩
  | true =>
   have hx8 := inZ_iff.1 hin
   have HIN := Lib.hid hin
   clear hin
   by_cases h80 : 81 < n
   ·rw [if_neg (by omega)]
    clear hlen hx8
    go_enter Tryz.func222, Tryz.ntmps222
    go_wp2_with fail
    refine HG.out.mono ?_
    rintro e w1 ⟨rfl, hx⟩
    have HX := Lib.hid hx
    clear hx
    go_wp2_with fail
    refine (zcount_of _ _).mono ?_
    rw [HIN.out]
    rintro e w2 ⟨rfl, rfl⟩
    go_wp2_with fail
    refine bodyPost_ret (v := .tuple #[.int .i64 0, .slice none 0 0, .int .i64 120]) (by simp [results, Tryz.results222, go_sem]) rfl ?_
    exact ⟨none, 0, 0, rfl, By.nil_ _, (fun p hp => by cases hp), HX.out⟩
   ·rw [if_pos (by omega)]
    have hcut := fun W => zcut_one A n c (by omega) W
    have hn1 : 1 ≤ n := by omega
    clear hlen hx8
    go_enter Tryz.func222, Tryz.ntmps222
    go_wp2_with fail
    refine HG.out.mono ?_
    rintro e w1 ⟨rfl, hx⟩
    have HX := Lib.hid hx
    have HB1 := Lib.hid (By.tail1 (HB.out.ext hx))
    clear hx
    go_wp2_with fail
    refine (zcount_of _ _).mono ?_
    rw [HIN.out]
    rintro e w2 ⟨rfl, rfl⟩
    go_wp2_with fail
    refine (sclone_by _ _ _ _ _ HB1.out (by omega)).mono ?_
    rintro e w3 ⟨A', c', rfl, hby, hx, hown⟩
    have HFR : Hid (∀ p, A' = some p → w.heap.size ≤ p.block) := Lib.hid fun p hp => Nat.le_trans HX.out.size ((hown.lt p.block (by rw [hp]; rfl)).1)
    have HX3 := Lib.hid (HX.out.trans hx)
    have HBY := Lib.hid hby
    clear hby hx hown
    go_wp2_with fail
    refine bodyPost_ret (v := .tuple #[.int .i64 (x : Int), .slice A' (n - 1) c', .int .i64 0]) (by simp [results, Tryz.results222, go_sem]) rfl ?_
    exact ⟨A', n - 1, c', rfl, HBY.out, HFR.out, HX3.out⟩
end
section
open Go Go.RowKit
def DM.gotL (m : DM) (S : Int) : Nat → List Nat
 | 0 => []
 | k + 1 => DM.gotL m S k ++ (m.read (S + (k : Int))).1
def DM.gotB (m : DM) (S : Int) (W : Nat) : Bool := anyIn (fun s => decide ((m.read s).2 ≠ 0)) S W
def DM.plcL (m : DM) (S : Int) (W : Nat) : List Nat := if m.gotB S W = true then [] else m.gotL S W
theorem read_bad {m : DM} {s : Int} (h : (m.read s).2 ≠ 0) : (m.read s).1 = [] := by
 unfold DM.read at h ⊢
 split at h
 ·rename_i hu; rw [if_pos hu]
 ·rename_i hu
  rw [if_neg hu]
  split at h
  ·rename_i hh; rw [if_pos hh]
  ·rename_i hh
   rw [if_neg hh]
   split at h
   ·exact absurd rfl h
   ·split at h
    ·rename_i hd; rw [if_pos hd]
    ·exact absurd rfl h
theorem read_goodS {m : DM} (hok : m.Ok) {s : Int} (h : (m.read s).2 = 0) : Sect (m.read s).1 := by
 unfold DM.read at h ⊢
 split at h
 ·cases h
 ·rename_i hu
  rw [if_neg hu]
  split at h
  ·cases h
  ·rename_i hh
   rw [if_neg hh]
   split at h
   ·rename_i b hl
    exact (hok.waits _ (lastW_mem hl)).2
   ·split at h
    ·cases h
    ·rename_i hd
     rw [if_neg hd]
     have hlt := DM.has_lt hh
     rw [List.getD_eq_getElem?_getD, List.getElem?_eq_getElem hlt, Option.getD_some]
     exact hok.rests _ (List.getElem_mem hlt)
theorem read_new {m : DM} (hok : m.Ok) (s : Int) : (∀ b ∈ (m.read s).1, b < 256) ∧ (m.read s).1.length ≤ 64 := by
 by_cases h : (m.read s).2 = 0
 ·have := read_goodS hok h
  exact ⟨this.2, by rw [this.1]; omega⟩
 ·rw [read_bad h]
  exact ⟨fun b hb => (by cases hb), by simp⟩
theorem read_nilS {m : DM} (hok : m.Ok) {s : Int} : (m.read s).1 = [] ↔ (m.read s).2 ≠ 0 := by
 refine ⟨fun h h0 => ?_, read_bad⟩
 have := (read_goodS hok h0).1
 rw [h] at this
 cases this
theorem stM_nil (r g p : Int) : stM [] r g p = 2 ∧ (∀ k, mfl [] r g p k = 0) ∧ mbl [] r g p = [] := by
 have hz : szB [] = false := by decide
 have hg := size_bad hz
 refine ⟨nilW_bad r g p, fun k => ?_, ?_⟩
 ·rw [(mine_bad hg).2.1, ofl_no hg]
 ·rw [(mine_bad hg).2.2, obl_no hg]
end
section
open Go Go.RowKit
section
variable {w W W' : World} {g g1 : Nat} {x y a b d : Int}
end
end
section
open Go Go.RowKit
theorem mbl_len (l : List Nat) (x y z : Int) : (mbl l x y z).length ≤ l.length := by
 unfold mbl obl
 split
 ·split
  ·unfold bodyOf; rw [List.length_take, List.length_drop]; omega
  ·simp
 ·simp
section
variable {w : World} {g d s : Nat} {r inc : Int} {F : Nat → Prop} {m : DM}
end
end
section
open Go Go.RowKit
theorem plcL_chk {m : DM} (hok : m.Ok) (p : Int) : m.plcL (firstS 5 p) 2 = m.kb p := by
 unfold DM.plcL DM.gotB DM.kb pair2
 rw [anyIn_succ, anyIn_succ, anyIn_zero, Bool.false_or]
 simp only [DM.gotL, List.nil_append, Int.natCast_zero, Int.add_zero, read_nilS hok, Int.natCast_one]
 by_cases h : (m.read (firstS 5 p)).2 = 0 <;> by_cases h1 : (m.read (firstS 5 p + 1)).2 = 0 <;> simp [h, h1]
theorem keepShelf {V W : World} {g d : Nat} {r inc : Int} {s : ShM} (k : Hid (Ext V.drew W)) (h : Hid (ShAt V g d r inc s)) : W.cell? ⟨g, 1, none⟩ = some (.pointer (some ⟨d, 0, none⟩)) := (h.out.ext ((Below.drew (Ext.refl V)).trans k.out)).cells.2.1
theorem okC_nil (r : Int) (s : ShM) (k : Nat) : okC r s k [] = false := by
 unfold okC
 rw [(stM_nil r 5 _).1]
 exact decide_eq_false (fun h => by omega)
theorem three_range {w : World} {g o : Nat} {x y z : Value} (h0 : w.cell? ⟨g, o, none⟩ = some x) (h1 : w.cell? ⟨g, o + 1, none⟩ = some y) (h2 : w.cell? ⟨g, o + 2, none⟩ = some z) : w.rangeAt g o [x, y, z] := fun j v hv => by
 match j, hv with
 | 0, hv => cases hv; exact h0
 | 1, hv => cases hv; exact h1
 | 2, hv => cases hv; exact h2
def ReadY (m : DM) (r : Int) (s : ShM) (k : Nat) (w : World) (e : Ending) (w' : World) : Prop := ∃ A N c, e = .returned (.tuple #[.slice A N c, .int .i64 (if m.chB r s k = true then 0 else 130)]) ∧ By w' A N c (m.chL r s k) ∧ (∀ p, A = some p → w.heap.size ≤ p.block) ∧ Ext w w'
theorem ReadY.no {m : DM} {r : Int} {s : ShM} {k : Nat} {w : World} (h : m.chB r s k = false) (w' : World) (hx : Ext w w') : ReadY m r s k w (.returned (.tuple #[.slice none 0 0, .int .i64 130])) w' :=
 ⟨none, 0, 0, by rw [if_neg (by rw [h]; simp)], by
  have e : m.chL r s k = [] := by
   unfold DM.chB at h
   unfold DM.chL bytC
   rw [if_neg (by rw [h]; simp)]
  rw [e]
  exact By.nil_ _, fun p hp => (by cases hp), hx⟩
set_option maxHeartbeats 6400000 in
theorem yread_of {w : World} {g d : Nat} {r inc : Int} {s : ShM} {F : Nat → Prop} {m : DM} (h : ShAt w g d r inc s) (hd : PDisk w d F m) (hL : LaidY w) (hct : s.ct ≤ 8) (har : s.ar ≤ 1) (k : Nat) (hk : k < s.ct) (hfew : m.waits.length ≤ 1000000) :
 Calls Tryz.prog 174 #[.pointer (some ⟨g, 0, none⟩), .int .i64 (k : Int)] w (ReadY m r s k w) := by
 obtain ⟨ix, ar, ct⟩ := s
 dsimp only at hct har hk
 obtain ⟨i0, hi, hz0, hz1, hz2⟩ := info_parts byte_info
 obtain ⟨p, hp⟩ : ∃ p : Nat, 8 * ar + k = p := ⟨_, rfl⟩
 have hp16 : p < 16 := by omega
 have hS := first5 hp16
 have hfb : (sC p : Int) ≤ 300 := by have := sC_lt hp16; omega
 have hplc := plcL_chk hd.ok (p : Int)
 rw [hS] at hplc
 have hchb : m.chB r ⟨ix, ar, ct⟩ k = okC r ⟨ix, ar, ct⟩ k (m.kb (p : Int)) := by unfold DM.chB; dsimp only; rw [hp]
 have hchl : m.chL r ⟨ix, ar, ct⟩ k = bytC r ⟨ix, ar, ct⟩ k (m.kb (p : Int)) := by unfold DM.chL; dsimp only; rw [hp]
 have hfail : ∀ j : Nat, j < 2 → (m.read ((sC p : Int) + (j : Int))).2 ≠ 0 → m.chB r ⟨ix, ar, ct⟩ k = false := fun j hj hne => by
  have : m.plcL (sC p : Int) 2 = [] := by
   unfold DM.plcL
   rw [if_pos (by unfold DM.gotB; exact anyIn_iff.2 ⟨_, by simpa using hne, by omega, by omega⟩)]
  rw [hchb, ← hplc, this, okC_nil]
 have hgood : m.gotB (sC p : Int) 2 = false → m.gotL (sC p : Int) 2 = m.kb (p : Int) := fun hh => by
  rw [← hplc]
  unfold DM.plcL
  rw [if_neg (by rw [hh]; simp)]
 have HFAIL := Lib.hid hfail
 have HGOOD := Lib.hid hgood
 have HCB := Lib.hid (And.intro hchb hchl)
 have HD := Lib.hid hd
 have H := Lib.hid h
 have HL := Lib.hid hL
 have HFW := Lib.hid hfew
 have HS := Lib.hid hS
 have HP := Lib.hid hp
 have NO : Hid (m.chB r ⟨ix, ar, ct⟩ k = false → ∀ w', Ext w w' → ReadY m r ⟨ix, ar, ct⟩ k w (.returned (.tuple #[.slice none 0 0, .int .i64 130])) w') := Lib.hid fun h w' hx => ReadY.no h w' hx
 have hpl := yplace_of ix ar ct k har (by omega) w
 rw [hp] at hpl
 have HPL := Lib.hid hpl
 obtain ⟨S, hSS⟩ : ∃ S : Int, (sC p : Int) = S := ⟨_, rfl⟩
 rw [hSS] at HFAIL HGOOD HS hfb
 have hS0 : 0 ≤ S := by rw [← hSS]; omega
 obtain ⟨c0, c1, c2, c3, c4, c5, c6⟩ := h.cells
 dsimp only at c4 c5 c6
 clear h hd hL hfew hfail hgood hchb hchl hplc hS hpl hp c0 c1 c2 c3
 go_enter Tryz.func174, Tryz.ntmps174
 go_wp2_with fail
 refine HPL.out.mono ?_
 rintro e w1 ⟨rfl, hx⟩
 have HX1 := Lib.hid hx
 clear hx c4 c5 c6
 go_wp2_with fail
 refine (wide_any 5 _ (HL.out.ext HX1.out).f.a.t).mono ?_
 rw [show wid 5 = 2 from rfl]
 rintro e w2 ⟨rfl, hx⟩
 have HG := Lib.hid (Gath.start w2)
 have HE0 : Hid (Ext w w2) := Lib.hid (HX1.out.trans hx)
 clear hx
 go_wp2_with fail
 go_loopw [7, 24] (fun v i wr => ∃ j : Nat, j ≤ 2 ∧ i = .int .i64 j ∧ Hid (Gath w2 wr v (m.gotL S j) j) ∧ Hid (m.gotB S j = false)) (fun _ i _ => 2 - (intOf i).toNat)
 case atStart => exact ⟨0, Nat.zero_le _, rfl, HG, Lib.hid rfl⟩
 case round =>
  obtain ⟨j, hj, rfl, HG, HLO⟩ := hrel
  obtain ⟨A, c, rfl, hby⟩ := HG.out.form
  clear hby
  by_cases hlt : j < 2
  ·have hn := read_new HD.out.ok (S + (j : Int))
   have hm : (m.gotL S (j + 1)) = m.gotL S j ++ (m.read (S + (j : Int))).1 := rfl
   have HM := Lib.hid hm
   have HN := Lib.hid hn
   have hfew := HG.out.few
   have hlo : (m.read (S + (j : Int))).2 = 0 → m.gotB S (j + 1) = false := fun h0 => by
    have := anyIn_succ (fun s => decide ((m.read s).2 ≠ 0)) S j
    have h2 : anyIn (fun s => decide ((m.read s).2 ≠ 0)) S j = false := HLO.out
    unfold DM.gotB
    rw [this, h2]
    simp [h0]
   have hany := HFAIL.out j hlt
   have HLO2 := Lib.hid hlo
   have HANY := Lib.hid hany
   have hcell := (H.out.ext (HE0.out.trans HG.out.ext)).cells.2.1
   have HCL := Lib.hid (H.out.ext (HE0.out.trans HG.out.ext))
   have HXD : Hid (Ext w wr.drew) := Lib.hid (Below.drew (HE0.out.trans HG.out.ext))
   have HF1 := Lib.hid (first_any 5 (p : Int) wr.drew (HL.out.ext HXD.out).f.a.t)
   rw [HS.out] at HF1
   have HRD : Hid (∀ V, Hid (Ext wr.drew V) → Calls Tryz.prog 220 #[.pointer (some ⟨d, 0, none⟩), .int .i64 (IntKind.i64.wrap (S + (j : Int)))] V fun e w' => ∃ A n, e = .returned (.tuple #[.slice A n n, .int .i64 (m.read (S + (j : Int))).2]) ∧ New V.heap.size w' A n (m.read (S + (j : Int))).1 ∧ Ext V w') := Lib.hid fun V hV => by rw [wrap_i64 (by omega) (by omega)]; exact read_pd (HD.out.ext (HXD.out.trans hV.out)) _ HFW.out
   clear hm hn hlo hany
   generalize m.gotL S j = L at *
   generalize (m.read (S + (j : Int))).1 = L2 at *
   generalize (m.read (S + (j : Int))).2 = E2 at *
   go_wp2_with fail
   go_region_held3 (fun w' => w'.cell? ⟨g, 1, none⟩ = some (.pointer (some ⟨d, 0, none⟩)))
    (first | with_reducible exact hcell | exact keepShelf (by assumption) HCL | go_keep)
    (first
     | (go_at_call 59; ((with_reducible refine HF1.out.mono ?_); rintro e w4 ⟨rfl, hx⟩; have HXk := Lib.hid hx; clear hx))
     | (go_at_call 220; ((with_reducible refine (HRD.out _ HXk).mono ?_); rintro e w3 ⟨A2, n2, rfl, hnew, hx⟩; have HX3 : Hid (Ext wr.drew w3) := Lib.hid (HXk.out.trans hx); have HNEW := Lib.hid hnew; clear hx hnew)))
   obtain rfl : n2 = L2.length := HNEW.out.len.symm
   have HB := Lib.hid HNEW.out.by
   have HGd : Hid (Gath w2 wr.drew (.slice A L.length c) L j) := Lib.hid (HG.out.more (Below.drew (Ext.refl wr)))
   have HG := Lib.hid (HGd.out.more HX3.out)
   by_cases h0 : E2 = 0
   ·subst h0
    have hl2 := HN.out.2
    have hsz := HG.out.ext.size
    go_wp2_with (at_builtin; refine wpList_append_by rfl _ _ 45 rfl w2.heap.size 5 i0 Tryz.underlying45 hi hz0 hz1 hz2 _ L.length (vb L) rfl HG.out.own A2 L2.length L2.length L2 rfl HB.out (by omega) hsz ?_)
    rintro v' w4 hown hgrow
    have HG := Lib.hid (HG.out.app hgrow hown HN.out.1 HN.out.2)
    clear hown hgrow
    go_wp2_with fail
    go_roundw
    case rel => exact ⟨j + 1, by omega, by go_num, by rw [HM.out]; exact HG, Lib.hid (HLO2.out trivial)⟩
    case measure => simp [intOf]; omega
   ·have hne : (E2 != 0) = true := by simpa using h0
    have HNE := Lib.hid h0
    clear h0
    go_wp2_with fail
    refine bodyPost_ret (v := .tuple #[.slice none 0 0, .int .i64 130]) (by simp [results, Tryz.results174, go_sem]) rfl ?_
    exact NO.out (HANY.out HNE.out) _ (HE0.out.trans HG.out.ext)
  ·obtain rfl : j = 2 := by omega
   have hcl := (H.out.ext (HE0.out.trans HG.out.ext)).cells.2.2.1
   obtain ⟨A2, cc2, e2, hby⟩ := HG.out.form
   injection e2 with e21 _ e23
   subst e21; subst e23
   have HBY := Lib.hid hby
   have hKB := HGOOD.out HLO.out
   obtain ⟨L, hLe⟩ : ∃ L, m.gotL S 2 = L := ⟨_, rfl⟩
   rw [hLe] at hKB HBY HG ⊢
   rw [← hKB] at HCB
   clear hby HFAIL HGOOD hKB
   have hlen : L.length ≤ 128 := by have := HG.out.few; omega
   have HML := Lib.hid (Nat.le_trans (mbl_len L r 5 (p : Int)) hlen)
   have HE : Hid (Ext w wr) := Lib.hid (HE0.out.trans HG.out.ext)
   have HMI : Hid (∀ V, Ext wr V → Calls Tryz.prog 221 #[.slice A L.length c, .int .i64 r, .int .i64 5, .int .i64 (p : Int)] V fun e w' => ∃ A' N, e = .returned (.tuple #[.int .u8 (stM L r 5 (p : Int)), .agg #[.int .i64 (mfl L r 5 (p : Int) 0), .int .i64 (mfl L r 5 (p : Int) 1), .int .i64 (mfl L r 5 (p : Int) 2), .int .i64 (mfl L r 5 (p : Int) 3), .int .i64 (mfl L r 5 (p : Int) 4)], .slice A' N N]) ∧ By w' A' N N (mbl L r 5 (p : Int)) ∧ Ext V w') := Lib.hid fun V hV => mine_any A L.length c L r 5 (p : Int) V (HL.out.ext (HE.out.trans hV)).f (HBY.out.ext hV)
   have hok : okC r ⟨ix, ar, ct⟩ k L = decide (stM L r 5 (p : Int) = 1 ∧ mfl L r 5 (p : Int) 3 = ix ∧ (paZ (mbl L r 5 (p : Int))).2.2 = 0 ∧ (paZ (mbl L r 5 (p : Int))).1 = ct ∧ fitsC k ct (paZ (mbl L r 5 (p : Int))).2.1.length = true) := by unfold okC; dsimp only; rw [HP.out]
   have hby' : bytC r ⟨ix, ar, ct⟩ k L = if okC r ⟨ix, ar, ct⟩ k L = true then (paZ (mbl L r 5 (p : Int))).2.1 else [] := by unfold bytC; dsimp only; rw [HP.out]
   rw [hby', hok] at HCB
   clear hok hby'
   have HZP := Lib.hid (fun (A : Option Addr) (n c : Nat) (V : World) (hv : Ext w V) (hb : By V A n c (mbl L r 5 (p : Int))) (hn : n ≤ 140737488355000) => zparse_own A n c (mbl L r 5 (p : Int)) V (HL.out.ext hv).f.a.o hb hn)
   clear hlen HE0 HG
   generalize stM L r 5 (p : Int) = st at *
   generalize mfl L r 5 (p : Int) = fl at *
   generalize mbl L r 5 (p : Int) = B at *
   go_wp2_with fail
   refine (HMI.out _ (Ext.refl wr)).mono ?_
   rintro e w3 ⟨A2, N2, rfl, hb, hx⟩
   have HX3 := Lib.hid (HE.out.trans hx)
   have HB := Lib.hid hb
   have hN := hb.len
   have hN : N2 ≤ 140737488355000 := by have := hb.len; have := HML.out; omega
   have HN2 := Lib.hid hN
   clear hb hx hN
   go_wp2_with fail
   have hE4 : Ext w3 (w3.alloc (.cells #[.int .i64 (fl 0 : Int), .int .i64 (fl 1 : Int), .int .i64 (fl 2 : Int), .int .i64 (fl 3 : Int), .int .i64 (fl 4 : Int)] 44)) := (Ext.refl w3).alloc _
   have hz := heap_alloc_new w3 (.cells #[.int .i64 (fl 0 : Int), .int .i64 (fl 1 : Int), .int .i64 (fl 2 : Int), .int .i64 (fl 3 : Int), .int .i64 (fl 4 : Int)] 44)
   have hlt4 : w3.heap.size < (w3.alloc (.cells #[.int .i64 (fl 0 : Int), .int .i64 (fl 1 : Int), .int .i64 (fl 2 : Int), .int .i64 (fl 3 : Int), .int .i64 (fl 4 : Int)] 44)).heap.size := (Array.getElem?_eq_some_iff.1 hz).1
   generalize (w3.alloc (.cells #[.int .i64 (fl 0 : Int), .int .i64 (fl 1 : Int), .int .i64 (fl 2 : Int), .int .i64 (fl 3 : Int), .int .i64 (fl 4 : Int)] 44)) = w4 at *
   obtain ⟨b, hb⟩ : ∃ b, w3.heap.size = b := ⟨_, rfl⟩
   rw [hb] at hz hlt4 ⊢
   have HX4 : Hid (Ext w w4) := Lib.hid (HX3.out.trans hE4)
   have HB4 := Lib.hid (HB.out.ext hE4)
   have HZ := Lib.hid (And.intro hz hlt4)
   clear hz hlt4 hE4 hb
   refine (HZP.out A2 N2 N2 w4 HX4.out HB4.out HN2.out).mono ?_
   rintro e w5 ⟨A4, N4, c4, rfl, hb5, hfr, hx⟩
   have HX5 : Hid (Ext w w5) := Lib.hid (HX4.out.trans hx)
   have HS0 : Hid (∀ V, Ext w5 V → (V.cell? ⟨b, 3, none⟩ = some (.int .i64 (fl 3 : Int)) ∧ V.cell? ⟨g, 4, none⟩ = some (.int .i64 (ix : Int)) ∧ V.cell? ⟨g, 5, none⟩ = some (.int .i64 (ar : Int)) ∧ V.cell? ⟨g, 6, none⟩ = some (.int .i64 (ct : Int)))) := Lib.hid fun V hV => by
    have hr : V.heap[b]? = some (.cells #[.int .i64 (fl 0 : Int), .int .i64 (fl 1 : Int), .int .i64 (fl 2 : Int), .int .i64 (fl 3 : Int), .int .i64 (fl 4 : Int)] 44 (0, 0)) := ((hx.trans hV).block _ HZ.out.2).trans HZ.out.1
    have hc := (H.out.ext (HX5.out.trans hV)).cells
    exact ⟨cell_of_row V b 3 _ _ _ hr, hc.2.2.2.2.1, hc.2.2.2.2.2.1, hc.2.2.2.2.2.2⟩
   have HFR : Hid (∀ q, A4 = some q → w.heap.size ≤ q.block) := Lib.hid fun q hq => Nat.le_trans HX4.out.size (hfr q hq)
   have HB5 := Lib.hid hb5
   have hl5 := hb5.len
   clear hx hfr hb5 HZP HMI HB HB4 HBY
   generalize (paZ B).1 = xs at *
   generalize (paZ B).2.1 = cs at *
   generalize (paZ B).2.2 = er at *
   obtain rfl : N4 = cs.length := hl5.symm
   have HMB : Hid (∀ V, Ext w5 V → Calls Tryz.prog 85 #[.agg #[.int .i64 (ix : Int), .int .i64 (ar : Int), .int .i64 (ct : Int)], .int .i64 (k : Int), .slice A4 cs.length c4] V fun e w' => e = .returned (.bool (fitsZ (k : Int) ct cs.length)) ∧ Ext V w') := Lib.hid fun V hV => ymay_of ix ar ct (Lib.hid hct).out (k : Int) A4 cs.length c4 cs V (HB5.out.ext hV)
   clear hl5
   obtain ⟨s1, s2, s3, s4⟩ := HS0.out _ (Ext.refl w5)
   by_cases q : (st = 1 ∧ fl 3 = ix) ∧ er = 0 ∧ xs = ct
   rotate_left
   ·have HNO : Hid (m.chB r ⟨ix, ar, ct⟩ k = false) := Lib.hid (by rw [HCB.out.1]; exact decide_eq_false (fun hh => q ⟨⟨hh.1, hh.2.1⟩, hh.2.2.1, hh.2.2.2.1⟩))
    have hq : ((st : Int) != 1) = true ∨ ((st : Int) != 1) = false ∧ ((fl 3 : Int) != (ix : Int)) = true ∨ ((st : Int) != 1) = false ∧ ((fl 3 : Int) != (ix : Int)) = false ∧ (er != 0) = true ∨ ((st : Int) != 1) = false ∧ ((fl 3 : Int) != (ix : Int)) = false ∧ (er != 0) = false ∧ ((xs : Int) != (ct : Int)) = true := by
     simp only [bne_iff_ne, bne_eq_false_iff_eq]
     omega
    clear q
    rcases hq with e0 | ⟨e0, e1⟩ | ⟨e0, e1, e2⟩ | ⟨e0, e1, e2, e3⟩
    all_goals
     go_wp2_with fail
     go_quiet (fail)
     go_wp2_with fail
     refine bodyPost_ret (v := .tuple #[.slice none 0 0, .int .i64 130]) (by simp [results, Tryz.results174, go_sem]) rfl ?_
     exact NO.out HNO.out _ (by first | exact HX5.out | exact HX5.out.drew | exact HX5.out.drewN _)
   obtain ⟨⟨q0, q1⟩, q2, q3⟩ := q
   have e0 : ((st : Int) != 1) = false := by simp [q0]
   have e1 : ((fl 3 : Int) != (ix : Int)) = false := by simp [q1]
   have e2 : (er != 0) = false := by simp [q2]
   have e3 : ((xs : Int) != (ct : Int)) = false := by simp [q3]
   have hXd : Ext w5 w5.drew := Below.drew (Ext.refl w5)
   have hS0 := HS0.out _ hXd
   obtain ⟨fz, hfz⟩ : ∃ fz, fitsZ (k : Int) ct cs.length = fz := ⟨_, rfl⟩
   rw [hfz] at HMB
   have HRT : Hid (∀ w', Ext w5 w' → Ext w w' → ReadY m r ⟨ix, ar, ct⟩ k w (.returned (if fz = true then .tuple #[.slice A4 cs.length c4, .int .i64 0] else .tuple #[.slice none 0 0, .int .i64 130])) w') := Lib.hid fun w' h5 hw' => by
    cases fz with
    | true =>
     have hd : st = 1 ∧ fl 3 = ix ∧ er = 0 ∧ xs = ct ∧ fitsC k ct cs.length = true := ⟨q0, q1, q2, q3, by rw [← fitsZ_nat]; exact hfz⟩
     have hch : m.chB r ⟨ix, ar, ct⟩ k = true := by rw [HCB.out.1]; exact decide_eq_true hd
     have hcl : m.chL r ⟨ix, ar, ct⟩ k = cs := by rw [HCB.out.2, if_pos (decide_eq_true hd)]
     exact ⟨A4, cs.length, c4, by rw [if_pos rfl, if_pos hch], by rw [hcl]; exact HB5.out.ext h5, HFR.out, hw'⟩
    | false => exact NO.out (by rw [HCB.out.1]; exact decide_eq_false (fun hh => by have := hh.2.2.2.2; rw [← fitsZ_nat, hfz] at this; cases this)) _ hw'
   clear q0 q1 q2 q3 hfz s1 s2 s3 s4
   cases fz
   all_goals
    go_wp2_with fail
    go_region_held3 (fun w' => w'.cell? ⟨b, 3, none⟩ = some (.int .i64 (fl 3 : Int)) ∧ w'.cell? ⟨g, 4, none⟩ = some (.int .i64 (ix : Int)) ∧ w'.cell? ⟨g, 5, none⟩ = some (.int .i64 (ar : Int)) ∧ w'.cell? ⟨g, 6, none⟩ = some (.int .i64 (ct : Int)))
     (first | with_reducible exact hS0 | exact HS0.out _ (hXd.trans HX6.out))
     (first | (go_at_call 85; ((with_reducible refine (HMB.out _ hXd).mono ?_); rintro e w6 ⟨rfl, hx⟩; have HX6 := Lib.hid hx; clear hx)))
    go_wp2_with fail
    refine bodyPost_ret (by simp [results, Tryz.results174, go_sem]; rfl) rfl ?_
    exact HRT.out _ (hXd.trans HX6.out) (Ext.trans (Below.drew HX5.out) HX6.out)
end
section
open Go Go.RowKit
theorem ext_cellZ {w w' : World} {a : Addr} {v : Value} (h : Ext w w') (hc : w.cell? a = some v) : w'.cell? a = some v := (Below.cell h (p := a) (World.block_lt_of_cell? w _ hc)).trans hc
theorem own_one (w : World) (k : Nat) : (w.alloc (.cells #[.int .u8 (k : Int)] 5)).ownsRow w.heap.size 5 1 (.slice (some ⟨w.heap.size, 0, none⟩) 1 1) 1 (vb [k]) :=
 ⟨by simp [vb], .inr ⟨w.heap.size, 1, #[.int .u8 (k : Int)], rfl, Nat.le_refl _, heap_alloc_new w _, Nat.le_refl _, by unfold maxLen; omega, rfl, by simp [vb]⟩⟩
set_option maxHeartbeats 1000000 in
theorem zrprint_any (count : Int) (A : Option Addr) (n c : Nat) (l : List Nat) (w : World) (hb : By w A n c l) (hn : n ≤ 140737488355000) :
 Calls Tryz.prog 169 #[.int .i64 count, .slice A n c] w fun e w' => ∃ A' N' c', e = .returned (.tuple #[.slice A' N' c', .int .i64 (prZE count l)]) ∧ By w' A' N' c' (prZL count l) ∧ Ext w w' := by
 obtain ⟨i0, hi, hz0, hz1, hz2⟩ := info_parts byte_info
 have HB := Lib.hid hb
 have hlen := hb.len
 clear hb
 cases hz : bdZ count l with
 | true =>
  obtain ⟨h1, h8, h80⟩ := bdZ_iff.1 hz
  obtain ⟨k, rfl⟩ := Int.eq_ofNat_of_zero_le (show 0 ≤ count by omega)
  have HZ := Lib.hid hz
  have hk1 : 1 ≤ k := by omega
  have hk : k ≤ 8 := by omega
  have hn80 : n ≤ 80 := by omega
  have hwr : IntKind.u8.wrap (k : Int) = (k : Int) := by simp [IntKind.wrap, go_sem]; omega
  have HO := Lib.hid (own_one w k)
  have HX := Lib.hid ((Ext.refl w).alloc (.cells #[.int .u8 (k : Int)] 5))
  clear hz h1 h8 h80 hlen
  go_enter Tryz.func169, Tryz.ntmps169
  go_wp2_with (at_builtin; refine wpList_append_by rfl _ _ 45 rfl w.heap.size 5 i0 Tryz.underlying45 hi hz0 hz1 hz2 _ 1 (vb [k]) rfl HO.out A n c l rfl (HB.out.ext HX.out) (by omega) (Ext.size HX.out) ?_)
  intro v2 w2 hown hg
  obtain ⟨hx, A2, c2, rfl, hb2, ho2⟩ := app_step (l1 := [k]) HX.out HO.out hg hown (by intro b hb; rw [List.mem_singleton] at hb; omega) HB.out.rd.lt
  have HX2 := Lib.hid hx
  have HB2 := Lib.hid hb2
  clear hx hb2 ho2 hown hg
  go_wp2_with fail
  refine bodyPost_ret (v := .tuple #[.slice A2 (1 + n) c2, .int .i64 0]) (by simp [results, Tryz.results169, go_sem]) rfl ?_
  exact ⟨A2, 1 + n, c2, by unfold prZE; rw [HZ.out]; rfl, by unfold prZL; rw [HZ.out]; simpa using HB2.out, HX2.out⟩
 | false =>
  have hno : count < 1 ∨ 8 < count ∨ 80 < n := by
   by_cases a : 1 ≤ count
   ·by_cases b : count ≤ 8
    ·by_cases d : n ≤ 80
     ·have := (bdZ_iff (count := count) (c := l)).2 ⟨a, b, by omega⟩
      rw [hz] at this
      cases this
     ·omega
    ·omega
   ·omega
  have HZ := Lib.hid hz
  clear hz
  by_cases a : count < 1
  ·clear hno
   go_enter Tryz.func169, Tryz.ntmps169
   go_wp2_with fail
   refine bodyPost_ret (v := .tuple #[.slice none 0 0, .int .i64 2]) (by simp [results, Tryz.results169, go_sem]) rfl ?_
   exact ⟨none, 0, 0, by unfold prZE; rw [HZ.out]; rfl, by unfold prZL; rw [HZ.out]; exact By.nil_ _, Ext.refl _⟩
  ·by_cases b : 8 < count
   ·clear hno
    go_enter Tryz.func169, Tryz.ntmps169
    go_wp2_with fail
    refine bodyPost_ret (v := .tuple #[.slice none 0 0, .int .i64 2]) (by simp [results, Tryz.results169, go_sem]) rfl ?_
    exact ⟨none, 0, 0, by unfold prZE; rw [HZ.out]; rfl, by unfold prZL; rw [HZ.out]; exact By.nil_ _, Ext.refl _⟩
   ·have hn81 : 80 < n := by omega
    clear hno
    go_enter Tryz.func169, Tryz.ntmps169
    go_wp2_with fail
    refine bodyPost_ret (v := .tuple #[.slice none 0 0, .int .i64 2]) (by simp [results, Tryz.results169, go_sem]) rfl ?_
    exact ⟨none, 0, 0, by unfold prZE; rw [HZ.out]; rfl, by unfold prZL; rw [HZ.out]; exact By.nil_ _, Ext.refl _⟩
theorem paZ_no {x : Nat} {r : List Nat} (h : ¬ (1 ≤ x ∧ x ≤ 8 ∧ r.length ≤ 80)) : paZ (x :: r) = (0, [], 120) := if_neg h
theorem paZ_yes {x : Nat} {r : List Nat} (h : 1 ≤ x ∧ x ≤ 8 ∧ r.length ≤ 80) : paZ (x :: r) = (x, r, 0) := if_pos h
theorem paZ_ret {L : List Nat} (h : paZ L = (0, [], 120)) {w : World} (w' : World) (hx : Ext w w') : ∃ A' N' c', Ending.returned (.tuple #[.int .i64 0, .slice none 0 0, .int .i64 120]) = Ending.returned (.tuple #[.int .i64 ((paZ L).1 : Nat), .slice A' N' c', .int .i64 (paZ L).2.2]) ∧ By w' A' N' c' (paZ L).2.1 ∧ Ext w w' := by
 rw [h]
 exact ⟨none, 0, 0, rfl, By.nil_ _, hx⟩
set_option maxHeartbeats 1000000 in
theorem zrparse_any (A : Option Addr) (n c : Nat) (l : List Nat) (w : World) (hb : By w A n c l) (hn : n ≤ 140737488355000) :
 Calls Tryz.prog 177 #[.slice A n c] w fun e w' => ∃ A' N' c', e = .returned (.tuple #[.int .i64 ((paZ l).1 : Nat), .slice A' N' c', .int .i64 (paZ l).2.2]) ∧ By w' A' N' c' (paZ l).2.1 ∧ Ext w w' := by
 have HB := Lib.hid hb
 have hlen := hb.len
 have hcp := hb.cap
 cases l with
 | nil =>
  have hn0 : n = 0 := by simpa using hlen.symm
  subst hn0
  clear hb hlen
  go_enter Tryz.func177, Tryz.ntmps177
  go_wp2_with fail
  refine bodyPost_ret (v := .tuple #[.int .i64 0, .slice none 0 0, .int .i64 120]) (by simp [results, Tryz.results177, go_sem]) rfl ?_
  exact paZ_ret rfl _ (Ext.refl _)
 | cons x r =>
  rw [List.length_cons] at hlen
  have hx9 : x < 256 := hb.rd.lt x (List.mem_cons_self ..)
  obtain ⟨g, o, hA, _, hcell⟩ := hb.rd.2 (by simp)
  have c0 : w.cell? ⟨g, o, none⟩ = some (.int .u8 (x : Int)) := hcell 0 x rfl
  subst hA
  clear hb hcell
  have hn1 : 1 ≤ n := by omega
  by_cases h80 : 81 < n
  ·have HP := Lib.hid (paZ_no (x := x) (r := r) (by omega))
   clear hlen
   go_enter Tryz.func177, Tryz.ntmps177
   go_wp2_with fail
   refine bodyPost_ret (v := .tuple #[.int .i64 0, .slice none 0 0, .int .i64 120]) (by simp [results, Tryz.results177, go_sem]) rfl ?_
   exact paZ_ret HP.out _ (Ext.refl _)
  ·by_cases h1 : x < 1
   ·have HP := Lib.hid (paZ_no (x := x) (r := r) (by omega))
    obtain rfl : x = 0 := by omega
    rw [show ((0 : Nat) : Int) = 0 from rfl] at c0
    clear hlen h1
    go_enter Tryz.func177, Tryz.ntmps177
    go_wp2_with fail
    refine bodyPost_ret (v := .tuple #[.int .i64 0, .slice none 0 0, .int .i64 120]) (by simp [results, Tryz.results177, go_sem]) rfl ?_
    exact paZ_ret HP.out _ (Ext.refl _)
   ·by_cases h8 : 8 < x
    ·have HP := Lib.hid (paZ_no (x := x) (r := r) (by omega))
     clear hlen
     go_enter Tryz.func177, Tryz.ntmps177
     go_wp2_with fail
     refine bodyPost_ret (v := .tuple #[.int .i64 0, .slice none 0 0, .int .i64 120]) (by simp [results, Tryz.results177, go_sem]) rfl ?_
     exact paZ_ret HP.out _ (Ext.refl _)
    ·have HP := Lib.hid (paZ_yes (x := x) (r := r) (by omega))
     have hw64 : IntKind.i64.wrap (x : Int) = (x : Int) := IntWalk.i64_in _ (by omega)
     have hcut := fun W => zcut_one (some ⟨g, o, none⟩) n c (by omega) W
     have HB1 := Lib.hid (By.tail1 HB.out)
     clear hlen
     go_enter Tryz.func177, Tryz.ntmps177
     go_wp2_with fail
     have hS0 : w.drew.cell? ⟨g, o, none⟩ = some (.int .u8 (x : Int)) := c0
     have HB2 := Lib.hid (HB1.out.ext (Ext.refl w).drew)
     have HCP := Lib.hid (copy_by (tlA (some ⟨g, o, none⟩) c) r (n - 1) (c - 1) w.drew HB2.out (by omega))
     go_region_held3 (fun w' => w'.cell? ⟨g, o, none⟩ = some (.int .u8 (x : Int)))
      (first | with_reducible exact hS0 | with_reducible exact hS1 | with_reducible assumption)
      (first
       | (go_at_call 25; ((with_reducible refine HCP.out.mono ?_); rintro e' w3 ⟨A', c', rfl, hby, hx, _⟩; have HX3 := Lib.hid (Ext.trans (Ext.refl w).drew hx); have HBY := Lib.hid hby; have hS1 := ext_cellZ hx hS0; clear hby hx)))
     go_wp2_with fail
     refine bodyPost_ret (v := .tuple #[.int .i64 (x : Int), .slice A' (n - 1) c', .int .i64 0]) (by simp [results, Tryz.results177, go_sem]) rfl ?_
     rw [HP.out]
     exact ⟨A', n - 1, c', rfl, HBY.out, HX3.out⟩
end
end Go.Proofs.YtmpaocpgoihliaaGreatDoor
