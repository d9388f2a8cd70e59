/-
  The document's Load over the document's disk.
  The document's put over the document's disk.
-/
import Derived.Test.YtlikhmhomkiadaaGreatDoorM14
import Derived.Test.YtlikhmhomkiadaaGreatDoorM15
import Derived.Test.YtlikhmhomkiadaaGreatDoorM19
import Derived.Test.YtlikhmhomkiadaaGreatDoorM24
import Derived.Test.YtlikhmhomkiadaaGreatDoorM25
namespace Go.Proofs.YtlikhmhomkiadaaGreatDoor
open Go Go.RowKit

theorem rd_heads {w : World} {d : Nat} {p : Nat → Nat} {m : DM} (h : RD w d p m) : ∃ g c, w.cell? ⟨d, 0, none⟩ = some (.slice (some ⟨g, 0, none⟩) m.size c) ∧ w.cell? ⟨d, 4, none⟩ = some (.bool m.down) ∧ w.cell? ⟨d, 5, none⟩ = some (.bool m.dead) := by
  obtain ⟨⟨q, hq⟩, _⟩ := h
  obtain ⟨⟨d0, _, _, _, d4, d5, _⟩, _⟩ := hq.head.cells
  exact ⟨_, _, d0, d4, d5⟩
/-- Is there such a cell? -/
def askC (sz : Nat) (r g : Int) : Bool := decide (156 ≤ sz) && ((decide (g = 1) || decide (g = 2)) && (decide (0 ≤ r) && decide (r ≤ 6)))
theorem askC_yes {sz : Nat} {r g : Int} (h : knownC sz r g = 0) : askC sz r g = true := by
  obtain ⟨h1, h2, h3, h4⟩ := knownC_ok h
  unfold askC
  rw [decide_eq_true h1, decide_eq_true h3, decide_eq_true (p := r ≤ 6) (by omega)]
  rcases h2 with rfl | rfl <;> rfl
theorem askC_no {sz : Nat} {r g : Int} (hs : 1 ≤ sz) (h : knownC sz r g ≠ 0) : askC sz r g = false ∧ knownC sz r g = 2 := by
  unfold knownC at h ⊢
  rw [if_neg (by omega)] at h ⊢
  by_cases h1 : sz < 156 ∨ (g ≠ 1 ∧ g ≠ 2) ∨ r < 0 ∨ 7 ≤ r
  · rw [if_pos h1]
    refine ⟨?_, rfl⟩
    cases hb : askC sz r g with
    | false => rfl
    | true =>
      unfold askC at hb
      simp only [Bool.and_eq_true, Bool.or_eq_true, decide_eq_true_eq] at hb
      omega
  · rw [if_neg h1] at h
    exact absurd rfl h
set_option maxRecDepth 100000 in
theorem rask_of {w : World} {d : Nat} {p : Nat → Nat} {m : DM} (h : RD w d p m) (r g : Int) :
    Calls Tryz.prog 67 #[.pointer (some ⟨d, 0, none⟩), .int .i64 r, .int .i64 g] w fun e w' => e = .returned (.bool (askC m.size r g)) ∧ w = w' := by
  obtain ⟨g0, c0, d0, _, _⟩ := rd_heads h
  have hsz := (rd_size h).2.1
  generalize m.size = sz at *
  have HA : Hid (askC sz r g = (decide (156 ≤ sz) && ((decide (g = 1) || decide (g = 2)) && (decide (0 ≤ r) && decide (r ≤ 6))))) := Lib.hid rfl
  clear h
  by_cases h1 : 156 ≤ sz
  · by_cases h2 : g = 1
    · subst h2
      by_cases h3 : 0 ≤ r
      · by_cases h4 : r ≤ 6
        · have HQ : Hid (askC sz r 1 = true) := Lib.hid (by rw [HA.out]; rw [decide_eq_true h1, decide_eq_true (rfl : (1 : Int) = 1), decide_eq_true h3, decide_eq_true h4]; rfl)
          rw [HQ.out]
          go_enter Tryz.func67, Tryz.ntmps67
          go_wp2_with fail
          go_ret
          exact ⟨rfl, rfl⟩
        · have HQ : Hid (askC sz r 1 = false) := Lib.hid (by rw [HA.out]; rw [decide_eq_false h4]; simp)
          rw [HQ.out]
          go_enter Tryz.func67, Tryz.ntmps67
          go_wp2_with fail
          go_ret
          exact ⟨rfl, rfl⟩
      · have HQ : Hid (askC sz r 1 = false) := Lib.hid (by rw [HA.out]; rw [decide_eq_false h3]; simp)
        rw [HQ.out]
        go_enter Tryz.func67, Tryz.ntmps67
        go_wp2_with fail
        go_ret
        exact ⟨rfl, rfl⟩
    · have n1 : (g == 1) = false := by simpa using h2
      by_cases h5 : g = 2
      · subst h5
        by_cases h3 : 0 ≤ r
        · by_cases h4 : r ≤ 6
          · have HQ : Hid (askC sz r 2 = true) := Lib.hid (by rw [HA.out]; rw [decide_eq_true h1, decide_eq_true (rfl : (2 : Int) = 2), decide_eq_false (p := (2 : Int) = 1) (by omega), decide_eq_true h3, decide_eq_true h4]; rfl)
            rw [HQ.out]
            go_enter Tryz.func67, Tryz.ntmps67
            go_wp2_with fail
            go_ret
            exact ⟨rfl, rfl⟩
          · have HQ : Hid (askC sz r 2 = false) := Lib.hid (by rw [HA.out]; rw [decide_eq_false h4]; simp)
            rw [HQ.out]
            go_enter Tryz.func67, Tryz.ntmps67
            go_wp2_with fail
            go_ret
            exact ⟨rfl, rfl⟩
        · have HQ : Hid (askC sz r 2 = false) := Lib.hid (by rw [HA.out]; rw [decide_eq_false h3]; simp)
          rw [HQ.out]
          go_enter Tryz.func67, Tryz.ntmps67
          go_wp2_with fail
          go_ret
          exact ⟨rfl, rfl⟩
      · have n2 : (g == 2) = false := by simpa using h5
        have HQ : Hid (askC sz r g = false) := Lib.hid (by rw [HA.out]; rw [decide_eq_false h2, decide_eq_false h5]; simp)
        rw [HQ.out]
        go_enter Tryz.func67, Tryz.ntmps67
        go_wp2_with fail
        go_ret
        exact ⟨rfl, rfl⟩
  · have HQ : Hid (askC sz r g = false) := Lib.hid (by rw [HA.out]; rw [decide_eq_false h1]; simp)
    rw [HQ.out]
    go_enter Tryz.func67, Tryz.ntmps67
    go_wp2_with fail
    go_ret
    exact ⟨rfl, rfl⟩

set_option maxRecDepth 100000 in
theorem rload_no {w : World} {d : Nat} {p : Nat → Nat} {m : DM} (h : RD w d p m) (r g : Int) (hk : knownC m.size r g ≠ 0) :
    Calls Tryz.prog 27 #[.pointer (some ⟨d, 0, none⟩), .int .i64 r, .int .i64 g] w fun e w' => e = .returned (.tuple #[.int .i64 0, .slice none 0 0, .int .i64 2]) ∧ Ext w w' := by
  have ha := rask_of h r g
  rw [(askC_no (rd_size h).1 hk).1] at ha
  have HA := Lib.hid ha
  clear ha h hk
  go_enter Tryz.func27, Tryz.ntmps27
  go_wp2_with fail
  refine HA.out.mono ?_
  rintro e w1 ⟨rfl, rfl⟩
  go_wp2_with fail
  refine bodyPost_ret (v := .tuple #[.int .i64 0, .slice none 0 0, .int .i64 2]) (by simp [results, Tryz.results27, go_sem]) rfl ⟨rfl, Ext.refl _⟩

set_option maxRecDepth 100000 in
set_option maxHeartbeats 1600000 in
theorem rload_of {w : World} {d : Nat} {p : Nat → Nat} {m : DM} (h : RD w d p m) (r g : Int) (hfew : m.waits.length ≤ 1000000) (hk : knownC m.size r g = 0) :
    Calls Tryz.prog 27 #[.pointer (some ⟨d, 0, none⟩), .int .i64 r, .int .i64 g] w fun e w' => ∃ A N c, e = .returned (.tuple #[.int .i64 (m.loadV r g : Nat), .slice A N c, .int .i64 (m.loadE r g)]) ∧ By w' A N c (m.loadB r g) ∧ Ext w w' := by
  have ha := rask_of h r g
  rw [askC_yes hk] at ha
  have HA := Lib.hid ha
  obtain ⟨g0, c0, d0, d4, d5⟩ := rd_heads h
  have hm0 := fun V (hx : Ext w V) => rcmine_of (h.ext hx) r g 0 hfew
  have hm1 := fun V (hx : Ext w V) => rcmine_of (h.ext hx) r g 1 hfew
  have hwh := fun V (hx : Ext w V) => rwhich_of (h.ext hx) r g hfew
  have HU : Hid (m.up = !(m.down || m.dead)) := Lib.hid rfl
  have HE : Hid (m.loadE r g = if m.up = false then 5 else cellE r g (m.cb g 0) (m.cb g 1)) := Lib.hid rfl
  have HV : Hid (m.loadV r g = if m.loadE r g = 0 then cellF r g (m.cb g 0) (m.cb g 1) 3 else 0) := Lib.hid rfl
  have HB : Hid (m.loadB r g = if m.loadE r g = 0 then cellB r g (m.cb g 0) (m.cb g 1) else []) := Lib.hid rfl
  have HC := atC_cases r g (m.cb g 0) (m.cb g 1)
  obtain ⟨x, hx⟩ : ∃ x, m.cb g 0 = x := ⟨_, rfl⟩
  obtain ⟨y, hy⟩ : ∃ y, m.cb g 1 = y := ⟨_, rfl⟩
  rw [hx] at hm0
  rw [hy] at hm1
  rw [hx, hy] at hwh HE HV HB HC
  clear hx hy
  cases hd : m.down with
  | true =>
    rw [hd] at d4
    have HE5 : Hid (m.loadE r g = 5) := Lib.hid (by rw [HE.out, if_pos (by rw [HU.out, hd]; rfl)])
    clear hd h hm0 hm1 hwh hk ha hfew
    go_enter Tryz.func27, Tryz.ntmps27
    go_wp2_with fail
    refine HA.out.mono ?_
    rintro e w1 ⟨rfl, rfl⟩
    go_wp2_with fail
    refine bodyPost_ret (v := .tuple #[.int .i64 0, .slice none 0 0, .int .i64 5]) (by simp [results, Tryz.results27, go_sem]) rfl ?_
    rw [HV.out, HB.out, HE5.out]
    exact ⟨_, _, _, rfl, By.nil_ _, Ext.refl _⟩
  | false =>
    cases hdd : m.dead with
    | true =>
      rw [hd] at d4
      rw [hdd] at d5
      have HE5 : Hid (m.loadE r g = 5) := Lib.hid (by rw [HE.out, if_pos (by rw [HU.out, hd, hdd]; rfl)])
      clear hd hdd h hm0 hm1 hwh hk ha hfew
      go_enter Tryz.func27, Tryz.ntmps27
      go_wp2_with fail
      refine HA.out.mono ?_
      rintro e w1 ⟨rfl, rfl⟩
      go_wp2_with fail
      refine bodyPost_ret (v := .tuple #[.int .i64 0, .slice none 0 0, .int .i64 5]) (by simp [results, Tryz.results27, go_sem]) rfl ?_
      rw [HV.out, HB.out, HE5.out]
      exact ⟨_, _, _, rfl, By.nil_ _, Ext.refl _⟩
    | false =>
      have HUP : Hid (¬ m.up = false) := Lib.hid (by rw [HU.out, hd, hdd]; simp)
      rw [hd] at d4
      rw [hdd] at d5
      have HM0 := Lib.hid hm0
      have HM1 := Lib.hid hm1
      have HWH := Lib.hid hwh
      clear h hm0 hm1 hwh hk ha hd hdd hfew
      rcases HC with hc | hc | hc
      · have HE0 : Hid (m.loadE r g = 0) := Lib.hid (by rw [HE.out, if_neg HUP.out]; exact cellE_at (by rw [hc]; omega))
        have HV0 : Hid (m.loadV r g = mfl x r g 0 3) := Lib.hid (by rw [HV.out, if_pos HE0.out]; unfold cellF; rw [hc]; simp)
        have HB0 : Hid (m.loadB r g = mbl x r g 0) := Lib.hid (by rw [HB.out, if_pos HE0.out]; unfold cellB; rw [hc]; simp)
        rw [hc] at HWH
        have hce : cellE r g x y = 0 := cellE_at (by rw [hc]; omega)
        rw [hce] at HWH
        clear hc hce
        go_enter Tryz.func27, Tryz.ntmps27
        go_wp2_with fail
        refine HA.out.mono ?_
        rintro e w1 ⟨rfl, rfl⟩
        go_wp2_with fail
        refine (HWH.out _ (Ext.refl _)).mono ?_
        rintro e w2 ⟨rfl, hx⟩
        have HX := Lib.hid hx
        clear hx
        go_wp2_with fail
        refine (HM0.out _ HX.out).mono ?_
        rintro e w3 ⟨A0, N0, k0, rfl, hb, hx⟩
        have HX := Lib.hid (HX.out.trans hx)
        have HB1 := Lib.hid (hb.ext ((Ext.refl w3).alloc (.cells #[.int .i64 (mfl x r g 0 0 : Nat), .int .i64 (mfl x r g 0 1 : Nat), .int .i64 (mfl x r g 0 2 : Nat), .int .i64 (mfl x r g 0 3 : Nat), .int .i64 (mfl x r g 0 4 : Nat)] 33)))
        have HT0 := Lib.hid (heap_alloc_new w3 (.cells #[.int .i64 (mfl x r g 0 0 : Nat), .int .i64 (mfl x r g 0 1 : Nat), .int .i64 (mfl x r g 0 2 : Nat), .int .i64 (mfl x r g 0 3 : Nat), .int .i64 (mfl x r g 0 4 : Nat)] 33))
        have HX := Lib.hid (HX.out.alloc (.cells #[.int .i64 (mfl x r g 0 0 : Nat), .int .i64 (mfl x r g 0 1 : Nat), .int .i64 (mfl x r g 0 2 : Nat), .int .i64 (mfl x r g 0 3 : Nat), .int .i64 (mfl x r g 0 4 : Nat)] 33))
        clear hx hb
        obtain ⟨⟨_, _, _, x3, _⟩, _⟩ := five_cells HT0.out
        go_wp2_with fail
        refine bodyPost_ret (v := .tuple #[.int .i64 (mfl x r g 0 3 : Nat), .slice A0 N0 k0, .int .i64 0]) (by simp [results, Tryz.results27, go_sem]) rfl ?_
        rw [HV0.out, HB0.out, HE0.out]
        exact ⟨_, _, _, rfl, HB1.out, HX.out⟩
      · have HE0 : Hid (m.loadE r g = 0) := Lib.hid (by rw [HE.out, if_neg HUP.out]; exact cellE_at (by rw [hc]; omega))
        have HV0 : Hid (m.loadV r g = mfl y r g 1 3) := Lib.hid (by rw [HV.out, if_pos HE0.out]; unfold cellF; rw [hc]; simp)
        have HB0 : Hid (m.loadB r g = mbl y r g 1) := Lib.hid (by rw [HB.out, if_pos HE0.out]; unfold cellB; rw [hc]; simp)
        rw [hc] at HWH
        have hce : cellE r g x y = 0 := cellE_at (by rw [hc]; omega)
        rw [hce] at HWH
        clear hc hce
        go_enter Tryz.func27, Tryz.ntmps27
        go_wp2_with fail
        refine HA.out.mono ?_
        rintro e w1 ⟨rfl, rfl⟩
        go_wp2_with fail
        refine (HWH.out _ (Ext.refl _)).mono ?_
        rintro e w2 ⟨rfl, hx⟩
        have HX := Lib.hid hx
        clear hx
        go_wp2_with fail
        refine (HM1.out _ HX.out).mono ?_
        rintro e w3 ⟨A0, N0, k0, rfl, hb, hx⟩
        have HX := Lib.hid (HX.out.trans hx)
        have HB1 := Lib.hid (hb.ext ((Ext.refl w3).alloc (.cells #[.int .i64 (mfl y r g 1 0 : Nat), .int .i64 (mfl y r g 1 1 : Nat), .int .i64 (mfl y r g 1 2 : Nat), .int .i64 (mfl y r g 1 3 : Nat), .int .i64 (mfl y r g 1 4 : Nat)] 33)))
        have HT0 := Lib.hid (heap_alloc_new w3 (.cells #[.int .i64 (mfl y r g 1 0 : Nat), .int .i64 (mfl y r g 1 1 : Nat), .int .i64 (mfl y r g 1 2 : Nat), .int .i64 (mfl y r g 1 3 : Nat), .int .i64 (mfl y r g 1 4 : Nat)] 33))
        have HX := Lib.hid (HX.out.alloc (.cells #[.int .i64 (mfl y r g 1 0 : Nat), .int .i64 (mfl y r g 1 1 : Nat), .int .i64 (mfl y r g 1 2 : Nat), .int .i64 (mfl y r g 1 3 : Nat), .int .i64 (mfl y r g 1 4 : Nat)] 33))
        clear hx hb
        obtain ⟨⟨_, _, _, x3, _⟩, _⟩ := five_cells HT0.out
        go_wp2_with fail
        refine bodyPost_ret (v := .tuple #[.int .i64 (mfl y r g 1 3 : Nat), .slice A0 N0 k0, .int .i64 0]) (by simp [results, Tryz.results27, go_sem]) rfl ?_
        rw [HV0.out, HB0.out, HE0.out]
        exact ⟨_, _, _, rfl, HB1.out, HX.out⟩
      · have HE0 : Hid (m.loadE r g = cellE r g x y) := Lib.hid (by rw [HE.out, if_neg HUP.out])
        have HV0 : Hid (m.loadV r g = 0) := Lib.hid (by rw [HV.out]; split <;> first | rfl | (unfold cellF; rw [hc]; rfl))
        have HB0 : Hid (m.loadB r g = []) := Lib.hid (by rw [HB.out]; split <;> first | rfl | (unfold cellB; rw [hc]; rfl))
        rw [hc] at HWH
        clear hc
        generalize cellE r g x y = E at *
        go_enter Tryz.func27, Tryz.ntmps27
        go_wp2_with fail
        refine HA.out.mono ?_
        rintro e w1 ⟨rfl, rfl⟩
        go_wp2_with fail
        refine (HWH.out _ (Ext.refl _)).mono ?_
        rintro e w2 ⟨rfl, hx⟩
        have HX := Lib.hid hx
        clear hx
        go_wp2_with fail
        refine bodyPost_ret (v := .tuple #[.int .i64 0, .slice none 0 0, .int .i64 E]) (by simp [results, Tryz.results27, go_sem]) rfl ?_
        rw [HV0.out, HB0.out, HE0.out]
        exact ⟨_, _, _, rfl, By.nil_ _, HX.out⟩
end Go.Proofs.YtlikhmhomkiadaaGreatDoor

namespace Go.Proofs.YtlikhmhomkiadaaGreatDoor
open Go Go.RowKit

theorem rout_trans {d : Nat} {p p1 : Nat → Nat} {w w1 w2 : World} {m2 : DM} (hm : Mod (fun k => p k ≠ 0) w w1) (hn : ∀ k, p1 k ≠ 0 → p k ≠ 0 ∨ w.heap.size ≤ k) (k : ROut d p1 w1 m2 w2) : ROut d p w m2 w2 := by
  obtain ⟨p2, h1, h2, h3⟩ := k
  refine ⟨p2, h1, hm.trans h2 (fun i hi => hn i hi), fun i hi => ?_⟩
  rcases h3 i hi with h | h
  · exact hn i h
  · exact .inr (Nat.le_trans hm.size h)
theorem ROut.then {d : Nat} {p : Nat → Nat} {w w1 w2 : World} {m1 m2 : DM} (h : ROut d p w m1 w1) (k : ∀ p1, RD w1 d p1 m1 → ROut d p1 w1 m2 w2) : ROut d p w m2 w2 := by
  obtain ⟨p1, h1, h2, h3⟩ := h
  exact rout_trans h2 h3 (k p1 h1)

set_option maxRecDepth 100000 in
set_option maxHeartbeats 800000 in
theorem rput_of {w : World} {d : Nat} {p : Nat → Nat} {m : DM} (h : RD w d p m) (a b c i t : Int) (A : Option Addr) (n cp : Nat) (body : List Nat) (hb : By w A n cp body) (hfew : m.waits.length + 1 ≤ 1000000) :
    Calls Tryz.prog 69 #[.pointer (some ⟨d, 0, none⟩), .agg #[.int .i64 a, .int .i64 b, .int .i64 c, .int .i64 i, .int .i64 t], .slice A n cp] w fun e w' => e = .returned (.int .i64 (m.putC (firstS b c) (sealL a b c i t body 1)).1) ∧ ROut d p w (m.putC (firstS b c) (sealL a b c i t body 1)).2 w' := by
  have hE := (Ext.refl w).alloc (.cells #[.int .i64 a, .int .i64 b, .int .i64 c, .int .i64 i, .int .i64 t] 33)
  have hT := heap_alloc_new w (.cells #[.int .i64 a, .int .i64 b, .int .i64 c, .int .i64 i, .int .i64 t] 33)
  have HE := Lib.hid hE
  have HT := Lib.hid hT
  have H := Lib.hid h
  have HB := Lib.hid hb
  have HSL := fun V (hx : Ext w V) => rseal_own a b c i t 1 A n cp body V (hb.ext hx)
  obtain ⟨SE, hSE⟩ : ∃ SE, sealE a b c i t n 1 = SE := ⟨_, rfl⟩
  obtain ⟨L, hLL⟩ : ∃ L, sealL a b c i t body 1 = L := ⟨_, rfl⟩
  obtain ⟨S, hS⟩ : ∃ S, firstS b c = S := ⟨_, rfl⟩
  have HS := Lib.hid hS
  rw [hLL, hSE] at HSL
  have HSL := Lib.hid HSL
  rw [hLL, hS]
  obtain ⟨R, hR⟩ : ∃ R, m.putC S L = R := ⟨_, rfl⟩
  have HRQ := Lib.hid hR
  rw [hR]
  have hwr := fun (V : World) (p1 : Nat → Nat) (hd : RD V d p1 m) (A1 : Option Addr) (k1 : Nat) (hb1 : By V A1 L.length k1 L) (ho : ¬ ∃ g o, A1 = some ⟨g, o, none⟩ ∧ p1 g ≠ 0) => rwrite_out hd S A1 L.length k1 L hb1 ho (by omega)
  obtain ⟨E, hEE⟩ : ∃ E, (m.write S L).1 = E := ⟨_, rfl⟩
  obtain ⟨m1, hm1⟩ : ∃ m1, (m.write S L).2 = m1 := ⟨_, rfl⟩
  rw [hEE, hm1] at hwr
  have HWR := Lib.hid hwr
  have HEQ : Hid (m.write S L = (E, m1)) := Lib.hid (by rw [← hEE, ← hm1])
  have HW1 : Hid (m1.waits.length ≤ 1000000) := Lib.hid (by
    have h1 : (m.write S L).2.waits.length ≤ m.waits.length + 1 := by unfold DM.write; (repeat' split) <;> simp
    rw [hm1] at h1
    omega)
  obtain ⟨⟨c0, c1, c2, c3, c4⟩, _⟩ := five_cells hT
  clear hE hT h hb hLL hS hR hSE hwr hEE hm1 hfew
  by_cases h0 : E = 0
  · subst h0
    have HQ : Hid (R = m1.flush) := Lib.hid (by rw [← HRQ.out]; unfold DM.putC; rw [HEQ.out]; simp)
    go_enter Tryz.func69, Tryz.ntmps69
    go_wp2_with fail
    refine (HSL.out _ HE.out).mono ?_
    rintro e w1 ⟨A1, k1, rfl, hb1, hx, ho1⟩
    have HB1 := Lib.hid hb1
    have HOFF : Hid (¬ ∃ g o, A1 = some ⟨g, o, none⟩ ∧ p g ≠ 0) := Lib.hid (by
      rintro ⟨g, o, e, hp⟩
      subst e
      have h1 := (ho1.lt g rfl).1
      have h2 := H.out.2 g hp
      simp at h1
      omega)
    have HT := Lib.hid ((hx.block _ (Array.getElem?_eq_some_iff.1 HT.out).1).trans HT.out)
    have HE := Lib.hid (HE.out.trans hx)
    clear hb1 hx ho1 c0 c1 c2 c3 c4
    obtain ⟨⟨c0, c1, c2, c3, c4⟩, _⟩ := five_cells HT.out
    go_wp2_with fail
    refine (rfirst_any b c _).mono ?_
    rw [HS.out]
    rintro e w2 ⟨rfl, rfl⟩
    go_wp2_with fail
    refine (HWR.out _ p (H.out.ext HE.out) A1 k1 HB1.out HOFF.out).mono ?_
    rintro e w3 ⟨rfl, hs3⟩
    obtain ⟨p3, r3, hm3, hn3⟩ := hs3.from HE.out
    have HR3 := Lib.hid r3
    have HM3 := Lib.hid hm3
    have HN3 := Lib.hid hn3
    clear hs3 r3 hm3 hn3 c0 c1 c2 c3 c4
    go_wp2_with fail
    refine (rflush_out HR3.out HW1.out).mono ?_
    rintro e w4 ⟨rfl, hs4⟩
    have HS4 := Lib.hid (rout_trans HM3.out HN3.out hs4)
    clear hs4
    go_wp2_with fail
    go_ret
    rw [HQ.out]
    exact ⟨rfl, HS4.out⟩
  · have hne : (E != 0) = true := by simpa using h0
    have HQ : Hid (R = (E, m1)) := Lib.hid (by rw [← HRQ.out]; unfold DM.putC; rw [HEQ.out, if_pos h0])
    clear h0
    go_enter Tryz.func69, Tryz.ntmps69
    go_wp2_with fail
    refine (HSL.out _ HE.out).mono ?_
    rintro e w1 ⟨A1, k1, rfl, hb1, hx, ho1⟩
    have HB1 := Lib.hid hb1
    have HOFF : Hid (¬ ∃ g o, A1 = some ⟨g, o, none⟩ ∧ p g ≠ 0) := Lib.hid (by
      rintro ⟨g, o, e, hp⟩
      subst e
      have h1 := (ho1.lt g rfl).1
      have h2 := H.out.2 g hp
      simp at h1
      omega)
    have HT := Lib.hid ((hx.block _ (Array.getElem?_eq_some_iff.1 HT.out).1).trans HT.out)
    have HE := Lib.hid (HE.out.trans hx)
    clear hb1 hx ho1 c0 c1 c2 c3 c4
    obtain ⟨⟨c0, c1, c2, c3, c4⟩, _⟩ := five_cells HT.out
    go_wp2_with fail
    refine (rfirst_any b c _).mono ?_
    rw [HS.out]
    rintro e w2 ⟨rfl, rfl⟩
    go_wp2_with fail
    refine (HWR.out _ p (H.out.ext HE.out) A1 k1 HB1.out HOFF.out).mono ?_
    rintro e w3 ⟨rfl, hs3⟩
    have HS3 := Lib.hid (hs3.from HE.out)
    clear hs3 c0 c1 c2 c3 c4
    go_wp2_with fail
    go_ret
    rw [HQ.out]
    exact ⟨rfl, HS3.out⟩
end Go.Proofs.YtlikhmhomkiadaaGreatDoor
