/-
  The walk of ChunkBodyBack: what a chunk's body was made of comes back; a body that says something is the one that is made of it.
-/
import Derived.Test.YtnlappoocffcpaaDoorB00
import Derived.Test.YtnlappoocffcpaaDoorB02
import Derived.Test.YtnlappoocffcpaaDoorB03
import Derived.Test.YtnlappoocffcpaaDoorB05
namespace Go.Proofs.YtnlappoocffcpaaDoor
open Go Go.RowKit
theorem paZ_bad {l : List Nat} (h : (paZ l).2.2 ≠ 0) : paZ l = (0, [], 120) := by
  cases l with
  | nil => rfl
  | cons x r =>
    have e : paZ (x :: r) = if 1 ≤ x ∧ x ≤ 8 ∧ r.length ≤ 80 then (x, r, 0) else (0, [], 120) := rfl
    rw [e] at h ⊢
    split at h
    · exact absurd rfl h
    · rw [if_neg (by assumption)]
set_option maxRecDepth 100000 in
set_option maxHeartbeats 1600000 in
theorem chunkBodyBack_law (count : Int) (A : Option Addr) (n c : Nat) (l : List Nat) (A2 : Option Addr) (n2 c2 : Nat) (l2 : List Nat) (w : World) (_ : (Lit.int .i64 count).wf = true) (h1 : Bs w w.heap.size A n c l) (h2 : Bs w w.heap.size A2 n2 c2 l2) (hL : Laid w) :
    Calls Tryd.prog 4 #[.int .i64 count, .slice A n c, .slice A2 n2 c2] w fun r w' => r = .returned (.bool true) ∧ Below w.heap.size w w' := by
  show Calls Tryd.prog 4 #[.int .i64 count, .slice A n c, .slice A2 n2 c2] w fun r w' => r = .returned (.bool true) ∧ Ext w w'
  have H1 : Hid (By w A n c l) := Lib.hid h1
  have H2 : Hid (By w A2 n2 c2 l2) := Lib.hid h2
  have HL := Lib.hid hL
  have hlen := h1.len
  have hlen2 := h2.len
  clear h1 h2 hL
  go_enter Tryd.func4, Tryd.ntmps4
  go_wp2_with fail
  refine (zawake_any w).mono ?_
  rintro e w1 ⟨rfl, hx⟩
  have HX1 : Hid (Ext w w1) := Lib.hid hx
  clear hx
  by_cases ha : n ≤ 200
  case neg =>
    have ha : (200 : Int) < (n : Int) := by omega
    go_wp2_with fail
    go_ret
    exact ⟨rfl, HX1.out⟩
  have ha' : (n : Int) ≤ 200 := by omega
  by_cases hb : n2 ≤ 200
  case neg =>
    have hb : (200 : Int) < (n2 : Int) := by omega
    go_wp2_with fail
    go_ret
    exact ⟨rfl, HX1.out⟩
  have hb' : (n2 : Int) ≤ 200 := by omega
  -- the second half, from whatever world
  have tail : ∀ w3, Hid (Ext w w3) → Hid (Calls Tryd.prog 8 #[.slice A2 n2 c2] w3 fun e w' => ∃ A' N' c', e = .returned (.tuple #[.int .i64 ((paZ l2).1 : Nat), .slice A' N' c', .int .i64 (paZ l2).2.2]) ∧ By w' A' N' c' (paZ l2).2.1 ∧ Ext w3 w') := fun w3 h => Lib.hid (zparse_any A2 n2 c2 l2 w3 (HL.out.ext h.out) (H2.out.ext h.out) (by omega))
  have HP := Lib.hid (zprint_any count A n c l w1 (HL.out.ext HX1.out) (H1.out.ext HX1.out) (by omega))
  cases hbd : bdZ count l with
  | true =>
    have hq := bdZ_iff.1 hbd
    have hc1 : (1 : Int) ≤ count := hq.1
    have hc8 : count ≤ 8 := hq.2.1
    have hn8 : (n : Int) ≤ 80 := by have := hq.2.2; omega
    have he : prZE count l = 0 := by unfold prZE; rw [if_pos hbd]
    have hcn : ((count.toNat : Nat) : Int) = count := by omega
    have hpb := paZ_back hbd
    have hlp : (prZL count l).length ≤ 81 := by unfold prZL; rw [if_pos hbd, List.length_cons]; omega
    rw [he] at HP
    have HPB := Lib.hid hpb
    have HLP := Lib.hid hlp
    clear hq he hpb hlp hbd
    go_wp2_with fail
    refine (HP.out).mono ?_
    rintro e w2 ⟨A3, n3, c3, rfl, hby, hx⟩
    have HX2 : Hid (Ext w w2) := Lib.hid (HX1.out.trans hx)
    have hpa := zparse_any A3 n3 c3 _ w2 (HL.out.ext HX2.out) hby (by have := hby.len; have := HLP.out; omega)
    rw [HPB.out] at hpa
    dsimp only at hpa
    rw [hcn] at hpa
    have HPA := Lib.hid hpa
    clear hby hx hpa HX1 HP
    go_wp2_with fail
    refine (HPA.out).mono ?_
    rintro e w3 ⟨A4, n4, c4, rfl, hby, hx⟩
    have HX3 : Hid (Ext w w3) := Lib.hid (HX2.out.trans hx)
    have hs := same_by A A4 l l n n4 c c4 w3 (H1.out.ext HX3.out) hby
    rw [decide_eq_true (rfl : l = l)] at hs
    have HS := Lib.hid hs
    clear hs
    clear hby hx HX2 HPA
    go_wp2_with fail
    refine (HS.out).mono ?_
    rintro e w4 ⟨rfl, hx⟩
    have HX4 : Hid (Ext w w4) := Lib.hid (HX3.out.trans hx)
    clear hx HX3 HS
    go_wp2_with fail
    have HT := tail w4 HX4
    clear tail
    refine (HT.out).mono ?_
    rintro e w5 ⟨A5, n5, c5, rfl, hby, hx⟩
    have HX5 : Hid (Ext w w5) := Lib.hid (HX4.out.trans hx)
    clear hx HX4 HT
    by_cases hz : (paZ l2).2.2 = 0
    case neg =>
      have hbad := paZ_bad hz
      rw [hbad] at hby ⊢
      obtain rfl : n5 = 0 := hby.len.symm
      clear hz hbad hby
      go_wp2_with fail
      go_ret
      exact ⟨rfl, HX5.out⟩
    obtain ⟨hb5, hp5⟩ := paZ_of hz
    rw [hz]
    have hq := bdZ_iff.1 hb5
    have he5 : prZE ((paZ l2).1 : Int) (paZ l2).2.1 = 0 := by unfold prZE; rw [if_pos hb5]
    have hpr := zprint_any ((paZ l2).1 : Int) A5 n5 c5 _ w5 (HL.out.ext HX5.out) hby (by have := hby.len; have := hq.2.2; omega)
    rw [he5, hp5] at hpr
    have HPR := Lib.hid hpr
    clear hz hb5 hp5 hq he5 hpr hby
    generalize (((paZ l2).1 : Nat) : Int) = m5 at *
    go_wp2_with fail
    refine (HPR.out).mono ?_
    rintro e w6 ⟨A6, n6, c6, rfl, hby, hx⟩
    have HX6 : Hid (Ext w w6) := Lib.hid (HX5.out.trans hx)
    have hs := same_by A6 A2 l2 l2 n6 n2 c6 c2 w6 hby (H2.out.ext HX6.out)
    rw [decide_eq_true (rfl : l2 = l2)] at hs
    have HS := Lib.hid hs
    clear hs
    clear hby hx HX5 HPR
    go_wp2_with fail
    refine (HS.out).mono ?_
    rintro e w7 ⟨rfl, hx⟩
    have HX7 : Hid (Ext w w7) := Lib.hid (HX6.out.trans hx)
    clear hx HX6 HS
    go_wp2_with fail
    go_ret
    exact ⟨rfl, HX7.out⟩
  | false =>
    have he : prZE count l = 2 := by unfold prZE; rw [hbd]; rfl
    have hb3 : ¬ (1 ≤ count ∧ count ≤ 8 ∧ l.length ≤ 80) := fun h => by rw [bdZ_iff.2 h] at hbd; cases hbd
    rw [hlen] at hb3
    rw [he] at HP
    clear he hbd
    go_wp2_with fail
    refine (HP.out).mono ?_
    rintro e w4 ⟨A3, n3, c3, rfl, hby, hx⟩
    have HX4 : Hid (Ext w w4) := Lib.hid (HX1.out.trans hx)
    clear hby hx HX1 HP
    have HT := tail w4 HX4
    clear tail
    have go : ∀ {P : Prop}, (count < 1 → P) → (1 ≤ count → 8 < count → P) → (1 ≤ count → count ≤ 8 → (80 : Int) < (n : Int) → P) → P := fun {P} f1 f2 f3 => by
      by_cases g1 : 1 ≤ count
      · by_cases g2 : count ≤ 8
        · exact f3 g1 g2 (by omega)
        · exact f2 g1 (by omega)
      · exact f1 (by omega)
    refine go (fun g1 => ?_) (fun g1 g2 => ?_) (fun g1 g2 g3 => ?_)
    all_goals
      clear go hb3
      go_wp2_with fail
      refine (HT.out).mono ?_
      rintro e w5 ⟨A5, n5, c5, rfl, hby, hx⟩
      have HX5 : Hid (Ext w w5) := Lib.hid (HX4.out.trans hx)
      clear hx HX4 HT
      by_cases hz : (paZ l2).2.2 = 0
      case neg =>
        have hbad := paZ_bad hz
        rw [hbad] at hby ⊢
        obtain rfl : n5 = 0 := hby.len.symm
        clear hz hbad hby
        go_wp2_with fail
        go_ret
        exact ⟨rfl, HX5.out⟩
      obtain ⟨hb5, hp5⟩ := paZ_of hz
      rw [hz]
      have hq := bdZ_iff.1 hb5
      have he5 : prZE ((paZ l2).1 : Int) (paZ l2).2.1 = 0 := by unfold prZE; rw [if_pos hb5]
      have hpr := zprint_any ((paZ l2).1 : Int) A5 n5 c5 _ w5 (HL.out.ext HX5.out) hby (by have := hby.len; have := hq.2.2; omega)
      rw [he5, hp5] at hpr
      have HPR := Lib.hid hpr
      clear hz hb5 hp5 hq he5 hpr hby
      generalize (((paZ l2).1 : Nat) : Int) = m5 at *
      go_wp2_with fail
      refine (HPR.out).mono ?_
      rintro e w6 ⟨A6, n6, c6, rfl, hby, hx⟩
      have HX6 : Hid (Ext w w6) := Lib.hid (HX5.out.trans hx)
      have hs := same_by A6 A2 l2 l2 n6 n2 c6 c2 w6 hby (H2.out.ext HX6.out)
      rw [decide_eq_true (rfl : l2 = l2)] at hs
      have HS := Lib.hid hs
      clear hs
      clear hby hx HX5 HPR
      go_wp2_with fail
      refine (HS.out).mono ?_
      rintro e w7 ⟨rfl, hx⟩
      have HX7 : Hid (Ext w w7) := Lib.hid (HX6.out.trans hx)
      clear hx HX6 HS
      go_wp2_with fail
      go_ret
      exact ⟨rfl, HX7.out⟩
end Go.Proofs.YtnlappoocffcpaaDoor
