/-
  The contracts of the document's own Places, Wide, First, Where: they answer as the plain facts say, and leave the memory as it was.
-/
import Derived.Test.YtlfdagajfhikhaaDoorProg
import Derived.Test.YtlfdagajfhikhaaDoorTSpec
import Derived.WalkKit
import Derived.WalkSpells
import Derived.WalkLawsBesides
import Derived.BigQuiet
import Derived.Lib.Hide
import Derived.Outline
namespace Go.Proofs.YtlfdagajfhikhaaDoor
open Go Go.RowKit

theorem rplaces_any (r : Int) (w : World) :
    Calls Tryd.prog 20 #[.int .i64 r] w fun e w' => e = .returned (.int .i64 (plc r)) ∧ w = w' := by
  by_cases h : r < 1 ∨ 5 < r
  · have HF := Lib.hid (plc_out h)
    have g1 : (r == 1) = false := by simp; omega
    have g2 : (r == 2) = false := by simp; omega
    have g3 : (r == 3) = false := by simp; omega
    have g4 : (r == 4) = false := by simp; omega
    have g5 : (r == 5) = false := by simp; omega
    clear h
    go_enter Tryd.func20, Tryd.ntmps20
    go_wp2_with fail
    go_ret
    exact ⟨by rw [HF.out]; rfl, rfl⟩
  · rcases region_cases (r := r) (by omega) with rfl | rfl | rfl | rfl | rfl
    all_goals
      go_enter Tryd.func20, Tryd.ntmps20
      go_wp2_with fail
      go_ret
      exact ⟨rfl, rfl⟩

theorem rwide_any (r : Int) (w : World) :
    Calls Tryd.prog 22 #[.int .i64 r] w fun e w' => e = .returned (.int .i64 (wid r)) ∧ w = w' := by
  by_cases h : r < 1 ∨ 5 < r
  · have HF := Lib.hid (wid_out h)
    have g1 : (r == 1) = false := by simp; omega
    have g2 : (r == 2) = false := by simp; omega
    have g3 : (r == 3) = false := by simp; omega
    have g4 : (r == 4) = false := by simp; omega
    have g5 : (r == 5) = false := by simp; omega
    clear h
    go_enter Tryd.func22, Tryd.ntmps22
    go_wp2_with fail
    go_ret
    exact ⟨by rw [HF.out]; rfl, rfl⟩
  · rcases region_cases (r := r) (by omega) with rfl | rfl | rfl | rfl | rfl
    all_goals
      go_enter Tryd.func22, Tryd.ntmps22
      go_wp2_with fail
      go_ret
      exact ⟨rfl, rfl⟩

/-- The place is none of those ahead of place q of region a. -/
def NF (r p : Int) (a q : Nat) : Prop := ¬ (1 ≤ r ∧ r < a ∧ 0 ≤ p ∧ p < plc r) ∧ ¬ (r = a ∧ 0 ≤ p ∧ p < q)
theorem NF.zero (r p : Int) : NF r p 1 0 := ⟨by omega, by omega⟩
theorem NF.step {r p : Int} {a q : Nat} (h : NF r p a q) (hn : ¬ (r = a ∧ p = q)) : NF r p a (q + 1) := ⟨h.1, by have := h.2; omega⟩
theorem NF.next {r p : Int} {a q : Nat} (h : NF r p a q) (hq : q = plc a) : NF r p (a + 1) 0 := by
  subst hq
  refine ⟨?_, by omega⟩
  rintro ⟨h1, h2, h3, h4⟩
  by_cases e : r = a
  · subst e; exact h.2 ⟨rfl, h3, h4⟩
  · exact h.1 ⟨h1, by omega, h3, h4⟩
theorem NF.end_ {r p : Int} (h : NF r p 6 0) : firstS r p = -1 := by
  refine firstS_no ?_
  rintro ⟨h1, h2⟩
  have := plc_some (r := r) (by omega)
  exact h.1 ⟨this.1, by omega, h1, h2⟩
theorem at_step (a q : Nat) : beg a + (q + 1) * wid a = beg a + q * wid a + wid a := by rw [Nat.succ_mul]; omega
theorem at_le {a q : Nat} (ha : a ≤ 5) (hq : q ≤ plc a) : beg a + q * wid a ≤ beg ((a : Int) + 1) := by
  rw [beg_next a ha]
  have := Nat.mul_le_mul_right (wid a) hq
  omega

set_option maxHeartbeats 1600000 in
theorem rfirst_any (r p : Int) (w : World) :
    Calls Tryd.prog 24 #[.int .i64 r, .int .i64 p] w fun e w' => e = .returned (.int .i64 (firstS r p)) ∧ w = w' := by
  go_enter Tryd.func24, Tryd.ntmps24
  go_wp2_with fail
  go_loop [5, 6] (fun t i => ∃ a : Nat, 1 ≤ a ∧ a ≤ 6 ∧ i = .int .i64 a ∧ t = .int .i64 (beg a) ∧ Hid (NF r p a 0)) (fun _ i => 6 - (intOf i).toNat)
  case atStart => exact ⟨1, by omega, by omega, rfl, rfl, Lib.hid (NF.zero r p)⟩
  case round =>
    obtain ⟨a, ha1, ha6, rfl, rfl, HN⟩ := hrel
    by_cases hlt : a ≤ 5
    · have ha' : (a : Int) ≤ 5 := by omega
      go_wp2_with fail
      go_loop [5, 7] (fun t i => ∃ q : Nat, q ≤ plc a ∧ i = .int .i64 q ∧ t = .int .i64 (beg a + q * wid a : Nat) ∧ Hid (NF r p a q)) (fun _ i => plc a - (intOf i).toNat)
      case atStart => exact ⟨0, Nat.zero_le _, rfl, by simp, HN⟩
      case round =>
        obtain ⟨q, hq, rfl, rfl, HN⟩ := hrel
        have HAt := Lib.hid (at_step a q)
        have hle := at_le hlt hq
        have hb := beg_le ((a : Int) + 1)
        have hw := wid_le a
        have hpl := plc_le a
        generalize hm : beg a + q * wid a = m at *
        have HM := Lib.hid hm
        clear hm
        by_cases hql : q < plc a
        · by_cases hin : r = a ∧ p = q
          · obtain ⟨rfl, rfl⟩ := hin
            go_wp2_with (go_at_call 20; refine (rplaces_any _ _).mono ?_; rintro e w' ⟨rfl, rfl⟩)
            go_ret
            exact ⟨by rw [firstS_yes (by omega), ← HM.out]; simp, rfl⟩
          · have HN' := Lib.hid (HN.out.step hin)
            by_cases hra : r = a
            · subst hra
              have hpq : ((q : Int) == p) = false := by simp; omega
              clear hin
              go_wp2_with (first | (go_at_call 20; refine (rplaces_any _ _).mono ?_; rintro e w' ⟨rfl, rfl⟩) | (go_at_call 22; refine (rwide_any _ _).mono ?_; rintro e w' ⟨rfl, rfl⟩))
              go_round
              case rel => exact ⟨q + 1, by omega, by go_num, by rw [HAt.out]; go_num, HN'⟩
              case measure => simp [intOf]; omega
            · have hra' : ((a : Int) == r) = false := by simp; omega
              clear hin hra
              go_wp2_with (first | (go_at_call 20; refine (rplaces_any _ _).mono ?_; rintro e w' ⟨rfl, rfl⟩) | (go_at_call 22; refine (rwide_any _ _).mono ?_; rintro e w' ⟨rfl, rfl⟩))
              go_round
              case rel => exact ⟨q + 1, by omega, by go_num, by rw [HAt.out]; go_num, HN'⟩
              case measure => simp [intOf]; omega
        · have HQ : Hid (q = plc a) := Lib.hid (by omega)
          have HB := Lib.hid (beg_next a hlt)
          go_wp2_with (go_at_call 20; refine (rplaces_any _ _).mono ?_; rintro e w' ⟨rfl, rfl⟩)
          go_round
          case rel => exact ⟨a + 1, by omega, by omega, by go_num, by rw [show ((a + 1 : Nat) : Int) = (a : Int) + 1 from rfl, HB.out, ← HQ.out, HM.out], Lib.hid (HN.out.next HQ.out)⟩
          case measure => simp [intOf]; omega
    · have HF : Hid (firstS r p = -1) := by
        obtain rfl : a = 6 := by omega
        exact Lib.hid HN.out.end_
      go_wp2_with fail
      go_ret
      exact ⟨by rw [HF.out]; rfl, rfl⟩

/-- The sector is none of those ahead of sector m. -/
def WN (s : Int) (m : Nat) : Prop := s < 0 ∨ (m : Int) ≤ s
theorem WN.step {s : Int} {m : Nat} (h : WN s m) (hn : s ≠ m) : WN s (m + 1) := by unfold WN at *; omega
theorem WN.end_ {s : Int} (h : WN s 156) : wReg s = 0 ∧ wPlc s = 0 ∧ wBeh s = 0 ∧ wIs s = false := where_no h
theorem where_mid {a q k : Nat} (ha1 : 1 ≤ a) (ha : a ≤ 5) (hq : q < plc a) (hk : k < wid a) :
    wReg ((beg a + q * wid a + k : Nat) : Int) = a ∧ wPlc ((beg a + q * wid a + k : Nat) : Int) = q ∧ wBeh ((beg a + q * wid a + k : Nat) : Int) = k ∧ wIs ((beg a + q * wid a + k : Nat) : Int) = true := by
  have h2 : q * wid a + k < plc a * wid a := by
    have := Nat.mul_le_mul_right (wid a) (show q + 1 ≤ plc a from hq)
    rw [Nat.succ_mul] at this
    omega
  have h := where_at ha1 ha (s := ((beg a + q * wid a + k : Nat) : Int)) (by omega) (by omega)
  have e : (((beg a + q * wid a + k : Nat) : Int) - beg a) = ((q * wid a + k : Nat) : Int) := by omega
  rw [e] at h
  obtain ⟨h1, h3, h4, h5⟩ := h
  refine ⟨h1, ?_, ?_, h5⟩
  · rw [h3, ← Int.natCast_ediv, Nat.mul_comm q, Nat.mul_add_div (by omega), Nat.div_eq_of_lt hk]; rfl
  · rw [h4, ← Int.natCast_emod, Nat.mul_comm q, Nat.mul_add_mod, Nat.mod_eq_of_lt hk]

set_option maxHeartbeats 1600000 in
theorem rwhere_any (s : Int) (w : World) :
    Calls Tryd.prog 18 #[.int .i64 s] w fun e w' => e = .returned (.tuple #[.int .i64 (wReg s), .int .i64 (wPlc s), .int .i64 (wBeh s), .bool (wIs s)]) ∧ w = w' := by
  go_enter Tryd.func18, Tryd.ntmps18
  go_wp2_with fail
  go_loop [6] (fun i => ∃ a : Nat, 1 ≤ a ∧ a ≤ 6 ∧ i = .int .i64 a ∧ Hid (WN s (beg a))) (fun i => 6 - (intOf i).toNat)
  case atStart => exact ⟨1, by omega, by omega, rfl, Lib.hid (by unfold WN; rw [show beg ((1 : Nat) : Int) = 0 from rfl]; omega)⟩
  case round =>
    obtain ⟨a, ha1, ha6, rfl, HN⟩ := hrel
    by_cases hlt : a ≤ 5
    · have ha' : (a : Int) ≤ 5 := by omega
      go_wp2_with fail
      go_loop [7] (fun i => ∃ q : Nat, q ≤ plc a ∧ i = .int .i64 q ∧ Hid (WN s (beg a + q * wid a))) (fun i => plc a - (intOf i).toNat)
      case atStart => exact ⟨0, Nat.zero_le _, rfl, by simpa using HN⟩
      case round =>
        obtain ⟨q, hq, rfl, HN⟩ := hrel
        have hpl := plc_le a
        by_cases hql : q < plc a
        · have HAt := Lib.hid (at_step a q)
          have hle := at_le (q := q) hlt hq
          have hb := beg_le ((a : Int) + 1)
          have hw := wid_le a
          have HM := Lib.hid (fun k hk => where_mid (k := k) ha1 hlt hql hk)
          have HF := Lib.hid (firstS_yes (r := (a : Int)) (p := (q : Int)) (by omega))
          have e : firstS (a : Int) (q : Int) = ((beg a + q * wid a : Nat) : Int) := by rw [HF.out]; simp
          have HE := Lib.hid e
          clear e
          generalize hm : beg a + q * wid a = m at *
          clear hm
          go_wp2_with (first | (go_at_call 20; refine (rplaces_any _ _).mono ?_; rintro e w' ⟨rfl, rfl⟩) | (go_at_call 24; refine (rfirst_any _ _ _).mono ?_; rintro e w' ⟨rfl, rfl⟩; rw [HE.out]))
          go_loop [9] (fun i => ∃ k : Nat, k ≤ wid a ∧ i = .int .i64 k ∧ Hid (WN s (m + k))) (fun i => wid a - (intOf i).toNat)
          case atStart => exact ⟨0, Nat.zero_le _, rfl, HN⟩
          case round =>
            obtain ⟨k, hk, rfl, HN⟩ := hrel
            by_cases hkl : k < wid a
            · by_cases hin : s = ((m + k : Nat) : Int)
              · subst hin
                have HW := Lib.hid (HM.out k hkl)
                go_wp2_with (go_at_call 22; refine (rwide_any _ _).mono ?_; rintro e w' ⟨rfl, rfl⟩)
                exact bodyPost_ret (v := .tuple #[.int .i64 a, .int .i64 q, .int .i64 k, .bool true]) (by simp [results, Tryd.results18, go_sem]) rfl ⟨by rw [HW.out.1, HW.out.2.1, HW.out.2.2.1, HW.out.2.2.2], rfl⟩
              · have HN' := Lib.hid (HN.out.step hin)
                have hin' : (s == (m : Int) + (k : Int)) = false := by simp; omega
                clear hin
                go_wp2_with (go_at_call 22; refine (rwide_any _ _).mono ?_; rintro e w' ⟨rfl, rfl⟩)
                go_round
                case rel => exact ⟨k + 1, by omega, by go_num, HN'⟩
                case measure => simp [intOf]; omega
            · have HK : Hid (k = wid a) := Lib.hid (by omega)
              go_wp2_with (go_at_call 22; refine (rwide_any _ _).mono ?_; rintro e w' ⟨rfl, rfl⟩)
              go_round
              case rel => exact ⟨q + 1, by omega, by go_num, by rw [HAt.out, ← HK.out]; exact HN⟩
              case measure => simp [intOf]; omega
        · have HQ : Hid (q = plc a) := Lib.hid (by omega)
          have HB := Lib.hid (beg_next a hlt)
          go_wp2_with (go_at_call 20; refine (rplaces_any _ _).mono ?_; rintro e w' ⟨rfl, rfl⟩)
          go_round
          case rel => exact ⟨a + 1, by omega, by omega, by go_num, by rw [show ((a + 1 : Nat) : Int) = (a : Int) + 1 from rfl, HB.out, ← HQ.out]; exact HN⟩
          case measure => simp [intOf]; omega
    · have HF : Hid (wReg s = 0 ∧ wPlc s = 0 ∧ wBeh s = 0 ∧ wIs s = false) := by
        obtain rfl : a = 6 := by omega
        exact Lib.hid HN.out.end_
      go_wp2_with fail
      exact bodyPost_ret (v := .tuple #[.int .i64 0, .int .i64 0, .int .i64 0, .bool false]) (by simp [results, Tryd.results18, go_sem]) rfl ⟨by rw [HF.out.1, HF.out.2.1, HF.out.2.2.1, HF.out.2.2.2], rfl⟩
end Go.Proofs.YtlfdagajfhikhaaDoor
