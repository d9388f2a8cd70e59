/-
  The contracts of what the tally's statements call: of, near, noted.
-/
import Derived.Test.YtmnldkfkcfnkdaaTlDrop
import Derived.Test.YtmnldkfkcfnkdaaTlFold
namespace Go.Proofs.Ytmnldkfkcfnkdaa
open Go Go.RowKit Go.Maps

theorem tof_of (n : Int) (w : World) : Calls Try.prog 20 #[.int .i64 n] w fun e w' => (∃ m : Nat, e = .returned (.int .i64 (m : Int)) ∧ (m = 3 ∨ m = 5 ∨ m = 7)) ∧ w = w' := by
  have h3 : (IntKind.u64.wrap n).tmod 3 = 0 ∨ (IntKind.u64.wrap n).tmod 3 = 1 ∨ (IntKind.u64.wrap n).tmod 3 = 2 := by
    have h0 : 0 ≤ IntKind.u64.wrap n := by rw [IntKind.wrap_u64]; omega
    rw [Int.tmod_eq_emod_of_nonneg h0]
    omega
  go_enter Try.func20, Try.ntmps20
  go_wp2_with fail
  generalize (IntKind.u64.wrap n).tmod 3 = t at *
  go_ret
  rcases h3 with rfl | rfl | rfl
  · exact ⟨⟨3, rfl, .inl rfl⟩, rfl⟩
  · exact ⟨⟨5, rfl, .inr (.inl rfl)⟩, rfl⟩
  · exact ⟨⟨7, rfl, .inr (.inr rfl)⟩, rfl⟩
/-- A bool; if it is true, then P holds. -/
def OkB (e : Ending) (P : Prop) : Prop := ∃ b, e = .returned (.bool b) ∧ (b = true → P)
/-- A pair in memory. -/
theorem Ls.pair {w : World} {B : Nat} {A : Option Addr} {n c : Nat} {l : List PairT} (h : Ls PairT.cells 2 w B A n c l) {j : Nat} (hj : j < n) :
    ∃ g o p, A = some ⟨g, o, none⟩ ∧ g < B ∧ l[j]? = some p ∧ w.cell? ⟨g, o + j * 2, none⟩ = some (.int .i64 p.i) ∧ w.cell? ⟨g, o + j * 2 + 1, none⟩ = some (.int .i64 p.r) := by
  obtain ⟨g, o, p, hA, hg, hp, hc⟩ := h.at_ hj
  exact ⟨g, o, p, hA, hg, hp, hc 0 _ rfl, hc 1 _ rfl⟩
set_option maxRecDepth 100000 in
set_option maxHeartbeats 1600000 in
theorem tnear_of (n : Int) {w : World} {B : Nat} {A : Option Addr} {m c : Nat} {l : List PairT} (h : Ls PairT.cells 2 w B A m c l) :
    Calls Try.prog 21 #[.int .i64 n, .slice A m c] w fun e w' => OkB e (m ≤ 300 ∧ NearT n l) ∧ w = w' := by
  have hcap := h.cap
  have hmost := h.most
  have H := Lib.hid h
  clear h
  by_cases h300 : m ≤ 300
  case neg =>
    have hm : (300 : Int) < (m : Int) := by omega
    go_enter Try.func21, Try.ntmps21
    go_wp2_with fail
    go_ret
    exact ⟨⟨false, rfl, fun e => by cases e⟩, rfl⟩
  have hm : ¬ (300 : Int) < (m : Int) := by omega
  go_enter Try.func21, Try.ntmps21
  go_wp2_with fail
  go_loopw [5] (fun v wr => ∃ k : Nat, k ≤ m ∧ v = .int .i64 (k : Int) ∧ wr = w ∧ Hid (NearT n (l.take k))) (fun v _ => m - (intOf v).toNat)
  case atStart => exact ⟨0, Nat.zero_le _, rfl, rfl, Lib.hid (fun p hp => by simp at hp)⟩
  case round =>
    obtain ⟨k, hk, rfl, rfl, HN⟩ := hrel
    by_cases hlt : k < m
    · obtain ⟨g, o, p, rfl, hg, hp, c0, c1⟩ := H.out.pair hlt
      have HP := Lib.hid hp
      obtain ⟨i, r⟩ := p
      clear hp
      by_cases q1 : i < 1
      · have d1 : decide (i < 1) = true := decide_eq_true q1
        go_wp2_with fail
        go_ret
        exact ⟨⟨false, rfl, fun e => by cases e⟩, rfl⟩
      by_cases q2 : 60 < i
      · have d1 : decide (i < 1) = false := decide_eq_false q1
        have d2 : decide (60 < i) = true := decide_eq_true q2
        go_wp2_with fail
        go_ret
        exact ⟨⟨false, rfl, fun e => by cases e⟩, rfl⟩
      by_cases q3 : r < 0
      · have d1 : decide (i < 1) = false := decide_eq_false q1
        have d2 : decide (60 < i) = false := decide_eq_false q2
        have d3 : decide (r < 0) = true := decide_eq_true q3
        go_wp2_with fail
        go_ret
        exact ⟨⟨false, rfl, fun e => by cases e⟩, rfl⟩
      by_cases q4 : n ≤ r
      · have d1 : decide (i < 1) = false := decide_eq_false q1
        have d2 : decide (60 < i) = false := decide_eq_false q2
        have d3 : decide (r < 0) = false := decide_eq_false q3
        have d4 : decide (n ≤ r) = true := decide_eq_true q4
        go_wp2_with fail
        go_ret
        exact ⟨⟨false, rfl, fun e => by cases e⟩, rfl⟩
      have d1 : decide (i < 1) = false := decide_eq_false q1
      have d2 : decide (60 < i) = false := decide_eq_false q2
      have d3 : decide (r < 0) = false := decide_eq_false q3
      have d4 : decide (n ≤ r) = false := decide_eq_false q4
      have HN2 : Hid (NearT n (l.take (k + 1))) := Lib.hid (by
        intro p hp
        rw [List.take_add_one, HP.out, Option.toList_some] at hp
        rcases List.mem_append.1 hp with hp | hp
        · exact HN.out p hp
        · rw [List.mem_singleton] at hp
          subst hp
          exact ⟨by dsimp only; omega, by dsimp only; omega, by dsimp only; omega, by dsimp only; omega⟩)
      go_wp2_with fail
      go_roundw
      case rel => exact ⟨k + 1, by omega, by go_num, by first | rfl | trivial, HN2⟩
      case measure => simp [intOf]; omega
    · obtain rfl : k = m := by omega
      go_wp2_with fail
      go_ret
      refine ⟨⟨true, rfl, fun _ => ⟨by omega, ?_⟩⟩, rfl⟩
      have := HN.out
      rwa [List.take_of_length_le (by rw [H.out.len]; omega)] at this
set_option maxRecDepth 100000 in
set_option maxHeartbeats 3200000 in
/-- A tally in which these were noted. -/
theorem tnoted_of {n : Nat} (hn : n = 3 ∨ n = 5 ∨ n = 7) {w : World} {A : Option Addr} {m c : Nat} {l : List PairT} (h : Ls PairT.cells 2 w w.heap.size A m c l) (hnr : NearT n l) :
    Calls Try.prog 22 #[.int .i64 (n : Int), .slice A m c] w fun e w' => ∃ h bm, e = .returned (.pointer (some ⟨h, 0, none⟩)) ∧ TQ w' h n bm (foldT n l) ∧ Ext w w' ∧ w.heap.size ≤ h ∧ w.heap.size ≤ bm := by
  have hcap := h.cap
  have hmost := h.most
  have H := Lib.hid h
  have HN := Lib.hid hn
  have HNR := Lib.hid hnr
  clear h hn hnr
  go_enter Try.func22, Try.ntmps22
  go_wp2_with fail
  refine (tnew_yes n HN.out w).mono ?_
  rintro e w1 ⟨q, bm, rfl, hz, hx, hq, hbm⟩
  have HZ := Lib.hid hz
  have HX := Lib.hid hx
  have HB := Lib.hid (And.intro hq hbm)
  clear hz hx hq hbm
  go_wp2_with fail
  go_loopw [7] (fun v wr => ∃ k : Nat, k ≤ m ∧ v = .int .i64 (k : Int) ∧ Hid (TQ wr q n bm (foldT n (l.take k))) ∧ Hid (Ext w wr)) (fun v _ => m - (intOf v).toNat)
  case atStart => exact ⟨0, Nat.zero_le _, rfl, Lib.hid (by rw [List.take_zero]; exact HZ.out), HX⟩
  case round =>
    obtain ⟨k, hk, rfl, HZ, HX⟩ := hrel
    by_cases hlt : k < m
    · obtain ⟨g, o, p, rfl, hg, hp, c0, c1⟩ := (H.out.below HX.out).pair hlt
      have hpn := HNR.out.at_ hp
      have herr := ((HNR.out.take k).inv (by have := HN.out; omega)).err hpn
      have hft := foldT_take (n := n) hp
      obtain ⟨i, r⟩ := p
      have hnt := tnote_of (HZ.out.ext (Ext.refl wr).drew) i r
      dsimp only at herr hft
      rw [herr, ← hft] at hnt
      have HNT := Lib.hid hnt
      have HG : Hid (g ≠ bm) := Lib.hid (by have := HB.out.2; omega)
      have hS1 : wr.drew.cell? ⟨g, o + k * 2, none⟩ = some (.int .i64 i) := c0
      have hS2 : wr.drew.cell? ⟨g, o + k * 2 + 1, none⟩ = some (.int .i64 r) := c1
      clear hp hpn herr hft hnt c0 c1
      go_wp2_with fail
      go_region_held3 (fun w' => w'.cell? ⟨g, o + k * 2, none⟩ = some (.int .i64 i) ∧ w'.cell? ⟨g, o + k * 2 + 1, none⟩ = some (.int .i64 r))
        (first | with_reducible exact ⟨hS1, hS2⟩ | with_reducible exact hS4 | with_reducible assumption)
        (first | (go_at_call 11; ((with_reducible refine HNT.out.mono ?_); rintro e' w3 ⟨rfl, hz3, hm3⟩; have hS4 := And.intro (mod_cellT hm3 HG.out hS1) (mod_cellT hm3 HG.out hS2))))
      have HZ3 := Lib.hid hz3
      have HX3 : Hid (Ext w w3) := Lib.hid (Below.mod HX.out ((Mod.of_ext (Ext.refl wr).drew).trans hm3 fun _ hi => .inl hi) HX.out.size (fun i hi => by have := HB.out.2; omega))
      clear hz3 hm3 hS4 hS1 hS2
      go_wp2_with fail
      go_roundw
      case rel => exact ⟨k + 1, by omega, by go_num, HZ3, HX3⟩
      case measure => simp [intOf]; omega
    · obtain rfl : k = m := by omega
      go_wp2_with fail
      go_ret
      refine ⟨q, bm, rfl, ?_, HX.out, HB.out.1, HB.out.2⟩
      have := HZ.out
      rwa [List.take_of_length_le (by rw [H.out.len]; omega)] at this
end Go.Proofs.Ytmnldkfkcfnkdaa
