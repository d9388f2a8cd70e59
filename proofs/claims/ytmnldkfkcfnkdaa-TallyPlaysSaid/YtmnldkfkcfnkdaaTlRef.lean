/-
  The document's tally in memory; the contracts of its New, at, Count, Upto, and of the document's Add.
-/
import Derived.Test.YtmnldkfkcfnkdaaTlUp
import Derived.Test.YtmnldkfkcfnkdaaTlFold
import Derived.Test.YtmnldkfkcfnkdaaQuRef2
import Derived.Test.YtmnldkfkcfnkdaaLsOwn
import Derived.Deep.RegionHeld3
namespace Go.Proofs.Ytmnldkfkcfnkdaa
open Go Go.RowKit Go.Maps

def rowC (p : Int × Nat) : List Value := [.int .i64 p.1, .int .u8 (p.2 : Int)]
theorem rowC_one (p : Int × Nat) : ∀ u ∈ rowC p, u.oneCell' = true := by
  intro u hu
  simp only [rowC, List.mem_cons, List.not_mem_nil, or_false] at hu
  rcases hu with rfl | rfl <;> rfl
structure RQ (w : World) (q n : Nat) (v : Value) (L : List (Int × Nat)) : Prop where
  row : w.heap[q]? = some (.cells #[.int .i64 (n : Int), v] 58 (0, 0))
  own : w.ownsRow (q + 1) 61 2 v L.length (L.flatMap rowC)
  ok : OkT L
  cnt : n = 3 ∨ n = 5 ∨ n = 7
section
variable {w w' : World} {q n : Nat} {v : Value} {L : List (Int × Nat)}
theorem RQ.lt (z : RQ w q n v L) : q < w.heap.size := (Array.getElem?_eq_some_iff.1 z.row).1
theorem RQ.mod {F : Nat → Prop} (z : RQ w q n v L) (hm : Mod F w w') (hF : ∀ i, F i → i < q) : RQ w' q n v L :=
  ⟨heap_mod z.row hm fun e => by have := hF _ e; omega, own_mod z.own hm fun i hi hf => by have := (World.ownsRow.lt z.own i hi).1; have := hF _ hf; omega, z.ok, z.cnt⟩
theorem RQ.ext (z : RQ w q n v L) (hx : Ext w w') : RQ w' q n v L := z.mod (F := fun _ => False) (Mod.of_ext hx) fun _ h => h.elim
theorem RQ.cells (z : RQ w q n v L) : w.cell? ⟨q, 0, none⟩ = some (.int .i64 (n : Int)) ∧ w.cell? ⟨q, 1, none⟩ = some v := ⟨cell_of_row w q 0 _ _ _ z.row, cell_of_row w q 1 _ _ _ z.row⟩
theorem RQ.form (z : RQ w q n v L) : ∃ A c, v = .slice A L.length c ∧ L.length ≤ c ∧ c ≤ 9223372036854775807 := by
  obtain ⟨A, c, hv, hL⟩ := Ls.of_own (cells := rowC) (fun _ => rfl) (by omega) z.own
  exact ⟨A, c, hv, hL.cap, hL.most⟩
theorem RQ.at_ (z : RQ w q n v L) {k : Nat} {p : Int × Nat} (hk : L[k]? = some p) :
    ∃ g cap, v = .slice (some ⟨g, 0, none⟩) L.length cap ∧ q + 1 ≤ g ∧ g < w.heap.size ∧ L.length ≤ cap ∧ cap ≤ 9223372036854775807 ∧ (∃ cur, w.heap[g]? = some (.cells cur 61 (0, 0))) ∧ w.cell? ⟨g, k * 2, none⟩ = some (.int .i64 p.1) ∧ w.cell? ⟨g, k * 2 + 1, none⟩ = some (.int .u8 (p.2 : Int)) := by
  have hlt : k < L.length := (List.getElem?_eq_some_iff.1 hk).1
  obtain ⟨A, c, hv, hL⟩ := Ls.of_own (cells := rowC) (fun _ => rfl) (by omega) z.own
  rcases z.own.2 with ⟨rfl, hz⟩ | ⟨g, cap, cur, rfl, hB, hg, hn, hm, hs, ht⟩
  · omega
  · injection hv with h1 h2 h3
    subst h1 h3
    obtain ⟨g', o', e1, _, hc⟩ := hL.rd (by omega)
    injection e1 with e1
    injection e1 with e1 e2
    subst e1 e2
    have hc := hc k p hk
    have h0 := hc 0 _ rfl
    have h1 := hc 1 _ rfl
    rw [Nat.zero_add] at h0 h1
    exact ⟨g, cap, rfl, hB, (Array.getElem?_eq_some_iff.1 hg).1, hn, hL.most, ⟨cur, hg⟩, h0, h1⟩
end
set_option maxRecDepth 100000 in
theorem or_add : ∀ s : Fin 256, ∀ i : Fin 7, s.1.testBit i.1 = false → s.1 + 2 ^ i.1 = s.1 ||| 2 ^ i.1 := by decide +kernel
set_option maxRecDepth 100000 in
theorem or_has : ∀ s : Fin 256, ∀ i : Fin 7, s.1.testBit i.1 = true → s.1 ||| 2 ^ i.1 = s.1 := by decide +kernel
set_option maxHeartbeats 800000 in
theorem radd_of (s : Nat) (hs : s < 256) (i : Int) (w : World) : Calls Try.prog 31 #[.int .u8 (s : Int), .int .i64 i] w fun e w' => e = .returned (.int .u8 (addQ s i : Int)) ∧ w = w' := by
  by_cases h0 : i < 0
  · have d0 : decide (i < 0) = true := decide_eq_true h0
    have HB : Hid (addQ s i = s) := Lib.hid (by unfold addQ; rw [if_neg (by omega)])
    go_enter Try.func31, Try.ntmps31
    go_wp2_with fail
    go_ret
    exact ⟨by rw [HB.out]; rfl, rfl⟩
  by_cases h6 : 6 < i
  · have d0 : decide (i < 0) = false := decide_eq_false h0
    have d6 : decide (6 < i) = true := decide_eq_true h6
    have HB : Hid (addQ s i = s) := Lib.hid (by unfold addQ; rw [if_neg (by omega)])
    go_enter Try.func31, Try.ntmps31
    go_wp2_with fail
    go_ret
    exact ⟨by rw [HB.out]; rfl, rfl⟩
  have d0 : decide (i < 0) = false := decide_eq_false h0
  have d6 : decide (6 < i) = false := decide_eq_false h6
  obtain ⟨j, rfl⟩ : ∃ j : Nat, i = (j : Int) := ⟨i.toNat, by omega⟩
  have hj : j ≤ 6 := by omega
  have hA : addQ s (j : Int) = s ||| 2 ^ j := by unfold addQ; rw [if_pos (by omega), Int.toNat_natCast]
  have hh : hasQ s (j : Int) = s.testBit j := by unfold hasQ; rw [decide_eq_true (by omega), Bool.true_and, Int.toNat_natCast]
  have HH := Lib.hid (fun V => rhas_of s hs (j : Int) V)
  rw [hh] at HH
  have j6 : ¬ (6 : Int) < (j : Int) := by omega
  cases ht : s.testBit j with
  | true =>
    rw [ht] at HH
    have HB : Hid (addQ s (j : Int) = s) := Lib.hid (by rw [hA]; exact or_has ⟨s, hs⟩ ⟨j, by omega⟩ ht)
    clear ht hh hA h0 h6
    go_enter Try.func31, Try.ntmps31
    go_wp2_with fail
    refine (HH.out _).mono ?_
    rintro e w1 ⟨rfl, rfl⟩
    go_wp2_with fail
    go_ret
    exact ⟨by rw [HB.out]; rfl, rfl⟩
  | false =>
    rw [ht] at HH
    have hadd : s + 2 ^ j = s ||| 2 ^ j := or_add ⟨s, hs⟩ ⟨j, by omega⟩ ht
    have hlt : s ||| 2 ^ j < 256 := add_lt ⟨s, hs⟩ ⟨j, by omega⟩
    have HB : Hid (addQ s (j : Int) = s + 2 ^ j ∧ s + 2 ^ j < 256) := Lib.hid ⟨by rw [hA, hadd], by rw [hadd]; exact hlt⟩
    clear ht hh hA h0 h6 hadd hlt
    go_enter Try.func31, Try.ntmps31
    go_wp2_with fail
    refine (HH.out _).mono ?_
    rintro e w1 ⟨rfl, rfl⟩
    go_wp2_with fail
    go_loopw [5, 6] (fun v i wr => ∃ k : Nat, k ≤ j ∧ i = .int .i64 (k : Int) ∧ v = .int .u8 ((2 ^ k : Nat) : Int) ∧ wr = w) (fun _ i _ => j - (intOf i).toNat)
    case atStart => exact ⟨0, by omega, rfl, by simp, rfl⟩
    case round =>
      obtain ⟨k, hk, rfl, rfl, rfl⟩ := hrel
      by_cases hlt : k < j
      · have hp : 2 ^ (k + 1) ≤ 2 ^ 6 := Nat.pow_le_pow_right (by omega) (by omega)
        have HP := Lib.hid (show 2 ^ (k + 1) = 2 ^ k * 2 from Nat.pow_succ ..)
        have hq : 2 ^ k * 2 < 256 := by rw [← HP.out]; omega
        clear hp
        generalize 2 ^ k = qq at *
        go_wp2_with fail
        go_roundw
        case rel => exact ⟨k + 1, by omega, by go_num, by rw [HP.out]; go_num, trivial⟩
        case measure => simp [intOf]; omega
      · obtain rfl : k = j := by omega
        have hb := HB.out
        obtain ⟨qq, hqq⟩ : ∃ qq, 2 ^ k = qq := ⟨_, rfl⟩
        rw [hqq] at hb ⊢
        have hb2 := hb.2
        have HB2 := Lib.hid hb.1
        clear hb HB hqq
        go_wp2_with fail
        go_ret
        exact ⟨by rw [HB2.out]; go_num, rfl⟩
set_option maxRecDepth 100000 in
set_option maxHeartbeats 400000 in
theorem tcrowd_of (n : Int) (w : World) : Calls Try.prog 27 #[.int .i64 n] w fun e w' => e = .returned (.bool (decide (mostQ n ≠ 0))) ∧ w = w' := by
  by_cases h3 : n = 3
  · subst h3
    go_enter Try.func27, Try.ntmps27
    go_wp2
    go_ret
    exact ⟨rfl, rfl⟩
  by_cases h5 : n = 5
  · subst h5
    go_enter Try.func27, Try.ntmps27
    go_wp2
    go_ret
    exact ⟨rfl, rfl⟩
  by_cases h7 : n = 7
  · subst h7
    go_enter Try.func27, Try.ntmps27
    go_wp2
    go_ret
    exact ⟨rfl, rfl⟩
  have hc : decide (mostQ n ≠ 0) = false := by unfold mostQ; simp [h3, h5, h7]
  rw [hc]
  have e3 : (n == 3) = false := by simpa using h3
  have e5 : (n == 5) = false := by simpa using h5
  have e7 : (n == 7) = false := by simpa using h7
  clear h3 h5 h7 hc
  go_enter Try.func27, Try.ntmps27
  go_wp2
  go_ret
  exact ⟨rfl, rfl⟩
set_option maxHeartbeats 600000 in
theorem rtnew_no (n : Int) (hn : mostQ n = 0) (w : World) : Calls Try.prog 10 #[.int .i64 n] w fun e w' => e = .returned (.pointer none) ∧ w = w' := by
  have HC := Lib.hid (tcrowd_of n w)
  rw [decide_eq_false (by simpa using hn)] at HC
  clear hn
  go_enter Try.func10, Try.ntmps10
  go_wp2_with fail
  refine HC.out.mono ?_
  rintro e w1 ⟨rfl, rfl⟩
  go_wp2_with fail
  go_ret
  exact ⟨rfl, rfl⟩
set_option maxHeartbeats 600000 in
theorem rtnew_yes (n : Nat) (hn : n = 3 ∨ n = 5 ∨ n = 7) (w : World) : Calls Try.prog 10 #[.int .i64 (n : Int)] w fun e w' => ∃ q, e = .returned (.pointer (some ⟨q, 0, none⟩)) ∧ RQ w' q n (.slice none 0 0) [] ∧ Ext w w' ∧ w.heap.size ≤ q := by
  have HC := Lib.hid (tcrowd_of (n : Int) w)
  rw [decide_eq_true (most_pos hn).1] at HC
  have HN := Lib.hid hn
  clear hn
  go_enter Try.func10, Try.ntmps10
  go_wp2_with fail
  refine HC.out.mono ?_
  rintro e w1 ⟨rfl, rfl⟩
  go_wp2_with fail
  go_ret
  exact ⟨w.heap.size, rfl, ⟨heap_alloc_new w (.cells #[.int .i64 (n : Int), .slice none 0 0] 58), World.ownsRow_nil _ _ _ _, okT_nil, HN.out⟩, (Ext.refl w).alloc _, Nat.le_refl _⟩
/-- Where a slot stands among the rows. -/
def AtT (e : Ending) (L : List (Int × Nat)) (k : Int) : Prop := (∃ (j : Nat) (s : Nat), e = .returned (.int .i64 (j : Int)) ∧ L[j]? = some (k, s)) ∨ (e = .returned (.int .i64 (-1)) ∧ k ∉ L.map Prod.fst)
set_option maxRecDepth 100000 in
set_option maxHeartbeats 800000 in
theorem rat_of {w : World} {q n : Nat} {v : Value} {L : List (Int × Nat)} (z : RQ w q n v L) (k : Int) :
    Calls Try.prog 30 #[.pointer (some ⟨q, 0, none⟩), .int .i64 k] w fun e w' => AtT e L k ∧ w = w' := by
  have h64 : L.length ≤ 64 := z.ok.most
  obtain ⟨c0, c1⟩ := z.cells
  obtain ⟨A, c, rfl, hcap, hmost⟩ := z.form
  have HZ := Lib.hid z
  clear z
  go_enter Try.func30, Try.ntmps30
  go_wp2_with fail
  go_loopw [5] (fun v wr => ∃ j : Nat, j ≤ L.length ∧ v = .int .i64 (j : Int) ∧ wr = w ∧ Hid (∀ i < j, ∀ p, L[i]? = some p → p.1 ≠ k)) (fun v _ => L.length - (intOf v).toNat)
  case atStart => exact ⟨0, Nat.zero_le _, rfl, rfl, Lib.hid (fun i hi => absurd hi (Nat.not_lt_zero _))⟩
  case round =>
    obtain ⟨j, hj, rfl, rfl, HJ⟩ := hrel
    by_cases hlt : j < L.length
    · obtain ⟨p, hp⟩ : ∃ p, L[j]? = some p := ⟨_, List.getElem?_eq_getElem hlt⟩
      obtain ⟨g, cap, hv, _, _, _, _, _, d0, _⟩ := HZ.out.at_ hp
      injection hv with hA _ hc
      subst hA hc
      obtain ⟨i, s⟩ := p
      dsimp only at d0
      have HP := Lib.hid hp
      clear hp
      by_cases hik : i = k
      · subst hik
        go_wp2_with fail
        go_ret
        exact ⟨.inl ⟨j, s, rfl, HP.out⟩, rfl⟩
      · have d1 : (i == k) = false := by simpa using hik
        go_wp2_with fail
        go_roundw
        case rel => exact ⟨j + 1, by omega, by go_num, by first | rfl | trivial, Lib.hid (fun i' hi' p hp => by
          by_cases e : i' = j
          · subst e
            rw [HP.out] at hp
            injection hp with hp
            subst hp
            exact hik
          · exact HJ.out i' (by omega) p hp)⟩
        case measure => simp [intOf]; omega
    · have hjl : j = L.length := by omega
      subst hjl
      go_wp2_with fail
      go_ret
      refine ⟨.inr ⟨rfl, fun hm => ?_⟩, rfl⟩
      obtain ⟨p, hp, e⟩ := List.mem_map.1 hm
      obtain ⟨i, hi⟩ := List.getElem?_of_mem hp
      exact HJ.out i (List.getElem?_eq_some_iff.1 hi).1 p hi e
end Go.Proofs.Ytmnldkfkcfnkdaa
