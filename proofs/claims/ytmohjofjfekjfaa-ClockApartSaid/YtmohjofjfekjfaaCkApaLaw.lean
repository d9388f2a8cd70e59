/-
  Of two that heard last at the same tick the one of the lesser number stands first, 4 ticks ahead for each number between: the law's walk.
-/
import Derived.Test.YtmohjofjfekjfaaCkOftLaw
import Derived.Test.YtmohjofjfekjfaaCkNilLaw
namespace Go.Proofs.Ytmohjofjfekjfaa
open Go Go.RowKit

/-- Two clocks beside each other, made since the law began. -/
structure Two (w w' : World) (g P s l h Q t m : Nat) : Prop where
  one : CE w w' g P s l
  two : CQ w' h Q t m
  new : w.heap.size ≤ h
  ne : g ≠ h
section
variable {w a b : World} {g P s l h Q t m s' l' t' m' : Nat}
theorem Two.mod1 (z : Two w a g P s l h Q t m) (c : CQ b g P s' l') (k : Mod (fun k => k = g) a b) : Two w b g P s' l' h Q t m := ⟨z.one.mod c k, z.two.mod k (fun e => z.ne (Eq.symm e)), z.new, z.ne⟩
theorem Two.mod2 (z : Two w a g P s l h Q t m) (c : CQ b h Q t' m') (k : Mod (fun k => k = h) a b) : Two w b g P s l h Q t' m' :=
  ⟨⟨z.one.q.mod k z.ne, Below.mod z.one.ext k (Ext.size z.one.ext) (fun i e => by rw [show i = h from e]; exact z.new), z.one.new⟩, c, z.new, z.ne⟩
end
/-- The first tick of k at which one of patience P stands, or 0. -/
def fstC (P k : Nat) : Nat := if P ≤ k then P else 0
theorem fst_step {P j : Nat} (hp : 10 ≤ P ∧ P ≤ 34) (hj : j < 40) : fstC P (j + 1) = if (j + 1) % P = 0 ∧ fstC P j = 0 then j + 1 else fstC P j := by
  unfold fstC
  by_cases h1 : P ≤ j
  · rw [if_pos h1, if_pos (by omega), if_neg (by omega)]
  · rw [if_neg h1]
    by_cases h2 : P = j + 1
    · subst h2
      rw [if_pos (Nat.le_refl _), if_pos ⟨Nat.mod_self _, rfl⟩]
    · rw [if_neg (by omega), if_neg (fun e => by rw [Nat.mod_eq_of_lt (by omega)] at e; omega)]
theorem fst_ways {P j : Nat} (hp : 10 ≤ P ∧ P ≤ 34) (hj : j < 40) : (decide ((j + 1) % P = 0) = true ∧ fstC P j = 0 ∧ fstC P (j + 1) = j + 1) ∨ (decide ((j + 1) % P = 0) = false ∧ fstC P (j + 1) = fstC P j) ∨ (decide ((j + 1) % P = 0) = true ∧ fstC P j ≠ 0 ∧ fstC P (j + 1) = fstC P j) := by
  have h := fst_step hp hj
  by_cases h1 : (j + 1) % P = 0
  · by_cases h2 : fstC P j = 0
    · exact .inl ⟨decide_eq_true h1, h2, by rw [h, if_pos ⟨h1, h2⟩]⟩
    · exact .inr (.inr ⟨decide_eq_true h1, h2, by rw [h, if_neg (fun e => h2 e.2)]⟩)
  · exact .inr (.inl ⟨decide_eq_false h1, by rw [h, if_neg (fun e => h1 e.1)]⟩)
theorem fst_le (P j : Nat) : fstC P j ≤ P := by unfold fstC; split <;> omega
theorem fst_0 {P : Nat} (hp : 10 ≤ P) : fstC P 0 = 0 := if_neg (by omega)
theorem fst_40 {P : Nat} (hp : P ≤ 34) : fstC P 40 = P := if_pos (by omega)
set_option maxRecDepth 100000 in
set_option maxHeartbeats 3200000 in
theorem clockApart_law (x y t : Int) (w : World) (_ : (Lit.int .i64 x).wf = true) (_ : (Lit.int .i64 y).wf = true) (ht : (Lit.int .u8 t).wf = true) :
    Calls Try.prog 7 #[.int .i64 x, .int .i64 y, .int .u8 t] w fun e w' => e = .returned (.bool true) ∧ Below w.heap.size w w' := by
  show Calls Try.prog 7 #[.int .i64 x, .int .i64 y, .int .u8 t] w fun e w' => e = .returned (.bool true) ∧ Ext w w'
  obtain ⟨n, rfl, hn⟩ := u8_natC ht
  clear ht
  go_enter Try.func7, Try.ntmps7
  go_wp2_with fail
  refine (cawake_any _).mono ?_
  rintro r' w1 ⟨rfl, hx⟩
  have HX := Lib.hid hx
  clear hx
  go_upto_region 4 with (fail)
  obtain ⟨k, hk, hke⟩ : ∃ k : Nat, k < 7 ∧ wrap64 ((IntKind.u64.wrap x).tmod 7) = (k : Int) := wrap_modC x 7 (by decide) (by decide)
  obtain ⟨m, hm, hme⟩ : ∃ m : Nat, m < 7 ∧ wrap64 ((IntKind.u64.wrap y).tmod 7) = (m : Int) := wrap_modC y 7 (by decide) (by decide)
  rw [hke, hme]
  clear hke hme
  go_wp2_with fail
  refine (cnew_yes k hk _).mono ?_
  rintro r' w2 ⟨rfl, z, e2⟩
  have HZ : Hid (CE w w2 w1.heap.size (10 + 4 * k) 0 0) := Lib.hid ⟨z, HX.out.trans e2, Ext.size HX.out⟩
  clear z e2
  obtain ⟨g, hg⟩ : ∃ g, w1.heap.size = g := ⟨_, rfl⟩
  rw [hg] at HZ ⊢
  clear hg
  go_wp2_with fail
  refine (cnew_yes m hm _).mono ?_
  rintro r' w3 ⟨rfl, z, e3⟩
  have H3 : Hid (Two w w3 g (10 + 4 * k) 0 0 w2.heap.size (10 + 4 * m) 0 0) := Lib.hid ⟨⟨HZ.out.q.ext e3, HZ.out.ext.trans e3, HZ.out.new⟩, z, Ext.size HZ.out.ext, fun e => by have := HZ.out.q.lt; omega⟩
  clear z e3
  obtain ⟨h, hh⟩ : ∃ h, w2.heap.size = h := ⟨_, rfl⟩
  rw [hh] at H3 ⊢
  clear hh
  have hp := H3.out.one.q.pat
  have hq := H3.out.two.pat
  have HPe : Hid ((((10 + 4 * m : Nat) : Int) - ((10 + 4 * k : Nat) : Int)) = 4 * ((m : Int) - (k : Int))) := Lib.hid (by omega)
  obtain ⟨P, hP⟩ : ∃ P, 10 + 4 * k = P := ⟨_, rfl⟩
  obtain ⟨Q, hQ⟩ : ∃ Q, 10 + 4 * m = Q := ⟨_, rfl⟩
  rw [hP, hQ] at H3 HPe
  rw [hP] at hp
  rw [hQ] at hq
  clear hP hQ
  go_wp2_with fail
  rw [show (n : Int) % 60 = ((n % 60 : Nat) : Int) by omega]
  obtain ⟨d, hd⟩ : ∃ d, n % 60 = d := ⟨_, rfl⟩
  have hd60 : d ≤ 1000 := by omega
  rw [hd]
  have HO : offC d 0 = 0 := by unfold offC; split <;> rfl
  refine (cticks_wait H3.out.one.q d hd60).mono ?_
  rw [HO]
  rintro r' w4 ⟨rfl, z, q⟩
  have H4 := Lib.hid (H3.out.mod1 z q)
  clear z q
  go_wp2_with fail
  rw [show (n : Int) % 60 = ((n % 60 : Nat) : Int) by omega, hd]
  refine (cticks_wait H4.out.two d hd60).mono ?_
  rw [HO]
  rintro r' w5 ⟨rfl, z, q⟩
  have H5 := Lib.hid (H4.out.mod2 z q)
  clear z q
  clear hd
  obtain ⟨s1, hs1⟩ : ∃ s, (0 + d) % P = s := ⟨_, rfl⟩
  obtain ⟨s2, hs2⟩ : ∃ s, (0 + d) % Q = s := ⟨_, rfl⟩
  rw [hs1, hs2] at H5
  clear hs1 hs2
  go_wp2_with fail
  refine (cHear_of H5.out.one.q).mono ?_
  rintro r' w6 ⟨rfl, z, q⟩
  have H6 := Lib.hid (H5.out.mod1 z q)
  clear z q
  go_wp2_with fail
  refine (cHear_of H6.out.two).mono ?_
  rintro r' w7 ⟨rfl, z, q⟩
  have H7 := Lib.hid (H6.out.mod2 z q)
  clear z q
  go_wp2_with fail
  go_loopw [11, 12, 13] (fun a b v wr => ∃ j : Nat, j ≤ 40 ∧ a = .int .i64 (fstC P j : Int) ∧ b = .int .i64 (fstC Q j : Int) ∧ v = .int .i64 ((j : Int) + 1) ∧ Hid (Two w wr g P (j % P) 0 h Q (j % Q) 0)) (fun _ _ v _ => 41 - (intOf v).toNat)
  case atStart => exact ⟨0, by omega, by rw [fst_0 hp.1]; rfl, by rw [fst_0 hq.1]; rfl, rfl, by rw [Nat.zero_mod, Nat.zero_mod]; exact H7⟩
  case round =>
    obtain ⟨j, hj, rfl, rfl, rfl, HE⟩ := hrel
    by_cases hlt : j < 40
    · have hj40 : (j : Int) + 1 ≤ 40 := by omega
      have hc := ctick_wait HE.out.one.q
      rw [Nat.mod_add_mod] at hc
      have hl1 := fst_le P j
      have hl2 := fst_le Q j
      rcases fst_ways hp hlt with A1 | A2 | A3
      · obtain ⟨hb1, hf1, ht1⟩ := A1
        have HF1 := Lib.hid ht1
        rw [hb1] at hc
        have HC := Lib.hid hc
        rw [hf1]
        clear hf1
        clear hb1 ht1 hc
        rcases fst_ways hq hlt with B1 | B2 | B3
        · obtain ⟨hb2, hf2, ht2⟩ := B1
          have HF2 := Lib.hid ht2
          rw [hf2]
          clear hf2
          clear ht2
          have HB2 := Lib.hid hb2
          clear hb2
          go_wp2_with fail
          refine HC.out.mono ?_
          rintro r' w8 ⟨rfl, z, q⟩
          have H8 := Lib.hid (HE.out.mod1 z q)
          have hc2 := ctick_wait H8.out.two
          rw [Nat.mod_add_mod, HB2.out] at hc2
          have HC2 := Lib.hid hc2
          clear z q hc2
          go_wp2_with fail
          refine HC2.out.mono ?_
          rintro r' w9 ⟨rfl, z, q⟩
          have H9 := Lib.hid (H8.out.mod2 z q)
          clear z q
          go_wp2_with fail
          go_roundw
          case rel => exact ⟨j + 1, by omega, by first | (rw [HF1.out]; done) | (rw [HF1.out]; go_num), by first | (rw [HF2.out]; done) | (rw [HF2.out]; go_num), by go_num, H9⟩
          case measure => simp [intOf]; omega
        · obtain ⟨hb2, ht2⟩ := B2
          have HF2 := Lib.hid ht2
          clear ht2
          generalize fstC Q j = fb at *
          have HB2 := Lib.hid hb2
          clear hb2
          go_wp2_with fail
          refine HC.out.mono ?_
          rintro r' w8 ⟨rfl, z, q⟩
          have H8 := Lib.hid (HE.out.mod1 z q)
          have hc2 := ctick_wait H8.out.two
          rw [Nat.mod_add_mod, HB2.out] at hc2
          have HC2 := Lib.hid hc2
          clear z q hc2
          go_wp2_with fail
          refine HC2.out.mono ?_
          rintro r' w9 ⟨rfl, z, q⟩
          have H9 := Lib.hid (H8.out.mod2 z q)
          clear z q
          go_wp2_with fail
          go_roundw
          case rel => exact ⟨j + 1, by omega, by first | (rw [HF1.out]; done) | (rw [HF1.out]; go_num), by first | (rw [HF2.out]; done) | (rw [HF2.out]; go_num), by go_num, H9⟩
          case measure => simp [intOf]; omega
        · obtain ⟨hb2, hf2, ht2⟩ := B3
          have HF2 := Lib.hid ht2
          have hg2 : ((fstC Q j : Nat) : Int) ≠ 0 := by omega
          clear hf2
          clear ht2
          generalize fstC Q j = fb at *
          have HB2 := Lib.hid hb2
          clear hb2
          go_wp2_with fail
          refine HC.out.mono ?_
          rintro r' w8 ⟨rfl, z, q⟩
          have H8 := Lib.hid (HE.out.mod1 z q)
          have hc2 := ctick_wait H8.out.two
          rw [Nat.mod_add_mod, HB2.out] at hc2
          have HC2 := Lib.hid hc2
          clear z q hc2
          go_wp2_with fail
          refine HC2.out.mono ?_
          rintro r' w9 ⟨rfl, z, q⟩
          have H9 := Lib.hid (H8.out.mod2 z q)
          clear z q
          go_wp2_with fail
          go_roundw
          case rel => exact ⟨j + 1, by omega, by first | (rw [HF1.out]; done) | (rw [HF1.out]; go_num), by first | (rw [HF2.out]; done) | (rw [HF2.out]; go_num), by go_num, H9⟩
          case measure => simp [intOf]; omega
      · obtain ⟨hb1, ht1⟩ := A2
        have HF1 := Lib.hid ht1
        rw [hb1] at hc
        have HC := Lib.hid hc
        clear hb1 ht1 hc
        generalize fstC P j = fa at *
        rcases fst_ways hq hlt with B1 | B2 | B3
        · obtain ⟨hb2, hf2, ht2⟩ := B1
          have HF2 := Lib.hid ht2
          rw [hf2]
          clear hf2
          clear ht2
          have HB2 := Lib.hid hb2
          clear hb2
          go_wp2_with fail
          refine HC.out.mono ?_
          rintro r' w8 ⟨rfl, z, q⟩
          have H8 := Lib.hid (HE.out.mod1 z q)
          have hc2 := ctick_wait H8.out.two
          rw [Nat.mod_add_mod, HB2.out] at hc2
          have HC2 := Lib.hid hc2
          clear z q hc2
          go_wp2_with fail
          refine HC2.out.mono ?_
          rintro r' w9 ⟨rfl, z, q⟩
          have H9 := Lib.hid (H8.out.mod2 z q)
          clear z q
          go_wp2_with fail
          go_roundw
          case rel => exact ⟨j + 1, by omega, by first | (rw [HF1.out]; done) | (rw [HF1.out]; go_num), by first | (rw [HF2.out]; done) | (rw [HF2.out]; go_num), by go_num, H9⟩
          case measure => simp [intOf]; omega
        · obtain ⟨hb2, ht2⟩ := B2
          have HF2 := Lib.hid ht2
          clear ht2
          generalize fstC Q j = fb at *
          have HB2 := Lib.hid hb2
          clear hb2
          go_wp2_with fail
          refine HC.out.mono ?_
          rintro r' w8 ⟨rfl, z, q⟩
          have H8 := Lib.hid (HE.out.mod1 z q)
          have hc2 := ctick_wait H8.out.two
          rw [Nat.mod_add_mod, HB2.out] at hc2
          have HC2 := Lib.hid hc2
          clear z q hc2
          go_wp2_with fail
          refine HC2.out.mono ?_
          rintro r' w9 ⟨rfl, z, q⟩
          have H9 := Lib.hid (H8.out.mod2 z q)
          clear z q
          go_wp2_with fail
          go_roundw
          case rel => exact ⟨j + 1, by omega, by first | (rw [HF1.out]; done) | (rw [HF1.out]; go_num), by first | (rw [HF2.out]; done) | (rw [HF2.out]; go_num), by go_num, H9⟩
          case measure => simp [intOf]; omega
        · obtain ⟨hb2, hf2, ht2⟩ := B3
          have HF2 := Lib.hid ht2
          have hg2 : ((fstC Q j : Nat) : Int) ≠ 0 := by omega
          clear hf2
          clear ht2
          generalize fstC Q j = fb at *
          have HB2 := Lib.hid hb2
          clear hb2
          go_wp2_with fail
          refine HC.out.mono ?_
          rintro r' w8 ⟨rfl, z, q⟩
          have H8 := Lib.hid (HE.out.mod1 z q)
          have hc2 := ctick_wait H8.out.two
          rw [Nat.mod_add_mod, HB2.out] at hc2
          have HC2 := Lib.hid hc2
          clear z q hc2
          go_wp2_with fail
          refine HC2.out.mono ?_
          rintro r' w9 ⟨rfl, z, q⟩
          have H9 := Lib.hid (H8.out.mod2 z q)
          clear z q
          go_wp2_with fail
          go_roundw
          case rel => exact ⟨j + 1, by omega, by first | (rw [HF1.out]; done) | (rw [HF1.out]; go_num), by first | (rw [HF2.out]; done) | (rw [HF2.out]; go_num), by go_num, H9⟩
          case measure => simp [intOf]; omega
      · obtain ⟨hb1, hf1, ht1⟩ := A3
        have HF1 := Lib.hid ht1
        rw [hb1] at hc
        have HC := Lib.hid hc
        have hg1 : ((fstC P j : Nat) : Int) ≠ 0 := by omega
        clear hf1
        clear hb1 ht1 hc
        generalize fstC P j = fa at *
        rcases fst_ways hq hlt with B1 | B2 | B3
        · obtain ⟨hb2, hf2, ht2⟩ := B1
          have HF2 := Lib.hid ht2
          rw [hf2]
          clear hf2
          clear ht2
          have HB2 := Lib.hid hb2
          clear hb2
          go_wp2_with fail
          refine HC.out.mono ?_
          rintro r' w8 ⟨rfl, z, q⟩
          have H8 := Lib.hid (HE.out.mod1 z q)
          have hc2 := ctick_wait H8.out.two
          rw [Nat.mod_add_mod, HB2.out] at hc2
          have HC2 := Lib.hid hc2
          clear z q hc2
          go_wp2_with fail
          refine HC2.out.mono ?_
          rintro r' w9 ⟨rfl, z, q⟩
          have H9 := Lib.hid (H8.out.mod2 z q)
          clear z q
          go_wp2_with fail
          go_roundw
          case rel => exact ⟨j + 1, by omega, by first | (rw [HF1.out]; done) | (rw [HF1.out]; go_num), by first | (rw [HF2.out]; done) | (rw [HF2.out]; go_num), by go_num, H9⟩
          case measure => simp [intOf]; omega
        · obtain ⟨hb2, ht2⟩ := B2
          have HF2 := Lib.hid ht2
          clear ht2
          generalize fstC Q j = fb at *
          have HB2 := Lib.hid hb2
          clear hb2
          go_wp2_with fail
          refine HC.out.mono ?_
          rintro r' w8 ⟨rfl, z, q⟩
          have H8 := Lib.hid (HE.out.mod1 z q)
          have hc2 := ctick_wait H8.out.two
          rw [Nat.mod_add_mod, HB2.out] at hc2
          have HC2 := Lib.hid hc2
          clear z q hc2
          go_wp2_with fail
          refine HC2.out.mono ?_
          rintro r' w9 ⟨rfl, z, q⟩
          have H9 := Lib.hid (H8.out.mod2 z q)
          clear z q
          go_wp2_with fail
          go_roundw
          case rel => exact ⟨j + 1, by omega, by first | (rw [HF1.out]; done) | (rw [HF1.out]; go_num), by first | (rw [HF2.out]; done) | (rw [HF2.out]; go_num), by go_num, H9⟩
          case measure => simp [intOf]; omega
        · obtain ⟨hb2, hf2, ht2⟩ := B3
          have HF2 := Lib.hid ht2
          have hg2 : ((fstC Q j : Nat) : Int) ≠ 0 := by omega
          clear hf2
          clear ht2
          generalize fstC Q j = fb at *
          have HB2 := Lib.hid hb2
          clear hb2
          go_wp2_with fail
          refine HC.out.mono ?_
          rintro r' w8 ⟨rfl, z, q⟩
          have H8 := Lib.hid (HE.out.mod1 z q)
          have hc2 := ctick_wait H8.out.two
          rw [Nat.mod_add_mod, HB2.out] at hc2
          have HC2 := Lib.hid hc2
          clear z q hc2
          go_wp2_with fail
          refine HC2.out.mono ?_
          rintro r' w9 ⟨rfl, z, q⟩
          have H9 := Lib.hid (H8.out.mod2 z q)
          clear z q
          go_wp2_with fail
          go_roundw
          case rel => exact ⟨j + 1, by omega, by first | (rw [HF1.out]; done) | (rw [HF1.out]; go_num), by first | (rw [HF2.out]; done) | (rw [HF2.out]; go_num), by go_num, H9⟩
          case measure => simp [intOf]; omega
    · obtain rfl : j = 40 := by omega
      rw [fst_40 hp.2, fst_40 hq.2]
      have hfin := HPe.out
      go_wp2_with fail
      go_ret
      exact ⟨rfl, HE.out.one.ext⟩
end Go.Proofs.Ytmohjofjfekjfaa
