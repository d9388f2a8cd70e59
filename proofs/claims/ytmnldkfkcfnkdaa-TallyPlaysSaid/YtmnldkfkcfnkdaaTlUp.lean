/-
  The contracts of a tally's Note (in one form), Count, Upto; what a pointer to no tally answers.
-/
import Derived.Test.YtmnldkfkcfnkdaaTlC
import Derived.OpenShut
namespace Go.Proofs.Ytmnldkfkcfnkdaa
open Go Go.RowKit Go.Maps

theorem tnote_of {w : World} {h n bm : Nat} {L : List (Int × Nat)} (z : TQ w h n bm L) (i r : Int) :
    Calls Try.prog 11 #[.pointer (some ⟨h, 0, none⟩), .int .i64 i, .int .i64 r] w fun e w' => e = .returned (.int .i64 (errT n L i r : Nat)) ∧ TQ w' h n bm (noteT n L i r) ∧ Mod (fun k => k = bm) w w' := by
  by_cases ha : ¬ (1 ≤ i ∧ i ≤ 1099511627776) ∨ r < 0 ∨ (n : Int) ≤ r
  · rw [argT_no ha L, noteT_no (by rw [argT_no ha L]; decide)]
    exact (tnote_arg z i r ha).mono fun _ _ ⟨h1, h2⟩ => ⟨h1, by rw [← h2]; exact z, by rw [← h2]; exact Mod.refl _ _⟩
  · exact tnote_in z i r (by omega) (by omega) (by omega)
set_option maxRecDepth 100000 in
set_option maxHeartbeats 800000 in
theorem tnote_nil (p : Option Addr) (i r : Int) (w : World) (hu : UnmadeT w p) :
    Calls Try.prog 11 #[.pointer p, .int .i64 i, .int .i64 r] w fun e w' => e = .returned (.int .i64 1) ∧ w = w' := by
  have HM := Lib.hid (tmade_no p w hu)
  clear hu
  go_enter Try.func11, Try.ntmps11
  go_wp2_with fail
  refine HM.out.mono ?_
  rintro e w1 ⟨rfl, rfl⟩
  go_wp2_with fail
  go_ret
  exact ⟨rfl, rfl⟩
set_option maxRecDepth 100000 in
set_option maxHeartbeats 800000 in
theorem tcount_nil (p : Option Addr) (i : Int) (w : World) (hu : UnmadeT w p) :
    Calls Try.prog 15 #[.pointer p, .int .i64 i] w fun e w' => e = .returned (.int .i64 0) ∧ w = w' := by
  have HM := Lib.hid (tmade_no p w hu)
  clear hu
  go_enter Try.func15, Try.ntmps15
  go_wp2_with fail
  refine HM.out.mono ?_
  rintro e w1 ⟨rfl, rfl⟩
  go_wp2_with fail
  go_ret
  exact ⟨rfl, rfl⟩
set_option maxRecDepth 100000 in
set_option maxHeartbeats 800000 in
theorem tupto_nil (p : Option Addr) (a : Int) (w : World) (hu : UnmadeT w p) :
    Calls Try.prog 17 #[.pointer p, .int .i64 a] w fun e w' => e = .returned (.int .i64 a) ∧ w = w' := by
  have HM := Lib.hid (tmade_no p w hu)
  clear hu
  go_enter Try.func17, Try.ntmps17
  go_wp2_with fail
  refine HM.out.mono ?_
  rintro e w1 ⟨rfl, rfl⟩
  go_wp2_with fail
  go_ret
  exact ⟨rfl, rfl⟩
theorem UnmadeT.ext {w w' : World} {p : Option Addr} (h : UnmadeT w p) (hx : Ext w w') : UnmadeT w' p := by
  rcases h with h | ⟨d, h1, h2⟩
  · exact .inl h
  · exact .inr ⟨d, h1, ext_cellT hx h2⟩
set_option maxRecDepth 100000 in
set_option maxHeartbeats 800000 in
theorem tdrop_nil (p : Option Addr) (i : Int) (w : World) (hu : UnmadeT w p) :
    Calls Try.prog 13 #[.pointer p, .int .i64 i] w fun e w' => e = .returned (.tuple #[]) ∧ Ext w w' := by
  have hx : Ext w (w.alloc (.cells #[.int .i64 i] 3)) := (Ext.refl w).alloc _
  have HM := Lib.hid (tmade_no p _ (hu.ext hx))
  have HX := Lib.hid hx
  clear hu hx
  go_enter Try.func13, Try.ntmps13
  go_wp2_with fail
  refine HM.out.mono ?_
  rintro e w1 ⟨rfl, rfl⟩
  go_wp2_with fail
  refine bodyPost_ret (results_none rfl _ _ _) rfl ?_
  exact ⟨rfl, HX.out⟩
theorem cnt_len (s : Nat) (n : Int) : (memI s n).length = (membersQ s n).length := by unfold memI; rw [List.length_map]
set_option maxRecDepth 100000 in
set_option maxHeartbeats 1600000 in
theorem tcount_of {w : World} {h n bm : Nat} {L : List (Int × Nat)} (z : TQ w h n bm L) (i : Int) (hw : (Lit.int .i64 i).wf = true) :
    Calls Try.prog 15 #[.pointer (some ⟨h, 0, none⟩), .int .i64 i] w fun e w' => e = .returned (.int .i64 (cntT n L i : Nat)) ∧ Ext w w' := by
  have HM := Lib.hid (tmade_yes h w z.cells.1)
  obtain ⟨c0, c1, c2⟩ := z.cells
  have hlk : (Instr.lookup 36 (.map (some bm)) (.int .i64 i) false).run Try.prog w.drew = .ok (.int .u8 (lookT L i : Int)) w.drew := MapT.look (w := w.drew) (z.map.ext (Ext.refl w).drew) z.ok hw
  have HMem := Lib.hid (fun V => members_of (lookT L i) (z.ok.look_lt i) (n : Int) V)
  have HC := Lib.hid (cnt_len (lookT L i) (n : Int))
  have hS1 : w.drew.cell? ⟨h, 1, none⟩ = some (.int .i64 (n : Int)) := c1
  have hS2 : w.drew.cell? ⟨h, 2, none⟩ = some (.map (some bm)) := c2
  unfold cntT
  obtain ⟨s, hs⟩ : ∃ s, lookT L i = s := ⟨_, rfl⟩
  rw [hs] at hlk HMem HC ⊢
  clear z hw
  go_enter Try.func15, Try.ntmps15
  go_wp2_with fail
  refine HM.out.mono ?_
  rintro e w1 ⟨rfl, rfl⟩
  go_wp2_with fail
  go_region_held3 (fun w' => w'.cell? ⟨h, 1, none⟩ = some (.int .i64 (n : Int)) ∧ w'.cell? ⟨h, 2, none⟩ = some (.map (some bm)))
    (first | with_reducible exact ⟨hS1, hS2⟩ | with_reducible exact hS4 | with_reducible assumption)
    (first | (go_at_call 25; ((with_reducible refine (HMem.out _).mono ?_); rintro e' w3 ⟨A, c, rfl, hL, hx⟩; have hS4 := And.intro (ext_cellT hx hS1) (ext_cellT hx hS2))))
  go_wp2_with fail
  go_ret
  exact ⟨by rw [← HC.out]; rfl, (Ext.refl w).drew.trans hx⟩
theorem i64_next {a : Int} (hw : (Lit.int .i64 a).wf = true) {n : Int} {L : List (Int × Nat)} (hL : OkT L) :
    (Lit.int .i64 (IntKind.i64.wrap (a + 1))).wf = true ∧ lookT L (IntKind.i64.wrap (a + 1)) = lookT L (a + 1) ∧ (enT n L (a + 1) = true → IntKind.i64.wrap (a + 1) = a + 1) := by
  have hb := bounds_i64 hw
  by_cases h : a < 9223372036854775807
  · have e : IntKind.i64.wrap (a + 1) = a + 1 := by rw [IntKind.wrap_i64]; omega
    rw [e]
    exact ⟨WalkArith.wf_i64 (by omega), rfl, fun _ => rfl⟩
  · obtain rfl : a = 9223372036854775807 := by omega
    have e : IntKind.i64.wrap (9223372036854775807 + 1) = -9223372036854775808 := by decide
    have z1 : lookT L (9223372036854775807 + 1) = 0 := by
      by_cases hz : lookT L (9223372036854775807 + 1) = 0
      · exact hz
      · have := (hL.look_in hz).2
        omega
    have z2 : lookT L (-9223372036854775808) = 0 := by
      by_cases hz : lookT L (-9223372036854775808) = 0
      · exact hz
      · have := (hL.look_in hz).1
        omega
    rw [e]
    exact ⟨WalkArith.wf_i64 (by omega), by rw [z1, z2], fun he => absurd z1 (enT_held he)⟩
set_option maxRecDepth 100000 in
set_option maxHeartbeats 3200000 in
theorem tupto_of {w : World} {h n bm : Nat} {L : List (Int × Nat)} (z : TQ w h n bm L) (a : Int) (hw : (Lit.int .i64 a).wf = true) :
    Calls Try.prog 17 #[.pointer (some ⟨h, 0, none⟩), .int .i64 a] w fun e w' => e = .returned (.int .i64 (uptoT n L a)) ∧ Ext w w' := by
  have HM := Lib.hid (tmade_yes h w z.cells.1)
  have HZ := Lib.hid z
  have HW := Lib.hid hw
  clear z hw
  go_enter Try.func17, Try.ntmps17
  go_wp2_with fail
  refine HM.out.mono ?_
  rintro e w1 ⟨rfl, rfl⟩
  go_wp2_with fail
  go_loopw [5] (fun i wr => ∃ (j : Nat) (b : Int), i = .int .i64 b ∧ b = a + (j : Int) ∧ Hid ((Lit.int .i64 b).wf = true) ∧ Hid (runT (enT n L) a 65 = j + runT (enT n L) (a + j) (65 - j)) ∧ Hid (Ext w wr)) (fun i _ => 65 - ((intOf i) - a).toNat)
  case atStart => exact ⟨0, a, rfl, by simp, HW, Lib.hid (by simp), Lib.hid (Ext.refl _)⟩
  case round =>
    obtain ⟨j, b, rfl, hb, HB, HR, HX⟩ := hrel
    have z := HZ.out.ext HX.out
    obtain ⟨c0, c1, c2⟩ := z.cells
    obtain ⟨hw1, hl1, he1⟩ := i64_next (n := (n : Int)) HB.out z.ok
    obtain ⟨hj, hyes, hno⟩ := runT_step z.ok.most HR.out
    rw [← hb] at hyes hno
    have hlk : (Instr.lookup 36 (.map (some bm)) (.int .i64 (IntKind.i64.wrap (b + 1))) false).run Try.prog wr.drew = .ok (.int .u8 (lookT L (b + 1) : Int)) wr.drew := by
      rw [← hl1]
      exact MapT.look (w := wr.drew) (z.map.ext (Ext.refl wr).drew) z.ok hw1
    have HEn := Lib.hid (fun V => enough_of (lookT L (b + 1)) (z.ok.look_lt (b + 1)) (n : Int) V)
    have HJ := Lib.hid (And.intro hj (And.intro hyes (And.intro hno (And.intro he1 hw1))))
    have hS1 : wr.drew.cell? ⟨h, 1, none⟩ = some (.int .i64 (n : Int)) := c1
    have hS2 : wr.drew.cell? ⟨h, 2, none⟩ = some (.map (some bm)) := c2
    have HBB := Lib.hid hb
    obtain ⟨q, hq⟩ : ∃ q, IntKind.i64.wrap (b + 1) = q := ⟨_, rfl⟩
    rw [hq] at hlk
    have HQ := Lib.hid hq
    have hen : enT n L (b + 1) = enoughQ (lookT L (b + 1)) (n : Int) := rfl
    obtain ⟨s, hs⟩ : ∃ s, lookT L (b + 1) = s := ⟨_, rfl⟩
    rw [hs] at hlk HEn hen
    obtain ⟨en, hn⟩ : ∃ en, enoughQ s (n : Int) = en := ⟨_, rfl⟩
    rw [hn] at HEn hen
    have HE := Lib.hid hen
    clear z hw1 hl1 he1 hj hyes hno hb hen hs hn
    go_wp2_with fail
    go_region_held3 (fun w' => w'.cell? ⟨h, 1, none⟩ = some (.int .i64 (n : Int)) ∧ w'.cell? ⟨h, 2, none⟩ = some (.map (some bm)))
      (first | with_reducible exact ⟨hS1, hS2⟩ | with_reducible exact hS4 | with_reducible assumption)
      (first | (go_at_call 24; ((with_reducible refine (HEn.out _).mono ?_); rintro e' w3 ⟨rfl, hx⟩; have hS4 := And.intro (ext_cellT hx hS1) (ext_cellT hx hS2))))
    have HX3 := Lib.hid (HX.out.trans ((Ext.refl wr).drew.trans hx))
    clear hx hS4 hS1 hS2 hlk
    cases en with
    | false =>
      have hu := HJ.out.2.2.1 HE.out
      have HU := Lib.hid hu
      clear hu
      go_wp2_with fail
      go_ret
      exact ⟨by rw [HU.out]; rfl, HX3.out⟩
    | true =>
      have hqb := HJ.out.2.2.2.1 HE.out
      rw [hq] at hqb
      subst hqb
      go_wp2_with fail
      go_roundw
      case rel => exact ⟨j + 1, b + 1, rfl, by have := HBB.out; omega, Lib.hid (by rw [← hq]; exact HJ.out.2.2.2.2), Lib.hid (HJ.out.2.1 HE.out), HX3⟩
      case measure =>
        have h1 := HBB.out
        have h2 := HJ.out.1
        simp only [intOf]
        omega
end Go.Proofs.Ytmnldkfkcfnkdaa
