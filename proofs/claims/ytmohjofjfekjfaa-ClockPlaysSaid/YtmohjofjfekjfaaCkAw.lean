/-
  The chapter's examples, as the laws ask them first.
-/
import Derived.Test.YtmohjofjfekjfaaCkT
namespace Go.Proofs.Ytmohjofjfekjfaa
open Go Go.RowKit

/-- A clock that was made since the law began. -/
structure CE (w w' : World) (g P s l : Nat) : Prop where
  q : CQ w' g P s l
  ext : Ext w w'
  new : w.heap.size ≤ g
section
variable {w a b : World} {g P s l s' l' : Nat}
theorem CE.mod (h : CE w a g P s l) (z : CQ b g P s' l') (m : Mod (fun k => k = g) a b) : CE w b g P s' l' := ⟨z, Below.mod h.ext m (Ext.size h.ext) (fun i e => by rw [show i = g from e]; exact h.new), h.new⟩
end
set_option maxRecDepth 100000 in
set_option maxHeartbeats 3200000 in
theorem cawake_any (w : World) : Calls Try.prog 17 #[] w fun e w' => e = .returned (.bool true) ∧ Ext w w' := by
  have hn7 := fun V => cnew_no 7 (by decide) V
  have hn0 := fun V => cnew_yes 0 (by decide) V
  have p0 := fun V => cpat_of 0 V
  have p3 := fun V => cpat_of 3 V
  have p6 := fun V => cpat_of 6 V
  have p7 := fun V => cpat_of 7 V
  rw [show patC 0 = 10 by decide] at p0
  rw [show patC 3 = 22 by decide] at p3
  rw [show patC 6 = 34 by decide] at p6
  rw [show patC 7 = 0 by decide] at p7
  have N7 := Lib.hid hn7
  have N0 := Lib.hid hn0
  have P0 := Lib.hid p0
  have P3 := Lib.hid p3
  have P6 := Lib.hid p6
  have P7 := Lib.hid p7
  clear hn7 hn0 p0 p3 p6 p7
  go_enter Try.func17, Try.ntmps17
  go_wp2_with fail
  refine (N0.out _).mono ?_
  rintro e w1 ⟨rfl, z, x⟩
  have H1 : Hid (CE w w1 w.heap.size 10 0 0) := Lib.hid ⟨z, x, Nat.le_refl _⟩
  clear z x
  obtain ⟨g, hg⟩ : ∃ g, w.heap.size = g := ⟨_, rfl⟩
  rw [hg] at H1 ⊢
  clear hg
  go_wp2_with fail
  refine (N7.out _).mono ?_
  rintro e w2 ⟨rfl, rfl⟩
  go_wp2_with fail
  refine (P0.out _).mono ?_
  rintro e w2 ⟨rfl, rfl⟩
  go_wp2_with fail
  refine (P3.out _).mono ?_
  rintro e w2 ⟨rfl, rfl⟩
  go_wp2_with fail
  refine (P6.out _).mono ?_
  rintro e w2 ⟨rfl, rfl⟩
  go_wp2_with fail
  refine (P7.out _).mono ?_
  rintro e w2 ⟨rfl, rfl⟩
  go_wp2_with fail
  refine (cticks_wait H1.out.q 9 (by decide)).mono ?_
  rintro e w2 ⟨rfl, z, m⟩
  have H2 : Hid (CE w w2 g 10 9 0) := Lib.hid (H1.out.mod z m)
  clear z m
  go_wp2_with fail
  refine (ctick_wait H2.out.q).mono ?_
  rintro e w3 ⟨rfl, z, m⟩
  have H3 : Hid (CE w w3 g 10 0 0) := Lib.hid (H2.out.mod z m)
  clear z m
  go_wp2_with fail
  refine (csilent_of H3.out.q).mono ?_
  rintro e w4 ⟨rfl, rfl⟩
  go_wp2_with fail
  refine (cticks_lead H3.out.q 2 (by decide)).mono ?_
  rintro e w4 ⟨rfl, z, m⟩
  have H4 : Hid (CE w w4 g 10 0 2) := Lib.hid (H3.out.mod z m)
  clear z m
  go_wp2_with fail
  refine (ctick_lead H4.out.q).mono ?_
  rintro e w5 ⟨rfl, z, m⟩
  have H5 : Hid (CE w w5 g 10 0 0) := Lib.hid (H4.out.mod z m)
  clear z m
  go_wp2_with fail
  refine (ctick_wait H5.out.q).mono ?_
  rintro e w6 ⟨rfl, z, m⟩
  have H6 : Hid (CE w w6 g 10 1 0) := Lib.hid (H5.out.mod z m)
  clear z m
  go_wp2_with fail
  refine (cticks_lead H6.out.q 2 (by decide)).mono ?_
  rintro e w7 ⟨rfl, z, m⟩
  have H7 : Hid (CE w w7 g 10 0 2) := Lib.hid (H6.out.mod z m)
  clear z m
  go_wp2_with fail
  refine (ctick_lead H7.out.q).mono ?_
  rintro e w8 ⟨rfl, z, m⟩
  have H8 : Hid (CE w w8 g 10 0 0) := Lib.hid (H7.out.mod z m)
  clear z m
  go_wp2_with fail
  refine (cticks_wait H8.out.q 9 (by decide)).mono ?_
  rintro e w9 ⟨rfl, z, m⟩
  have H9 : Hid (CE w w9 g 10 9 0) := Lib.hid (H8.out.mod z m)
  clear z m
  go_wp2_with fail
  refine (cHear_of H9.out.q).mono ?_
  rintro e w10 ⟨rfl, z, m⟩
  have H10 : Hid (CE w w10 g 10 0 0) := Lib.hid (H9.out.mod z m)
  clear z m
  go_wp2_with fail
  refine (cticks_wait H10.out.q 9 (by decide)).mono ?_
  rintro e w11 ⟨rfl, z, m⟩
  have H11 : Hid (CE w w11 g 10 9 0) := Lib.hid (H10.out.mod z m)
  clear z m
  go_wp2_with fail
  refine (ctick_wait H11.out.q).mono ?_
  rintro e w12 ⟨rfl, z, m⟩
  have H12 : Hid (CE w w12 g 10 0 0) := Lib.hid (H11.out.mod z m)
  clear z m
  go_wp2_with fail
  go_ret
  exact ⟨rfl, H12.out.ext⟩
end Go.Proofs.Ytmohjofjfekjfaa
