/-
  The contracts of the disk's running, Size, Waits, Up, Power, Start, draw; and of those at a disk that nobody made.
-/
import Derived.Test.YtldgamgdbneneaaKSmall
namespace Go.Proofs.Ytldgamgdbneneaa
set_option maxRecDepth 100000
open Go Go.RowKit

/-- Where the numbers of sectors lie. -/
def ZsAt (w : World) (A : Option Addr) (k : Nat) (zs : List Int) : Prop := zs.length = k ∧ k ≤ 1000 ∧ (0 < k → ∃ b, A = some ⟨b, 0, none⟩ ∧ ∀ (j : Nat) (z : Int), zs[j]? = some z → w.cell? ⟨b, j, none⟩ = some (.int .i64 z))
theorem ZsAt.nil_ (w : World) : ZsAt w none 0 [] := ⟨rfl, by omega, fun h => absurd h (by omega)⟩
def runE (m : DM) (zs : List Int) : Int := if m.up = false then 5 else knownE m.size zs
theorem known_of {w : World} {d g : Nat} {pv : Value} {m : DM} (h : PD w d g pv m) (A : Option Addr) (k c : Nat) (zs : List Int) (hz : ZsAt w A k zs) :
    Calls Try.prog 40 #[.pointer (some ⟨d, 0, none⟩), .slice A k c] w fun e w' => e = .returned (.int .i64 (knownE m.size zs)) ∧ w = w' :=
  known_yes d g m.size A k c zs w h.cells.1.1 h.cells.1.2.2.2.1 hz.1 hz.2.1 hz.2.2

set_option maxRecDepth 100000 in
set_option maxHeartbeats 800000 in
theorem running_of {w : World} {d g : Nat} {pv : Value} {m : DM} (h : PD w d g pv m) (A : Option Addr) (k c : Nat) (zs : List Int) (hz : ZsAt w A k zs) :
    Calls Try.prog 31 #[.pointer (some ⟨d, 0, none⟩), .slice A k c] w fun e w' => e = .returned (.int .i64 (runE m zs)) ∧ w = w' := by
  have H := Lib.hid h
  have HZ := Lib.hid hz
  obtain ⟨⟨c0, c1, _, _, _⟩, _⟩ := h.cells
  have HE : Hid (runE m zs = if m.up = false then 5 else knownE m.size zs) := Lib.hid rfl
  by_cases hu : m.up = true
  · have hs : (stOf m != 0) = false := by rw [stOf_up hu]; rfl
    have HE : Hid (runE m zs = knownE m.size zs) := Lib.hid (by rw [HE.out, if_neg (by rw [hu]; simp)])
    clear h hz hu
    generalize stOf m = st at *
    go_enter Try.func31, Try.ntmps31
    go_wp2_with fail
    refine (made_yes d _ c0).mono ?_
    rintro e w1 ⟨rfl, rfl⟩
    go_wp2_with fail
    refine (known_of H.out A k c zs HZ.out).mono ?_
    rintro e w1 ⟨rfl, rfl⟩
    go_wp2_with fail
    go_ret
    exact ⟨by rw [HE.out]; rfl, rfl⟩
  · have hu' : m.up = false := by simpa using hu
    have hs : (stOf m != 0) = true := by simpa using stOf_not hu'
    have HE : Hid (runE m zs = 5) := Lib.hid (by rw [HE.out, if_pos hu'])
    clear h hz hu hu'
    generalize stOf m = st at *
    go_enter Try.func31, Try.ntmps31
    go_wp2_with fail
    refine (made_yes d _ c0).mono ?_
    rintro e w1 ⟨rfl, rfl⟩
    go_wp2_with fail
    go_ret
    exact ⟨by rw [HE.out]; rfl, rfl⟩

set_option maxRecDepth 100000 in
set_option maxHeartbeats 800000 in
theorem size_of {w : World} {d g : Nat} {pv : Value} {m : DM} (h : PD w d g pv m) :
    Calls Try.prog 7 #[.pointer (some ⟨d, 0, none⟩)] w fun e w' => e = .returned (.int .i64 (m.size : Nat)) ∧ w = w' := by
  obtain ⟨⟨c0, _, _, c3, _⟩, _⟩ := h.cells
  clear h
  generalize m.size = n at *
  go_enter Try.func7, Try.ntmps7
  go_wp2_with fail
  refine (made_yes d _ c0).mono ?_
  rintro e w1 ⟨rfl, rfl⟩
  go_wp2_with fail
  go_ret
  exact ⟨rfl, rfl⟩
/-- The slice of the pending writes. -/
theorem PD.pv_form {w : World} {d g : Nat} {pv : Value} {m : DM} (h : PD w d g pv m) : ∃ A c, pv = .slice A m.waits.length c ∧ m.waits.length ≤ c ∧ c ≤ 9223372036854775807 := by
  rcases h.pen.2 with ⟨e, h0⟩ | ⟨g, cap, cur, rfl, _, _, h1, h2, _⟩
  · exact ⟨none, 0, by rw [h0]; exact e, by omega, by omega⟩
  · unfold maxLen at h2
    exact ⟨_, cap, rfl, h1, h2⟩
set_option maxRecDepth 100000 in
set_option maxHeartbeats 800000 in
theorem waits_of {w : World} {d g : Nat} {pv : Value} {m : DM} (h : PD w d g pv m) :
    Calls Try.prog 10 #[.pointer (some ⟨d, 0, none⟩)] w fun e w' => e = .returned (.int .i64 (m.waits.length : Nat)) ∧ w = w' := by
  obtain ⟨⟨c0, _, _, _, c4⟩, _⟩ := h.cells
  obtain ⟨A, c, rfl, _, _⟩ := h.pv_form
  clear h
  generalize m.waits.length = n at *
  go_enter Try.func10, Try.ntmps10
  go_wp2_with fail
  refine (made_yes d _ c0).mono ?_
  rintro e w1 ⟨rfl, rfl⟩
  go_wp2_with fail
  go_ret
  exact ⟨rfl, rfl⟩
set_option maxRecDepth 100000 in
set_option maxHeartbeats 800000 in
theorem up_of {w : World} {d g : Nat} {pv : Value} {m : DM} (h : PD w d g pv m) :
    Calls Try.prog 11 #[.pointer (some ⟨d, 0, none⟩)] w fun e w' => e = .returned (.bool m.up) ∧ w = w' := by
  have hr := running_of h none 0 0 [] (ZsAt.nil_ w)
  have HR := Lib.hid hr
  have HE : Hid (decide (runE m [] = 0) = m.up) := Lib.hid (by
    unfold runE knownE
    cases m.up <;> simp)
  clear h hr
  go_enter Try.func11, Try.ntmps11
  go_wp2_with fail
  refine HR.out.mono ?_
  rintro e w1 ⟨rfl, rfl⟩
  generalize runE m [] = z at *
  go_wp2_with fail
  go_ret
  exact ⟨by rw [← HE.out]; by_cases hz : z = 0 <;> simp [hz], rfl⟩

/-- At a disk that nobody made. -/
theorem known_no (p : Option Addr) (A : Option Addr) (k c : Nat) (w : World) (h : Unmade w p) :
    Calls Try.prog 40 #[.pointer p, .slice A k c] w fun e w' => e = .returned (.int .i64 1) ∧ w = w' := by
  have H := Lib.hid h
  clear h
  go_enter Try.func40, Try.ntmps40
  go_wp2_with fail
  refine (made_no p _ H.out).mono ?_
  rintro e w1 ⟨rfl, rfl⟩
  go_wp2_with fail
  go_ret
  exact ⟨rfl, rfl⟩
theorem running_no (p : Option Addr) (A : Option Addr) (k c : Nat) (w : World) (h : Unmade w p) :
    Calls Try.prog 31 #[.pointer p, .slice A k c] w fun e w' => e = .returned (.int .i64 1) ∧ w = w' := by
  have H := Lib.hid h
  clear h
  go_enter Try.func31, Try.ntmps31
  go_wp2_with fail
  refine (made_no p _ H.out).mono ?_
  rintro e w1 ⟨rfl, rfl⟩
  go_wp2_with fail
  refine (known_no p _ _ _ _ H.out).mono ?_
  rintro e w1 ⟨rfl, rfl⟩
  go_wp2_with fail
  go_ret
  exact ⟨rfl, rfl⟩
theorem size_no (p : Option Addr) (w : World) (h : Unmade w p) : Calls Try.prog 7 #[.pointer p] w fun e w' => e = .returned (.int .i64 0) ∧ w = w' := by
  have H := Lib.hid h
  clear h
  go_enter Try.func7, Try.ntmps7
  go_wp2_with fail
  refine (made_no p _ H.out).mono ?_
  rintro e w1 ⟨rfl, rfl⟩
  go_wp2_with fail
  go_ret
  exact ⟨rfl, rfl⟩
theorem waits_no (p : Option Addr) (w : World) (h : Unmade w p) : Calls Try.prog 10 #[.pointer p] w fun e w' => e = .returned (.int .i64 0) ∧ w = w' := by
  have H := Lib.hid h
  clear h
  go_enter Try.func10, Try.ntmps10
  go_wp2_with fail
  refine (made_no p _ H.out).mono ?_
  rintro e w1 ⟨rfl, rfl⟩
  go_wp2_with fail
  go_ret
  exact ⟨rfl, rfl⟩
theorem up_no (p : Option Addr) (w : World) (h : Unmade w p) : Calls Try.prog 11 #[.pointer p] w fun e w' => e = .returned (.bool false) ∧ w = w' := by
  have H := Lib.hid h
  clear h
  go_enter Try.func11, Try.ntmps11
  go_wp2_with fail
  refine (running_no p _ _ _ _ H.out).mono ?_
  rintro e w1 ⟨rfl, rfl⟩
  go_wp2_with fail
  go_ret
  exact ⟨rfl, rfl⟩
end Go.Proofs.Ytldgamgdbneneaa
