/-
  The walk of BallotTotal: ballots are in one order.
-/
import Derived.Test.YtgcinagkbdcgiaaB00
import Derived.Test.YtgcinagkbdcgiaaB03
namespace Go.Proofs.Ytgcinagkbdcgiaa
open Go Go.RowKit
theorem ltB_trans {a b c : Bal} (h1 : ltB a b = true) (h2 : ltB b c = true) : ltB a c = true := by
  rw [ltB_iff] at *
  omega
theorem ltB_asym {a b : Bal} (h : ltB a b = true) : ltB b a = false := by
  rw [ltB_iff] at h
  rw [ltB_not]
  omega
set_option maxRecDepth 100000 in
set_option maxHeartbeats 1600000 in
theorem ballotTotal_law (ax ay bx by_ cx cy : Int) (w : World) :
    Calls Try.prog 6 #[.agg #[.int .i64 ax, .int .i64 ay], .agg #[.int .i64 bx, .int .i64 by_], .agg #[.int .i64 cx, .int .i64 cy]] w fun e w' => e = .returned (.bool true) ∧ Below w.heap.size w w' := by
  show Calls Try.prog 6 #[.agg #[.int .i64 ax, .int .i64 ay], .agg #[.int .i64 bx, .int .i64 by_], .agg #[.int .i64 cx, .int .i64 cy]] w fun e w' => e = .returned (.bool true) ∧ Ext w w'
  have H1 := Lib.hid (fun V => less_of ax ay bx by_ V)
  have H2 := Lib.hid (fun V => less_of bx by_ ax ay V)
  have H3 := Lib.hid (fun V => less_lit ax ay ax ay false (ltB_self _) V)
  have H4 := Lib.hid (fun V => less_of bx by_ cx cy V)
  have H5 := Lib.hid (fun V => less_of ax ay cx cy V)
  have hnq := bal_neq ax ay bx by_
  have hg := ballot_guard
  have hx0 := (((Ext.refl w).alloc (.cells #[.int .i64 ax, .int .i64 ay] 50)).alloc (.cells #[.int .i64 bx, .int .i64 by_] 50)).alloc (.cells #[.int .i64 cx, .int .i64 cy] 50)
  have hs0 : S3 (((w.alloc (.cells #[.int .i64 ax, .int .i64 ay] 50)).alloc (.cells #[.int .i64 bx, .int .i64 by_] 50)).alloc (.cells #[.int .i64 cx, .int .i64 cy] 50)) w.heap.size ax ay (w.heap.size + 1) bx by_ (w.heap.size + 1 + 1) cx cy := by
    have h1 := BC.new w ax ay 50
    have h2 := BC.new (w.alloc (.cells #[.int .i64 ax, .int .i64 ay] 50)) bx by_ 50
    have h3 := BC.new ((w.alloc (.cells #[.int .i64 ax, .int .i64 ay] 50)).alloc (.cells #[.int .i64 bx, .int .i64 by_] 50)) cx cy 50
    have e1 : (w.alloc (.cells #[.int .i64 ax, .int .i64 ay] 50)).heap.size = w.heap.size + 1 := by simp
    have e2 : ((w.alloc (.cells #[.int .i64 ax, .int .i64 ay] 50)).alloc (.cells #[.int .i64 bx, .int .i64 by_] 50)).heap.size = w.heap.size + 1 + 1 := by simp
    rw [e1] at h2
    rw [e2] at h3
    have k1 := BC.ext (((Ext.refl _).alloc (.cells #[.int .i64 bx, .int .i64 by_] 50)).alloc (.cells #[.int .i64 cx, .int .i64 cy] 50)) h1
    have k2 := BC.ext ((Ext.refl _).alloc (.cells #[.int .i64 cx, .int .i64 cy] 50)) h2
    exact ⟨k1.1, k1.2, k2.1, k2.2, h3.1, h3.2⟩
  have HX0 := Lib.hid hx0
  have HS0 := Lib.hid hs0
  clear hx0 hs0
  have tri : (ltB ⟨ax, ay⟩ ⟨bx, by_⟩ = true ∧ ltB ⟨bx, by_⟩ ⟨ax, ay⟩ = false) ∨ (ltB ⟨ax, ay⟩ ⟨bx, by_⟩ = false ∧ ltB ⟨bx, by_⟩ ⟨ax, ay⟩ = true) ∨ (ltB ⟨ax, ay⟩ ⟨bx, by_⟩ = false ∧ ltB ⟨bx, by_⟩ ⟨ax, ay⟩ = false ∧ ax = bx ∧ ay = by_) := by
    cases h1 : ltB ⟨ax, ay⟩ ⟨bx, by_⟩ with
    | true => exact .inl ⟨rfl, ltB_asym h1⟩
    | false =>
      cases h2 : ltB ⟨bx, by_⟩ ⟨ax, ay⟩ with
      | true => exact .inr (.inl ⟨rfl, rfl⟩)
      | false =>
        have e := ltB_eq h1 h2
        injection e with e1 e2
        exact .inr (.inr ⟨rfl, rfl, e1, e2⟩)
  have hlast : ltB ⟨ax, ay⟩ ⟨bx, by_⟩ = true → ltB ⟨bx, by_⟩ ⟨cx, cy⟩ = true → ltB ⟨ax, ay⟩ ⟨cx, cy⟩ = true := ltB_trans
  generalize ltB ⟨ax, ay⟩ ⟨bx, by_⟩ = l1 at *
  generalize ltB ⟨bx, by_⟩ ⟨ax, ay⟩ = l2 at *
  generalize ltB ⟨bx, by_⟩ ⟨cx, cy⟩ = l4 at *
  generalize ltB ⟨ax, ay⟩ ⟨cx, cy⟩ = l5 at *
  have hcase : (l1 = true ∧ l2 = false ∧ l4 = true ∧ l5 = true) ∨ (l1 = true ∧ l2 = false ∧ l4 = false) ∨ (l1 = false ∧ l2 = true) ∨ (l1 = false ∧ l2 = false ∧ ax = bx ∧ ay = by_) := by
    rcases tri with ⟨h1, h2⟩ | ⟨h1, h2⟩ | ⟨h1, h2, h3⟩
    · cases l4 with
      | true => exact .inl ⟨h1, h2, rfl, hlast h1 rfl⟩
      | false => exact .inr (.inl ⟨h1, h2, rfl⟩)
    · exact .inr (.inr (.inl ⟨h1, h2⟩))
    · exact .inr (.inr (.inr ⟨h1, h2, h3⟩))
  clear tri hlast
  rcases hcase with ⟨rfl, rfl, rfl, rfl⟩ | ⟨rfl, rfl, rfl⟩ | ⟨rfl, rfl⟩ | ⟨rfl, rfl, hab⟩
  · skip
    go_enter Try.func6, Try.ntmps6
    go_wp2_with fail
    refine (bawake_any _).mono ?_
    rintro e w1 ⟨rfl, hx⟩
    have HX := Lib.hid (HX0.out.trans hx)
    have hs := S3.ext hx HS0.out
    clear hx
    go_wp2_with fail
    generalize w.heap.size + 1 + 1 = b2 at *
    generalize w.heap.size + 1 = b1 at *
    generalize w.heap.size = b0 at *
    go_region_held3 (fun w' => S3 w' b0 ax ay b1 bx by_ b2 cx cy)
      (first | with_reducible exact hs | assumption | go_keep)
      (first
        | (go_at_call 25; (first
          | ((with_reducible refine (H1.out _).mono ?_); rintro e w3 ⟨rfl, hx3⟩; have hs3 := S3.ext hx3 (by first | exact hs | assumption))
          | ((with_reducible refine (H2.out _).mono ?_); rintro e w4 ⟨rfl, hx4⟩; have hs4 := S3.ext hx4 (by first | exact hs3 | assumption)))))
    have HXE := Lib.hid (HX.out.trans ((Ext.refl _).drew.trans (hx3.trans hx4)))
    have HS := Lib.hid hs4
    clear hs hs3 hs4 hx3 hx4 HX HX0 HS0
    obtain ⟨c0, c1, c2, c3, c4, c5⟩ := HS.out
    go_wp2_with fail
    refine (H3.out _).mono ?_
    rintro e v0 ⟨rfl, hx⟩
    have HXE := Lib.hid (HXE.out.trans hx)
    have HS := Lib.hid (S3.ext hx HS.out)
    clear hx c0 c1 c2 c3 c4 c5
    obtain ⟨c0, c1, c2, c3, c4, c5⟩ := HS.out
    go_wp2_with fail
    refine (H4.out _).mono ?_
    rintro e v1 ⟨rfl, hx⟩
    have HXE := Lib.hid (HXE.out.trans hx)
    have HS := Lib.hid (S3.ext hx HS.out)
    clear hx c0 c1 c2 c3 c4 c5
    obtain ⟨c0, c1, c2, c3, c4, c5⟩ := HS.out
    go_wp2_with fail
    refine (H5.out _).mono ?_
    rintro e v2 ⟨rfl, hx⟩
    have HXE := Lib.hid (HXE.out.trans hx)
    have HS := Lib.hid (S3.ext hx HS.out)
    clear hx c0 c1 c2 c3 c4 c5
    obtain ⟨c0, c1, c2, c3, c4, c5⟩ := HS.out
    clear c0 c1 c2 c3 c4 c5
    go_wp2_with fail
    go_ret
    exact ⟨rfl, HXE.out⟩
  · skip
    go_enter Try.func6, Try.ntmps6
    go_wp2_with fail
    refine (bawake_any _).mono ?_
    rintro e w1 ⟨rfl, hx⟩
    have HX := Lib.hid (HX0.out.trans hx)
    have hs := S3.ext hx HS0.out
    clear hx
    go_wp2_with fail
    generalize w.heap.size + 1 + 1 = b2 at *
    generalize w.heap.size + 1 = b1 at *
    generalize w.heap.size = b0 at *
    go_region_held3 (fun w' => S3 w' b0 ax ay b1 bx by_ b2 cx cy)
      (first | with_reducible exact hs | assumption | go_keep)
      (first
        | (go_at_call 25; (first
          | ((with_reducible refine (H1.out _).mono ?_); rintro e w3 ⟨rfl, hx3⟩; have hs3 := S3.ext hx3 (by first | exact hs | assumption))
          | ((with_reducible refine (H2.out _).mono ?_); rintro e w4 ⟨rfl, hx4⟩; have hs4 := S3.ext hx4 (by first | exact hs3 | assumption)))))
    have HXE := Lib.hid (HX.out.trans ((Ext.refl _).drew.trans (hx3.trans hx4)))
    have HS := Lib.hid hs4
    clear hs hs3 hs4 hx3 hx4 HX HX0 HS0
    obtain ⟨c0, c1, c2, c3, c4, c5⟩ := HS.out
    go_wp2_with fail
    refine (H3.out _).mono ?_
    rintro e v0 ⟨rfl, hx⟩
    have HXE := Lib.hid (HXE.out.trans hx)
    have HS := Lib.hid (S3.ext hx HS.out)
    clear hx c0 c1 c2 c3 c4 c5
    obtain ⟨c0, c1, c2, c3, c4, c5⟩ := HS.out
    go_wp2_with fail
    refine (H4.out _).mono ?_
    rintro e v1 ⟨rfl, hx⟩
    have HXE := Lib.hid (HXE.out.trans hx)
    have HS := Lib.hid (S3.ext hx HS.out)
    clear hx c0 c1 c2 c3 c4 c5
    obtain ⟨c0, c1, c2, c3, c4, c5⟩ := HS.out
    clear c0 c1 c2 c3 c4 c5
    go_wp2_with fail
    go_ret
    exact ⟨rfl, HXE.out⟩
  · skip
    go_enter Try.func6, Try.ntmps6
    go_wp2_with fail
    refine (bawake_any _).mono ?_
    rintro e w1 ⟨rfl, hx⟩
    have HX := Lib.hid (HX0.out.trans hx)
    have hs := S3.ext hx HS0.out
    clear hx
    go_wp2_with fail
    generalize w.heap.size + 1 + 1 = b2 at *
    generalize w.heap.size + 1 = b1 at *
    generalize w.heap.size = b0 at *
    go_region_held3 (fun w' => S3 w' b0 ax ay b1 bx by_ b2 cx cy)
      (first | with_reducible exact hs | assumption | go_keep)
      (first
        | (go_at_call 25; (first
          | ((with_reducible refine (H1.out _).mono ?_); rintro e w3 ⟨rfl, hx3⟩; have hs3 := S3.ext hx3 (by first | exact hs | assumption))
          | ((with_reducible refine (H2.out _).mono ?_); rintro e w4 ⟨rfl, hx4⟩; have hs4 := S3.ext hx4 (by first | exact hs3 | assumption)))))
    have HXE := Lib.hid (HX.out.trans ((Ext.refl _).drew.trans (hx3.trans hx4)))
    have HS := Lib.hid hs4
    clear hs hs3 hs4 hx3 hx4 HX HX0 HS0
    obtain ⟨c0, c1, c2, c3, c4, c5⟩ := HS.out
    go_wp2_with fail
    refine (H3.out _).mono ?_
    rintro e v0 ⟨rfl, hx⟩
    have HXE := Lib.hid (HXE.out.trans hx)
    have HS := Lib.hid (S3.ext hx HS.out)
    clear hx c0 c1 c2 c3 c4 c5
    obtain ⟨c0, c1, c2, c3, c4, c5⟩ := HS.out
    clear c0 c1 c2 c3 c4 c5
    go_wp2_with fail
    go_ret
    exact ⟨rfl, HXE.out⟩
  · rw [decide_eq_true hab] at hnq
    clear hab
    go_enter Try.func6, Try.ntmps6
    go_wp2_with fail
    refine (bawake_any _).mono ?_
    rintro e w1 ⟨rfl, hx⟩
    have HX := Lib.hid (HX0.out.trans hx)
    have hs := S3.ext hx HS0.out
    clear hx
    go_wp2_with fail
    generalize w.heap.size + 1 + 1 = b2 at *
    generalize w.heap.size + 1 = b1 at *
    generalize w.heap.size = b0 at *
    go_region_held3 (fun w' => S3 w' b0 ax ay b1 bx by_ b2 cx cy)
      (first | with_reducible exact hs | assumption | go_keep)
      (first
        | (go_at_call 25; (first
          | ((with_reducible refine (H1.out _).mono ?_); rintro e w3 ⟨rfl, hx3⟩; have hs3 := S3.ext hx3 (by first | exact hs | assumption))
          | ((with_reducible refine (H2.out _).mono ?_); rintro e w4 ⟨rfl, hx4⟩; have hs4 := S3.ext hx4 (by first | exact hs3 | assumption)))))
    have HXE := Lib.hid (HX.out.trans ((Ext.refl _).drew.trans (hx3.trans hx4)))
    have HS := Lib.hid hs4
    clear hs hs3 hs4 hx3 hx4 HX HX0 HS0
    obtain ⟨c0, c1, c2, c3, c4, c5⟩ := HS.out
    go_wp2_with fail
    refine (H3.out _).mono ?_
    rintro e v0 ⟨rfl, hx⟩
    have HXE := Lib.hid (HXE.out.trans hx)
    have HS := Lib.hid (S3.ext hx HS.out)
    clear hx c0 c1 c2 c3 c4 c5
    obtain ⟨c0, c1, c2, c3, c4, c5⟩ := HS.out
    clear c0 c1 c2 c3 c4 c5
    go_wp2_with fail
    go_ret
    exact ⟨rfl, HXE.out⟩
end Go.Proofs.Ytgcinagkbdcgiaa
