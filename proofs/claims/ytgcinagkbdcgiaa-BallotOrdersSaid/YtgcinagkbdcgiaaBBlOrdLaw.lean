/-
  The walk of BallotOrders: any two ballots stand to each other as the document says; the greatest of any is what it says; they stay.
-/
import Derived.Test.YtgcinagkbdcgiaaB00
import Derived.Test.YtgcinagkbdcgiaaB03
import Derived.Deep.DeepCutAuto
namespace Go.Proofs.Ytgcinagkbdcgiaa
open Go Go.RowKit
set_option maxRecDepth 100000 in
set_option maxHeartbeats 1600000 in
theorem ballotOrders_law (ax ay bx by_ : Int) (A : Option Addr) (n c : Nat) (l : List Bal) (w : World) (h : Ls Bal.cells 2 w w.heap.size A n c l ∧ ∀ a ∈ l, True) :
    Calls Try.prog 4 #[.agg #[.int .i64 ax, .int .i64 ay], .agg #[.int .i64 bx, .int .i64 by_], .slice A n c] w fun e w' => e = .returned (.bool true) ∧ Below w.heap.size w w' := by
  show Calls Try.prog 4 #[.agg #[.int .i64 ax, .int .i64 ay], .agg #[.int .i64 bx, .int .i64 by_], .slice A n c] w fun e w' => e = .returned (.bool true) ∧ Ext w w'
  obtain ⟨i0, hi, hz0, hz1, hz2⟩ := info_parts ballot_info
  have hcap := h.1.cap
  have hmost := h.1.most
  have H := Lib.hid h.1
  have HLN := Lib.hid h.1.len
  have hg := ballot_guard
  have hx0 := ((Ext.refl w).alloc (.cells #[.int .i64 ax, .int .i64 ay] 50)).alloc (.cells #[.int .i64 bx, .int .i64 by_] 50)
  have hs0 : S2B ((w.alloc (.cells #[.int .i64 ax, .int .i64 ay] 50)).alloc (.cells #[.int .i64 bx, .int .i64 by_] 50)) w.heap.size ax ay (w.heap.size + 1) bx by_ := by
    have h1 := BC.new w ax ay 50
    have h2 := BC.new (w.alloc (.cells #[.int .i64 ax, .int .i64 ay] 50)) bx by_ 50
    have e1 : (w.alloc (.cells #[.int .i64 ax, .int .i64 ay] 50)).heap.size = w.heap.size + 1 := by simp
    rw [e1] at h2
    have k1 := BC.ext ((Ext.refl _).alloc (.cells #[.int .i64 bx, .int .i64 by_] 50)) h1
    exact ⟨k1.1, k1.2, h2.1, h2.2⟩
  have HX0 := Lib.hid hx0
  have HS0 := Lib.hid hs0
  clear h hx0 hs0
  by_cases hn : 200 < n
  · go_enter Try.func4, Try.ntmps4
    go_wp2_with fail
    go_ret
    exact ⟨rfl, HX0.out⟩
  go_enter Try.func4, Try.ntmps4
  go_upto_region 4 with (fail)
  generalize ((w.alloc (Obj.cells #[Value.int .i64 ax, Value.int .i64 ay] 50)).alloc (Obj.cells #[Value.int .i64 bx, Value.int .i64 by_] 50)) = w1 at *
  have HLS1 := Lib.hid ((H.out.below HX0.out).moreB HX0.out.size)
  go_wp2_with (at_builtin; refine wpList_append_ls (cells := Bal.cells) (N := 2) (fun _ => rfl) (by omega) Bal.one rfl _ _ 51 rfl w1.heap.size 50 i0 (.agg #[.int .i64 0, .int .i64 0]) 16 Try.underlying51 hi hz0 hz1 hz2 rfl _ 0 [] rfl (World.ownsRow_nil _ _ _ _) _ A n c l rfl HLS1.out (by unfold maxLen; omega) (by omega) (Nat.le_refl _) ?_)
  intro v2 w2 ho hgr
  have hx2 : Ext w1 w2 := Below.grown (Ext.refl w1) hgr (Nat.le_refl _) (fun q hq => by cases hq)
  obtain ⟨A3, c3, rfl, hl3⟩ := Ls.of_row (cells := Bal.cells) (N := 2) (n := 0 + n) (l := l) (fun _ => rfl) (by omega) (by rw [HLN.out, Nat.zero_add]) (by simpa using ho)
  rw [Nat.zero_add] at hl3 ⊢
  have HLM := Lib.hid hl3
  have HS2 := Lib.hid (S2B.ext hx2 HS0.out)
  have HX2 := Lib.hid (HX0.out.trans hx2)
  clear ho hgr hx2 hl3
  go_wp2_with fail
  refine (maxB_of A3 n c3 l w2 HLM.out).mono ?_
  rintro e w3 ⟨rfl, hx⟩
  have HMX := Lib.hid (fun V => less_of ax ay bx by_ V)
  have HRL := Lib.hid (fun V => rless_of ax ay bx by_ V)
  have HRM0 : Hid (∀ V, Ext w2 V → Calls Try.prog 27 #[.slice A n c] V fun e w' => e = .returned (.agg #[.int .i64 (maxB l).x, .int .i64 (maxB l).y]) ∧ Ext V w') := Lib.hid (fun V hV => rmaxB_of A n c l V ((H.out.below (HX2.out.trans hV)).moreB (HX2.out.trans hV).size))
  generalize (maxB l).x = mx at *
  generalize (maxB l).y = my at *
  generalize ltB ⟨ax, ay⟩ ⟨bx, by_⟩ = rr at *
  have HXm := Lib.hid (hx.alloc (.cells #[.int .i64 mx, .int .i64 my] 50))
  have hm := BC.new w3 mx my 50
  have h2 := S2B.ext HXm.out HS2.out
  have HS3 := Lib.hid (show S3 (w3.alloc (.cells #[.int .i64 mx, .int .i64 my] 50)) w.heap.size ax ay (w.heap.size + 1) bx by_ w3.heap.size mx my from ⟨h2.1, h2.2.1, h2.2.2.1, h2.2.2.2, hm.1, hm.2⟩)
  clear hx hm h2
  go_upto_region 6 with (fail)
  generalize (w3.alloc (Obj.cells #[Value.int .i64 mx, Value.int .i64 my] 50)) = W at *
  generalize w.heap.size + 1 = b1 at *
  obtain ⟨b0, hb0⟩ : ∃ b0, w.heap.size = b0 := ⟨_, rfl⟩
  rw [hb0] at HS3 ⊢
  generalize w3.heap.size = b3 at *
  have HLW := Lib.hid ((H.out.below (HX2.out.trans HXm.out)).moreB (HX2.out.trans HXm.out).size)
  have HMW := Lib.hid ((HLM.out.below HXm.out).moreB HXm.out.size)
  have HB0 := Lib.hid hb0
  clear hb0
  go_wp2_with fail
  go_loopw [9] (fun v wr => ∃ j : Nat, j ≤ n ∧ v = .int .i64 (j : Int) ∧ Hid (Ext W wr)) (fun v _ => n - (intOf v).toNat)
  case atStart => exact ⟨0, Nat.zero_le _, rfl, Lib.hid (Ext.refl _)⟩
  case round =>
    obtain ⟨j, hj, rfl, HXj⟩ := hrel
    by_cases hlt : j < n
    · obtain ⟨g, o, b, rfl, hb, p0, p1⟩ := Ls.bal (HLW.out.below HXj.out) hlt
      obtain ⟨g3, o3, b', rfl, hb', q0, q1⟩ := Ls.bal (HMW.out.below HXj.out) hlt
      rw [hb] at hb'
      injection hb' with hb'
      subst hb'
      obtain ⟨x, y⟩ := b
      dsimp only at p0 p1 q0 q1
      have hnq := bal_neq x y x y
      rw [decide_eq_true (p := x = x ∧ y = y) ⟨rfl, rfl⟩, Bool.not_true] at hnq
      clear hb
      go_wp2_with fail
      go_region
      clear p0 p1 q0 q1 hnq
      go_wp2_with fail
      go_roundw
      case rel => exact ⟨j + 1, by omega, by go_num, Lib.hid HXj.out.drew⟩
      case measure => simp [intOf]; omega
    · have hjn : j = n := by omega
      subst hjn
      have HXE := Lib.hid ((HX2.out.trans HXm.out).trans HXj.out)
      have hs := S3.ext HXj.out HS3.out
      have hq := bal_eql mx my mx my
      rw [decide_eq_true (p := mx = mx ∧ my = my) ⟨rfl, rfl⟩] at hq
      have hbb : (rr == rr) = true := by simp
      have HRM := Lib.hid (fun V (hV : Ext wr V) => HRM0.out V ((HXm.out.trans HXj.out).trans hV))
      go_wp2_with fail
      go_region_held3 (fun w' => S3 w' b0 ax ay b1 bx by_ b3 mx my)
        (first | with_reducible exact hs | assumption | go_keep)
        (first
          | (go_at_call 25; ((with_reducible refine (HMX.out _).mono ?_); rintro e w4 ⟨rfl, hx4⟩; have hs4 := S3.ext hx4 (by first | exact hs | assumption)))
          | (go_at_call 26; ((with_reducible refine (HRL.out _).mono ?_); rintro e w5 ⟨rfl, hx5⟩; have hs5 := S3.ext hx5 (by first | exact hs4 | assumption)))
          | (go_at_call 27; (((with_reducible refine (HRM.out _ ?_).mono ?_); exact (Ext.refl _).drew.trans (hx4.trans hx5)); rintro e w6 ⟨rfl, hx6⟩; have hs6 := S3.ext hx6 (by first | exact hs5 | assumption))))
      have HXF := Lib.hid ((Ext.refl wr).drew.trans (hx4.trans (hx5.trans hx6)))
      clear hs hs4 hs5 hs6 hx4 hx5 hx6
      go_wp2_with fail
      go_ret
      exact ⟨rfl, HXE.out.trans HXF.out⟩
end Go.Proofs.Ytgcinagkbdcgiaa
