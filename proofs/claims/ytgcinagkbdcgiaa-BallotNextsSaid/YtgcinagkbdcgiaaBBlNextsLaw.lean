/-
  The walk of BallotNexts: any ballot may be, of any number of replicas, and any replica's next one is, what the document says.
-/
import Derived.Test.YtgcinagkbdcgiaaB00
import Derived.Test.YtgcinagkbdcgiaaB02
import Derived.Test.YtgcinagkbdcgiaaB04
namespace Go.Proofs.Ytgcinagkbdcgiaa
open Go Go.RowKit
set_option maxRecDepth 100000 in
set_option maxHeartbeats 1200000 in
theorem ballotNexts_law (x y r n : Int) (w : World) (_ : (Lit.int .i64 r).wf = true) (_ : (Lit.int .i64 n).wf = true) :
    Calls Try.prog 5 #[.agg #[.int .i64 x, .int .i64 y], .int .i64 r, .int .i64 n] w fun e w' => e = .returned (.bool true) ∧ Below w.heap.size w w' := by
  show Calls Try.prog 5 #[.agg #[.int .i64 x, .int .i64 y], .int .i64 r, .int .i64 n] w fun e w' => e = .returned (.bool true) ∧ Ext w w'
  have H1 := Lib.hid (fun V => nextB_of x y r n V)
  have H2 := Lib.hid (fun V => rnextB_of x y r n V)
  have H3 := Lib.hid (fun V => mayB_of x y n V)
  have H4 := Lib.hid (fun V => rmay_of x y n V)
  generalize (nextB ⟨x, y⟩ r n).x = nx at H1 H2
  generalize (nextB ⟨x, y⟩ r n).y = ny at H1 H2
  generalize errB ⟨x, y⟩ r n = er at H1 H2
  generalize mayB_ ⟨x, y⟩ n = mm at H3 H4
  have hq := bal_eql nx ny nx ny
  rw [decide_eq_true (p := nx = nx ∧ ny = ny) ⟨rfl, rfl⟩] at hq
  have hg := ballot_guard
  have HB := Lib.hid (BC.new w x y 50)
  have HX := Lib.hid ((Ext.refl w).alloc (.cells #[.int .i64 x, .int .i64 y] 50))
  go_enter Try.func5, Try.ntmps5
  go_wp2_with fail
  refine (H1.out _).mono ?_
  rintro e w1 ⟨rfl, hx⟩
  have HB := Lib.hid (BC.ext hx HB.out)
  have HX := Lib.hid (HX.out.trans hx)
  clear hx
  have HB1 := Lib.hid (BC.ext ((Ext.refl w1).alloc (.cells #[.int .i64 nx, .int .i64 ny] 50)) HB.out)
  have HN := Lib.hid (BC.new w1 nx ny 50)
  have HX := Lib.hid (HX.out.alloc (.cells #[.int .i64 nx, .int .i64 ny] 50))
  obtain ⟨c0, c1⟩ := HB1.out
  go_wp2_with fail
  refine (H2.out _).mono ?_
  rintro e w2 ⟨rfl, hx⟩
  have HB2 := Lib.hid (BC.ext (hx.alloc (.cells #[.int .i64 nx, .int .i64 ny] 50)) HB1.out)
  have HN2 := Lib.hid (BC.ext (hx.alloc (.cells #[.int .i64 nx, .int .i64 ny] 50)) HN.out)
  have HM := Lib.hid (BC.new w2 nx ny 50)
  have HX := Lib.hid ((HX.out.trans hx).alloc (.cells #[.int .i64 nx, .int .i64 ny] 50))
  clear hx c0 c1
  go_upto_region 3 with (fail)
  generalize (w2.alloc (Obj.cells #[Value.int .i64 nx, Value.int .i64 ny] 50)) = W at *
  generalize w.heap.size = b0 at *
  generalize w1.heap.size = b1 at *
  generalize w2.heap.size = b2 at *
  have HS : Hid (S3 W b0 x y b1 nx ny b2 nx ny) := Lib.hid ⟨HB2.out.1, HB2.out.2, HN2.out.1, HN2.out.2, HM.out.1, HM.out.2⟩
  have hs := HS.out
  have hbb : (mm == mm) = true := by simp
  go_region_held3 (fun w' => S3 w' b0 x y b1 nx ny b2 nx ny)
    (first | with_reducible exact hs | assumption | go_keep)
    (first
      | (go_at_call 30; ((with_reducible refine (H3.out _).mono ?_); rintro e w3 ⟨rfl, hx3⟩; have hs3 := S3.ext hx3 (by first | exact hs | assumption)))
      | (go_at_call 31; ((with_reducible refine (H4.out _).mono ?_); rintro e w4 ⟨rfl, hx4⟩; have hs4 := S3.ext hx4 (by first | exact hs3 | assumption))))
  have HXE := Lib.hid (HX.out.trans ((Ext.refl _).drew.trans (hx3.trans hx4)))
  clear hs hs3 hs4 hx3 hx4
  go_wp2_with fail
  go_ret
  exact ⟨rfl, HXE.out⟩
end Go.Proofs.Ytgcinagkbdcgiaa
