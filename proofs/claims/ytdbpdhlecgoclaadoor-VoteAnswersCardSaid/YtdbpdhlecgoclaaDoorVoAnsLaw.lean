/-
  The walk of VoteAnswers: what is promised, and done of a request, is what the document says.
-/
import Derived.Test.YtdbpdhlecgoclaaDoorVoRef
namespace Go.Proofs.YtdbpdhlecgoclaaDoor
open Go Go.RowKit

theorem whV_small (s i : Int) : 0 ≤ whV s i ∧ whV s i ≤ 2 := by
  unfold whV
  split
  · split
    · omega
    · split <;> omega
  · omega
theorem doV_small (p : Bal) (s : Int) (b : Bal) (i : Int) : 0 ≤ doV p s b i ∧ doV p s b i ≤ 3 := by
  unfold doV ansV
  split
  · split
    · split
      · omega
      · split <;> omega
    · omega
  · omega
set_option maxRecDepth 100000 in
set_option maxHeartbeats 1600000 in
theorem voteAnswers_law (px py x y s i : Int) (w : World) (_ : (Lit.int .i64 s).wf = true) (_ : (Lit.int .i64 i).wf = true) (hL : LaidV w) :
    Calls Tryd.prog 3 #[.agg #[.int .i64 px, .int .i64 py], .agg #[.int .i64 x, .int .i64 y], .int .i64 s, .int .i64 i] w fun e w' => e = .returned (.bool true) ∧ Below w.heap.size w w' := by
  show Calls Tryd.prog 3 #[.agg #[.int .i64 px, .int .i64 py], .agg #[.int .i64 x, .int .i64 y], .int .i64 s, .int .i64 i] w fun e w' => e = .returned (.bool true) ∧ Ext w w'
  have h1 := fun V => promV_of px py x y V
  have h2 := fun V => rpromV_of px py x y V
  have h3 := fun V => whereV_of s i V
  have h4 := fun V => rwhereV_of s i V
  have h5 := fun V (hV : LaidV V) => acceptV_of px py s x y i V hV
  have h6 := fun V => racceptV_of px py s x y i V
  have hz := whV_small s i
  have hd := doV_small ⟨px, py⟩ s ⟨x, y⟩ i
  generalize thenV ⟨px, py⟩ ⟨x, y⟩ = T at *
  generalize yesV ⟨px, py⟩ ⟨x, y⟩ = yes at *
  generalize nowV ⟨px, py⟩ s ⟨x, y⟩ i = U at *
  generalize doV ⟨px, py⟩ s ⟨x, y⟩ i = d at *
  generalize whV s i = z at *
  generalize errV s i = er at *
  obtain ⟨tx, ty⟩ := T
  obtain ⟨ux, uy⟩ := U
  dsimp only at h1 h2 h5 h6
  have H1 := Lib.hid h1
  have H2 := Lib.hid h2
  have H3 := Lib.hid h3
  have H4 := Lib.hid h4
  have H5 := Lib.hid h5
  have H6 := Lib.hid h6
  have hqt := bal_eql tx ty tx ty
  rw [decide_eq_true (p := tx = tx ∧ ty = ty) ⟨rfl, rfl⟩] at hqt
  have hqu := bal_eql ux uy ux uy
  rw [decide_eq_true (p := ux = ux ∧ uy = uy) ⟨rfl, rfl⟩] at hqu
  have hg := ballot_guard
  have hyy : (yes == yes) = true := by simp
  have hzz : (z == z) = true := by simp
  have hdd : (d == d) = true := by simp
  have hee : (er == er) = true := by simp
  have hzw : IntKind.i64.wrap z = z := by rw [IntKind.wrap_i64]; omega
  have hdw : IntKind.i64.wrap d = d := by rw [IntKind.wrap_i64]; omega
  have H := Lib.hid (two_newV w px py x y)
  have HL := Lib.hid hL
  clear h1 h2 h3 h4 h5 h6 hz hd hL
  go_enter Tryd.func3, Tryd.ntmps3
  go_upto_region 1 with (fail)
  generalize ((w.alloc (.cells #[.int .i64 px, .int .i64 py] 23)).alloc (.cells #[.int .i64 x, .int .i64 y] 23)) = W at *
  generalize hb0 : w.heap.size = b0 at *
  obtain ⟨a0, a1, _, _⟩ := bal_row H.out.1
  obtain ⟨b0', b1', _, _⟩ := bal_row H.out.2.1
  have HS := Lib.hid (And.intro (show BC W b0 px py from ⟨a0, a1⟩) (show BC W (b0 + 1) x y from ⟨b0', b1'⟩))
  go_wp2_with fail
  refine (H1.out _).mono ?_
  rintro e w1 ⟨rfl, hx⟩
  have hx := hx.alloc (bo tx ty)
  have HX := Lib.hid hx
  have HS := Lib.hid (And.intro (BC.ext hx HS.out.1) (BC.ext hx HS.out.2))
  have HR1 := Lib.hid (BC.new w1 tx ty 23)
  clear hx a0 a1 b0' b1'
  obtain ⟨⟨a0, a1⟩, b0', b1'⟩ := HS.out
  go_wp2_with fail
  refine (H2.out _).mono ?_
  rintro e w2 ⟨rfl, hx⟩
  have hx := hx.alloc (bo tx ty)
  have HX := Lib.hid (HX.out.trans hx)
  have HS := Lib.hid (And.intro (BC.ext hx HS.out.1) (BC.ext hx HS.out.2))
  have HR1 := Lib.hid (BC.ext hx HR1.out)
  have HR2 := Lib.hid (BC.new w2 tx ty 23)
  clear hx a0 a1 b0' b1'
  obtain ⟨⟨a0, a1⟩, b0', b1'⟩ := HS.out
  go_wp2_with fail
  refine (H3.out _).mono ?_
  rintro e w3 ⟨rfl, rfl⟩
  go_wp2_with fail
  refine (H4.out _).mono ?_
  rintro e w3 ⟨rfl, rfl⟩
  go_wp2_with fail
  refine (H5.out _ (HL.out.ext (H.out.2.2.trans HX.out))).mono ?_
  rintro e w3 ⟨rfl, hx⟩
  have hx := hx.alloc (bo ux uy)
  have HX := Lib.hid (HX.out.trans hx)
  have HS := Lib.hid (And.intro (BC.ext hx HS.out.1) (BC.ext hx HS.out.2))
  have HR1 := Lib.hid (BC.ext hx HR1.out)
  have HR2 := Lib.hid (BC.ext hx HR2.out)
  have HR3 := Lib.hid (BC.new w3 ux uy 23)
  clear hx a0 a1 b0' b1'
  obtain ⟨⟨a0, a1⟩, b0', b1'⟩ := HS.out
  go_wp2_with fail
  refine (H6.out _).mono ?_
  rintro e w4 ⟨rfl, hx⟩
  have hx := hx.alloc (bo ux uy)
  have HX := Lib.hid (HX.out.trans hx)
  obtain ⟨c0, c1⟩ := BC.ext hx HR1.out
  obtain ⟨d0, d1⟩ := BC.ext hx HR2.out
  obtain ⟨e0, e1⟩ := BC.ext hx HR3.out
  obtain ⟨f0, f1⟩ := BC.new w4 ux uy 23
  clear hx a0 a1 b0' b1'
  go_wp2_with fail
  go_ret
  exact ⟨rfl, H.out.2.2.trans HX.out⟩
end Go.Proofs.YtdbpdhlecgoclaaDoor
