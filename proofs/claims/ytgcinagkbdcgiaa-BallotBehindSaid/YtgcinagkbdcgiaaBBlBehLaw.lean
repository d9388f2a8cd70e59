/-
  The walk of BallotBehind: the next ballot of a replica is behind, none of that replica is between; two replicas' next ones are unlike.
-/
import Derived.Test.YtgcinagkbdcgiaaB00
import Derived.Test.YtgcinagkbdcgiaaB03
import Derived.Test.YtgcinagkbdcgiaaB04
import Derived.Deep.DeepCutAuto
namespace Go.Proofs.Ytgcinagkbdcgiaa
open Go Go.RowKit
abbrev S2 (w : World) (a : Nat) (x y : Int) (b : Nat) (x1 y1 : Int) : Prop := w.cell? ⟨a, 0, none⟩ = some (.int .i64 x) ∧ w.cell? ⟨a, 1, none⟩ = some (.int .i64 y) ∧ w.cell? ⟨b, 0, none⟩ = some (.int .i64 x1) ∧ w.cell? ⟨b, 1, none⟩ = some (.int .i64 y1)
theorem S2.ext {w w' : World} {a b : Nat} {x y x1 y1 : Int} (hx : Ext w w') (h : S2 w a x y b x1 y1) : S2 w' a x y b x1 y1 := ⟨ext_of_cellB hx h.1, ext_of_cellB hx h.2.1, ext_of_cellB hx h.2.2.1, ext_of_cellB hx h.2.2.2⟩
set_option maxRecDepth 100000 in
set_option maxHeartbeats 1600000 in
theorem ballotBehind_law (x y i k n : Int) (w : World) (_ : (Lit.int .i64 i).wf = true) (_ : (Lit.int .i64 k).wf = true) (_ : (Lit.int .i64 n).wf = true) :
    Calls Try.prog 8 #[.agg #[.int .i64 x, .int .i64 y], .int .i64 i, .int .i64 k, .int .i64 n] w fun e w' => e = .returned (.bool true) ∧ Below w.heap.size w w' := by
  show Calls Try.prog 8 #[.agg #[.int .i64 x, .int .i64 y], .int .i64 i, .int .i64 k, .int .i64 n] w fun e w' => e = .returned (.bool true) ∧ Ext w w'
  have H1 := Lib.hid (fun V => nextB_of x y i n V)
  have H2 := Lib.hid (fun V => nextB_of x y k n V)
  have hf1 := next_facts (b := ⟨x, y⟩) (i := i) (n := n)
  have hf2 := next_facts (b := ⟨x, y⟩) (i := k) (n := n)
  have hn1 := next_none (b := ⟨x, y⟩) (i := i) (n := n)
  have hik : i = k → nextB ⟨x, y⟩ i n = nextB ⟨x, y⟩ k n := fun e => by rw [e]
  have hg := ballot_guard
  have HX0 := Lib.hid ((Ext.refl w).alloc (.cells #[.int .i64 x, .int .i64 y] 50))
  have HB0 := Lib.hid (BC.new w x y 50)
  obtain ⟨N1, hN1⟩ : ∃ N, nextB ⟨x, y⟩ i n = N := ⟨_, rfl⟩
  obtain ⟨N2, hN2⟩ : ∃ N, nextB ⟨x, y⟩ k n = N := ⟨_, rfl⟩
  rw [hN1] at hf1 hn1 H1 hik
  rw [hN2] at hf2 H2 hik
  generalize errB ⟨x, y⟩ i n = E1 at *
  generalize errB ⟨x, y⟩ k n = E2 at *
  clear hN1 hN2
  obtain ⟨nx, ny⟩ := N1
  obtain ⟨mx, my⟩ := N2
  dsimp only at hf1 hf2 hn1 H1 H2
  by_cases hE1 : E1 = 0
  case neg =>
    obtain ⟨rfl, rfl, h24⟩ := hn1 hE1
    have hq := bal_eql 0 0 0 0
    rw [decide_eq_true (p := (0 : Int) = 0 ∧ (0 : Int) = 0) ⟨rfl, rfl⟩] at hq
    clear hf1 hf2 hn1 hik hE1
    rcases h24 with rfl | rfl
    all_goals
      go_enter Try.func8, Try.ntmps8
      go_wp2_with fail
      refine (bawake_any _).mono ?_
      rintro e w1 ⟨rfl, hx⟩
      have HX := Lib.hid (HX0.out.trans hx)
      obtain ⟨c0, c1⟩ := BC.ext hx HB0.out
      clear hx
      go_wp2_with fail
      refine (H1.out _).mono ?_
      rintro e w2 ⟨rfl, hx⟩
      have HX := Lib.hid ((HX.out.trans hx).alloc (.cells #[.int .i64 0, .int .i64 0] 50))
      obtain ⟨d0, d1⟩ := BC.new w2 0 0 50
      clear hx c0 c1
      go_wp2_with fail
      go_ret
      exact ⟨rfl, HX.out⟩
  case pos =>
    subst hE1
    obtain ⟨hmay, rfl, h1, hm, hlt, hpre⟩ := hf1 rfl
    clear hf1 hn1
    have HM := Lib.hid (fun V => mayB_of nx ny n V)
    have HL := Lib.hid (fun V => less_lit x y nx ny true hlt V)
    rw [hmay] at HM
    have hn1 : ¬ nx < 1 := by omega
    have hne : (ny != ny) = false := by simp
    have hd1 : decide (nx < 1) = false := decide_eq_false hn1
    have HF2 := Lib.hid hf2
    have HIK := Lib.hid hik
    clear hmay hlt hf2 hik
    go_enter Try.func8, Try.ntmps8
    go_wp2_with fail
    refine (bawake_any _).mono ?_
    rintro e w1 ⟨rfl, hx⟩
    have HX := Lib.hid (HX0.out.trans hx)
    have HB := Lib.hid (BC.ext hx HB0.out)
    obtain ⟨c0, c1⟩ := HB.out
    clear hx
    go_wp2_with fail
    refine (H1.out _).mono ?_
    rintro e w2 ⟨rfl, hx⟩
    have HX := Lib.hid ((HX.out.trans hx).alloc (.cells #[.int .i64 nx, .int .i64 ny] 50))
    have hb := BC.ext (hx.alloc (.cells #[.int .i64 nx, .int .i64 ny] 50)) HB.out
    have hn := BC.new w2 nx ny 50
    have hs : S2 (w2.alloc (.cells #[.int .i64 nx, .int .i64 ny] 50)) w.heap.size x y w2.heap.size nx ny := ⟨hb.1, hb.2, hn.1, hn.2⟩
    clear hx c0 c1 hb hn
    go_upto_region 6 with (fail)
    generalize (w2.alloc (Obj.cells #[Value.int .i64 nx, Value.int .i64 ny] 50)) = W at *
    generalize w.heap.size = b0 at *
    generalize w2.heap.size = b1 at *
    by_cases h2 : 1 < nx
    · have hd2 : decide (1 < nx) = true := decide_eq_true h2
      have HP := Lib.hid (fun V => less_lit x y (nx - 1) ny false (hpre h2) V)
      have hw : IntKind.i64.wrap (nx - 1) = nx - 1 := by rw [IntKind.wrap_i64]; omega
      have HP2 := Lib.hid (fun V => less_lit x y (IntKind.i64.wrap (nx - 1)) ny false (by rw [hw]; exact hpre h2) V)
      clear hw
      go_region_held3 (fun w' => S2 w' b0 x y b1 nx ny)
        (first | with_reducible exact hs | assumption | go_keep)
        (first
          | (go_at_call 30; ((with_reducible refine (HM.out _).mono ?_); rintro e w3 ⟨rfl, hx3⟩; have hs3 := S2.ext hx3 (by first | exact hs | assumption)))
          | (go_at_call 33; ((with_reducible refine (bof_of _ _ _).mono ?_); rintro e w5 ⟨rfl, hx5⟩; have hs5 := S2.ext hx5 (by first | exact hs4 | assumption)))
          | (go_at_call 25; (first
            | ((with_reducible refine (HL.out _).mono ?_); rintro e w4 ⟨rfl, hx4⟩; have hs4 := S2.ext hx4 (by first | exact hs3 | assumption))
            | ((with_reducible refine (HP2.out _).mono ?_); rintro e w6 ⟨rfl, hx6⟩; have hs6 := S2.ext hx6 (by first | exact hs5 | assumption))
            | ((with_reducible refine (HP.out _).mono ?_); rintro e w6 ⟨rfl, hx6⟩; have hs6 := S2.ext hx6 (by first | exact hs5 | assumption)))))
      have HXE := Lib.hid (HX.out.trans ((Ext.refl _).drew.trans (hx3.trans (hx4.trans (hx5.trans hx6)))))
      have HS := Lib.hid hs6
      clear hs hs3 hs4 hs5 hs6 hx3 hx4 hx5 hx6 HX HX0 HB0
      obtain ⟨c0, c1, c2, c3⟩ := HS.out
      go_wp2_with fail
      refine (H2.out _).mono ?_
      rintro e v1 ⟨rfl, hx⟩
      have HXF := Lib.hid ((HXE.out.trans hx).alloc (.cells #[.int .i64 mx, .int .i64 my] 50))
      obtain ⟨e0, e1⟩ := BC.new v1 mx my 50
      obtain ⟨_, _, d2, d3⟩ := S2.ext (hx.alloc (.cells #[.int .i64 mx, .int .i64 my] 50)) HS.out
      clear hx c0 c1 c2 c3
      by_cases hE2 : E2 = 0
      · subst hE2
        obtain ⟨_, hmk, _⟩ := HF2.out rfl
        by_cases hk : ny = k
        · have hb := HIK.out hk
          injection hb with hb1 hb2
          have hq := bal_eql nx ny mx my
          rw [decide_eq_true (p := nx = mx ∧ ny = my) ⟨hb1, hb2⟩] at hq
          have hkk : (ny == k) = true := by simpa using hk
          clear hb1 hb2 hmk hk
          go_wp2_with fail
          go_ret
          exact ⟨rfl, HXF.out⟩
        · have hq := bal_eql nx ny mx my
          rw [decide_eq_false (p := nx = mx ∧ ny = my) (fun h => hk (h.2.trans hmk))] at hq
          have hkk : (ny == k) = false := by simpa using hk
          clear hmk hk
          go_wp2_with fail
          go_ret
          exact ⟨rfl, HXF.out⟩
      · have he2 : (E2 != 0) = true := by simpa using hE2
        clear hE2
        go_wp2_with fail
        go_ret
        exact ⟨rfl, HXF.out⟩
    · obtain rfl : nx = 1 := by omega
      clear h2 hn1 hd1 hm hpre
      refine wp_region_held_drew (S := fun w' => S2 w' b0 x y b1 1 ny) (by kernel_rfl) (S2.ext ((Ext.refl W).drew) hs) (fun hHeld => ?_)
      refine tj (i := 0) (oi := ⟨some 35, .load 50 (.tmp 9), 50, "outright.go:69", #[], none⟩) rfl (by kernel_rfl) ?_
      try simp only [Act.put, sT, s0, s1]
      refine tj (i := 1) (oi := ⟨some 36, .move (.tmp 3), 3, "outright.go:69", #[], none⟩) rfl (by kernel_rfl) ?_
      try simp only [Act.put, sT, s0, s1]
      refine wpAnyH_ready (rs := [2]) (by kernel_rfl) (by simp) ?_
      refine AllReadyH.cons (o := ⟨some 37, .call { callee := .value (.func 30), args := #[.tmp 35, .tmp 36], argTypes := #[50, 3] }, 4, "outright.go:69", #[⟨0, .data⟩, ⟨1, .data⟩], none⟩) rfl (fun K hK => ?_) AllReadyH.nil
      go_simp
      refine (HM.out _).mono ?_
      rintro e w3 ⟨rfl, hx3⟩
      have hs3 := S2.ext hx3 hHeld
      clear hHeld
      go_wp2_with fail
      refine hK.out _ _ (hs3) (fun hHeld => ?_)
      clear hK K
      try simp only [Act.put, sT, s0, s1]
      refine tj (i := 3) (oi := ⟨some 38, .unOp .not 4 (.tmp 37), 4, "outright.go:69", #[⟨2, .data⟩], none⟩) rfl (by kernel_rfl) ?_
      try simp only [Act.put, sT, s0, s1]
      refine tj (i := 4) (oi := ⟨some 39, .move (.tmp 38), 4, "outright.go:69", #[⟨3, .data⟩, ⟨2, .chain⟩], none⟩) rfl (by kernel_rfl) ?_
      try simp only [Act.put, sT, s0, s1]
      refine tj (i := 5) (oi := ⟨some 40, .fieldAddr 50 (.tmp 9) 1, 0, "outright.go:69", #[⟨4, .guard⟩], some (4, false)⟩) rfl (by kernel_rfl) ?_
      try simp only [Act.put, sT, s0, s1]
      refine tj (i := 6) (oi := ⟨some 41, .load 3 (.tmp 40), 3, "outright.go:69", #[⟨5, .data⟩, ⟨4, .guard⟩], some (4, false)⟩) rfl (by kernel_rfl) ?_
      try simp only [Act.put, sT, s0, s1]
      refine tj (i := 7) (oi := ⟨some 42, .move (.tmp 1), 3, "outright.go:69", #[⟨4, .guard⟩], some (4, false)⟩) rfl (by kernel_rfl) ?_
      try simp only [Act.put, sT, s0, s1]
      refine tj (i := 8) (oi := ⟨some 43, .binOp .neq 3 (.tmp 41) (.tmp 42) 3, 4, "outright.go:69", #[⟨6, .data⟩, ⟨7, .data⟩, ⟨4, .guard⟩], some (4, false)⟩) rfl (by kernel_rfl) ?_
      try simp only [Act.put, sT, s0, s1]
      refine tj (i := 9) (oi := ⟨some 44, .pick (.tmp 39) (.const (.bool true)) (.tmp 43), 4, "outright.go:69", #[⟨4, .data⟩, ⟨8, .data⟩], none⟩) rfl (by kernel_rfl) ?_
      try simp only [Act.put, sT, s0, s1]
      refine tj (i := 10) (oi := ⟨some 45, .move (.tmp 44), 4, "outright.go:69", #[⟨9, .data⟩, ⟨4, .chain⟩], none⟩) rfl (by kernel_rfl) ?_
      try simp only [Act.put, sT, s0, s1]
      refine tj (i := 11) (oi := ⟨some 46, .fieldAddr 50 (.tmp 9) 0, 0, "outright.go:69", #[⟨10, .guard⟩], some (10, false)⟩) rfl (by kernel_rfl) ?_
      try simp only [Act.put, sT, s0, s1]
      refine tj (i := 12) (oi := ⟨some 47, .load 3 (.tmp 46), 3, "outright.go:69", #[⟨11, .data⟩, ⟨10, .guard⟩], some (10, false)⟩) rfl (by kernel_rfl) ?_
      try simp only [Act.put, sT, s0, s1]
      refine tj (i := 13) (oi := ⟨some 48, .binOp .lss 3 (.tmp 47) (.const (.int .i64 1)) 3, 4, "outright.go:69", #[⟨12, .data⟩, ⟨10, .guard⟩], some (10, false)⟩) rfl (by kernel_rfl) ?_
      try simp only [Act.put, sT, s0, s1]
      refine tj (i := 14) (oi := ⟨some 49, .pick (.tmp 45) (.const (.bool true)) (.tmp 48), 4, "outright.go:69", #[⟨10, .data⟩, ⟨13, .data⟩], none⟩) rfl (by kernel_rfl) ?_
      try simp only [Act.put, sT, s0, s1]
      refine tj (i := 15) (oi := ⟨some 50, .move (.tmp 49), 4, "outright.go:69", #[⟨14, .data⟩, ⟨10, .chain⟩], none⟩) rfl (by kernel_rfl) ?_
      try simp only [Act.put, sT, s0, s1]
      refine tj (i := 16) (oi := ⟨some 51, .load 50 (.tmp 4), 50, "outright.go:69", #[⟨15, .guard⟩], some (15, false)⟩) rfl (by kernel_rfl) ?_
      try simp only [Act.put, sT, s0, s1]
      refine tj (i := 17) (oi := ⟨some 52, .load 50 (.tmp 9), 50, "outright.go:69", #[⟨15, .guard⟩], some (15, false)⟩) rfl (by kernel_rfl) ?_
      try simp only [Act.put, sT, s0, s1]
      refine wpAnyH_ready (rs := [18]) (by kernel_rfl) (by simp) ?_
      refine AllReadyH.cons (o := ⟨some 53, .call { callee := .value (.func 25), args := #[.tmp 51, .tmp 52], argTypes := #[50, 50] }, 4, "outright.go:69", #[⟨16, .data⟩, ⟨17, .data⟩, ⟨15, .chain⟩, ⟨15, .guard⟩], some (15, false)⟩) rfl (fun K hK => ?_) AllReadyH.nil
      go_simp
      refine (HL.out _).mono ?_
      rintro e w4 ⟨rfl, hx4⟩
      have hs4 := S2.ext hx4 hHeld
      clear hHeld
      go_wp2_with fail
      refine hK.out _ _ (hs4) (fun hHeld => ?_)
      clear hK K
      try simp only [Act.put, sT, s0, s1]
      refine tj (i := 19) (oi := ⟨some 54, .unOp .not 4 (.tmp 53), 4, "outright.go:69", #[⟨18, .data⟩, ⟨15, .guard⟩], some (15, false)⟩) rfl (by kernel_rfl) ?_
      try simp only [Act.put, sT, s0, s1]
      refine tj (i := 20) (oi := ⟨some 55, .pick (.tmp 50) (.const (.bool true)) (.tmp 54), 4, "outright.go:69", #[⟨15, .data⟩, ⟨19, .data⟩], none⟩) rfl (by kernel_rfl) ?_
      try simp only [Act.put, sT, s0, s1]
      refine tj (i := 21) (oi := ⟨some 56, .move (.tmp 55), 4, "outright.go:69", #[⟨20, .data⟩, ⟨18, .chain⟩], none⟩) rfl (by kernel_rfl) ?_
      try simp only [Act.put, sT, s0, s1]
      refine tj (i := 22) (oi := ⟨some 57, .fieldAddr 50 (.tmp 9) 0, 0, "outright.go:69", #[⟨21, .guard⟩], some (21, false)⟩) rfl (by kernel_rfl) ?_
      try simp only [Act.put, sT, s0, s1]
      refine tj (i := 23) (oi := ⟨some 58, .load 3 (.tmp 57), 3, "outright.go:69", #[⟨22, .data⟩, ⟨21, .guard⟩], some (21, false)⟩) rfl (by kernel_rfl) ?_
      try simp only [Act.put, sT, s0, s1]
      refine tj (i := 24) (oi := ⟨some 59, .binOp .gtr 3 (.tmp 58) (.const (.int .i64 1)) 3, 4, "outright.go:69", #[⟨23, .data⟩, ⟨21, .guard⟩], some (21, false)⟩) rfl (by kernel_rfl) ?_
      try simp only [Act.put, sT, s0, s1]
      refine tj (i := 25) (oi := ⟨some 60, .move (.tmp 59), 4, "outright.go:69", #[⟨24, .data⟩, ⟨21, .chain⟩, ⟨21, .guard⟩], some (21, false)⟩) rfl (by kernel_rfl) ?_
      try simp only [Act.put, sT, s0, s1]
      refine tk (i := 26) (oi := ⟨some 61, .load 50 (.tmp 4), 50, "outright.go:69", #[⟨25, .guard⟩], some (25, true)⟩) (v := undef) rfl (by kernel_rfl) (Or.inr ⟨by rfl, rfl⟩) ?_
      try simp only [Act.put, sT, s0, s1]
      refine tk (i := 27) (oi := ⟨some 62, .fieldAddr 50 (.tmp 9) 0, 0, "outright.go:69", #[⟨25, .guard⟩], some (25, true)⟩) (v := undef) rfl (by kernel_rfl) (Or.inr ⟨by rfl, rfl⟩) ?_
      try simp only [Act.put, sT, s0, s1]
      refine tk (i := 28) (oi := ⟨some 63, .load 3 (.tmp 62), 3, "outright.go:69", #[⟨27, .data⟩, ⟨25, .guard⟩], some (25, true)⟩) (v := undef) rfl (by kernel_rfl) (Or.inr ⟨by rfl, rfl⟩) ?_
      try simp only [Act.put, sT, s0, s1]
      refine tk (i := 29) (oi := ⟨some 64, .binOp .sub 3 (.tmp 63) (.const (.int .i64 1)) 3, 3, "outright.go:69", #[⟨28, .data⟩, ⟨25, .guard⟩], some (25, true)⟩) (v := undef) rfl (by kernel_rfl) (Or.inr ⟨by rfl, rfl⟩) ?_
      try simp only [Act.put, sT, s0, s1]
      refine tk (i := 30) (oi := ⟨some 65, .move (.tmp 1), 3, "outright.go:69", #[⟨25, .guard⟩], some (25, true)⟩) (v := undef) rfl (by kernel_rfl) (Or.inr ⟨by rfl, rfl⟩) ?_
      try simp only [Act.put, sT, s0, s1]
      refine tk (i := 31) (oi := ⟨some 66, .call { callee := .value (.func 33), args := #[.tmp 64, .tmp 65], argTypes := #[3, 3] }, 50, "outright.go:69", #[⟨29, .data⟩, ⟨30, .data⟩, ⟨25, .chain⟩, ⟨25, .guard⟩], some (25, true)⟩) (v := undef) rfl (by kernel_rfl) (Or.inr ⟨by rfl, rfl⟩) ?_
      try simp only [Act.put, sT, s0, s1]
      refine tk (i := 32) (oi := ⟨some 67, .call { callee := .value (.func 25), args := #[.tmp 61, .tmp 66], argTypes := #[50, 50] }, 4, "outright.go:69", #[⟨26, .data⟩, ⟨31, .data⟩, ⟨31, .chain⟩, ⟨25, .guard⟩], some (25, true)⟩) (v := undef) rfl (by kernel_rfl) (Or.inr ⟨by rfl, rfl⟩) ?_
      try simp only [Act.put, sT, s0, s1]
      refine tj (i := 33) (oi := ⟨some 68, .pick (.tmp 60) (.tmp 67) (.const (.bool false)), 4, "outright.go:69", #[⟨25, .data⟩, ⟨32, .data⟩, ⟨21, .guard⟩], some (21, false)⟩) rfl (by kernel_rfl) ?_
      try simp only [Act.put, sT, s0, s1]
      refine tj (i := 34) (oi := ⟨some 69, .pick (.tmp 56) (.const (.bool true)) (.tmp 68), 4, "outright.go:69", #[⟨21, .data⟩, ⟨33, .data⟩], none⟩) rfl (by kernel_rfl) ?_
      try simp only [Act.put, sT, s0, s1]
      refine wpAnyH_done (by kernel_rfl) ?_ _
      clear hHeld
      have HXE := Lib.hid (HX.out.trans ((Ext.refl _).drew.trans (hx3.trans hx4)))
      have HS := Lib.hid hs4
      clear hs hs3 hs4 hx3 hx4 HX HX0 HB0
      obtain ⟨c0, c1, c2, c3⟩ := HS.out
      go_wp2_with fail
      refine (H2.out _).mono ?_
      rintro e v1 ⟨rfl, hx⟩
      have HXF := Lib.hid ((HXE.out.trans hx).alloc (.cells #[.int .i64 mx, .int .i64 my] 50))
      obtain ⟨e0, e1⟩ := BC.new v1 mx my 50
      obtain ⟨_, _, d2, d3⟩ := S2.ext (hx.alloc (.cells #[.int .i64 mx, .int .i64 my] 50)) HS.out
      clear hx c0 c1 c2 c3
      by_cases hE2 : E2 = 0
      · subst hE2
        obtain ⟨_, hmk, _⟩ := HF2.out rfl
        by_cases hk : ny = k
        · have hb := HIK.out hk
          injection hb with hb1 hb2
          have hq := bal_eql 1 ny mx my
          rw [decide_eq_true (p := 1 = mx ∧ ny = my) ⟨hb1, hb2⟩] at hq
          have hkk : (ny == k) = true := by simpa using hk
          clear hb1 hb2 hmk hk
          go_wp2_with fail
          go_ret
          exact ⟨rfl, HXF.out⟩
        · have hq := bal_eql 1 ny mx my
          rw [decide_eq_false (p := 1 = mx ∧ ny = my) (fun h => hk (h.2.trans hmk))] at hq
          have hkk : (ny == k) = false := by simpa using hk
          clear hmk hk
          go_wp2_with fail
          go_ret
          exact ⟨rfl, HXF.out⟩
      · have he2 : (E2 != 0) = true := by simpa using hE2
        clear hE2
        go_wp2_with fail
        go_ret
        exact ⟨rfl, HXF.out⟩
end Go.Proofs.Ytgcinagkbdcgiaa
