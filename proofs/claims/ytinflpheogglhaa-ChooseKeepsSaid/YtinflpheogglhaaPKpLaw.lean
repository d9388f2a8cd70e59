/-
  The walk of ChooseKeeps: whatever replicas promise, accept and lose in a slot, two values are never chosen.
-/
import Derived.Test.YtinflpheogglhaaP00
import Derived.Test.YtinflpheogglhaaP01
import Derived.Test.YtinflpheogglhaaP09
import Derived.Test.YtinflpheogglhaaP10
namespace Go.Proofs.Ytinflpheogglhaa
open Go Go.RowKit
theorem slot_new {w : World} {g N : Nat} (h : w.heap[g]? = some (.cells #[.int .i64 (N : Int), .int .i64 0, .int .i64 0, .int .i64 0, .int .i64 0, .int .u8 0, .int .i64 0, .int .i64 0, .int .i64 0, .int .i64 0, .int .i64 0, .int .u8 0, .int .i64 0, .int .i64 0, .int .i64 0, .int .i64 0, .int .i64 0, .int .u8 0, .int .i64 0, .int .i64 0, .int .i64 0, .int .i64 0, .int .i64 0, .int .u8 0, .int .i64 0, .int .i64 0, .int .i64 0, .int .i64 0, .int .i64 0, .int .u8 0, .int .i64 0, .int .i64 0, .int .i64 0, .int .i64 0, .int .i64 0, .int .u8 0, .int .i64 0, .int .i64 0, .int .i64 0, .int .i64 0, .int .i64 0, .int .u8 0, .int .i64 0, .slice none 0 0, .int .i64 0, .int .i64 0, .int .i64 0] 46 (0, 0))) : KS w g N (fun _ => {}) (.slice none 0 0) 0 0 0 := by
  have hc : ∀ o, w.cell? ⟨g, o, none⟩ = (#[.int .i64 (N : Int), .int .i64 0, .int .i64 0, .int .i64 0, .int .i64 0, .int .u8 0, .int .i64 0, .int .i64 0, .int .i64 0, .int .i64 0, .int .i64 0, .int .u8 0, .int .i64 0, .int .i64 0, .int .i64 0, .int .i64 0, .int .i64 0, .int .u8 0, .int .i64 0, .int .i64 0, .int .i64 0, .int .i64 0, .int .i64 0, .int .u8 0, .int .i64 0, .int .i64 0, .int .i64 0, .int .i64 0, .int .i64 0, .int .u8 0, .int .i64 0, .int .i64 0, .int .i64 0, .int .i64 0, .int .i64 0, .int .u8 0, .int .i64 0, .int .i64 0, .int .i64 0, .int .i64 0, .int .i64 0, .int .u8 0, .int .i64 0, .slice none 0 0, .int .i64 0, .int .i64 0, .int .i64 0] : Array Value)[o]? := fun o => cell_of_row w g o _ _ _ h
  refine ⟨⟨_, h, rfl⟩, hc 0, fun i hi k v hv => ?_, hc 43, hc 44, hc 45, hc 46⟩
  have hk : k < 6 := (List.getElem?_eq_some_iff.1 hv).1
  rw [hc, ← hv]
  match i, hi with
  | 0, _ | 1, _ | 2, _ | 3, _ | 4, _ | 5, _ | 6, _ =>
    match k, hk with
    | 0, _ | 1, _ | 2, _ | 3, _ | 4, _ | 5, _ => rfl
theorem act_row {w : World} {b : Nat} {v0 v1 v2 v3 : Value} {t : TypeId} {fr : Nat × Nat} (h : w.heap[b]? = some (.cells #[v0, v1, v2, v3] t fr)) : w.cell? ⟨b, 0, none⟩ = some v0 ∧ w.cell? ⟨b, 1, none⟩ = some v1 ∧ w.cell? ⟨b, 2, none⟩ = some v2 ∧ w.cell? ⟨b, 3, none⟩ = some v3 :=
  ⟨cell_of_row w b 0 _ _ _ h, cell_of_row w b 1 _ _ _ h, cell_of_row w b 2 _ _ _ h, cell_of_row w b 3 _ _ _ h⟩
set_option maxRecDepth 100000 in
set_option maxHeartbeats 16000000 in
theorem chooseKeeps_law (n : Int) (A : Option Addr) (m c : Nat) (l : List ActK) (w : World) (_hn : (Lit.int .i64 n).wf = true) (hl : Ls ActK.cells 4 w w.heap.size A m c l ∧ ∀ a ∈ l, a.Wf) :
    Calls Try.prog 4 #[.int .i64 n, .slice A m c] w fun e w' => e = .returned (.bool true) ∧ Below w.heap.size w w' := by
  show Calls Try.prog 4 #[.int .i64 n, .slice A m c] w fun e w' => e = .returned (.bool true) ∧ Ext w w'
  obtain ⟨h, hwf⟩ := hl
  have hcap := h.cap
  have hmost := h.most
  have H := Lib.hid h
  have HWF := Lib.hid hwf
  have HLN := Lib.hid h.len
  obtain ⟨kk, hkk, hkw⟩ := wrap_modR n 3 (by omega) (by omega)
  have HKW : Hid (wrap64 ((IntKind.u64.wrap n).tmod 3) = (kk : Int)) := Lib.hid hkw
  clear h hwf hkw
  go_enter Try.func4, Try.ntmps4
  go_wp2_with fail
  refine (chawake_of _).mono ?_
  rintro _ w1 ⟨rfl, hx1⟩
  have H1 := Lib.hid ((H.out.below hx1).moreB hx1.size)
  have HX1 := Lib.hid hx1
  clear hx1
  by_cases hm : m ≤ 60
  · go_upto_region 6 with (fail)
    have hN : wrap64 (3 + wrap64 (2 * wrap64 ((IntKind.u64.wrap n).tmod 3))) = ((3 + 2 * kk : Nat) : Int) := by
      rw [HKW.out, IntWalk.wrap64_in (2 * (kk : Int)) (by omega), IntWalk.wrap64_in _ (by omega)]
      omega
    rw [hN]
    have hN3 : 3 + 2 * kk = 3 ∨ 3 + 2 * kk = 5 ∨ 3 + 2 * kk = 7 := by omega
    obtain ⟨N, hNd⟩ : ∃ N, 3 + 2 * kk = N := ⟨_, rfl⟩
    rw [hNd] at hN3 ⊢
    have hrow := heap_alloc_new w1 (.cells #[.int .i64 (N : Int), .int .i64 0, .int .i64 0, .int .i64 0, .int .i64 0, .int .u8 0, .int .i64 0, .int .i64 0, .int .i64 0, .int .i64 0, .int .i64 0, .int .u8 0, .int .i64 0, .int .i64 0, .int .i64 0, .int .i64 0, .int .i64 0, .int .u8 0, .int .i64 0, .int .i64 0, .int .i64 0, .int .i64 0, .int .i64 0, .int .u8 0, .int .i64 0, .int .i64 0, .int .i64 0, .int .i64 0, .int .i64 0, .int .u8 0, .int .i64 0, .int .i64 0, .int .i64 0, .int .i64 0, .int .i64 0, .int .u8 0, .int .i64 0, .int .i64 0, .int .i64 0, .int .i64 0, .int .i64 0, .int .u8 0, .int .i64 0, .slice none 0 0, .int .i64 0, .int .i64 0, .int .i64 0] 46)
    have hx := (Ext.refl w1).alloc (.cells #[.int .i64 (N : Int), .int .i64 0, .int .i64 0, .int .i64 0, .int .i64 0, .int .u8 0, .int .i64 0, .int .i64 0, .int .i64 0, .int .i64 0, .int .i64 0, .int .u8 0, .int .i64 0, .int .i64 0, .int .i64 0, .int .i64 0, .int .i64 0, .int .u8 0, .int .i64 0, .int .i64 0, .int .i64 0, .int .i64 0, .int .i64 0, .int .u8 0, .int .i64 0, .int .i64 0, .int .i64 0, .int .i64 0, .int .i64 0, .int .u8 0, .int .i64 0, .int .i64 0, .int .i64 0, .int .i64 0, .int .i64 0, .int .u8 0, .int .i64 0, .int .i64 0, .int .i64 0, .int .i64 0, .int .i64 0, .int .u8 0, .int .i64 0, .slice none 0 0, .int .i64 0, .int .i64 0, .int .i64 0] 46)
    generalize w1.alloc (.cells #[.int .i64 (N : Int), .int .i64 0, .int .i64 0, .int .i64 0, .int .i64 0, .int .u8 0, .int .i64 0, .int .i64 0, .int .i64 0, .int .i64 0, .int .i64 0, .int .u8 0, .int .i64 0, .int .i64 0, .int .i64 0, .int .i64 0, .int .i64 0, .int .u8 0, .int .i64 0, .int .i64 0, .int .i64 0, .int .i64 0, .int .i64 0, .int .u8 0, .int .i64 0, .int .i64 0, .int .i64 0, .int .i64 0, .int .i64 0, .int .u8 0, .int .i64 0, .int .i64 0, .int .i64 0, .int .i64 0, .int .i64 0, .int .u8 0, .int .i64 0, .int .i64 0, .int .i64 0, .int .i64 0, .int .i64 0, .int .u8 0, .int .i64 0, .slice none 0 0, .int .i64 0, .int .i64 0, .int .i64 0] 46) = W1 at *
    obtain ⟨g, hg⟩ : ∃ g, w1.heap.size = g := ⟨_, rfl⟩
    rw [hg] at H1 hrow ⊢
    have hx1' : Below g w1 W1 := by rw [← hg]; exact hx
    have HS0 : Hid (KS W1 g N (fun _ => {}) (.slice none 0 0) 0 0 0 ∧ PRow W1 g (.slice none 0 0) [] ∧ (∀ p ∈ ([] : List PrQ), p.by_ < 256) ∧ KInv N (fun _ => {}) (([] : List PrQ).map PrQ.prp) 0 0 0 none ∧ Below g w1 W1) :=
      Lib.hid ⟨slot_new hrow, World.ownsRow_nil _ _ _ _, (fun p hp => by cases hp), KInv.new N, hx1'⟩
    have HGW := Lib.hid hg
    have HN3 := Lib.hid hN3
    have hNz : ¬ ((N : Int) = 0) := by omega
    have hNz' : ¬ (N = 0) := by omega
    clear hrow hx hx1' hg hN hNd hkk HKW hN3
    go_wp2_with fail
    go_loopw [6] (fun iv wr => ∃ (i : Nat) (P : Nat → Plc) (pv : Value) (L : List PrQ) (ch cx cy : Int), i ≤ m ∧ iv = .int .i64 (i : Int) ∧ L.length ≤ i ∧ Hid (KS wr g N P pv ch cx cy ∧ PRow wr g pv L ∧ (∀ p ∈ L, p.by_ < 256) ∧ KInv N P (L.map PrQ.prp) ch cx cy none ∧ Below g w1 wr)) (fun iv _ => m - (intOf iv).toNat)
    case atStart => exact ⟨0, fun _ => {}, .slice none 0 0, [], 0, 0, 0, Nat.zero_le _, rfl, Nat.le_refl _, HS0⟩
    case round =>
      obtain ⟨i, P, pv, L, ch, cx, cy, hi, rfl, hL, HG⟩ := hrel
      by_cases hlt : i < m
      · have hls : Ls ActK.cells 4 wr g A m c l := H1.out.below HG.out.2.2.2.2
        obtain ⟨g1, o1, a, rfl, hg1, hla, hac⟩ := hls.at_ hlt
        have hawf := HWF.out a (List.mem_of_getElem? hla)
        obtain ⟨ak, aw, ao, at_⟩ := a
        obtain ⟨wk, ww, wo, wt⟩ := hawf
        dsimp only at wk ww wo wt
        have c0 : wr.cell? ⟨g1, o1 + i * 4, none⟩ = some (.int .u8 (ak : Int)) := hac 0 _ rfl
        have c1 : wr.cell? ⟨g1, o1 + i * 4 + 1, none⟩ = some (.int .u8 (aw : Int)) := hac 1 _ rfl
        have c2 : wr.cell? ⟨g1, o1 + i * 4 + 2, none⟩ = some (.int .u8 (ao : Int)) := hac 2 _ rfl
        have c3 : wr.cell? ⟨g1, o1 + i * 4 + 3, none⟩ = some (.int .u8 (at_ : Int)) := hac 3 _ rfl
        have HHB := Lib.hid hg1
        clear hac hla hls hg1
        go_upto_region 10 with (fail)
        clear c0 c1 c2 c3
        have hrow := heap_alloc_new wr (.cells #[.int .u8 (ak : Int), .int .u8 (aw : Int), .int .u8 (ao : Int), .int .u8 (at_ : Int)] 48)
        have hx := (Ext.refl wr).alloc (.cells #[.int .u8 (ak : Int), .int .u8 (aw : Int), .int .u8 (ao : Int), .int .u8 (at_ : Int)] 48)
        generalize wr.alloc (.cells #[.int .u8 (ak : Int), .int .u8 (aw : Int), .int .u8 (ao : Int), .int .u8 (at_ : Int)] 48) = V at *
        generalize wr.heap.size = ba at *
        obtain ⟨c0, c1, c2, c3⟩ := act_row hrow
        go_wp2_with fail
        go_region
        change Exit.then _ _ _ _ V.drew
        have hx2 := hx.drew
        have hrow := keep_rowB (Ext.refl V).drew hrow
        clear c0 c1 c2 c3 hx
        generalize V.drew = V2 at *
        obtain ⟨c0, c1, c2, c3⟩ := act_row hrow
        have HV := Lib.hid (And.intro (HG.out.1.ext hx2) (And.intro (ownsRow_extL HG.out.2.1 hx2) (HG.out.2.2.2.2.trans (Below.toB hx2 HG.out.1.lt))))
        have hn := HV.out.1.n
        have haw : IntKind.i64.wrap (aw : Int) = (aw : Int) := IntWalk.i64_in _ (by omega)
        clear hrow hx2 c2 c3
        obtain ⟨kq, hkq⟩ : ∃ kq, ak % 4 = kq := ⟨_, rfl⟩
        have hkm : (ak : Int).tmod 4 = (kq : Int) := by rw [Int.tmod_eq_emod_of_nonneg (by omega)]; omega
        have hkw : IntKind.u8.wrap (kq : Int) = (kq : Int) := by rw [IntKind.wrap_u8]; omega
        have hk4 : kq < 4 := by omega
        clear hkq
        by_cases hq2 : kq < 2
        · have hd : decide ((kq : Int) < 2) = true := decide_eq_true (by omega)
          obtain ⟨q, hq⟩ : ∃ q, aw % N = q := ⟨_, rfl⟩
          have hqm : (aw : Int).tmod (N : Int) = (q : Int) := by rw [Int.tmod_eq_emod_of_nonneg (by omega), ← hq]; rfl
          have hqN : q < N := by rw [← hq]; exact Nat.mod_lt _ (by omega)
          have hN7 : N ≤ 7 := by have := HN3.out; omega
          have hqr : -9223372036854775808 ≤ (q : Int) ∧ (q : Int) ≤ 9223372036854775807 := by omega
          have hqw : wrap64 (q : Int) = (q : Int) := IntWalk.wrap64_in _ hqr
          have hqw2 : IntKind.i64.wrap (q : Int) = (q : Int) := IntWalk.i64_in _ hqr
          clear hqr
          have HPO := Lib.hid (proposes_of HN3.out (HV.out.1.ext (Ext.refl V2).drew) (ownsRow_extL HV.out.2.1 (Ext.refl V2).drew) HG.out.2.2.1 HG.out.2.2.2.1 (by omega) q hqN ao wo)
          clear hq
          go_upto_region 13 with (fail)
          refine wp_region_held_drew (S := fun w' => w'.cell? ⟨g, 0, none⟩ = some (.int .i64 (N : Int))) (by kernel_rfl) (hn) (fun hHeld => ?_)
          refine tj (i := 0) (oi := ⟨some 46, .move (.tmp 5), 37, "outright.go:175", #[], none⟩) rfl (by kernel_rfl) ?_
          try simp only [Act.put, sT, s0, s1]
          refine tj (i := 1) (oi := ⟨some 47, .fieldAddr 48 (.tmp 7) 1, 0, "outright.go:175", #[], none⟩) rfl (by kernel_rfl) ?_
          try simp only [Act.put, sT, s0, s1]
          refine tj (i := 4) (oi := ⟨some 50, .move (.tmp 5), 37, "outright.go:175", #[], none⟩) rfl (by kernel_rfl) ?_
          try simp only [Act.put, sT, s0, s1]
          refine tj (i := 5) (oi := ⟨some 51, .nilCheck (.tmp 50), 0, "outright.go:175", #[⟨4, .data⟩], none⟩) rfl (by kernel_rfl) ?_
          try simp only [Act.put, sT, s0, s1]
          refine tj (i := 6) (oi := ⟨some 52, .fieldAddr 46 (.tmp 51) 0, 0, "outright.go:175", #[⟨5, .data⟩], none⟩) rfl (by kernel_rfl) ?_
          try simp only [Act.put, sT, s0, s1]
          refine tj (i := 7) (oi := ⟨some 53, .load 3 (.tmp 52), 3, "outright.go:175", #[⟨6, .data⟩], none⟩) rfl (by kernel_rfl) ?_
          try simp only [Act.put, sT, s0, s1]
          refine tj (i := 9) (oi := ⟨some 55, .move (.tmp 8), 49, "outright.go:175", #[], none⟩) rfl (by kernel_rfl) ?_
          try simp only [Act.put, sT, s0, s1]
          refine wpAnyH_ready (rs := [2]) (by kernel_rfl) (by simp) ?_
          refine AllReadyH.cons (o := ⟨some 48, .load 5 (.tmp 47), 5, "outright.go:175", #[⟨1, .data⟩], none⟩) rfl (fun K hK => ?_) AllReadyH.nil
          have hHeld0 := hHeld
          clear hHeld
          go_simp
          refine hK.out _ _ (hHeld0) (fun hHeld => ?_)
          clear hK K
          try simp only [Act.put, sT, s0, s1]
          refine tj (i := 3) (oi := ⟨some 49, .convert 5 3 (.tmp 48), 3, "outright.go:175", #[⟨2, .data⟩], none⟩) rfl (by kernel_rfl) ?_
          try simp only [Act.put, sT, s0, s1]
          refine tj (i := 8) (oi := ⟨some 54, .binOp .rem 3 (.tmp 49) (.tmp 53) 3, 3, "outright.go:175", #[⟨3, .data⟩, ⟨7, .data⟩], none⟩) rfl (by kernel_rfl) ?_
          try simp only [Act.put, sT, s0, s1]
          refine wpAnyH_ready (rs := [10]) (by kernel_rfl) (by simp) ?_
          refine AllReadyH.cons (o := ⟨some 56, .call { callee := .value (.func 14), args := #[.tmp 46, .tmp 54, .tmp 55], argTypes := #[37, 3, 49] }, 4, "outright.go:175", #[⟨0, .data⟩, ⟨8, .data⟩, ⟨9, .data⟩], none⟩) rfl (fun K hK => ?_) AllReadyH.nil
          go_simp
          refine (HPO.out).mono ?_
          rintro _ w5 ⟨rb, rfl, P5, pv5, L5, k5, r5, b5, i5, bl5, ln5, nz5⟩
          have hn5 := k5.n
          have HS5 := Lib.hid (And.intro k5 (And.intro r5 (And.intro b5 (And.intro i5 (And.intro bl5 (And.intro ln5 nz5))))))
          clear k5 r5 b5 i5 bl5 ln5 nz5
          go_wp2_with fail
          refine hK.out _ _ (hn5) (fun hHeld => ?_)
          clear hK K
          try simp only [Act.put, sT, s0, s1]
          cases rb with
          | false =>
            refine tj (i := 11) (oi := ⟨some 57, .move (.tmp 56), 4, "outright.go:175", #[⟨10, .data⟩, ⟨10, .chain⟩], none⟩) rfl (by kernel_rfl) ?_
            try simp only [Act.put, sT, s0, s1]
            refine tk (i := 12) (oi := ⟨some 58, .move (.tmp 5), 37, "outright.go:175", #[⟨11, .guard⟩], some (11, true)⟩) (v := undef) rfl (by kernel_rfl) (Or.inr ⟨by rfl, rfl⟩) ?_
            try simp only [Act.put, sT, s0, s1]
            refine tk (i := 13) (oi := ⟨some 59, .move (.tmp 5), 37, "outright.go:175", #[⟨11, .guard⟩], some (11, true)⟩) (v := undef) rfl (by kernel_rfl) (Or.inr ⟨by rfl, rfl⟩) ?_
            try simp only [Act.put, sT, s0, s1]
            refine tk (i := 14) (oi := ⟨some 60, .nilCheck (.tmp 59), 0, "outright.go:175", #[⟨13, .data⟩, ⟨11, .guard⟩], some (11, true)⟩) (v := undef) rfl (by kernel_rfl) (Or.inr ⟨by rfl, rfl⟩) ?_
            try simp only [Act.put, sT, s0, s1]
            refine tk (i := 15) (oi := ⟨some 61, .fieldAddr 46 (.tmp 60) 2, 0, "outright.go:175", #[⟨14, .data⟩, ⟨11, .guard⟩], some (11, true)⟩) (v := undef) rfl (by kernel_rfl) (Or.inr ⟨by rfl, rfl⟩) ?_
            try simp only [Act.put, sT, s0, s1]
            refine tk (i := 16) (oi := ⟨some 62, .load 44 (.tmp 61), 44, "outright.go:175", #[⟨15, .data⟩, ⟨11, .guard⟩], some (11, true)⟩) (v := undef) rfl (by kernel_rfl) (Or.inr ⟨by rfl, rfl⟩) ?_
            try simp only [Act.put, sT, s0, s1]
            refine tk (i := 17) (oi := ⟨some 63, .call { callee := .builtin Go.Builtin.len, args := #[.tmp 62], argTypes := #[44] }, 3, "outright.go:175", #[⟨16, .data⟩, ⟨11, .guard⟩], some (11, true)⟩) (v := undef) rfl (by kernel_rfl) (Or.inr ⟨by rfl, rfl⟩) ?_
            try simp only [Act.put, sT, s0, s1]
            refine tk (i := 18) (oi := ⟨some 64, .binOp .sub 3 (.tmp 63) (.const (.int .i64 1)) 3, 3, "outright.go:175", #[⟨17, .data⟩, ⟨11, .guard⟩], some (11, true)⟩) (v := undef) rfl (by kernel_rfl) (Or.inr ⟨by rfl, rfl⟩) ?_
            try simp only [Act.put, sT, s0, s1]
            refine tk (i := 19) (oi := ⟨some 65, .move (.tmp 9), 49, "outright.go:175", #[⟨11, .guard⟩], some (11, true)⟩) (v := undef) rfl (by kernel_rfl) (Or.inr ⟨by rfl, rfl⟩) ?_
            try simp only [Act.put, sT, s0, s1]
            refine tk (i := 20) (oi := ⟨some 66, .call { callee := .value (.func 15), args := #[.tmp 58, .tmp 64, .tmp 65], argTypes := #[37, 3, 49] }, 4, "outright.go:175", #[⟨12, .data⟩, ⟨18, .data⟩, ⟨19, .data⟩, ⟨11, .chain⟩, ⟨11, .guard⟩], some (11, true)⟩) (v := undef) rfl (by kernel_rfl) (Or.inr ⟨by rfl, rfl⟩) ?_
            try simp only [Act.put, sT, s0, s1]
            refine tk (i := 21) (oi := ⟨some 67, .unOp .not 4 (.tmp 66), 4, "outright.go:175", #[⟨20, .data⟩, ⟨11, .guard⟩], some (11, true)⟩) (v := undef) rfl (by kernel_rfl) (Or.inr ⟨by rfl, rfl⟩) ?_
            try simp only [Act.put, sT, s0, s1]
            refine tj (i := 22) (oi := ⟨some 68, .pick (.tmp 57) (.tmp 67) (.const (.bool false)), 4, "outright.go:175", #[⟨11, .data⟩, ⟨21, .data⟩], none⟩) rfl (by kernel_rfl) ?_
            try simp only [Act.put, sT, s0, s1]
            refine wpAnyH_done (by kernel_rfl) ?_ _
            clear hHeld
            go_wp2_with fail
            go_roundw
            case rel => exact ⟨i + 1, P5, pv5, L5, ch, cx, cy, by omega, by go_num, by have := HS5.out.2.2.2.2.2.1; omega, Lib.hid ⟨HS5.out.1, HS5.out.2.1, HS5.out.2.2.1, HS5.out.2.2.2.1, HV.out.2.2.trans ((Below.toB (Ext.refl V2).drew HV.out.1.lt).trans HS5.out.2.2.2.2.1)⟩⟩
            case measure => simp [intOf]; omega
          | true =>
            have hnz := HS5.out.2.2.2.2.2.2 rfl
            obtain ⟨p5, hp5⟩ : ∃ p, L5[L5.length - 1]? = some p := ⟨_, List.getElem?_eq_getElem (by omega)⟩
            obtain ⟨q5, cp5, rfl, _, hcp5, _⟩ := HS5.out.2.1.at_ hp5
            have HAC := Lib.hid (accepts_of HN3.out HS5.out.1 HS5.out.2.1 HS5.out.2.2.1 HS5.out.2.2.2.1 (L5.length - 1) (by omega) at_ wt)
            have hpr5 := HS5.out.1.pr
            obtain ⟨lk, hlk⟩ : ∃ lk, L5.length - 1 = lk := ⟨_, rfl⟩
            rw [hlk] at HAC
            obtain ⟨M, hM⟩ : ∃ M, L5.length = M := ⟨_, rfl⟩
            rw [hM] at hpr5 hlk hnz
            have hML : M ≤ 61 := by have := HS5.out.2.2.2.2.2.1; omega
            have hmw : wrap64 ((M : Int) - 1) = (lk : Int) := by rw [IntWalk.wrap64_in _ (by omega)]; omega
            have hmw2 : IntKind.i64.wrap ((M : Int) - 1) = (lk : Int) := by rw [IntWalk.i64_in _ (by omega)]; omega
            have HM5 := Lib.hid hM
            clear hlk hM hp5 hcp5
            refine tj (i := 11) (oi := ⟨some 57, .move (.tmp 56), 4, "outright.go:175", #[⟨10, .data⟩, ⟨10, .chain⟩], none⟩) rfl (by kernel_rfl) ?_
            try simp only [Act.put, sT, s0, s1]
            refine tj (i := 12) (oi := ⟨some 58, .move (.tmp 5), 37, "outright.go:175", #[⟨11, .guard⟩], some (11, true)⟩) rfl (by kernel_rfl) ?_
            try simp only [Act.put, sT, s0, s1]
            refine tj (i := 13) (oi := ⟨some 59, .move (.tmp 5), 37, "outright.go:175", #[⟨11, .guard⟩], some (11, true)⟩) rfl (by kernel_rfl) ?_
            try simp only [Act.put, sT, s0, s1]
            refine tj (i := 14) (oi := ⟨some 60, .nilCheck (.tmp 59), 0, "outright.go:175", #[⟨13, .data⟩, ⟨11, .guard⟩], some (11, true)⟩) rfl (by kernel_rfl) ?_
            try simp only [Act.put, sT, s0, s1]
            refine tj (i := 15) (oi := ⟨some 61, .fieldAddr 46 (.tmp 60) 2, 0, "outright.go:175", #[⟨14, .data⟩, ⟨11, .guard⟩], some (11, true)⟩) rfl (by kernel_rfl) ?_
            try simp only [Act.put, sT, s0, s1]
            refine tj (i := 19) (oi := ⟨some 65, .move (.tmp 9), 49, "outright.go:175", #[⟨11, .guard⟩], some (11, true)⟩) rfl (by kernel_rfl) ?_
            try simp only [Act.put, sT, s0, s1]
            refine wpAnyH_ready (rs := [16]) (by kernel_rfl) (by simp) ?_
            refine AllReadyH.cons (o := ⟨some 62, .load 44 (.tmp 61), 44, "outright.go:175", #[⟨15, .data⟩, ⟨11, .guard⟩], some (11, true)⟩) rfl (fun K hK => ?_) AllReadyH.nil
            have hHeld0 := hHeld
            clear hHeld
            go_simp
            refine hK.out _ _ (hHeld0) (fun hHeld => ?_)
            clear hK K
            try simp only [Act.put, sT, s0, s1]
            refine tj (i := 17) (oi := ⟨some 63, .call { callee := .builtin Go.Builtin.len, args := #[.tmp 62], argTypes := #[44] }, 3, "outright.go:175", #[⟨16, .data⟩, ⟨11, .guard⟩], some (11, true)⟩) rfl (by kernel_rfl) ?_
            try simp only [Act.put, sT, s0, s1]
            refine tj (i := 18) (oi := ⟨some 64, .binOp .sub 3 (.tmp 63) (.const (.int .i64 1)) 3, 3, "outright.go:175", #[⟨17, .data⟩, ⟨11, .guard⟩], some (11, true)⟩) rfl (by kernel_rfl) ?_
            try simp only [Act.put, sT, s0, s1]
            refine wpAnyH_ready (rs := [20]) (by kernel_rfl) (by simp) ?_
            refine AllReadyH.cons (o := ⟨some 66, .call { callee := .value (.func 15), args := #[.tmp 58, .tmp 64, .tmp 65], argTypes := #[37, 3, 49] }, 4, "outright.go:175", #[⟨12, .data⟩, ⟨18, .data⟩, ⟨19, .data⟩, ⟨11, .chain⟩, ⟨11, .guard⟩], some (11, true)⟩) rfl (fun K hK => ?_) AllReadyH.nil
            go_simp
            refine (HAC.out).mono ?_
            rintro _ w6 ⟨rfl, P6, L6, ch6, cx6, cy6, k6, r6, ln6, b6, i6, bl6⟩
            have hn6 := k6.n
            have HS6 := Lib.hid (And.intro k6 (And.intro r6 (And.intro b6 (And.intro i6 (And.intro bl6 ln6)))))
            clear k6 r6 b6 i6 bl6 ln6
            go_wp2_with fail
            refine hK.out _ _ (hn6) (fun hHeld => ?_)
            clear hK K
            try simp only [Act.put, sT, s0, s1]
            refine tj (i := 21) (oi := ⟨some 67, .unOp .not 4 (.tmp 66), 4, "outright.go:175", #[⟨20, .data⟩, ⟨11, .guard⟩], some (11, true)⟩) rfl (by kernel_rfl) ?_
            try simp only [Act.put, sT, s0, s1]
            refine tj (i := 22) (oi := ⟨some 68, .pick (.tmp 57) (.tmp 67) (.const (.bool false)), 4, "outright.go:175", #[⟨11, .data⟩, ⟨21, .data⟩], none⟩) rfl (by kernel_rfl) ?_
            try simp only [Act.put, sT, s0, s1]
            refine wpAnyH_done (by kernel_rfl) ?_ _
            clear hHeld
            go_wp2_with fail
            go_roundw
            case rel => exact ⟨i + 1, P6, _, L6, ch6, cx6, cy6, by omega, by go_num, by have h1 := HS5.out.2.2.2.2.2.1; have h2 := HS6.out.2.2.2.2.2; omega, Lib.hid ⟨HS6.out.1, HS6.out.2.1, HS6.out.2.2.1, HS6.out.2.2.2.1, (HV.out.2.2.trans ((Below.toB (Ext.refl V2).drew HV.out.1.lt).trans HS5.out.2.2.2.2.1)).trans HS6.out.2.2.2.2.1⟩⟩
            case measure => simp [intOf]; omega
        · have hd : decide ((kq : Int) < 2) = false := decide_eq_false (by omega)
          have hd' : ¬ ((kq : Int) < 2) := by omega
          by_cases hq3 : kq = 2
          · subst hq3
            obtain ⟨A5, c5, hpv, hL5⟩ := Ls.of_own (cells := PrQ.cells) (fun _ => rfl) (by omega) HV.out.2.1
            subst hpv
            have hpr := HV.out.1.pr
            obtain ⟨M, hM⟩ : ∃ M, L.length = M := ⟨_, rfl⟩
            rw [hM] at hpr
            have HM5 := Lib.hid hM
            clear hL5
            by_cases hM0 : M = 0
            · have hd2 : decide ((0 : Int) < (M : Int)) = false := decide_eq_false (by omega)
              have hd3 : decide (0 < M) = false := decide_eq_false (by omega)
              have hd4 : ¬ (0 < M) := by omega
              clear hM
              go_upto_region 16 with (fail)
              refine wp_region_held_drew (S := fun w' => w'.cell? ⟨g, 43, none⟩ = some (.slice A5 M c5)) (by kernel_rfl) (hpr) (fun hHeld => ?_)
              refine tj (i := 0) (oi := ⟨some 74, .move (.tmp 5), 37, "outright.go:179", #[], none⟩) rfl (by kernel_rfl) ?_
              try simp only [Act.put, sT, s0, s1]
              refine tj (i := 1) (oi := ⟨some 75, .nilCheck (.tmp 74), 0, "outright.go:179", #[⟨0, .data⟩], none⟩) rfl (by kernel_rfl) ?_
              try simp only [Act.put, sT, s0, s1]
              refine tj (i := 2) (oi := ⟨some 76, .fieldAddr 46 (.tmp 75) 2, 0, "outright.go:179", #[⟨1, .data⟩], none⟩) rfl (by kernel_rfl) ?_
              try simp only [Act.put, sT, s0, s1]
              refine tj (i := 3) (oi := ⟨some 77, .load 44 (.tmp 76), 44, "outright.go:179", #[⟨2, .data⟩], none⟩) rfl (by kernel_rfl) ?_
              try simp only [Act.put, sT, s0, s1]
              refine tj (i := 4) (oi := ⟨some 78, .call { callee := .builtin Go.Builtin.len, args := #[.tmp 77], argTypes := #[44] }, 3, "outright.go:179", #[⟨3, .data⟩], none⟩) rfl (by kernel_rfl) ?_
              try simp only [Act.put, sT, s0, s1]
              refine tj (i := 5) (oi := ⟨some 79, .binOp .gtr 3 (.tmp 78) (.const (.int .i64 0)) 3, 4, "outright.go:179", #[⟨4, .data⟩], none⟩) rfl (by kernel_rfl) ?_
              try simp only [Act.put, sT, s0, s1]
              refine tj (i := 6) (oi := ⟨some 80, .move (.tmp 79), 4, "outright.go:179", #[⟨5, .data⟩], none⟩) rfl (by kernel_rfl) ?_
              try simp only [Act.put, sT, s0, s1]
              refine tk (i := 7) (oi := ⟨some 81, .move (.tmp 5), 37, "outright.go:179", #[⟨6, .guard⟩], some (6, true)⟩) (v := undef) rfl (by kernel_rfl) (Or.inr ⟨by rfl, rfl⟩) ?_
              try simp only [Act.put, sT, s0, s1]
              refine tk (i := 8) (oi := ⟨some 82, .fieldAddr 48 (.tmp 7) 1, 0, "outright.go:179", #[⟨6, .guard⟩], some (6, true)⟩) (v := undef) rfl (by kernel_rfl) (Or.inr ⟨by rfl, rfl⟩) ?_
              try simp only [Act.put, sT, s0, s1]
              refine tk (i := 9) (oi := ⟨some 83, .load 5 (.tmp 82), 5, "outright.go:179", #[⟨8, .data⟩, ⟨6, .guard⟩], some (6, true)⟩) (v := undef) rfl (by kernel_rfl) (Or.inr ⟨by rfl, rfl⟩) ?_
              try simp only [Act.put, sT, s0, s1]
              refine tk (i := 10) (oi := ⟨some 84, .convert 5 3 (.tmp 83), 3, "outright.go:179", #[⟨9, .data⟩, ⟨6, .guard⟩], some (6, true)⟩) (v := undef) rfl (by kernel_rfl) (Or.inr ⟨by rfl, rfl⟩) ?_
              try simp only [Act.put, sT, s0, s1]
              refine tk (i := 11) (oi := ⟨some 85, .move (.tmp 5), 37, "outright.go:179", #[⟨6, .guard⟩], some (6, true)⟩) (v := undef) rfl (by kernel_rfl) (Or.inr ⟨by rfl, rfl⟩) ?_
              try simp only [Act.put, sT, s0, s1]
              refine tk (i := 12) (oi := ⟨some 86, .nilCheck (.tmp 85), 0, "outright.go:179", #[⟨11, .data⟩, ⟨6, .guard⟩], some (6, true)⟩) (v := undef) rfl (by kernel_rfl) (Or.inr ⟨by rfl, rfl⟩) ?_
              try simp only [Act.put, sT, s0, s1]
              refine tk (i := 13) (oi := ⟨some 87, .fieldAddr 46 (.tmp 86) 2, 0, "outright.go:179", #[⟨12, .data⟩, ⟨6, .guard⟩], some (6, true)⟩) (v := undef) rfl (by kernel_rfl) (Or.inr ⟨by rfl, rfl⟩) ?_
              try simp only [Act.put, sT, s0, s1]
              refine tk (i := 14) (oi := ⟨some 88, .load 44 (.tmp 87), 44, "outright.go:179", #[⟨13, .data⟩, ⟨6, .guard⟩], some (6, true)⟩) (v := undef) rfl (by kernel_rfl) (Or.inr ⟨by rfl, rfl⟩) ?_
              try simp only [Act.put, sT, s0, s1]
              refine tk (i := 15) (oi := ⟨some 89, .call { callee := .builtin Go.Builtin.len, args := #[.tmp 88], argTypes := #[44] }, 3, "outright.go:179", #[⟨14, .data⟩, ⟨6, .guard⟩], some (6, true)⟩) (v := undef) rfl (by kernel_rfl) (Or.inr ⟨by rfl, rfl⟩) ?_
              try simp only [Act.put, sT, s0, s1]
              refine tk (i := 16) (oi := ⟨some 90, .binOp .rem 3 (.tmp 84) (.tmp 89) 3, 3, "outright.go:179", #[⟨10, .data⟩, ⟨15, .data⟩, ⟨6, .guard⟩], some (6, true)⟩) (v := undef) rfl (by kernel_rfl) (Or.inr ⟨by rfl, rfl⟩) ?_
              try simp only [Act.put, sT, s0, s1]
              refine tk (i := 17) (oi := ⟨some 91, .move (.tmp 8), 49, "outright.go:179", #[⟨6, .guard⟩], some (6, true)⟩) (v := undef) rfl (by kernel_rfl) (Or.inr ⟨by rfl, rfl⟩) ?_
              try simp only [Act.put, sT, s0, s1]
              refine tk (i := 18) (oi := ⟨some 92, .call { callee := .value (.func 15), args := #[.tmp 81, .tmp 90, .tmp 91], argTypes := #[37, 3, 49] }, 4, "outright.go:179", #[⟨7, .data⟩, ⟨16, .data⟩, ⟨17, .data⟩, ⟨6, .chain⟩, ⟨6, .guard⟩], some (6, true)⟩) (v := undef) rfl (by kernel_rfl) (Or.inr ⟨by rfl, rfl⟩) ?_
              try simp only [Act.put, sT, s0, s1]
              refine tk (i := 19) (oi := ⟨some 93, .unOp .not 4 (.tmp 92), 4, "outright.go:179", #[⟨18, .data⟩, ⟨6, .guard⟩], some (6, true)⟩) (v := undef) rfl (by kernel_rfl) (Or.inr ⟨by rfl, rfl⟩) ?_
              try simp only [Act.put, sT, s0, s1]
              refine tj (i := 20) (oi := ⟨some 94, .pick (.tmp 80) (.tmp 93) (.const (.bool false)), 4, "outright.go:179", #[⟨6, .data⟩, ⟨19, .data⟩], none⟩) rfl (by kernel_rfl) ?_
              try simp only [Act.put, sT, s0, s1]
              refine wpAnyH_done (by kernel_rfl) ?_ _
              clear hHeld
              go_wp2_with fail
              go_roundw
              case rel => exact ⟨i + 1, P, _, L, ch, cx, cy, by omega, by go_num, by omega, Lib.hid ⟨HV.out.1.ext (Ext.refl V2).drew, ownsRow_extL HV.out.2.1 (Ext.refl V2).drew, HG.out.2.2.1, HG.out.2.2.2.1, HV.out.2.2.trans (Below.toB (Ext.refl V2).drew HV.out.1.lt)⟩⟩
              case measure => simp [intOf]; omega
            · have hd2 : decide ((0 : Int) < (M : Int)) = true := decide_eq_true (by omega)
              have hd3 : decide (0 < M) = true := decide_eq_true (by omega)
              have hd4 : 0 < M := by omega
              have hM60 : M ≤ 60 := by omega
              have hMz : ¬ ((M : Int) = 0) := by omega
              have hMz' : ¬ (M = 0) := by omega
              obtain ⟨q, hq⟩ : ∃ q, aw % M = q := ⟨_, rfl⟩
              have hqm : (aw : Int).tmod (M : Int) = (q : Int) := by rw [Int.tmod_eq_emod_of_nonneg (by omega), ← hq]; rfl
              have hqN : q < M := by rw [← hq]; exact Nat.mod_lt _ (by omega)
              have hqL : q < L.length := by rw [hM]; exact hqN
              have hqr : -9223372036854775808 ≤ (q : Int) ∧ (q : Int) ≤ 9223372036854775807 := by omega
              have hqw : wrap64 (q : Int) = (q : Int) := IntWalk.wrap64_in _ hqr
              have hqw2 : IntKind.i64.wrap (q : Int) = (q : Int) := IntWalk.i64_in _ hqr
              clear hqr
              have HAC := Lib.hid (accepts_of HN3.out (HV.out.1.ext (Ext.refl V2).drew) (ownsRow_extL HV.out.2.1 (Ext.refl V2).drew) HG.out.2.2.1 HG.out.2.2.2.1 q hqL ao wo)
              clear hqL
              clear hq hM
              go_upto_region 16 with (fail)
              refine wp_region_held_drew (S := fun w' => w'.cell? ⟨g, 43, none⟩ = some (.slice A5 M c5)) (by kernel_rfl) (hpr) (fun hHeld => ?_)
              refine tj (i := 0) (oi := ⟨some 74, .move (.tmp 5), 37, "outright.go:179", #[], none⟩) rfl (by kernel_rfl) ?_
              try simp only [Act.put, sT, s0, s1]
              refine tj (i := 1) (oi := ⟨some 75, .nilCheck (.tmp 74), 0, "outright.go:179", #[⟨0, .data⟩], none⟩) rfl (by kernel_rfl) ?_
              try simp only [Act.put, sT, s0, s1]
              refine tj (i := 2) (oi := ⟨some 76, .fieldAddr 46 (.tmp 75) 2, 0, "outright.go:179", #[⟨1, .data⟩], none⟩) rfl (by kernel_rfl) ?_
              try simp only [Act.put, sT, s0, s1]
              refine tj (i := 3) (oi := ⟨some 77, .load 44 (.tmp 76), 44, "outright.go:179", #[⟨2, .data⟩], none⟩) rfl (by kernel_rfl) ?_
              try simp only [Act.put, sT, s0, s1]
              refine tj (i := 4) (oi := ⟨some 78, .call { callee := .builtin Go.Builtin.len, args := #[.tmp 77], argTypes := #[44] }, 3, "outright.go:179", #[⟨3, .data⟩], none⟩) rfl (by kernel_rfl) ?_
              try simp only [Act.put, sT, s0, s1]
              refine tj (i := 5) (oi := ⟨some 79, .binOp .gtr 3 (.tmp 78) (.const (.int .i64 0)) 3, 4, "outright.go:179", #[⟨4, .data⟩], none⟩) rfl (by kernel_rfl) ?_
              try simp only [Act.put, sT, s0, s1]
              refine tj (i := 6) (oi := ⟨some 80, .move (.tmp 79), 4, "outright.go:179", #[⟨5, .data⟩], none⟩) rfl (by kernel_rfl) ?_
              try simp only [Act.put, sT, s0, s1]
              refine tj (i := 7) (oi := ⟨some 81, .move (.tmp 5), 37, "outright.go:179", #[⟨6, .guard⟩], some (6, true)⟩) rfl (by kernel_rfl) ?_
              try simp only [Act.put, sT, s0, s1]
              refine tj (i := 8) (oi := ⟨some 82, .fieldAddr 48 (.tmp 7) 1, 0, "outright.go:179", #[⟨6, .guard⟩], some (6, true)⟩) rfl (by kernel_rfl) ?_
              try simp only [Act.put, sT, s0, s1]
              refine tj (i := 11) (oi := ⟨some 85, .move (.tmp 5), 37, "outright.go:179", #[⟨6, .guard⟩], some (6, true)⟩) rfl (by kernel_rfl) ?_
              try simp only [Act.put, sT, s0, s1]
              refine tj (i := 12) (oi := ⟨some 86, .nilCheck (.tmp 85), 0, "outright.go:179", #[⟨11, .data⟩, ⟨6, .guard⟩], some (6, true)⟩) rfl (by kernel_rfl) ?_
              try simp only [Act.put, sT, s0, s1]
              refine tj (i := 13) (oi := ⟨some 87, .fieldAddr 46 (.tmp 86) 2, 0, "outright.go:179", #[⟨12, .data⟩, ⟨6, .guard⟩], some (6, true)⟩) rfl (by kernel_rfl) ?_
              try simp only [Act.put, sT, s0, s1]
              refine tj (i := 14) (oi := ⟨some 88, .load 44 (.tmp 87), 44, "outright.go:179", #[⟨13, .data⟩, ⟨6, .guard⟩], some (6, true)⟩) rfl (by kernel_rfl) ?_
              try simp only [Act.put, sT, s0, s1]
              refine tj (i := 15) (oi := ⟨some 89, .call { callee := .builtin Go.Builtin.len, args := #[.tmp 88], argTypes := #[44] }, 3, "outright.go:179", #[⟨14, .data⟩, ⟨6, .guard⟩], some (6, true)⟩) rfl (by kernel_rfl) ?_
              try simp only [Act.put, sT, s0, s1]
              refine tj (i := 17) (oi := ⟨some 91, .move (.tmp 8), 49, "outright.go:179", #[⟨6, .guard⟩], some (6, true)⟩) rfl (by kernel_rfl) ?_
              try simp only [Act.put, sT, s0, s1]
              refine wpAnyH_ready (rs := [9]) (by kernel_rfl) (by simp) ?_
              refine AllReadyH.cons (o := ⟨some 83, .load 5 (.tmp 82), 5, "outright.go:179", #[⟨8, .data⟩, ⟨6, .guard⟩], some (6, true)⟩) rfl (fun K hK => ?_) AllReadyH.nil
              have hHeld0 := hHeld
              clear hHeld
              go_simp
              refine hK.out _ _ (hHeld0) (fun hHeld => ?_)
              clear hK K
              try simp only [Act.put, sT, s0, s1]
              refine tj (i := 10) (oi := ⟨some 84, .convert 5 3 (.tmp 83), 3, "outright.go:179", #[⟨9, .data⟩, ⟨6, .guard⟩], some (6, true)⟩) rfl (by kernel_rfl) ?_
              try simp only [Act.put, sT, s0, s1]
              refine tj (i := 16) (oi := ⟨some 90, .binOp .rem 3 (.tmp 84) (.tmp 89) 3, 3, "outright.go:179", #[⟨10, .data⟩, ⟨15, .data⟩, ⟨6, .guard⟩], some (6, true)⟩) rfl (by kernel_rfl) ?_
              try simp only [Act.put, sT, s0, s1]
              refine wpAnyH_ready (rs := [18]) (by kernel_rfl) (by simp) ?_
              refine AllReadyH.cons (o := ⟨some 92, .call { callee := .value (.func 15), args := #[.tmp 81, .tmp 90, .tmp 91], argTypes := #[37, 3, 49] }, 4, "outright.go:179", #[⟨7, .data⟩, ⟨16, .data⟩, ⟨17, .data⟩, ⟨6, .chain⟩, ⟨6, .guard⟩], some (6, true)⟩) rfl (fun K hK => ?_) AllReadyH.nil
              go_simp
              refine (HAC.out).mono ?_
              rintro _ w6 ⟨rfl, P6, L6, ch6, cx6, cy6, k6, r6, ln6, b6, i6, bl6⟩
              have hp6 := k6.pr
              rw [HM5.out] at hp6
              have HS6 := Lib.hid (And.intro k6 (And.intro r6 (And.intro b6 (And.intro i6 (And.intro bl6 ln6)))))
              clear k6 r6 b6 i6 bl6 ln6
              go_wp2_with fail
              refine hK.out _ _ (hp6) (fun hHeld => ?_)
              clear hK K
              try simp only [Act.put, sT, s0, s1]
              refine tj (i := 19) (oi := ⟨some 93, .unOp .not 4 (.tmp 92), 4, "outright.go:179", #[⟨18, .data⟩, ⟨6, .guard⟩], some (6, true)⟩) rfl (by kernel_rfl) ?_
              try simp only [Act.put, sT, s0, s1]
              refine tj (i := 20) (oi := ⟨some 94, .pick (.tmp 80) (.tmp 93) (.const (.bool false)), 4, "outright.go:179", #[⟨6, .data⟩, ⟨19, .data⟩], none⟩) rfl (by kernel_rfl) ?_
              try simp only [Act.put, sT, s0, s1]
              refine wpAnyH_done (by kernel_rfl) ?_ _
              clear hHeld
              go_wp2_with fail
              go_roundw
              case rel => exact ⟨i + 1, P6, _, L6, ch6, cx6, cy6, by omega, by go_num, by have h2 := HS6.out.2.2.2.2.2; have h3 := HM5.out; omega, Lib.hid ⟨HS6.out.1, HS6.out.2.1, HS6.out.2.2.1, HS6.out.2.2.2.1, HV.out.2.2.trans ((Below.toB (Ext.refl V2).drew HV.out.1.lt).trans HS6.out.2.2.2.2.1)⟩⟩
              case measure => simp [intOf]; omega
          · have hd3 : decide ((kq : Int) = 2) = false := decide_eq_false (by omega)
            have hd3' : ¬ ((kq : Int) = 2) := by omega
            have HLO := Lib.hid (loses_of HN3.out HV.out.1 HG.out.2.2.2.1 ao at_ wo wt)
            go_wp2_with fail
            refine HLO.out.mono ?_
            rintro _ w6 ⟨rfl, P6, k6, i6, m6⟩
            have HS6 := Lib.hid (And.intro k6 (And.intro (PRow.mod HV.out.2.1 m6) (And.intro i6 (HV.out.2.2.trans (below_mod m6 (Nat.le_of_lt HV.out.1.lt) fun k hk => by omega)))))
            clear k6 i6 m6
            go_wp2_with fail
            go_roundw
            case rel => exact ⟨i + 1, P6, pv, L, ch, cx, cy, by omega, by go_num, by omega, Lib.hid ⟨HS6.out.1, HS6.out.2.1, HG.out.2.2.1, HS6.out.2.2.1, HS6.out.2.2.2⟩⟩
            case measure => simp [intOf]; omega
      · go_wp2_with fail
        go_ret
        exact ⟨rfl, HX1.out.trans (by have h := HG.out.2.2.2.2; rw [← HGW.out] at h; exact h)⟩
  · have hm2 : decide ((60 : Int) < (m : Int)) = true := decide_eq_true (by omega)
    clear hm
    go_wp2_with fail
    go_ret
    exact ⟨rfl, HX1.out⟩
end Go.Proofs.Ytinflpheogglhaa
