/-
  The contract of the laws' own accepts.
-/
import Derived.Test.YtinflpheogglhaaP00
import Derived.Test.YtinflpheogglhaaP02
import Derived.Test.YtinflpheogglhaaP07
import Derived.Deep.RegionHeld
namespace Go.Proofs.Ytinflpheogglhaa
set_option maxRecDepth 100000
section
open Go Go.RowKit
theorem Below.toB {B : Nat} {w w' : World} (h : Ext w w') (hB : B < w.heap.size) : Below B w w' := ⟨h.os, h.tape, h.output, h.size, fun k hk => h.block k (by omega)⟩
theorem below_mod {B : Nat} {w w' : World} {F : Nat → Prop} (h : Mod F w w') (hB : B ≤ w.heap.size) (hF : ∀ k, F k → B ≤ k) : Below B w w' := ⟨h.os, h.tape, h.output, h.size, fun k hk => h.block k (by omega) fun hf => by have := hF k hf; omega⟩
theorem KS.six_set {w : World} {g N : Nat} {pl : Nat → Plc} {pv : Value} {ch cx cy : Int} (h : KS w g N pl pv ch cx cy) {i : Nat} (hi : i < 7) (X Y SQ : Int) : KS ((((((w.setCell ⟨g, 1 + i * 6, none⟩ (.int .i64 X)).setCell ⟨g, 1 + i * 6 + 1, none⟩ (.int .i64 Y)).setCell ⟨g, 1 + i * 6 + 2, none⟩ (.int .i64 X)).setCell ⟨g, 1 + i * 6 + 3, none⟩ (.int .i64 Y)).setCell ⟨g, 1 + i * 6 + 4, none⟩ (.int .u8 2)).setCell ⟨g, 1 + i * 6 + 5, none⟩ (.int .i64 SQ)) g N (setP pl i ⟨X, Y, X, Y, 2, SQ⟩) pv ch cx cy := by
  have h0 := h.place hi (k := 0) (.int .i64 X) { pl i with px := X } rfl (by omega)
  have h1 := h0.place hi (k := 1) (.int .i64 Y) { pl i with px := X, py := Y } (by rw [setP_same]; rfl) (by omega)
  rw [setP_setP] at h1
  have h2 := h1.place hi (k := 2) (.int .i64 X) { pl i with px := X, py := Y, bx := X } (by rw [setP_same]; rfl) (by omega)
  rw [setP_setP] at h2
  have h3 := h2.place hi (k := 3) (.int .i64 Y) { pl i with px := X, py := Y, bx := X, yb := Y } (by rw [setP_same]; rfl) (by omega)
  rw [setP_setP] at h3
  have h4 := h3.place hi (k := 4) (.int .u8 2) { pl i with px := X, py := Y, bx := X, yb := Y, st := 2 } (by rw [setP_same]; rfl) (by omega)
  rw [setP_setP] at h4
  have h5 := h4.place hi (k := 5) (.int .i64 SQ) ⟨X, Y, X, Y, 2, SQ⟩ (by rw [setP_same]; rfl) (by omega)
  rw [setP_setP] at h5
  exact h5
theorem six_mod (w : World) (g i : Nat) (X Y SQ : Int) : Mod (fun k => k = g) w ((((((w.setCell ⟨g, 1 + i * 6, none⟩ (.int .i64 X)).setCell ⟨g, 1 + i * 6 + 1, none⟩ (.int .i64 Y)).setCell ⟨g, 1 + i * 6 + 2, none⟩ (.int .i64 X)).setCell ⟨g, 1 + i * 6 + 3, none⟩ (.int .i64 Y)).setCell ⟨g, 1 + i * 6 + 4, none⟩ (.int .u8 2)).setCell ⟨g, 1 + i * 6 + 5, none⟩ (.int .i64 SQ)) :=
  Mod.setCell (F := fun k => k = g) (Mod.setCell (F := fun k => k = g) (Mod.setCell (F := fun k => k = g) (Mod.setCell (F := fun k => k = g) (Mod.setCell (F := fun k => k = g) (Mod.setCell (F := fun k => k = g) (Mod.refl (fun k => k = g) w) (.inl rfl) _) (.inl rfl) _) (.inl rfl) _) (.inl rfl) _) (.inl rfl) _) (.inl rfl) _
theorem PRow.mod {w w' : World} {g : Nat} {pv : Value} {prs : List PrQ} (h : PRow w g pv prs) (hm : Mod (fun k => k = g) w w') : PRow w' g pv prs := own_mod h hm fun b hb hf => by have := (World.ownsRow.lt h b hb).1; omega
theorem map_setQ {L : List PrQ} {k i : Nat} {p : PrQ} (hi : i < 7) : (L.set k { p with by_ := addQ p.by_ (i : Int) }).map PrQ.prp = (L.map PrQ.prp).set k (addA p.prp i) := by
  rw [List.map_set, prp_add p i hi]
set_option maxHeartbeats 1600000 in
theorem accepts_of {w : World} {g N : Nat} {pl : Nat → Plc} {pv : Value} {ch cx cy : Int} {prs : List PrQ} (hN : N = 3 ∨ N = 5 ∨ N = 7) (h : KS w g N pl pv ch cx cy) (hp : PRow w g pv prs) (hby : ∀ p ∈ prs, p.by_ < 256) (hI : KInv N pl (prs.map PrQ.prp) ch cx cy none) (k : Nat) (hk : k < prs.length) (s : Nat) (hs : s < 256) :
    Calls Try.prog 15 #[.pointer (some ⟨g, 0, none⟩), .int .i64 (k : Int), .int .u8 (s : Int)] w fun e w' => e = .returned (.bool true) ∧ ∃ pl' prs' ch' cx' cy', KS w' g N pl' pv ch' cx' cy' ∧ PRow w' g pv prs' ∧ prs'.length = prs.length ∧ (∀ p ∈ prs', p.by_ < 256) ∧ KInv N pl' (prs'.map PrQ.prp) ch' cx' cy' none ∧ Below g w w' := by
  have hN7 : N ≤ 7 := by omega
  obtain ⟨p0, hp0⟩ : ∃ p0, prs[k]? = some p0 := ⟨_, List.getElem?_eq_getElem hk⟩
  obtain ⟨q, cap, hpv, hqg, hcap, _⟩ := hp.at_ hp0
  obtain ⟨X, Y, SQ, by0⟩ := p0
  have HPV := Lib.hid hpv
  have hpr := h.pr
  rw [hpv] at hpr
  have hcap2 : cap ≤ 9223372036854775807 := by
    rcases hp.2 with ⟨e, _⟩ | ⟨_, _, _, e, _, _, _, hm, _⟩
    · rw [e] at hpv; cases hpv
    · rw [e] at hpv
      injection hpv with _ _ e3
      unfold maxLen at hm
      omega
  have HP0 := Lib.hid hp0
  have HIN := Lib.hid hI
  have HG0 : Hid (KS w g N pl pv ch cx cy ∧ PRow w g pv prs ∧ prs.length = prs.length ∧ prs[k]? = some ⟨X, Y, SQ, by0⟩ ∧ (∀ p ∈ prs, p.by_ < 256) ∧ KInv N pl (prs.map PrQ.prp) ch cx cy (some k) ∧ (by0 = by0 ∨ ∃ q, q < N ∧ (pl q).st = 2 ∧ bLe X Y (pl q).bx (pl q).yb) ∧ Below g w w) :=
    Lib.hid ⟨h, hp, rfl, hp0, hby, hI.open_ _, .inl rfl, Below.refl _ _⟩
  clear h hp hby hI hp0 hpv
  go_enter Try.func15, Try.ntmps15
  go_wp2_with fail
  clear hpr
  go_loopw [8] (fun iv wr => ∃ (i : Nat) (P : Nat → Plc) (L : List PrQ) (bq : Nat), i ≤ N ∧ iv = .int .i64 (i : Int) ∧ Hid (KS wr g N P pv ch cx cy ∧ PRow wr g pv L ∧ L.length = prs.length ∧ L[k]? = some ⟨X, Y, SQ, bq⟩ ∧ (∀ p ∈ L, p.by_ < 256) ∧ KInv N P (L.map PrQ.prp) ch cx cy (some k) ∧ (bq = by0 ∨ ∃ q, q < N ∧ (P q).st = 2 ∧ bLe X Y (P q).bx (P q).yb) ∧ Below g w wr)) (fun iv _ => N - (intOf iv).toNat)
  case atStart => exact ⟨0, pl, prs, by0, Nat.zero_le _, rfl, Lib.hid (by first | exact HG0.out | simpa using HG0.out)⟩
  case round =>
    obtain ⟨i, P, L, p, hi, rfl, HG⟩ := hrel
    have hn := HG.out.1.n
    have hrow : ∃ cap', pv = .slice (some ⟨q, 0, none⟩) L.length cap' ∧ (∃ cur, wr.heap[q]? = some (.cells cur 73 (0, 0))) ∧ wr.cell? ⟨q, k * 4, none⟩ = some (.int .i64 X) ∧ wr.cell? ⟨q, k * 4 + 1, none⟩ = some (.int .i64 Y) ∧ wr.cell? ⟨q, k * 4 + 2, none⟩ = some (.int .i64 SQ) ∧ wr.cell? ⟨q, k * 4 + 3, none⟩ = some (.int .u8 (p : Int)) := by
      obtain ⟨q', cap', e, _, _, h3, h4⟩ := HG.out.2.1.at_ HG.out.2.2.2.1
      have e2 := e
      rw [HPV.out] at e2
      injection e2 with e3
      injection e3 with e3
      injection e3 with e3
      subst e3
      exact ⟨cap', e, h3, h4⟩
    have HRW := Lib.hid hrow
    clear hrow
    by_cases hlt : i < N
    · have hi7 : i < 7 := by omega
      have hiz : (i : Int) < 7 := by omega
      have hi0 : (0 : Int) ≤ (i : Int) := by omega
      have HHS := Lib.hid (fun V => has_of s hs (i : Int) V)
      obtain ⟨hb1, hhb⟩ : ∃ hb1, hasQ s (i : Int) = hb1 := ⟨_, rfl⟩
      rw [hhb] at HHS
      clear hhb
      cases hb1 with
      | false =>
        go_wp2_with fail
        refine wp_region_held_drew (S := fun _ => True) (by kernel_rfl) (trivial) (fun hHeld => ?_)
        refine tj (i := 0) (oi := ⟨some 23, .move (.tmp 2), 49, "outright.go:83", #[], none⟩) rfl (by kernel_rfl) ?_
        try simp only [Act.put, sT, s0, s1]
        refine tj (i := 1) (oi := ⟨some 24, .move (.tmp 8), 3, "outright.go:83", #[], none⟩) rfl (by kernel_rfl) ?_
        try simp only [Act.put, sT, s0, s1]
        refine wpAnyH_ready (rs := [2]) (by kernel_rfl) (by simp) ?_
        refine AllReadyH.cons (o := ⟨some 25, .call { callee := .value (.func 34), args := #[.tmp 23, .tmp 24], argTypes := #[49, 3] }, 4, "outright.go:83", #[⟨0, .data⟩, ⟨1, .data⟩], none⟩) rfl (fun K hK => ?_) AllReadyH.nil
        go_simp
        refine (HHS.out _).mono ?_
        rintro _ w9 ⟨rfl, hw⟩
        subst hw
        go_wp2_with fail
        refine hK.out _ _ (trivial) (fun hHeld => ?_)
        clear hK K
        try simp only [Act.put, sT, s0, s1]
        refine tj (i := 3) (oi := ⟨some 26, .unOp .not 4 (.tmp 25), 4, "outright.go:83", #[⟨2, .data⟩], none⟩) rfl (by kernel_rfl) ?_
        try simp only [Act.put, sT, s0, s1]
        refine tj (i := 4) (oi := ⟨some 27, .move (.tmp 26), 4, "outright.go:83", #[⟨3, .data⟩, ⟨2, .chain⟩], none⟩) rfl (by kernel_rfl) ?_
        try simp only [Act.put, sT, s0, s1]
        refine tk (i := 5) (oi := ⟨some 28, .move (.tmp 7), 74, "outright.go:83", #[⟨4, .guard⟩], some (4, false)⟩) (v := undef) rfl (by kernel_rfl) (Or.inr ⟨by rfl, rfl⟩) ?_
        try simp only [Act.put, sT, s0, s1]
        refine tk (i := 6) (oi := ⟨some 29, .nilCheck (.tmp 28), 0, "outright.go:83", #[⟨5, .data⟩, ⟨4, .guard⟩], some (4, false)⟩) (v := undef) rfl (by kernel_rfl) (Or.inr ⟨by rfl, rfl⟩) ?_
        try simp only [Act.put, sT, s0, s1]
        refine tk (i := 7) (oi := ⟨some 30, .fieldAddr 73 (.tmp 29) 0, 0, "outright.go:83", #[⟨6, .data⟩, ⟨4, .guard⟩], some (4, false)⟩) (v := undef) rfl (by kernel_rfl) (Or.inr ⟨by rfl, rfl⟩) ?_
        try simp only [Act.put, sT, s0, s1]
        refine tk (i := 8) (oi := ⟨some 31, .load 40 (.tmp 30), 40, "outright.go:83", #[⟨7, .data⟩, ⟨4, .guard⟩], some (4, false)⟩) (v := undef) rfl (by kernel_rfl) (Or.inr ⟨by rfl, rfl⟩) ?_
        try simp only [Act.put, sT, s0, s1]
        refine tk (i := 9) (oi := ⟨some 32, .move (.tmp 0), 37, "outright.go:83", #[⟨4, .guard⟩], some (4, false)⟩) (v := undef) rfl (by kernel_rfl) (Or.inr ⟨by rfl, rfl⟩) ?_
        try simp only [Act.put, sT, s0, s1]
        refine tk (i := 10) (oi := ⟨some 33, .move (.tmp 8), 3, "outright.go:83", #[⟨4, .guard⟩], some (4, false)⟩) (v := undef) rfl (by kernel_rfl) (Or.inr ⟨by rfl, rfl⟩) ?_
        try simp only [Act.put, sT, s0, s1]
        refine tk (i := 11) (oi := ⟨some 34, .nilCheck (.tmp 32), 0, "outright.go:83", #[⟨9, .data⟩, ⟨4, .guard⟩], some (4, false)⟩) (v := undef) rfl (by kernel_rfl) (Or.inr ⟨by rfl, rfl⟩) ?_
        try simp only [Act.put, sT, s0, s1]
        refine tk (i := 12) (oi := ⟨some 35, .fieldAddr 46 (.tmp 34) 1, 0, "outright.go:83", #[⟨11, .data⟩, ⟨4, .guard⟩], some (4, false)⟩) (v := undef) rfl (by kernel_rfl) (Or.inr ⟨by rfl, rfl⟩) ?_
        try simp only [Act.put, sT, s0, s1]
        refine tk (i := 13) (oi := ⟨some 36, .indexAddr 43 (.tmp 35) (.tmp 33), 0, "outright.go:83", #[⟨12, .data⟩, ⟨10, .data⟩, ⟨4, .guard⟩], some (4, false)⟩) (v := undef) rfl (by kernel_rfl) (Or.inr ⟨by rfl, rfl⟩) ?_
        try simp only [Act.put, sT, s0, s1]
        refine tk (i := 14) (oi := ⟨some 37, .fieldAddr 42 (.tmp 36) 0, 0, "outright.go:83", #[⟨13, .data⟩, ⟨4, .guard⟩], some (4, false)⟩) (v := undef) rfl (by kernel_rfl) (Or.inr ⟨by rfl, rfl⟩) ?_
        try simp only [Act.put, sT, s0, s1]
        refine tk (i := 15) (oi := ⟨some 38, .load 40 (.tmp 37), 40, "outright.go:83", #[⟨14, .data⟩, ⟨4, .guard⟩], some (4, false)⟩) (v := undef) rfl (by kernel_rfl) (Or.inr ⟨by rfl, rfl⟩) ?_
        try simp only [Act.put, sT, s0, s1]
        refine tk (i := 16) (oi := ⟨some 39, .call { callee := .value (.func 19), args := #[.tmp 31, .tmp 38], argTypes := #[40, 40] }, 4, "outright.go:83", #[⟨8, .data⟩, ⟨15, .data⟩, ⟨4, .chain⟩, ⟨4, .guard⟩], some (4, false)⟩) (v := undef) rfl (by kernel_rfl) (Or.inr ⟨by rfl, rfl⟩) ?_
        try simp only [Act.put, sT, s0, s1]
        refine tj (i := 17) (oi := ⟨some 40, .pick (.tmp 27) (.const (.bool true)) (.tmp 39), 4, "outright.go:83", #[⟨4, .data⟩, ⟨16, .data⟩], none⟩) rfl (by kernel_rfl) ?_
        try simp only [Act.put, sT, s0, s1]
        refine wpAnyH_done (by kernel_rfl) ?_ _
        clear hHeld
        have HXn := Lib.hid ((Ext.refl wr).drew)
        go_wp2_with fail
        go_roundw
        case rel => exact ⟨i + 1, P, L, p, by omega, by go_num, Lib.hid ⟨HG.out.1.ext HXn.out, ownsRow_extL HG.out.2.1 HXn.out, HG.out.2.2.1, HG.out.2.2.2.1, HG.out.2.2.2.2.1, HG.out.2.2.2.2.2.1, HG.out.2.2.2.2.2.2.1, HG.out.2.2.2.2.2.2.2.trans (Below.toB HXn.out HG.out.1.lt)⟩⟩
        case measure => simp [intOf]; omega
      | true =>
        obtain ⟨r0, r1, r2, r3, r4, r5⟩ := HG.out.1.six (i := i) (by omega)
        obtain ⟨_, _, _, q0, q1, q2, q3⟩ := HRW.out
        obtain ⟨PI, hPI⟩ : ∃ PI, P i = PI := ⟨_, rfl⟩
        rw [hPI] at r0 r1
        have HPI := Lib.hid hPI
        obtain ⟨vx, vy, tx, ty, st, sq⟩ := PI
        dsimp only at r0 r1
        clear hPI r2 r3 r4 r5 q2 q3
        have HLS := Lib.hid (fun V => less_of X Y vx vy V)
        obtain ⟨rr, hrr⟩ : ∃ rr, ltB ⟨X, Y⟩ ⟨vx, vy⟩ = rr := ⟨_, rfl⟩
        rw [hrr] at HLS
        have HRR := Lib.hid hrr
        clear hrr
        have HC := Lib.hid (And.intro q0 (And.intro q1 (And.intro r0 (And.intro r1 hn))))
        cases rr with
        | true =>
          go_wp2_with fail
          go_region_held3 (fun w' => w'.cell? ⟨q, k * 4, none⟩ = some (.int .i64 X) ∧ w'.cell? ⟨q, k * 4 + 1, none⟩ = some (.int .i64 Y) ∧ w'.cell? ⟨g, 1 + i * 6, none⟩ = some (.int .i64 vx) ∧ w'.cell? ⟨g, 1 + i * 6 + 1, none⟩ = some (.int .i64 vy) ∧ w'.cell? ⟨g, 0, none⟩ = some (.int .i64 (N : Int)))
            (first | with_reducible exact ⟨q0, q1, r0, r1, hn⟩ | assumption | go_keep)
            (first | (go_at_call 34; ((with_reducible refine (HHS.out _).mono ?_); rintro e w2 ⟨rfl, hw2⟩; subst hw2)) | (go_at_call 19; ((with_reducible refine (HLS.out _).mono ?_); rintro e w3 ⟨rfl, hx⟩; have hk5 := keepX hx HC)))
          have HXn := Lib.hid ((Ext.refl wr).drew.trans hx)
          clear q0 q1 r0 r1 hx hk5 HLS HC hn
          go_wp2_with fail
          go_roundw
          case rel => exact ⟨i + 1, P, L, p, by omega, by go_num, Lib.hid ⟨HG.out.1.ext HXn.out, ownsRow_extL HG.out.2.1 HXn.out, HG.out.2.2.1, HG.out.2.2.2.1, HG.out.2.2.2.2.1, HG.out.2.2.2.2.2.1, HG.out.2.2.2.2.2.2.1, HG.out.2.2.2.2.2.2.2.trans (Below.toB HXn.out HG.out.1.lt)⟩⟩
          case measure => simp [intOf]; omega
        | false =>
          go_wp2_with fail
          go_region_held3 (fun w' => w'.cell? ⟨q, k * 4, none⟩ = some (.int .i64 X) ∧ w'.cell? ⟨q, k * 4 + 1, none⟩ = some (.int .i64 Y) ∧ w'.cell? ⟨g, 1 + i * 6, none⟩ = some (.int .i64 vx) ∧ w'.cell? ⟨g, 1 + i * 6 + 1, none⟩ = some (.int .i64 vy) ∧ w'.cell? ⟨g, 0, none⟩ = some (.int .i64 (N : Int)))
            (first | with_reducible exact ⟨q0, q1, r0, r1, hn⟩ | assumption | go_keep)
            (first | (go_at_call 34; ((with_reducible refine (HHS.out _).mono ?_); rintro e w2 ⟨rfl, hw2⟩; subst hw2)) | (go_at_call 19; ((with_reducible refine (HLS.out _).mono ?_); rintro e w3 ⟨rfl, hx⟩; have hk5 := keepX hx HC)))
          have HXn := Lib.hid ((Ext.refl wr).drew.trans hx)
          clear q0 q1 r0 r1 hx hk5 HLS HC hn
          obtain ⟨wr2, hwr2⟩ : ∃ wr2, wr2 = w3 := ⟨_, rfl⟩
          subst hwr2
          have hks := HG.out.1.ext HXn.out
          have hpo := ownsRow_extL HG.out.2.1 HXn.out
          obtain ⟨r0, r1, r2, r3, r4, r5⟩ := hks.six (i := i) (by omega)
          have f0 := hks.free (1 + i * 6)
          have f1 := hks.free (1 + i * 6 + 1)
          have f2 := hks.free (1 + i * 6 + 2)
          have f3 := hks.free (1 + i * 6 + 3)
          have f4 := hks.free (1 + i * 6 + 4)
          have f5 := hks.free (1 + i * 6 + 5)
          obtain ⟨_, _, _, q0, q1, q2, q3⟩ := HRW.out
          have k0 := ext_of_cellB HXn.out q0
          have k1 := ext_of_cellB HXn.out q1
          have k2 := ext_of_cellB HXn.out q2
          clear q0 q1 q2 q3
          go_wp2_with fail
          go_region
          change Exit.then _ _ _ _ (((((((wr2.setCell ⟨g, 1 + i * 6, none⟩ (.int .i64 X)).setCell ⟨g, 1 + i * 6 + 1, none⟩ (.int .i64 Y)).setCell ⟨g, 1 + i * 6 + 2, none⟩ (.int .i64 X)).setCell ⟨g, 1 + i * 6 + 3, none⟩ (.int .i64 Y)).setCell ⟨g, 1 + i * 6 + 4, none⟩ (.int .u8 2)).setCell ⟨g, 1 + i * 6 + 5, none⟩ (.int .i64 SQ)).drew)
          have hks6 := (hks.six_set (i := i) (by omega) X Y SQ).ext ((Ext.refl _).drew)
          have hmm : Mod (fun k => k = g) wr2 (((((((wr2.setCell ⟨g, 1 + i * 6, none⟩ (.int .i64 X)).setCell ⟨g, 1 + i * 6 + 1, none⟩ (.int .i64 Y)).setCell ⟨g, 1 + i * 6 + 2, none⟩ (.int .i64 X)).setCell ⟨g, 1 + i * 6 + 3, none⟩ (.int .i64 Y)).setCell ⟨g, 1 + i * 6 + 4, none⟩ (.int .u8 2)).setCell ⟨g, 1 + i * 6 + 5, none⟩ (.int .i64 SQ)).drew) := (six_mod wr2 g i X Y SQ).trans (Mod.of_ext ((Ext.refl _).drew)) fun _ h => .inl h
          generalize ((((((wr2.setCell ⟨g, 1 + i * 6, none⟩ (.int .i64 X)).setCell ⟨g, 1 + i * 6 + 1, none⟩ (.int .i64 Y)).setCell ⟨g, 1 + i * 6 + 2, none⟩ (.int .i64 X)).setCell ⟨g, 1 + i * 6 + 3, none⟩ (.int .i64 Y)).setCell ⟨g, 1 + i * 6 + 4, none⟩ (.int .u8 2)).setCell ⟨g, 1 + i * 6 + 5, none⟩ (.int .i64 SQ)).drew = V6 at *
          have HM6 := Lib.hid hmm
          have HK6 := Lib.hid hks6
          have HP6 := Lib.hid (PRow.mod hpo hmm)
          have HI6 := Lib.hid (HG.out.2.2.2.2.2.1.accept (k := k) (i := i) (p := PrQ.prp ⟨X, Y, SQ, p⟩) (by rw [List.getElem?_map, HG.out.2.2.2.1]; rfl) rfl (by rw [HPI.out]; exact ltB_bLe HRR.out))
          clear r0 r1 r2 r3 r4 r5 f0 f1 f2 f3 f4 f5 k0 k1 k2 hks hpo hks6 hmm
          have hrow6 : ∃ cap', pv = .slice (some ⟨q, 0, none⟩) L.length cap' ∧ (∃ cur, V6.heap[q]? = some (.cells cur 73 (0, 0))) ∧ V6.cell? ⟨q, k * 4 + 3, none⟩ = some (.int .u8 (p : Int)) := by
            obtain ⟨q', cap', e, _, _, h3, h4⟩ := HP6.out.at_ HG.out.2.2.2.1
            have e2 := e
            rw [HPV.out] at e2
            injection e2 with e3
            injection e3 with e3
            injection e3 with e3
            subst e3
            exact ⟨cap', e, h3, h4.2.2.2⟩
          obtain ⟨cap', hpv', ⟨cur, hcur⟩, q3⟩ := hrow6
          have fq := frozen_of_row V6 q (k * 4 + 3) _ _ hcur
          have hp256 : p < 256 := HG.out.2.2.2.2.1 ⟨X, Y, SQ, p⟩ (List.mem_of_getElem? HG.out.2.2.2.1)
          have HAD := Lib.hid (fun V => add_of p hp256 (i : Int) V)
          have HPS := Lib.hid (HP6.out.set HG.out.2.2.2.1 (addQ p (i : Int)) hpv')
          have HMQ := Lib.hid (map_setQ (L := L) (k := k) (i := i) (p := ⟨X, Y, SQ, p⟩) (by omega))
          have hqne : q ≠ g := by omega
          have HKQ := Lib.hid (HK6.out.off (b := q) (o := k * 4 + 3) (v := .int .u8 ((addQ p (i : Int) : Nat) : Int)) hqne)
          have hb256 := addQ_lt hp256 (i : Int)
          have HBE : Hid (Below g w (V6.setCell ⟨q, k * 4 + 3, none⟩ (.int .u8 ((addQ p (i : Int) : Nat) : Int)))) := by
            have h1 := HG.out.2.2.2.2.2.2.2.trans (Below.toB HXn.out HG.out.1.lt)
            have h2 := h1.trans (below_mod HM6.out (Nat.le_of_lt (HG.out.1.ext HXn.out).lt) fun k hk => by omega)
            exact Lib.hid (h2.trans (below_mod (F := fun k => k = q) (Mod.setCell (F := fun k => k = q) (Mod.refl (fun k => k = q) V6) (p := ⟨q, k * 4 + 3, none⟩) (.inl rfl) _) (Nat.le_of_lt HK6.out.lt) fun k hk => by omega))
          obtain ⟨bn, hbn⟩ : ∃ bn, addQ p (i : Int) = bn := ⟨_, rfl⟩
          rw [hbn] at HAD HPS HKQ HBE hb256
          have HBN := Lib.hid hbn
          clear hpv' hcur hbn
          go_wp2_with fail
          refine (HAD.out _).mono ?_
          rintro _ w9 ⟨rfl, hw⟩
          subst hw
          go_wp2_with fail
          go_roundw
          case rel =>
            refine ⟨i + 1, _, _, bn, by omega, by go_num, Lib.hid ⟨HKQ.out, HPS.out, by rw [List.length_set]; exact HG.out.2.2.1, List.getElem?_set_self (List.getElem?_eq_some_iff.1 HG.out.2.2.2.1).1, fun r hr => ?_, ?_, .inr ⟨i, by omega, by rw [setP_same], by rw [setP_same]; exact bLe_refl _ _⟩, HBE.out⟩⟩
            · rcases List.mem_or_eq_of_mem_set hr with hr | rfl
              · exact HG.out.2.2.2.2.1 r hr
              · exact hb256
            · have := HI6.out
              rw [← HMQ.out, HBN.out] at this
              exact this
          case measure => simp [intOf]; omega
    · obtain rfl : i = N := by omega
      obtain ⟨N, hN'⟩ : ∃ N, N = i := ⟨_, rfl⟩
      subst hN'
      obtain ⟨_, hpv', ⟨cur, hcur⟩, q0, q1, q2, q3⟩ := HRW.out
      have hp256 : p < 256 := HG.out.2.2.2.2.1 ⟨X, Y, SQ, p⟩ (List.mem_of_getElem? HG.out.2.2.2.1)
      have HEN := Lib.hid (fun V => enough_of p hp256 (N : Int) V)
      obtain ⟨en, hen⟩ : ∃ en, enoughQ p (N : Int) = en := ⟨_, rfl⟩
      rw [hen] at HEN
      rw [most_cnt hN] at hen
      have HEQ := Lib.hid hen
      have HC := Lib.hid (And.intro q3 (And.intro hn (And.intro q0 (And.intro q1 q2))))
      clear hen hpv' hcur
      have hpk : (L.map PrQ.prp)[k]? = some (PrQ.prp ⟨X, Y, SQ, p⟩) := by rw [List.getElem?_map, HG.out.2.2.2.1]; rfl
      have HPK := Lib.hid hpk
      clear hpk
      go_wp2_with fail
      go_region_held3 (fun w' => w'.cell? ⟨q, k * 4 + 3, none⟩ = some (.int .u8 (p : Int)) ∧ w'.cell? ⟨g, 0, none⟩ = some (.int .i64 (N : Int)) ∧ w'.cell? ⟨q, k * 4, none⟩ = some (.int .i64 X) ∧ w'.cell? ⟨q, k * 4 + 1, none⟩ = some (.int .i64 Y) ∧ w'.cell? ⟨q, k * 4 + 2, none⟩ = some (.int .i64 SQ))
        (first | with_reducible exact ⟨q3, hn, q0, q1, q2⟩ | assumption | go_keep)
        (first | (go_at_call 35; ((with_reducible refine (HEN.out _).mono ?_); rintro e w3 ⟨rfl, hx⟩; have hk5 := keepX hx HC)))
      have HXn := Lib.hid ((Ext.refl wr).drew.trans hx)
      have hks := HG.out.1.ext HXn.out
      have hpo := ownsRow_extL HG.out.2.1 HXn.out
      have hbl := HG.out.2.2.2.2.2.2.2.trans (Below.toB HXn.out HG.out.1.lt)
      obtain ⟨_, _, q0', q1', q2'⟩ := hk5
      have hch := hks.ch_
      have fch := hks.free 44
      have fcx := hks.free 45
      have fcy := hks.free 46
      have hcx := hks.cx_
      have hcy := hks.cy_
      have HR := Lib.hid (And.intro hks (And.intro hpo hbl))
      clear q0 q1 q2 q3 hn hx hks hpo hbl
      cases en with
      | false =>
        have hI := HG.out.2.2.2.2.2.1.few HPK.out (by have := HEQ.out; exact of_decide_eq_false this)
        have HI := Lib.hid hI
        clear hI
        go_wp2_with fail
        go_ret
        exact ⟨rfl, P, L, ch, cx, cy, HR.out.1, HR.out.2.1, HG.out.2.2.1, HG.out.2.2.2.2.1, HI.out, HR.out.2.2⟩
      | true =>
        have hmost : mostN N ≤ cnt N (PrQ.prp ⟨X, Y, SQ, p⟩).ac := of_decide_eq_true HEQ.out
        by_cases hc0 : ch = 0
        · have HI : Hid (KInv N P (L.map PrQ.prp) SQ X Y none) := by
            refine Lib.hid (HG.out.2.2.2.2.2.1.chosen HPK.out hmost hc0 ?_)
            rcases HG.out.2.2.2.2.2.2.1 with e | e
            · exact absurd hc0 (HIN.out.all k (PrQ.prp ⟨X, Y, SQ, by0⟩) (by rw [List.getElem?_map, HP0.out]; rfl) (by simp) (by rw [← e]; exact hmost)).1
            · exact e
          have ec : (ch != 0) = false := by simpa using hc0
          have hks1 := HR.out.1.setCh SQ
          have hks2 := hks1.setB X Y
          have f45 := hks1.free 45
          have f46 := hks1.free 46
          have HK2 := Lib.hid hks2
          have hm1 : Mod (fun k => k = g) w3 (((w3.setCell ⟨g, 44, none⟩ (.int .i64 SQ)).setCell ⟨g, 45, none⟩ (.int .i64 X)).setCell ⟨g, 46, none⟩ (.int .i64 Y)) := Mod.setCell (F := fun k => k = g) (Mod.setCell (F := fun k => k = g) (Mod.setCell (F := fun k => k = g) (Mod.refl (fun k => k = g) w3) (.inl rfl) _) (.inl rfl) _) (.inl rfl) _
          have HM1 := Lib.hid hm1
          clear hc0 hmost hks1 hks2 hm1
          go_wp2_with fail
          go_ret
          exact ⟨rfl, P, L, SQ, X, Y, HK2.out, PRow.mod HR.out.2.1 HM1.out, HG.out.2.2.1, HG.out.2.2.2.2.1, HI.out, HR.out.2.2.trans (below_mod HM1.out (Nat.le_of_lt HR.out.1.lt) fun k hk => by omega)⟩
        · obtain ⟨hcs0, hI⟩ := HG.out.2.2.2.2.2.1.again HPK.out hmost hc0
          have HI := Lib.hid hI
          have hcs : ch = SQ := hcs0
          clear hcs0
          have ec : (ch != 0) = true := by simpa using hc0
          have HCS : Hid ((ch == SQ) = true) := Lib.hid (by rw [hcs]; exact beq_self_eq_true SQ)
          clear hc0 hmost hI hcs hcx hcy fch fcx fcy q0' q1'
          go_upto_region 11 with (fail)
          have hcc := HCS.out
          clear ec
          go_wp2_with fail
          go_region
          have HXd := Lib.hid ((Ext.refl w3).drew)
          go_wp2_with fail
          go_ret
          exact ⟨rfl, P, L, ch, cx, cy, HR.out.1.ext HXd.out, ownsRow_extL HR.out.2.1 HXd.out, HG.out.2.2.1, HG.out.2.2.2.2.1, HI.out, HR.out.2.2.trans (Below.toB HXd.out HR.out.1.lt)⟩
end
section
open Go Go.RowKit
theorem next_facts {b : Bal} {i n : Int} (h : errB b i n = 0) : mayB_ (nextB b i n) n = true ∧ (nextB b i n).y = i ∧ 1 ≤ (nextB b i n).x ∧ (nextB b i n).x ≤ 1099511627776 ∧ ltB b (nextB b i n) = true ∧ (1 < (nextB b i n).x → ltB b ⟨(nextB b i n).x - 1, i⟩ = false) := by
  unfold errB at h
  unfold nextB
  by_cases hok : okB b i n = true
  · rw [if_pos hok] at h ⊢
    have hk := okB_iff.1 hok
    by_cases hr : roundB b i ≤ 1099511627776
    · rw [if_pos hr]
      dsimp only
      have hcase : (b.x = 0 ∧ b.y = 0 ∧ roundB b i = 1) ∨ (1 ≤ b.x ∧ b.y < i ∧ roundB b i = b.x) ∨ (1 ≤ b.x ∧ i ≤ b.y ∧ roundB b i = b.x + 1) := by
        unfold roundB
        by_cases h0 : b.x = 0
        · rw [if_pos h0]; omega
        · rw [if_neg h0]
          by_cases h1 : b.y < i
          · rw [if_pos h1]; omega
          · rw [if_neg h1]; omega
      refine ⟨mayB_iff.2 ⟨hk.1.1, .inr (by dsimp only; omega)⟩, rfl, by omega, hr, ltB_iff.2 (by dsimp only; omega), fun h1 => ltB_not.2 (by dsimp only; omega)⟩
    · rw [if_neg hr] at h
      omega
  · rw [if_neg hok] at h
    omega
end
end Go.Proofs.Ytinflpheogglhaa
