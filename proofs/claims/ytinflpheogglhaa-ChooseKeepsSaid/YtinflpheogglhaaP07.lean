/-
  The contract of the laws' own loses.
-/
import Derived.Test.YtinflpheogglhaaP00
import Derived.Test.YtinflpheogglhaaP06
namespace Go.Proofs.Ytinflpheogglhaa
set_option maxRecDepth 100000
section
open Go Go.RowKit
theorem ltB_bLe {a b c d : Int} (h : ltB ⟨a, b⟩ ⟨c, d⟩ = false) : bLe c d a b := by
  rw [ltB_not] at h
  exact h
theorem keepX {w w' : World} {a1 a2 a3 a4 a5 : Addr} {v1 v2 v3 v4 v5 : Value} (hx : Ext w w') (h : Hid (w.cell? a1 = some v1 ∧ w.cell? a2 = some v2 ∧ w.cell? a3 = some v3 ∧ w.cell? a4 = some v4 ∧ w.cell? a5 = some v5)) : w'.cell? a1 = some v1 ∧ w'.cell? a2 = some v2 ∧ w'.cell? a3 = some v3 ∧ w'.cell? a4 = some v4 ∧ w'.cell? a5 = some v5 := by
  have k : ∀ a v, w.cell? a = some v → w'.cell? a = some v := fun a v h => (Below.cell hx (p := a) (World.block_lt_of_cell? w _ h)).trans h
  exact ⟨k _ _ h.out.1, k _ _ h.out.2.1, k _ _ h.out.2.2.1, k _ _ h.out.2.2.2.1, k _ _ h.out.2.2.2.2⟩
set_option maxHeartbeats 1600000 in
theorem loses_of {w : World} {g N : Nat} {pl : Nat → Plc} {pv : Value} {ch cx cy : Int} {pr : List Prp} (hN : N = 3 ∨ N = 5 ∨ N = 7) (h : KS w g N pl pv ch cx cy) (hI : KInv N pl pr ch cx cy none) (s b : Nat) (hs : s < 256) (hbb : b < 256) :
    Calls Try.prog 16 #[.pointer (some ⟨g, 0, none⟩), .int .u8 (s : Int), .int .u8 (b : Int)] w fun e w' => e = .returned (.tuple #[]) ∧ ∃ pl', KS w' g N pl' pv ch cx cy ∧ KInv N pl' pr ch cx cy none ∧ Mod (fun k => k = g) w w' := by
  have hN7 : N ≤ 7 := by omega
  have HK := Lib.hid (And.intro h hI)
  clear h hI
  go_enter Try.func16, Try.ntmps16
  go_wp2_with fail
  go_loopw [6] (fun iv wr => ∃ (i : Nat) (P : Nat → Plc), i ≤ N ∧ iv = .int .i64 (i : Int) ∧ Hid (KS wr g N P pv ch cx cy ∧ KInv N P pr ch cx cy none ∧ Mod (fun k => k = g) w wr)) (fun iv _ => N - (intOf iv).toNat)
  case atStart => exact ⟨0, pl, Nat.zero_le _, rfl, Lib.hid ⟨HK.out.1, HK.out.2, Mod.refl _ _⟩⟩
  case round =>
    obtain ⟨i, P, hi, rfl, HG⟩ := hrel
    have hn := HG.out.1.n
    by_cases hlt : i < N
    · have HHS := Lib.hid (fun V => has_of s hs (i : Int) V)
      obtain ⟨hb1, hhb⟩ : ∃ hb1, hasQ s (i : Int) = hb1 := ⟨_, rfl⟩
      rw [hhb] at HHS
      clear hhb
      obtain ⟨_, _, _, _, p4, _⟩ := HG.out.1.six (i := i) (by omega)
      obtain ⟨PI, hPI⟩ : ∃ PI, P i = PI := ⟨_, rfl⟩
      rw [hPI] at p4
      have HPI := Lib.hid hPI
      obtain ⟨vx, vy, tx, ty, st, sq⟩ := PI
      dsimp only at p4
      have hc := HG.out.1.ch_
      clear hPI
      cases hb1 with
      | false =>
        go_wp2_with fail
        refine (HHS.out _).mono ?_
        rintro _ w9 ⟨rfl, hw⟩
        subst hw
        go_wp2_with fail
        go_roundw
        case rel => exact ⟨i + 1, P, by omega, by go_num, Lib.hid ⟨HG.out.1, HG.out.2.1, HG.out.2.2⟩⟩
        case measure => simp [intOf]; omega
      | true =>
        by_cases h2 : st = 2
        · subst h2
          go_wp2_with fail
          refine (HHS.out _).mono ?_
          rintro _ w9 ⟨rfl, hw⟩
          subst hw
          by_cases hc0 : ch = 0
          · have HC0 := Lib.hid hc0
            have ec : (ch == 0) = true := by simpa using hc0
            clear hc0
            obtain ⟨W1, hW1⟩ : ∃ W1, W1 = wr := ⟨_, rfl⟩
            subst hW1
            go_wp2_with fail
            go_loopw [7, 8] (fun bv kv wr => ∃ (k : Nat) (ob : Bool), k ≤ N ∧ kv = .int .i64 (k : Int) ∧ bv = .bool ob ∧ Hid (ob = true → ch = 0 ∨ ∃ q, q < N ∧ q ≠ i ∧ (P q).st = 2 ∧ bLe cx cy (P q).bx (P q).yb) ∧ Hid (Ext W1 wr)) (fun _ kv _ => N - (intOf kv).toNat)
            case atStart => exact ⟨0, true, Nat.zero_le _, rfl, rfl, Lib.hid (fun _ => .inl HC0.out), Lib.hid (Ext.refl _)⟩
            case round =>
              obtain ⟨k, ob, hk, rfl, rfl, HO, HMI⟩ := hrel
              have hks := HG.out.1.ext HMI.out
              have hn := hks.n
              by_cases hlt2 : k < N
              · obtain ⟨p0, p1, p2, p3, p4, p5⟩ := hks.six (i := k) (by omega)
                obtain ⟨KP, hKP⟩ : ∃ KP, P k = KP := ⟨_, rfl⟩
                rw [hKP] at p0 p1 p2 p3 p4 p5
                have HKP := Lib.hid hKP
                obtain ⟨ux, uy, sx, sy, kst, ksq⟩ := KP
                dsimp only at p0 p1 p2 p3 p4 p5
                clear hKP
                go_upto_region 9 with (fail)
                clear p0 p1 p2 p3 p4 p5
                have hq2 := heap_alloc_new wr (.cells #[.int .i64 ux, .int .i64 uy, .int .i64 sx, .int .i64 sy, .int .u8 (kst : Int), .int .i64 ksq] 42)
                have hx2 := (Ext.refl wr).alloc (.cells #[.int .i64 ux, .int .i64 uy, .int .i64 sx, .int .i64 sy, .int .u8 (kst : Int), .int .i64 ksq] 42)
                generalize (wr.alloc (.cells #[.int .i64 ux, .int .i64 uy, .int .i64 sx, .int .i64 sy, .int .u8 (kst : Int), .int .i64 ksq] 42)) = V at *
                have HMJ := Lib.hid (HMI.out.trans hx2)
                have c2 := cell_of_row V wr.heap.size 2 _ _ _ hq2
                have c3 := cell_of_row V wr.heap.size 3 _ _ _ hq2
                have c4 := cell_of_row V wr.heap.size 4 _ _ _ hq2
                have hks2 := HG.out.1.ext (HMI.out.trans hx2)
                have b5 := hks2.cx_
                have b6 := hks2.cy_
                generalize wr.heap.size = bb at *
                clear hq2 hx2 hks2 hks hn
                dsimp at c2 c3 c4
                cases ob with
                | true =>
                  go_wp2_with fail
                  go_region
                  clear c2 c3 c4 b5 b6
                  have HMn := Lib.hid (HMJ.out.trans (Ext.refl _).drew)
                  go_wp2_with fail
                  go_roundw
                  case rel => exact ⟨k + 1, _, by omega, by go_num, rfl, Lib.hid (fun _ => HO.out trivial), HMn⟩
                  case measure => simp [intOf]; omega
                | false =>
                  by_cases hki : k = i
                  · have e1 : ((k : Int) != (i : Int)) = false := by rw [hki]; simp
                    clear hki
                    go_wp2_with fail
                    go_region
                    clear c2 c3 c4 b5 b6
                    have HMn := Lib.hid (HMJ.out.trans (Ext.refl _).drew)
                    go_wp2_with fail
                    go_roundw
                    case rel => exact ⟨k + 1, _, by omega, by go_num, rfl, Lib.hid (fun h => by cases h), HMn⟩
                    case measure => simp [intOf]; omega
                  · have e1 : ((k : Int) != (i : Int)) = true := by rw [bne_iff_ne]; omega
                    have HKI := Lib.hid hki
                    clear hki
                    by_cases hs2 : kst = 2
                    · subst hs2
                      have HLS := Lib.hid (fun V => less_of sx sy cx cy V)
                      obtain ⟨rr, hrr⟩ : ∃ rr, ltB ⟨sx, sy⟩ ⟨cx, cy⟩ = rr := ⟨_, rfl⟩
                      rw [hrr] at HLS
                      have HRR := Lib.hid hrr
                      clear hrr
                      have HC := Lib.hid (And.intro c4 (And.intro c2 (And.intro c3 (And.intro b5 b6))))
                      cases rr with
                      | true =>
                        go_wp2_with fail
                        go_region_held3 (fun w' => w'.cell? ⟨bb, 4, none⟩ = some (.int .u8 2) ∧ w'.cell? ⟨bb, 2, none⟩ = some (.int .i64 sx) ∧ w'.cell? ⟨bb, 3, none⟩ = some (.int .i64 sy) ∧ w'.cell? ⟨g, 45, none⟩ = some (.int .i64 cx) ∧ w'.cell? ⟨g, 46, none⟩ = some (.int .i64 cy))
                          (first | with_reducible exact ⟨c4, c2, c3, b5, b6⟩ | assumption | go_keep)
                          (first | (go_at_call 19; ((with_reducible refine (HLS.out _).mono ?_); rintro e w3 ⟨rfl, hx⟩; have hk5 := keepX hx HC)))
                        have HMn := Lib.hid (HMJ.out.trans ((Ext.refl _).drew.trans hx))
                        clear c2 c3 c4 b5 b6 hx hk5 HLS HC
                        go_wp2_with fail
                        go_roundw
                        case rel => exact ⟨k + 1, _, by omega, by go_num, rfl, Lib.hid (fun h => by cases h), HMn⟩
                        case measure => simp [intOf]; omega
                      | false =>
                        go_wp2_with fail
                        go_region_held3 (fun w' => w'.cell? ⟨bb, 4, none⟩ = some (.int .u8 2) ∧ w'.cell? ⟨bb, 2, none⟩ = some (.int .i64 sx) ∧ w'.cell? ⟨bb, 3, none⟩ = some (.int .i64 sy) ∧ w'.cell? ⟨g, 45, none⟩ = some (.int .i64 cx) ∧ w'.cell? ⟨g, 46, none⟩ = some (.int .i64 cy))
                          (first | with_reducible exact ⟨c4, c2, c3, b5, b6⟩ | assumption | go_keep)
                          (first | (go_at_call 19; ((with_reducible refine (HLS.out _).mono ?_); rintro e w3 ⟨rfl, hx⟩; have hk5 := keepX hx HC)))
                        have HMn := Lib.hid (HMJ.out.trans ((Ext.refl _).drew.trans hx))
                        clear c2 c3 c4 b5 b6 hx hk5 HLS HC
                        go_wp2_with fail
                        go_roundw
                        case rel => exact ⟨k + 1, _, by omega, by go_num, rfl, Lib.hid (fun _ => .inr ⟨k, by omega, HKI.out, by rw [HKP.out], by rw [HKP.out]; exact (ltB_bLe HRR.out)⟩), HMn⟩
                        case measure => simp [intOf]; omega
                    · have e2 : ((kst : Int) == 2) = false := by rw [st_is2]; exact decide_eq_false hs2
                      clear hs2
                      go_wp2_with fail
                      go_region
                      clear c2 c3 c4 b5 b6
                      have HMn := Lib.hid (HMJ.out.trans (Ext.refl _).drew)
                      go_wp2_with fail
                      go_roundw
                      case rel => exact ⟨k + 1, _, by omega, by go_num, rfl, Lib.hid (fun h => by cases h), HMn⟩
                      case measure => simp [intOf]; omega
              · obtain rfl : k = N := by omega
                obtain ⟨N, hN'⟩ : ∃ N, N = k := ⟨_, rfl⟩
                subst hN'
                have HG1 := Lib.hid (And.intro hks (And.intro HG.out.2.1 (HG.out.2.2.trans (Mod.of_ext HMI.out) fun _ h => .inl h)))
                obtain ⟨p0, p1, p2, p3, p4, p5⟩ := hks.six (i := i) (by omega)
                have f4 := hks.free (1 + i * 6 + 4)
                rw [HPI.out] at p4
                dsimp only at p4
                clear p0 p1 p2 p3 p5 hks
                cases ob with
                | false =>
                  go_wp2_with fail
                  go_roundw
                  case rel => exact ⟨i + 1, P, by omega, by go_num, HG1⟩
                  case measure => simp [intOf]; omega
                | true =>
                  go_upto_region 12 with (fail)
                  have hk3 := HG1.out.1.place (i := i) (by omega) (k := 4) (.int .u8 3) { P i with st := 3 } rfl (by omega)
                  have hi3 := HG1.out.2.1.lose (i := i) 3 (.inl rfl) (by rw [HPI.out]; exact .inl rfl) ((HO.out rfl).imp id .inl)
                  have hm3 : Mod (fun k => k = g) w (wr.setCell ⟨g, 1 + i * 6 + 4, none⟩ (.int .u8 3)) := Mod.setCell (F := fun k => k = g) HG1.out.2.2 (p := ⟨g, 1 + i * 6 + 4, none⟩) (.inl rfl) _
                  generalize (wr.setCell ⟨g, 1 + i * 6 + 4, none⟩ (.int .u8 3)) = V3 at *
                  have HG3 := Lib.hid (And.intro hk3 (And.intro hi3 hm3))
                  have HHB := Lib.hid (fun V => has_of b hbb (i : Int) V)
                  obtain ⟨hb2, hhb⟩ : ∃ hb2, hasQ b (i : Int) = hb2 := ⟨_, rfl⟩
                  rw [hhb] at HHB
                  clear hk3 hi3 hm3 hhb p4 f4 hn
                  cases hb2 with
                  | false =>
                    go_wp2_with fail
                    refine (HHB.out _).mono ?_
                    rintro _ w9 ⟨rfl, hw⟩
                    subst hw
                    go_wp2_with fail
                    go_roundw
                    case rel => exact ⟨i + 1, _, by omega, by go_num, HG3⟩
                    case measure => simp [intOf]; omega
                  | true =>
                    have f4 := HG3.out.1.free (1 + i * 6 + 4)
                    have p4 := (HG3.out.1.six (i := i) (by omega)).2.2.2.2.1
                    rw [setP_same] at p4
                    dsimp only at p4
                    go_wp2_with fail
                    refine (HHB.out _).mono ?_
                    rintro _ w9 ⟨rfl, hw⟩
                    subst hw
                    go_wp2_with fail
                    have hk4 := HG3.out.1.place (i := i) (by omega) (k := 4) (.int .u8 4) { P i with st := 4 } (by rw [setP_same]; rfl) (by omega)
                    have hi4 := HG3.out.2.1.lose (i := i) 4 (.inr rfl) (by rw [setP_same]; exact .inr rfl) (.inr (.inr (by rw [setP_same]; exact fun h => by cases h)))
                    rw [setP_same, setP_setP] at hi4
                    rw [setP_setP] at hk4
                    have hm4 : Mod (fun k => k = g) w (V3.setCell ⟨g, 1 + i * 6 + 4, none⟩ (.int .u8 4)) := Mod.setCell (F := fun k => k = g) HG3.out.2.2 (p := ⟨g, 1 + i * 6 + 4, none⟩) (.inl rfl) _
                    go_roundw
                    case rel => exact ⟨i + 1, _, by omega, by go_num, Lib.hid ⟨hk4, hi4, hm4⟩⟩
                    case measure => simp [intOf]; omega
          · have ec : (ch == 0) = false := by simpa using hc0
            clear hc0
            obtain ⟨W1, hW1⟩ : ∃ W1, W1 = wr := ⟨_, rfl⟩
            subst hW1
            go_wp2_with fail
            go_loopw [7, 8] (fun bv kv wr => ∃ (k : Nat) (ob : Bool), k ≤ N ∧ kv = .int .i64 (k : Int) ∧ bv = .bool ob ∧ Hid (ob = true → ch = 0 ∨ ∃ q, q < N ∧ q ≠ i ∧ (P q).st = 2 ∧ bLe cx cy (P q).bx (P q).yb) ∧ Hid (Ext W1 wr)) (fun _ kv _ => N - (intOf kv).toNat)
            case atStart => exact ⟨0, false, Nat.zero_le _, rfl, rfl, Lib.hid (fun h => by cases h), Lib.hid (Ext.refl _)⟩
            case round =>
              obtain ⟨k, ob, hk, rfl, rfl, HO, HMI⟩ := hrel
              have hks := HG.out.1.ext HMI.out
              have hn := hks.n
              by_cases hlt2 : k < N
              · obtain ⟨p0, p1, p2, p3, p4, p5⟩ := hks.six (i := k) (by omega)
                obtain ⟨KP, hKP⟩ : ∃ KP, P k = KP := ⟨_, rfl⟩
                rw [hKP] at p0 p1 p2 p3 p4 p5
                have HKP := Lib.hid hKP
                obtain ⟨ux, uy, sx, sy, kst, ksq⟩ := KP
                dsimp only at p0 p1 p2 p3 p4 p5
                clear hKP
                go_upto_region 9 with (fail)
                clear p0 p1 p2 p3 p4 p5
                have hq2 := heap_alloc_new wr (.cells #[.int .i64 ux, .int .i64 uy, .int .i64 sx, .int .i64 sy, .int .u8 (kst : Int), .int .i64 ksq] 42)
                have hx2 := (Ext.refl wr).alloc (.cells #[.int .i64 ux, .int .i64 uy, .int .i64 sx, .int .i64 sy, .int .u8 (kst : Int), .int .i64 ksq] 42)
                generalize (wr.alloc (.cells #[.int .i64 ux, .int .i64 uy, .int .i64 sx, .int .i64 sy, .int .u8 (kst : Int), .int .i64 ksq] 42)) = V at *
                have HMJ := Lib.hid (HMI.out.trans hx2)
                have c2 := cell_of_row V wr.heap.size 2 _ _ _ hq2
                have c3 := cell_of_row V wr.heap.size 3 _ _ _ hq2
                have c4 := cell_of_row V wr.heap.size 4 _ _ _ hq2
                have hks2 := HG.out.1.ext (HMI.out.trans hx2)
                have b5 := hks2.cx_
                have b6 := hks2.cy_
                generalize wr.heap.size = bb at *
                clear hq2 hx2 hks2 hks hn
                dsimp at c2 c3 c4
                cases ob with
                | true =>
                  go_wp2_with fail
                  go_region
                  clear c2 c3 c4 b5 b6
                  have HMn := Lib.hid (HMJ.out.trans (Ext.refl _).drew)
                  go_wp2_with fail
                  go_roundw
                  case rel => exact ⟨k + 1, _, by omega, by go_num, rfl, Lib.hid (fun _ => HO.out trivial), HMn⟩
                  case measure => simp [intOf]; omega
                | false =>
                  by_cases hki : k = i
                  · have e1 : ((k : Int) != (i : Int)) = false := by rw [hki]; simp
                    clear hki
                    go_wp2_with fail
                    go_region
                    clear c2 c3 c4 b5 b6
                    have HMn := Lib.hid (HMJ.out.trans (Ext.refl _).drew)
                    go_wp2_with fail
                    go_roundw
                    case rel => exact ⟨k + 1, _, by omega, by go_num, rfl, Lib.hid (fun h => by cases h), HMn⟩
                    case measure => simp [intOf]; omega
                  · have e1 : ((k : Int) != (i : Int)) = true := by rw [bne_iff_ne]; omega
                    have HKI := Lib.hid hki
                    clear hki
                    by_cases hs2 : kst = 2
                    · subst hs2
                      have HLS := Lib.hid (fun V => less_of sx sy cx cy V)
                      obtain ⟨rr, hrr⟩ : ∃ rr, ltB ⟨sx, sy⟩ ⟨cx, cy⟩ = rr := ⟨_, rfl⟩
                      rw [hrr] at HLS
                      have HRR := Lib.hid hrr
                      clear hrr
                      have HC := Lib.hid (And.intro c4 (And.intro c2 (And.intro c3 (And.intro b5 b6))))
                      cases rr with
                      | true =>
                        go_wp2_with fail
                        go_region_held3 (fun w' => w'.cell? ⟨bb, 4, none⟩ = some (.int .u8 2) ∧ w'.cell? ⟨bb, 2, none⟩ = some (.int .i64 sx) ∧ w'.cell? ⟨bb, 3, none⟩ = some (.int .i64 sy) ∧ w'.cell? ⟨g, 45, none⟩ = some (.int .i64 cx) ∧ w'.cell? ⟨g, 46, none⟩ = some (.int .i64 cy))
                          (first | with_reducible exact ⟨c4, c2, c3, b5, b6⟩ | assumption | go_keep)
                          (first | (go_at_call 19; ((with_reducible refine (HLS.out _).mono ?_); rintro e w3 ⟨rfl, hx⟩; have hk5 := keepX hx HC)))
                        have HMn := Lib.hid (HMJ.out.trans ((Ext.refl _).drew.trans hx))
                        clear c2 c3 c4 b5 b6 hx hk5 HLS HC
                        go_wp2_with fail
                        go_roundw
                        case rel => exact ⟨k + 1, _, by omega, by go_num, rfl, Lib.hid (fun h => by cases h), HMn⟩
                        case measure => simp [intOf]; omega
                      | false =>
                        go_wp2_with fail
                        go_region_held3 (fun w' => w'.cell? ⟨bb, 4, none⟩ = some (.int .u8 2) ∧ w'.cell? ⟨bb, 2, none⟩ = some (.int .i64 sx) ∧ w'.cell? ⟨bb, 3, none⟩ = some (.int .i64 sy) ∧ w'.cell? ⟨g, 45, none⟩ = some (.int .i64 cx) ∧ w'.cell? ⟨g, 46, none⟩ = some (.int .i64 cy))
                          (first | with_reducible exact ⟨c4, c2, c3, b5, b6⟩ | assumption | go_keep)
                          (first | (go_at_call 19; ((with_reducible refine (HLS.out _).mono ?_); rintro e w3 ⟨rfl, hx⟩; have hk5 := keepX hx HC)))
                        have HMn := Lib.hid (HMJ.out.trans ((Ext.refl _).drew.trans hx))
                        clear c2 c3 c4 b5 b6 hx hk5 HLS HC
                        go_wp2_with fail
                        go_roundw
                        case rel => exact ⟨k + 1, _, by omega, by go_num, rfl, Lib.hid (fun _ => .inr ⟨k, by omega, HKI.out, by rw [HKP.out], by rw [HKP.out]; exact (ltB_bLe HRR.out)⟩), HMn⟩
                        case measure => simp [intOf]; omega
                    · have e2 : ((kst : Int) == 2) = false := by rw [st_is2]; exact decide_eq_false hs2
                      clear hs2
                      go_wp2_with fail
                      go_region
                      clear c2 c3 c4 b5 b6
                      have HMn := Lib.hid (HMJ.out.trans (Ext.refl _).drew)
                      go_wp2_with fail
                      go_roundw
                      case rel => exact ⟨k + 1, _, by omega, by go_num, rfl, Lib.hid (fun h => by cases h), HMn⟩
                      case measure => simp [intOf]; omega
              · obtain rfl : k = N := by omega
                obtain ⟨N, hN'⟩ : ∃ N, N = k := ⟨_, rfl⟩
                subst hN'
                have HG1 := Lib.hid (And.intro hks (And.intro HG.out.2.1 (HG.out.2.2.trans (Mod.of_ext HMI.out) fun _ h => .inl h)))
                obtain ⟨p0, p1, p2, p3, p4, p5⟩ := hks.six (i := i) (by omega)
                have f4 := hks.free (1 + i * 6 + 4)
                rw [HPI.out] at p4
                dsimp only at p4
                clear p0 p1 p2 p3 p5 hks
                cases ob with
                | false =>
                  go_wp2_with fail
                  go_roundw
                  case rel => exact ⟨i + 1, P, by omega, by go_num, HG1⟩
                  case measure => simp [intOf]; omega
                | true =>
                  go_upto_region 12 with (fail)
                  have hk3 := HG1.out.1.place (i := i) (by omega) (k := 4) (.int .u8 3) { P i with st := 3 } rfl (by omega)
                  have hi3 := HG1.out.2.1.lose (i := i) 3 (.inl rfl) (by rw [HPI.out]; exact .inl rfl) ((HO.out rfl).imp id .inl)
                  have hm3 : Mod (fun k => k = g) w (wr.setCell ⟨g, 1 + i * 6 + 4, none⟩ (.int .u8 3)) := Mod.setCell (F := fun k => k = g) HG1.out.2.2 (p := ⟨g, 1 + i * 6 + 4, none⟩) (.inl rfl) _
                  generalize (wr.setCell ⟨g, 1 + i * 6 + 4, none⟩ (.int .u8 3)) = V3 at *
                  have HG3 := Lib.hid (And.intro hk3 (And.intro hi3 hm3))
                  have HHB := Lib.hid (fun V => has_of b hbb (i : Int) V)
                  obtain ⟨hb2, hhb⟩ : ∃ hb2, hasQ b (i : Int) = hb2 := ⟨_, rfl⟩
                  rw [hhb] at HHB
                  clear hk3 hi3 hm3 hhb p4 f4 hn
                  cases hb2 with
                  | false =>
                    go_wp2_with fail
                    refine (HHB.out _).mono ?_
                    rintro _ w9 ⟨rfl, hw⟩
                    subst hw
                    go_wp2_with fail
                    go_roundw
                    case rel => exact ⟨i + 1, _, by omega, by go_num, HG3⟩
                    case measure => simp [intOf]; omega
                  | true =>
                    have f4 := HG3.out.1.free (1 + i * 6 + 4)
                    have p4 := (HG3.out.1.six (i := i) (by omega)).2.2.2.2.1
                    rw [setP_same] at p4
                    dsimp only at p4
                    go_wp2_with fail
                    refine (HHB.out _).mono ?_
                    rintro _ w9 ⟨rfl, hw⟩
                    subst hw
                    go_wp2_with fail
                    have hk4 := HG3.out.1.place (i := i) (by omega) (k := 4) (.int .u8 4) { P i with st := 4 } (by rw [setP_same]; rfl) (by omega)
                    have hi4 := HG3.out.2.1.lose (i := i) 4 (.inr rfl) (by rw [setP_same]; exact .inr rfl) (.inr (.inr (by rw [setP_same]; exact fun h => by cases h)))
                    rw [setP_same, setP_setP] at hi4
                    rw [setP_setP] at hk4
                    have hm4 : Mod (fun k => k = g) w (V3.setCell ⟨g, 1 + i * 6 + 4, none⟩ (.int .u8 4)) := Mod.setCell (F := fun k => k = g) HG3.out.2.2 (p := ⟨g, 1 + i * 6 + 4, none⟩) (.inl rfl) _
                    go_roundw
                    case rel => exact ⟨i + 1, _, by omega, by go_num, Lib.hid ⟨hk4, hi4, hm4⟩⟩
                    case measure => simp [intOf]; omega
        by_cases h3 : st = 3
        · subst h3
          clear h2
          go_wp2_with fail
          refine (HHS.out _).mono ?_
          rintro _ w9 ⟨rfl, hw⟩
          subst hw
          by_cases hc0 : ch = 0
          · have HC0 := Lib.hid hc0
            have ec : (ch == 0) = true := by simpa using hc0
            clear hc0
            obtain ⟨W1, hW1⟩ : ∃ W1, W1 = wr := ⟨_, rfl⟩
            subst hW1
            go_wp2_with fail
            go_loopw [7, 8] (fun bv kv wr => ∃ (k : Nat) (ob : Bool), k ≤ N ∧ kv = .int .i64 (k : Int) ∧ bv = .bool ob ∧ Hid (ob = true → ch = 0 ∨ ∃ q, q < N ∧ q ≠ i ∧ (P q).st = 2 ∧ bLe cx cy (P q).bx (P q).yb) ∧ Hid (Ext W1 wr)) (fun _ kv _ => N - (intOf kv).toNat)
            case atStart => exact ⟨0, true, Nat.zero_le _, rfl, rfl, Lib.hid (fun _ => .inl HC0.out), Lib.hid (Ext.refl _)⟩
            case round =>
              obtain ⟨k, ob, hk, rfl, rfl, HO, HMI⟩ := hrel
              have hks := HG.out.1.ext HMI.out
              have hn := hks.n
              by_cases hlt2 : k < N
              · obtain ⟨p0, p1, p2, p3, p4, p5⟩ := hks.six (i := k) (by omega)
                obtain ⟨KP, hKP⟩ : ∃ KP, P k = KP := ⟨_, rfl⟩
                rw [hKP] at p0 p1 p2 p3 p4 p5
                have HKP := Lib.hid hKP
                obtain ⟨ux, uy, sx, sy, kst, ksq⟩ := KP
                dsimp only at p0 p1 p2 p3 p4 p5
                clear hKP
                go_upto_region 9 with (fail)
                clear p0 p1 p2 p3 p4 p5
                have hq2 := heap_alloc_new wr (.cells #[.int .i64 ux, .int .i64 uy, .int .i64 sx, .int .i64 sy, .int .u8 (kst : Int), .int .i64 ksq] 42)
                have hx2 := (Ext.refl wr).alloc (.cells #[.int .i64 ux, .int .i64 uy, .int .i64 sx, .int .i64 sy, .int .u8 (kst : Int), .int .i64 ksq] 42)
                generalize (wr.alloc (.cells #[.int .i64 ux, .int .i64 uy, .int .i64 sx, .int .i64 sy, .int .u8 (kst : Int), .int .i64 ksq] 42)) = V at *
                have HMJ := Lib.hid (HMI.out.trans hx2)
                have c2 := cell_of_row V wr.heap.size 2 _ _ _ hq2
                have c3 := cell_of_row V wr.heap.size 3 _ _ _ hq2
                have c4 := cell_of_row V wr.heap.size 4 _ _ _ hq2
                have hks2 := HG.out.1.ext (HMI.out.trans hx2)
                have b5 := hks2.cx_
                have b6 := hks2.cy_
                generalize wr.heap.size = bb at *
                clear hq2 hx2 hks2 hks hn
                dsimp at c2 c3 c4
                cases ob with
                | true =>
                  go_wp2_with fail
                  go_region
                  clear c2 c3 c4 b5 b6
                  have HMn := Lib.hid (HMJ.out.trans (Ext.refl _).drew)
                  go_wp2_with fail
                  go_roundw
                  case rel => exact ⟨k + 1, _, by omega, by go_num, rfl, Lib.hid (fun _ => HO.out trivial), HMn⟩
                  case measure => simp [intOf]; omega
                | false =>
                  by_cases hki : k = i
                  · have e1 : ((k : Int) != (i : Int)) = false := by rw [hki]; simp
                    clear hki
                    go_wp2_with fail
                    go_region
                    clear c2 c3 c4 b5 b6
                    have HMn := Lib.hid (HMJ.out.trans (Ext.refl _).drew)
                    go_wp2_with fail
                    go_roundw
                    case rel => exact ⟨k + 1, _, by omega, by go_num, rfl, Lib.hid (fun h => by cases h), HMn⟩
                    case measure => simp [intOf]; omega
                  · have e1 : ((k : Int) != (i : Int)) = true := by rw [bne_iff_ne]; omega
                    have HKI := Lib.hid hki
                    clear hki
                    by_cases hs2 : kst = 2
                    · subst hs2
                      have HLS := Lib.hid (fun V => less_of sx sy cx cy V)
                      obtain ⟨rr, hrr⟩ : ∃ rr, ltB ⟨sx, sy⟩ ⟨cx, cy⟩ = rr := ⟨_, rfl⟩
                      rw [hrr] at HLS
                      have HRR := Lib.hid hrr
                      clear hrr
                      have HC := Lib.hid (And.intro c4 (And.intro c2 (And.intro c3 (And.intro b5 b6))))
                      cases rr with
                      | true =>
                        go_wp2_with fail
                        go_region_held3 (fun w' => w'.cell? ⟨bb, 4, none⟩ = some (.int .u8 2) ∧ w'.cell? ⟨bb, 2, none⟩ = some (.int .i64 sx) ∧ w'.cell? ⟨bb, 3, none⟩ = some (.int .i64 sy) ∧ w'.cell? ⟨g, 45, none⟩ = some (.int .i64 cx) ∧ w'.cell? ⟨g, 46, none⟩ = some (.int .i64 cy))
                          (first | with_reducible exact ⟨c4, c2, c3, b5, b6⟩ | assumption | go_keep)
                          (first | (go_at_call 19; ((with_reducible refine (HLS.out _).mono ?_); rintro e w3 ⟨rfl, hx⟩; have hk5 := keepX hx HC)))
                        have HMn := Lib.hid (HMJ.out.trans ((Ext.refl _).drew.trans hx))
                        clear c2 c3 c4 b5 b6 hx hk5 HLS HC
                        go_wp2_with fail
                        go_roundw
                        case rel => exact ⟨k + 1, _, by omega, by go_num, rfl, Lib.hid (fun h => by cases h), HMn⟩
                        case measure => simp [intOf]; omega
                      | false =>
                        go_wp2_with fail
                        go_region_held3 (fun w' => w'.cell? ⟨bb, 4, none⟩ = some (.int .u8 2) ∧ w'.cell? ⟨bb, 2, none⟩ = some (.int .i64 sx) ∧ w'.cell? ⟨bb, 3, none⟩ = some (.int .i64 sy) ∧ w'.cell? ⟨g, 45, none⟩ = some (.int .i64 cx) ∧ w'.cell? ⟨g, 46, none⟩ = some (.int .i64 cy))
                          (first | with_reducible exact ⟨c4, c2, c3, b5, b6⟩ | assumption | go_keep)
                          (first | (go_at_call 19; ((with_reducible refine (HLS.out _).mono ?_); rintro e w3 ⟨rfl, hx⟩; have hk5 := keepX hx HC)))
                        have HMn := Lib.hid (HMJ.out.trans ((Ext.refl _).drew.trans hx))
                        clear c2 c3 c4 b5 b6 hx hk5 HLS HC
                        go_wp2_with fail
                        go_roundw
                        case rel => exact ⟨k + 1, _, by omega, by go_num, rfl, Lib.hid (fun _ => .inr ⟨k, by omega, HKI.out, by rw [HKP.out], by rw [HKP.out]; exact (ltB_bLe HRR.out)⟩), HMn⟩
                        case measure => simp [intOf]; omega
                    · have e2 : ((kst : Int) == 2) = false := by rw [st_is2]; exact decide_eq_false hs2
                      clear hs2
                      go_wp2_with fail
                      go_region
                      clear c2 c3 c4 b5 b6
                      have HMn := Lib.hid (HMJ.out.trans (Ext.refl _).drew)
                      go_wp2_with fail
                      go_roundw
                      case rel => exact ⟨k + 1, _, by omega, by go_num, rfl, Lib.hid (fun h => by cases h), HMn⟩
                      case measure => simp [intOf]; omega
              · obtain rfl : k = N := by omega
                obtain ⟨N, hN'⟩ : ∃ N, N = k := ⟨_, rfl⟩
                subst hN'
                have HG1 := Lib.hid (And.intro hks (And.intro HG.out.2.1 (HG.out.2.2.trans (Mod.of_ext HMI.out) fun _ h => .inl h)))
                obtain ⟨p0, p1, p2, p3, p4, p5⟩ := hks.six (i := i) (by omega)
                have f4 := hks.free (1 + i * 6 + 4)
                rw [HPI.out] at p4
                dsimp only at p4
                clear p0 p1 p2 p3 p5 hks
                cases ob with
                | false =>
                  go_upto_region 12 with (fail)
                  have hk3 := HG1.out.1.place (i := i) (by omega) (k := 4) (.int .u8 3) { P i with st := 3 } rfl (by omega)
                  have hi3 := HG1.out.2.1.lose (i := i) 3 (.inl rfl) (by rw [HPI.out]; exact .inr rfl) (.inr (.inr (by rw [HPI.out]; exact fun h => by cases h)))
                  have hm3 : Mod (fun k => k = g) w (wr.setCell ⟨g, 1 + i * 6 + 4, none⟩ (.int .u8 3)) := Mod.setCell (F := fun k => k = g) HG1.out.2.2 (p := ⟨g, 1 + i * 6 + 4, none⟩) (.inl rfl) _
                  generalize (wr.setCell ⟨g, 1 + i * 6 + 4, none⟩ (.int .u8 3)) = V3 at *
                  have HG3 := Lib.hid (And.intro hk3 (And.intro hi3 hm3))
                  have HHB := Lib.hid (fun V => has_of b hbb (i : Int) V)
                  obtain ⟨hb2, hhb⟩ : ∃ hb2, hasQ b (i : Int) = hb2 := ⟨_, rfl⟩
                  rw [hhb] at HHB
                  clear hk3 hi3 hm3 hhb p4 f4 hn
                  cases hb2 with
                  | false =>
                    go_wp2_with fail
                    refine (HHB.out _).mono ?_
                    rintro _ w9 ⟨rfl, hw⟩
                    subst hw
                    go_wp2_with fail
                    go_roundw
                    case rel => exact ⟨i + 1, _, by omega, by go_num, HG3⟩
                    case measure => simp [intOf]; omega
                  | true =>
                    have f4 := HG3.out.1.free (1 + i * 6 + 4)
                    have p4 := (HG3.out.1.six (i := i) (by omega)).2.2.2.2.1
                    rw [setP_same] at p4
                    dsimp only at p4
                    go_wp2_with fail
                    refine (HHB.out _).mono ?_
                    rintro _ w9 ⟨rfl, hw⟩
                    subst hw
                    go_wp2_with fail
                    have hk4 := HG3.out.1.place (i := i) (by omega) (k := 4) (.int .u8 4) { P i with st := 4 } (by rw [setP_same]; rfl) (by omega)
                    have hi4 := HG3.out.2.1.lose (i := i) 4 (.inr rfl) (by rw [setP_same]; exact .inr rfl) (.inr (.inr (by rw [setP_same]; exact fun h => by cases h)))
                    rw [setP_same, setP_setP] at hi4
                    rw [setP_setP] at hk4
                    have hm4 : Mod (fun k => k = g) w (V3.setCell ⟨g, 1 + i * 6 + 4, none⟩ (.int .u8 4)) := Mod.setCell (F := fun k => k = g) HG3.out.2.2 (p := ⟨g, 1 + i * 6 + 4, none⟩) (.inl rfl) _
                    go_roundw
                    case rel => exact ⟨i + 1, _, by omega, by go_num, Lib.hid ⟨hk4, hi4, hm4⟩⟩
                    case measure => simp [intOf]; omega
                | true =>
                  go_upto_region 12 with (fail)
                  have hk3 := HG1.out.1.place (i := i) (by omega) (k := 4) (.int .u8 3) { P i with st := 3 } rfl (by omega)
                  have hi3 := HG1.out.2.1.lose (i := i) 3 (.inl rfl) (by rw [HPI.out]; exact .inr rfl) (.inr (.inr (by rw [HPI.out]; exact fun h => by cases h)))
                  have hm3 : Mod (fun k => k = g) w (wr.setCell ⟨g, 1 + i * 6 + 4, none⟩ (.int .u8 3)) := Mod.setCell (F := fun k => k = g) HG1.out.2.2 (p := ⟨g, 1 + i * 6 + 4, none⟩) (.inl rfl) _
                  generalize (wr.setCell ⟨g, 1 + i * 6 + 4, none⟩ (.int .u8 3)) = V3 at *
                  have HG3 := Lib.hid (And.intro hk3 (And.intro hi3 hm3))
                  have HHB := Lib.hid (fun V => has_of b hbb (i : Int) V)
                  obtain ⟨hb2, hhb⟩ : ∃ hb2, hasQ b (i : Int) = hb2 := ⟨_, rfl⟩
                  rw [hhb] at HHB
                  clear hk3 hi3 hm3 hhb p4 f4 hn
                  cases hb2 with
                  | false =>
                    go_wp2_with fail
                    refine (HHB.out _).mono ?_
                    rintro _ w9 ⟨rfl, hw⟩
                    subst hw
                    go_wp2_with fail
                    go_roundw
                    case rel => exact ⟨i + 1, _, by omega, by go_num, HG3⟩
                    case measure => simp [intOf]; omega
                  | true =>
                    have f4 := HG3.out.1.free (1 + i * 6 + 4)
                    have p4 := (HG3.out.1.six (i := i) (by omega)).2.2.2.2.1
                    rw [setP_same] at p4
                    dsimp only at p4
                    go_wp2_with fail
                    refine (HHB.out _).mono ?_
                    rintro _ w9 ⟨rfl, hw⟩
                    subst hw
                    go_wp2_with fail
                    have hk4 := HG3.out.1.place (i := i) (by omega) (k := 4) (.int .u8 4) { P i with st := 4 } (by rw [setP_same]; rfl) (by omega)
                    have hi4 := HG3.out.2.1.lose (i := i) 4 (.inr rfl) (by rw [setP_same]; exact .inr rfl) (.inr (.inr (by rw [setP_same]; exact fun h => by cases h)))
                    rw [setP_same, setP_setP] at hi4
                    rw [setP_setP] at hk4
                    have hm4 : Mod (fun k => k = g) w (V3.setCell ⟨g, 1 + i * 6 + 4, none⟩ (.int .u8 4)) := Mod.setCell (F := fun k => k = g) HG3.out.2.2 (p := ⟨g, 1 + i * 6 + 4, none⟩) (.inl rfl) _
                    go_roundw
                    case rel => exact ⟨i + 1, _, by omega, by go_num, Lib.hid ⟨hk4, hi4, hm4⟩⟩
                    case measure => simp [intOf]; omega
          · have ec : (ch == 0) = false := by simpa using hc0
            clear hc0
            obtain ⟨W1, hW1⟩ : ∃ W1, W1 = wr := ⟨_, rfl⟩
            subst hW1
            go_wp2_with fail
            go_loopw [7, 8] (fun bv kv wr => ∃ (k : Nat) (ob : Bool), k ≤ N ∧ kv = .int .i64 (k : Int) ∧ bv = .bool ob ∧ Hid (ob = true → ch = 0 ∨ ∃ q, q < N ∧ q ≠ i ∧ (P q).st = 2 ∧ bLe cx cy (P q).bx (P q).yb) ∧ Hid (Ext W1 wr)) (fun _ kv _ => N - (intOf kv).toNat)
            case atStart => exact ⟨0, false, Nat.zero_le _, rfl, rfl, Lib.hid (fun h => by cases h), Lib.hid (Ext.refl _)⟩
            case round =>
              obtain ⟨k, ob, hk, rfl, rfl, HO, HMI⟩ := hrel
              have hks := HG.out.1.ext HMI.out
              have hn := hks.n
              by_cases hlt2 : k < N
              · obtain ⟨p0, p1, p2, p3, p4, p5⟩ := hks.six (i := k) (by omega)
                obtain ⟨KP, hKP⟩ : ∃ KP, P k = KP := ⟨_, rfl⟩
                rw [hKP] at p0 p1 p2 p3 p4 p5
                have HKP := Lib.hid hKP
                obtain ⟨ux, uy, sx, sy, kst, ksq⟩ := KP
                dsimp only at p0 p1 p2 p3 p4 p5
                clear hKP
                go_upto_region 9 with (fail)
                clear p0 p1 p2 p3 p4 p5
                have hq2 := heap_alloc_new wr (.cells #[.int .i64 ux, .int .i64 uy, .int .i64 sx, .int .i64 sy, .int .u8 (kst : Int), .int .i64 ksq] 42)
                have hx2 := (Ext.refl wr).alloc (.cells #[.int .i64 ux, .int .i64 uy, .int .i64 sx, .int .i64 sy, .int .u8 (kst : Int), .int .i64 ksq] 42)
                generalize (wr.alloc (.cells #[.int .i64 ux, .int .i64 uy, .int .i64 sx, .int .i64 sy, .int .u8 (kst : Int), .int .i64 ksq] 42)) = V at *
                have HMJ := Lib.hid (HMI.out.trans hx2)
                have c2 := cell_of_row V wr.heap.size 2 _ _ _ hq2
                have c3 := cell_of_row V wr.heap.size 3 _ _ _ hq2
                have c4 := cell_of_row V wr.heap.size 4 _ _ _ hq2
                have hks2 := HG.out.1.ext (HMI.out.trans hx2)
                have b5 := hks2.cx_
                have b6 := hks2.cy_
                generalize wr.heap.size = bb at *
                clear hq2 hx2 hks2 hks hn
                dsimp at c2 c3 c4
                cases ob with
                | true =>
                  go_wp2_with fail
                  go_region
                  clear c2 c3 c4 b5 b6
                  have HMn := Lib.hid (HMJ.out.trans (Ext.refl _).drew)
                  go_wp2_with fail
                  go_roundw
                  case rel => exact ⟨k + 1, _, by omega, by go_num, rfl, Lib.hid (fun _ => HO.out trivial), HMn⟩
                  case measure => simp [intOf]; omega
                | false =>
                  by_cases hki : k = i
                  · have e1 : ((k : Int) != (i : Int)) = false := by rw [hki]; simp
                    clear hki
                    go_wp2_with fail
                    go_region
                    clear c2 c3 c4 b5 b6
                    have HMn := Lib.hid (HMJ.out.trans (Ext.refl _).drew)
                    go_wp2_with fail
                    go_roundw
                    case rel => exact ⟨k + 1, _, by omega, by go_num, rfl, Lib.hid (fun h => by cases h), HMn⟩
                    case measure => simp [intOf]; omega
                  · have e1 : ((k : Int) != (i : Int)) = true := by rw [bne_iff_ne]; omega
                    have HKI := Lib.hid hki
                    clear hki
                    by_cases hs2 : kst = 2
                    · subst hs2
                      have HLS := Lib.hid (fun V => less_of sx sy cx cy V)
                      obtain ⟨rr, hrr⟩ : ∃ rr, ltB ⟨sx, sy⟩ ⟨cx, cy⟩ = rr := ⟨_, rfl⟩
                      rw [hrr] at HLS
                      have HRR := Lib.hid hrr
                      clear hrr
                      have HC := Lib.hid (And.intro c4 (And.intro c2 (And.intro c3 (And.intro b5 b6))))
                      cases rr with
                      | true =>
                        go_wp2_with fail
                        go_region_held3 (fun w' => w'.cell? ⟨bb, 4, none⟩ = some (.int .u8 2) ∧ w'.cell? ⟨bb, 2, none⟩ = some (.int .i64 sx) ∧ w'.cell? ⟨bb, 3, none⟩ = some (.int .i64 sy) ∧ w'.cell? ⟨g, 45, none⟩ = some (.int .i64 cx) ∧ w'.cell? ⟨g, 46, none⟩ = some (.int .i64 cy))
                          (first | with_reducible exact ⟨c4, c2, c3, b5, b6⟩ | assumption | go_keep)
                          (first | (go_at_call 19; ((with_reducible refine (HLS.out _).mono ?_); rintro e w3 ⟨rfl, hx⟩; have hk5 := keepX hx HC)))
                        have HMn := Lib.hid (HMJ.out.trans ((Ext.refl _).drew.trans hx))
                        clear c2 c3 c4 b5 b6 hx hk5 HLS HC
                        go_wp2_with fail
                        go_roundw
                        case rel => exact ⟨k + 1, _, by omega, by go_num, rfl, Lib.hid (fun h => by cases h), HMn⟩
                        case measure => simp [intOf]; omega
                      | false =>
                        go_wp2_with fail
                        go_region_held3 (fun w' => w'.cell? ⟨bb, 4, none⟩ = some (.int .u8 2) ∧ w'.cell? ⟨bb, 2, none⟩ = some (.int .i64 sx) ∧ w'.cell? ⟨bb, 3, none⟩ = some (.int .i64 sy) ∧ w'.cell? ⟨g, 45, none⟩ = some (.int .i64 cx) ∧ w'.cell? ⟨g, 46, none⟩ = some (.int .i64 cy))
                          (first | with_reducible exact ⟨c4, c2, c3, b5, b6⟩ | assumption | go_keep)
                          (first | (go_at_call 19; ((with_reducible refine (HLS.out _).mono ?_); rintro e w3 ⟨rfl, hx⟩; have hk5 := keepX hx HC)))
                        have HMn := Lib.hid (HMJ.out.trans ((Ext.refl _).drew.trans hx))
                        clear c2 c3 c4 b5 b6 hx hk5 HLS HC
                        go_wp2_with fail
                        go_roundw
                        case rel => exact ⟨k + 1, _, by omega, by go_num, rfl, Lib.hid (fun _ => .inr ⟨k, by omega, HKI.out, by rw [HKP.out], by rw [HKP.out]; exact (ltB_bLe HRR.out)⟩), HMn⟩
                        case measure => simp [intOf]; omega
                    · have e2 : ((kst : Int) == 2) = false := by rw [st_is2]; exact decide_eq_false hs2
                      clear hs2
                      go_wp2_with fail
                      go_region
                      clear c2 c3 c4 b5 b6
                      have HMn := Lib.hid (HMJ.out.trans (Ext.refl _).drew)
                      go_wp2_with fail
                      go_roundw
                      case rel => exact ⟨k + 1, _, by omega, by go_num, rfl, Lib.hid (fun h => by cases h), HMn⟩
                      case measure => simp [intOf]; omega
              · obtain rfl : k = N := by omega
                obtain ⟨N, hN'⟩ : ∃ N, N = k := ⟨_, rfl⟩
                subst hN'
                have HG1 := Lib.hid (And.intro hks (And.intro HG.out.2.1 (HG.out.2.2.trans (Mod.of_ext HMI.out) fun _ h => .inl h)))
                obtain ⟨p0, p1, p2, p3, p4, p5⟩ := hks.six (i := i) (by omega)
                have f4 := hks.free (1 + i * 6 + 4)
                rw [HPI.out] at p4
                dsimp only at p4
                clear p0 p1 p2 p3 p5 hks
                cases ob with
                | false =>
                  go_upto_region 12 with (fail)
                  have hk3 := HG1.out.1.place (i := i) (by omega) (k := 4) (.int .u8 3) { P i with st := 3 } rfl (by omega)
                  have hi3 := HG1.out.2.1.lose (i := i) 3 (.inl rfl) (by rw [HPI.out]; exact .inr rfl) (.inr (.inr (by rw [HPI.out]; exact fun h => by cases h)))
                  have hm3 : Mod (fun k => k = g) w (wr.setCell ⟨g, 1 + i * 6 + 4, none⟩ (.int .u8 3)) := Mod.setCell (F := fun k => k = g) HG1.out.2.2 (p := ⟨g, 1 + i * 6 + 4, none⟩) (.inl rfl) _
                  generalize (wr.setCell ⟨g, 1 + i * 6 + 4, none⟩ (.int .u8 3)) = V3 at *
                  have HG3 := Lib.hid (And.intro hk3 (And.intro hi3 hm3))
                  have HHB := Lib.hid (fun V => has_of b hbb (i : Int) V)
                  obtain ⟨hb2, hhb⟩ : ∃ hb2, hasQ b (i : Int) = hb2 := ⟨_, rfl⟩
                  rw [hhb] at HHB
                  clear hk3 hi3 hm3 hhb p4 f4 hn
                  cases hb2 with
                  | false =>
                    go_wp2_with fail
                    refine (HHB.out _).mono ?_
                    rintro _ w9 ⟨rfl, hw⟩
                    subst hw
                    go_wp2_with fail
                    go_roundw
                    case rel => exact ⟨i + 1, _, by omega, by go_num, HG3⟩
                    case measure => simp [intOf]; omega
                  | true =>
                    have f4 := HG3.out.1.free (1 + i * 6 + 4)
                    have p4 := (HG3.out.1.six (i := i) (by omega)).2.2.2.2.1
                    rw [setP_same] at p4
                    dsimp only at p4
                    go_wp2_with fail
                    refine (HHB.out _).mono ?_
                    rintro _ w9 ⟨rfl, hw⟩
                    subst hw
                    go_wp2_with fail
                    have hk4 := HG3.out.1.place (i := i) (by omega) (k := 4) (.int .u8 4) { P i with st := 4 } (by rw [setP_same]; rfl) (by omega)
                    have hi4 := HG3.out.2.1.lose (i := i) 4 (.inr rfl) (by rw [setP_same]; exact .inr rfl) (.inr (.inr (by rw [setP_same]; exact fun h => by cases h)))
                    rw [setP_same, setP_setP] at hi4
                    rw [setP_setP] at hk4
                    have hm4 : Mod (fun k => k = g) w (V3.setCell ⟨g, 1 + i * 6 + 4, none⟩ (.int .u8 4)) := Mod.setCell (F := fun k => k = g) HG3.out.2.2 (p := ⟨g, 1 + i * 6 + 4, none⟩) (.inl rfl) _
                    go_roundw
                    case rel => exact ⟨i + 1, _, by omega, by go_num, Lib.hid ⟨hk4, hi4, hm4⟩⟩
                    case measure => simp [intOf]; omega
                | true =>
                  go_upto_region 12 with (fail)
                  have hk3 := HG1.out.1.place (i := i) (by omega) (k := 4) (.int .u8 3) { P i with st := 3 } rfl (by omega)
                  have hi3 := HG1.out.2.1.lose (i := i) 3 (.inl rfl) (by rw [HPI.out]; exact .inr rfl) (.inr (.inr (by rw [HPI.out]; exact fun h => by cases h)))
                  have hm3 : Mod (fun k => k = g) w (wr.setCell ⟨g, 1 + i * 6 + 4, none⟩ (.int .u8 3)) := Mod.setCell (F := fun k => k = g) HG1.out.2.2 (p := ⟨g, 1 + i * 6 + 4, none⟩) (.inl rfl) _
                  generalize (wr.setCell ⟨g, 1 + i * 6 + 4, none⟩ (.int .u8 3)) = V3 at *
                  have HG3 := Lib.hid (And.intro hk3 (And.intro hi3 hm3))
                  have HHB := Lib.hid (fun V => has_of b hbb (i : Int) V)
                  obtain ⟨hb2, hhb⟩ : ∃ hb2, hasQ b (i : Int) = hb2 := ⟨_, rfl⟩
                  rw [hhb] at HHB
                  clear hk3 hi3 hm3 hhb p4 f4 hn
                  cases hb2 with
                  | false =>
                    go_wp2_with fail
                    refine (HHB.out _).mono ?_
                    rintro _ w9 ⟨rfl, hw⟩
                    subst hw
                    go_wp2_with fail
                    go_roundw
                    case rel => exact ⟨i + 1, _, by omega, by go_num, HG3⟩
                    case measure => simp [intOf]; omega
                  | true =>
                    have f4 := HG3.out.1.free (1 + i * 6 + 4)
                    have p4 := (HG3.out.1.six (i := i) (by omega)).2.2.2.2.1
                    rw [setP_same] at p4
                    dsimp only at p4
                    go_wp2_with fail
                    refine (HHB.out _).mono ?_
                    rintro _ w9 ⟨rfl, hw⟩
                    subst hw
                    go_wp2_with fail
                    have hk4 := HG3.out.1.place (i := i) (by omega) (k := 4) (.int .u8 4) { P i with st := 4 } (by rw [setP_same]; rfl) (by omega)
                    have hi4 := HG3.out.2.1.lose (i := i) 4 (.inr rfl) (by rw [setP_same]; exact .inr rfl) (.inr (.inr (by rw [setP_same]; exact fun h => by cases h)))
                    rw [setP_same, setP_setP] at hi4
                    rw [setP_setP] at hk4
                    have hm4 : Mod (fun k => k = g) w (V3.setCell ⟨g, 1 + i * 6 + 4, none⟩ (.int .u8 4)) := Mod.setCell (F := fun k => k = g) HG3.out.2.2 (p := ⟨g, 1 + i * 6 + 4, none⟩) (.inl rfl) _
                    go_roundw
                    case rel => exact ⟨i + 1, _, by omega, by go_num, Lib.hid ⟨hk4, hi4, hm4⟩⟩
                    case measure => simp [intOf]; omega
        have e2 : ((st : Int) != 2) = true := by rw [bne, st_is2, decide_eq_false h2]; rfl
        have e3 : ((st : Int) != 3) = true := by rw [bne, st_is3, decide_eq_false h3]; rfl
        clear h2 h3
        go_wp2_with fail
        refine (HHS.out _).mono ?_
        rintro _ w9 ⟨rfl, hw⟩
        subst hw
        go_wp2_with fail
        go_roundw
        case rel => exact ⟨i + 1, P, by omega, by go_num, Lib.hid ⟨HG.out.1, HG.out.2.1, HG.out.2.2⟩⟩
        case measure => simp [intOf]; omega
    · obtain rfl : i = N := by omega
      go_wp2_with fail
      refine bodyPost_end (v := .tuple #[]) (by simp [results, Try.results16, go_sem]) rfl ?_
      exact ⟨rfl, P, HG.out.1, HG.out.2.1, HG.out.2.2⟩
end
end Go.Proofs.Ytinflpheogglhaa
