/-
  The contract of the statements' Same: an act at the document's disk; the document's disk since a world.
-/
import Derived.Test.YtldgamgdbneneaaRMake
import Derived.Test.YtldgamgdbneneaaRCrash
import Derived.Test.YtldgamgdbneneaaRFlip
import Derived.Test.YtldgamgdbneneaaRRead
import Derived.Test.YtldgamgdbneneaaKDo
namespace Go.Proofs.Ytldgamgdbneneaa
open Go Go.RowKit

theorem RD.ext {w w' : World} {d : Nat} {p : Nat → Nat} {m : DM} (h : RD w d p m) (k : Ext w w') : RD w' d p m := by
  obtain ⟨⟨q, hq⟩, hlt⟩ := h
  exact ⟨⟨q, hq.ext k⟩, fun i hi => Nat.lt_of_lt_of_le (hlt i hi) k.size⟩
theorem RD.mod {w w' : World} {d : Nat} {p : Nat → Nat} {m : DM} {F : Nat → Prop} (h : RD w d p m) (k : Mod F w w') (hF : ∀ i, p i ≠ 0 → ¬ F i) : RD w' d p m := by
  obtain ⟨⟨q, hq⟩, hlt⟩ := h
  exact ⟨⟨q, hq.mod k hF⟩, fun i hi => Nat.lt_of_lt_of_le (hlt i hi) k.size⟩
theorem ROut.from {w w1 w2 : World} {d : Nat} {p : Nat → Nat} {m' : DM} (h : Ext w w1) (k : ROut d p w1 m' w2) : ROut d p w m' w2 := by
  obtain ⟨p', h1, h2, h3⟩ := k
  exact ⟨p', h1, (Mod.of_ext h).trans h2 fun i hi => .inl hi, fun i hi => (h3 i hi).imp id fun e => Nat.le_trans h.size e⟩
theorem keep5 {u w' : World} {g : Nat} {x0 x1 x2 x3 x4 : Value} {t : TypeId} {G : Nat → Prop} (k : Hid (Mod G u w')) (hg : Hid (¬ G g)) (h : Hid (u.heap[g]? = some (.cells #[x0, x1, x2, x3, x4] t (0, 0)))) :
    w'.cell? ⟨g, 0, none⟩ = some x0 ∧ w'.cell? ⟨g, 1, none⟩ = some x1 ∧ w'.cell? ⟨g, 2, none⟩ = some x2 ∧ w'.cell? ⟨g, 3, none⟩ = some x3 ∧ w'.cell? ⟨g, 4, none⟩ = some x4 := by
  have h2 := heap_mod h.out k.out hg.out
  exact ⟨cell_of_row w' g 0 _ _ _ h2, cell_of_row w' g 1 _ _ _ h2, cell_of_row w' g 2 _ _ _ h2, cell_of_row w' g 3 _ _ _ h2, cell_of_row w' g 4 _ _ _ h2⟩

theorem off_new {V w1 : World} {A : Option Addr} {n c : Nat} {xs : List Value} {p : Nat → Nat} (h : w1.ownsRow V.heap.size 5 1 (.slice A n c) n xs) (hp : ∀ i, p i ≠ 0 → i < V.heap.size) : ¬ ∃ g o, A = some ⟨g, o, none⟩ ∧ p g ≠ 0 := by
  rintro ⟨g, o, rfl, hg⟩
  rcases h.2 with ⟨e, _⟩ | ⟨g2, cap, cur, e, hb, _⟩
  · injection e with e1 _ _
    cases e1
  · injection e with e1 _ _
    injection e1 with e1
    injection e1 with e1 _
    subst e1
    exact absurd (hp _ hg) (by omega)
theorem rout_mod {w w2 : World} {d : Nat} {p : Nat → Nat} {m' : DM} (k : ROut d p w m' w2) : Mod (fun i => p i ≠ 0) w w2 := by
  obtain ⟨_, _, h, _⟩ := k
  exact h
set_option maxRecDepth 100000 in
set_option maxHeartbeats 6400000 in
theorem rsame_of {w : World} {d : Nat} {p : Nat → Nat} {m : DM} (h : RD w d p m) (a : Act5) (ha : a.Ok w w.heap.size) (hk : 0 < a.kn → Off (fun i => p i ≠ 0) a.kA) (hn : a.bn ≤ 200) (hfew : m.waits.length ≤ 1000000) :
    Calls Try.prog 9 #[.pointer (some ⟨d, 0, none⟩), .agg #[.int .u8 (a.kind : Int), .int .i64 a.sec, .int .i64 a.num, .slice a.bA a.bn a.bc, .slice a.kA a.kn a.kc]] w fun e w' => e = .returned (.int .i64 (m.act a.kind a.sec a.num a.bl a.kl).1) ∧ ROut d p w (m.act a.kind a.sec a.num a.bl a.kl).2 w' := by
  have hE := (Ext.refl w).alloc (.cells #[.int .u8 (a.kind : Int), .int .i64 a.sec, .int .i64 a.num, .slice a.bA a.bn a.bc, .slice a.kA a.kn a.kc] 36)
  have hrow := heap_alloc_new w (.cells #[.int .u8 (a.kind : Int), .int .i64 a.sec, .int .i64 a.num, .slice a.bA a.bn a.bc, .slice a.kA a.kn a.kc] 36)
  have H := Lib.hid (h.ext hE)
  have HLT := Lib.hid h.2
  have HA := Lib.hid (ha.ext hE)
  have HK := Lib.hid hk
  have HE := Lib.hid hE
  have HROW := Lib.hid hrow
  have hnum : a.num ≤ 9223372036854775807 := (bounds_i64 ha.num).2
  have HNUM := Lib.hid hnum
  obtain ⟨r, hr⟩ : ∃ r, a.kind % 9 = r := ⟨_, rfl⟩
  have hr9 : r < 9 := by omega
  have hrm : ((a.kind : Nat) : Int).tmod 9 = (r : Int) := by rw [Int.tmod_eq_emod_of_nonneg (by omega)]; omega
  have HACT := Lib.hid (act_actR m a.kind r hr a.sec a.num a.bl a.kl)
  clear h ha hk hE hr hnum hrow
  have hcases : r = 0 ∨ r = 1 ∨ r = 2 ∨ r = 3 ∨ r = 4 ∨ r = 5 ∨ r = 8 ∨ (r = 6 ∨ r = 7) := by omega
  rcases hcases with e | e | e | e | e | e | e | e
  · subst e
    go_enter Try.func9, Try.ntmps9
    go_wp2_with fail
    refine (rflush_out H.out hfew).mono ?_
    rintro e w2 ⟨rfl, ho⟩
    have HF := Lib.hid (ROut.from HE.out ho)
    clear ho
    go_wp2_with fail
    go_ret
    rw [HACT.out]
    exact ⟨rfl, HF.out⟩
  · subst e
    go_enter Try.func9, Try.ntmps9
    go_wp2_with fail
    refine (rcrash_out H.out hfew a.kA a.kn a.kc a.kl HA.out.keep HK.out).mono ?_
    rintro e w2 ⟨rfl, ho⟩
    have HF := Lib.hid (ROut.from HE.out ho)
    clear ho
    go_wp2_with fail
    go_ret
    rw [HACT.out]
    exact ⟨rfl, HF.out⟩
  · subst e
    go_enter Try.func9, Try.ntmps9
    go_wp2_with fail
    refine (rstart_out H.out).mono ?_
    rintro e w2 ⟨rfl, ho⟩
    have HF := Lib.hid (ROut.from HE.out ho)
    clear ho
    go_wp2_with fail
    go_ret
    rw [HACT.out]
    exact ⟨rfl, HF.out⟩
  · subst e
    go_enter Try.func9, Try.ntmps9
    go_wp2_with fail
    refine (rflip_out H.out a.sec a.num HNUM.out).mono ?_
    rintro e w2 ⟨rfl, ho⟩
    have HF := Lib.hid (ROut.from HE.out ho)
    clear ho
    go_wp2_with fail
    go_ret
    rw [HACT.out]
    exact ⟨rfl, HF.out⟩
  · subst e
    go_enter Try.func9, Try.ntmps9
    go_wp2_with fail
    refine (rlose_out H.out a.sec).mono ?_
    rintro e w2 ⟨rfl, ho⟩
    have HF := Lib.hid (ROut.from HE.out ho)
    clear ho
    go_wp2_with fail
    go_ret
    rw [HACT.out]
    exact ⟨rfl, HF.out⟩
  · subst e
    go_enter Try.func9, Try.ntmps9
    go_wp2_with fail
    refine (rstray_out H.out a.sec a.num).mono ?_
    rintro e w2 ⟨rfl, ho⟩
    have HF := Lib.hid (ROut.from HE.out ho)
    clear ho
    go_wp2_with fail
    go_ret
    rw [HACT.out]
    exact ⟨rfl, HF.out⟩
  · subst e
    go_enter Try.func9, Try.ntmps9
    go_wp2_with fail
    refine (rpower_out H.out a.num HNUM.out).mono ?_
    rintro e w2 ⟨rfl, ho⟩
    have HF := Lib.hid (ROut.from HE.out ho)
    clear ho
    go_wp2_with fail
    go_ret
    rw [HACT.out]
    exact ⟨rfl, HF.out⟩
  · have HACT1 : Hid (m.act a.kind a.sec a.num a.bl a.kl = m.write a.sec (actB a.num a.bl)) := Lib.hid (by
      rw [HACT.out]
      rcases e with rfl | rfl <;> rfl)
    have g0 : ((r : Int) == 0) = false := by rw [beq_eq_false_iff_ne]; omega
    have g1 : ((r : Int) == 1) = false := by rw [beq_eq_false_iff_ne]; omega
    have g2 : ((r : Int) == 2) = false := by rw [beq_eq_false_iff_ne]; omega
    have g3 : ((r : Int) == 3) = false := by rw [beq_eq_false_iff_ne]; omega
    have g4 : ((r : Int) == 4) = false := by rw [beq_eq_false_iff_ne]; omega
    have g5 : ((r : Int) == 5) = false := by rw [beq_eq_false_iff_ne]; omega
    have g8 : ((r : Int) == 8) = false := by rw [beq_eq_false_iff_ne]; omega
    obtain ⟨V, hV⟩ : ∃ V, w.alloc (.cells #[.int .u8 (a.kind : Int), .int .i64 a.sec, .int .i64 a.num, .slice a.bA a.bn a.bc, .slice a.kA a.kn a.kc] 36) = V := ⟨_, rfl⟩
    have hVs : V.heap.size = w.heap.size + 1 := by rw [← hV]; simp
    rw [hV] at H HA HE HROW
    have HG : Hid (¬ (fun i => p i ≠ 0) w.heap.size) := Lib.hid fun h => absurd (HLT.out _ h) (by omega)
    have HRd : Hid (V.drew.heap[w.heap.size]? = _) := HROW
    have HM0 : Hid (Mod (fun i => p i ≠ 0) V.drew V.drew) := Lib.hid (Mod.refl _ _)
    have HAd := Lib.hid (HA.out.ext (Ext.refl V).drew)
    have HDd := Lib.hid (H.out.ext (Ext.refl V).drew)
    obtain ⟨c0, c1, c2, c3, c4⟩ := keep5 HM0 HG HRd
    have hc0 := cell_of_row V w.heap.size 0 _ _ _ HROW.out
    have HVS := Lib.hid hVs
    have HSEC : Hid (Calls Try.prog 21 #[.agg #[.int .u8 (a.kind : Int), .int .i64 a.sec, .int .i64 a.num, .slice a.bA a.bn a.bc, .slice a.kA a.kn a.kc]] V.drew fun e w' => ∃ A n c, e = .returned (.slice A n c) ∧ w'.ownsRow V.drew.heap.size 5 1 (.slice A n c) n (vb (actB a.num a.bl)) ∧ Ext V.drew w') := Lib.hid (sector_of a _ HAd.out (by omega))
    clear HACT e HROW H HA
    go_enter Try.func9, Try.ntmps9
    go_wp2_with fail
    go_region_held3 (fun w' => w'.cell? ⟨w.heap.size, 0, none⟩ = some (.int .u8 (a.kind : Int)) ∧ w'.cell? ⟨w.heap.size, 1, none⟩ = some (.int .i64 a.sec) ∧ w'.cell? ⟨w.heap.size, 2, none⟩ = some (.int .i64 a.num) ∧ w'.cell? ⟨w.heap.size, 3, none⟩ = some (.slice a.bA a.bn a.bc) ∧ w'.cell? ⟨w.heap.size, 4, none⟩ = some (.slice a.kA a.kn a.kc))
      (first | exact keep5 (by assumption) HG HRd)
      (first
        | (go_at_call 21; ((with_reducible refine HSEC.out.mono ?_); rintro e w1 ⟨A, n, c, rfl, hown, hx⟩; have HM1 : Hid (Mod (fun i => p i ≠ 0) V.drew w1) := Lib.hid (Mod.of_ext hx); have HX1 := Lib.hid hx; have HD1 := Lib.hid (HDd.out.ext hx); have HB1 : Hid (By w1 A n c (actB a.num a.bl)) := Lib.hid (Bs.of_own hown (actB_lt HAd.out.bytes.rd.lt)); have HO1 := Lib.hid (off_new hown (fun i hi => by have := HLT.out i hi; have h2 := HVS.out; show i < V.heap.size; omega)); clear hown hx))
        | (go_at_call 30; ((with_reducible refine (rwrite_out HD1.out a.sec A n c (actB a.num a.bl) HB1.out HO1.out hfew).mono ?_); rintro e w2 ⟨rfl, ho⟩; have HM2 : Hid (Mod (fun i => p i ≠ 0) V.drew w2) := Lib.hid (HM1.out.trans (rout_mod ho) fun i hi => .inl hi); have HF := Lib.hid (ROut.from (((HE.out.trans (Ext.refl V).drew)).trans HX1.out) ho); clear ho)))
    all_goals
      go_wp2_with fail
      go_ret
      rw [HACT1.out]
      exact ⟨rfl, HF.out⟩
end Go.Proofs.Ytldgamgdbneneaa
