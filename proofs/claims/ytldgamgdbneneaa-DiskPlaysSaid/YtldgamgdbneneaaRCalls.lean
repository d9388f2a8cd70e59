/-
  The document's disk: Start, SetPower, spend, Lose, Stray.
-/
import Derived.Test.YtldgamgdbneneaaRCome
import Derived.Deep.RegionWith
namespace Go.Proofs.Ytldgamgdbneneaa
open Go Go.RowKit

section
variable {w : World} {d : Nat} {p : Nat → Nat} {m : DM}
/-- The head alone is written. -/
theorem RDq.head_out {w' : World} {q : Nm} {m' : DM} (h : RDq w d p q m) (hlt : ∀ k, p k ≠ 0 → k < w.heap.size) (k : Mod (fun i => i = d) w w') (hd : RHead w' d q.gr q.cr q.gm q.cm q.gl q.cl q.pv m') (h1 : m'.rest = m.rest) (h2 : m'.meant = m.meant) (h3 : m'.lost = m.lost) (h4 : m'.waits = m.waits) (h5 : -1 ≤ m'.power ∧ m'.power ≤ 9223372036854775807) : ROut d p w m' w' :=
  ⟨p, ⟨⟨q, h.setHead k hd h1 h2 h3 h4 h5⟩, fun i hi => Nat.lt_of_lt_of_le (hlt i hi) k.size⟩, k.mono fun i hi => by rw [hi, h.pd]; omega, fun i hi => .inl hi⟩
theorem rstart_out (h : RD w d p m) : Calls Try.prog 25 #[.pointer (some ⟨d, 0, none⟩)] w fun e w' => e = .returned (.int .i64 m.start.1) ∧ ROut d p w m.start.2 w' := by
  obtain ⟨⟨q, hq⟩, hlt⟩ := h
  refine (rstart_of hq.head).mono fun e w' ⟨h1, h2, h3⟩ => ⟨h1, hq.head_out hlt h3 h2 ?_ ?_ ?_ ?_ ?_⟩
  · unfold DM.start; split <;> rfl
  · unfold DM.start; split <;> rfl
  · unfold DM.start; split <;> rfl
  · unfold DM.start; split <;> rfl
  · unfold DM.start; split
    · exact ⟨hq.ok.power, hq.few⟩
    · exact ⟨Int.le_refl _, by show (-1 : Int) ≤ _; omega⟩
theorem rpower_out (h : RD w d p m) (n : Int) (hn : n ≤ 9223372036854775807) : Calls Try.prog 29 #[.pointer (some ⟨d, 0, none⟩), .int .i64 n] w fun e w' => e = .returned (.int .i64 (m.setPower n).1) ∧ ROut d p w (m.setPower n).2 w' := by
  obtain ⟨⟨q, hq⟩, hlt⟩ := h
  refine (rpower_of hq.head n).mono fun e w' ⟨h1, h2, h3⟩ => ⟨h1, hq.head_out hlt h3 h2 ?_ ?_ ?_ ?_ ?_⟩
  · unfold DM.setPower; split
    · rfl
    · split <;> rfl
  · unfold DM.setPower; split
    · rfl
    · split <;> rfl
  · unfold DM.setPower; split
    · rfl
    · split <;> rfl
  · unfold DM.setPower; split
    · rfl
    · split <;> rfl
  · unfold DM.setPower; split
    · exact ⟨hq.ok.power, hq.few⟩
    · split
      · exact ⟨hq.ok.power, hq.few⟩
      · exact ⟨by show (-1 : Int) ≤ n; omega, hn⟩
theorem rspend_out {q : Nm} (hq : RDq w d p q m) : Calls Try.prog 43 #[.pointer (some ⟨d, 0, none⟩)] w fun e w' => e = .returned (.bool (decide (m.power ≠ 0))) ∧ RDq w' d p q (spendM m) ∧ Mod (fun i => i = d) w w' := by
  refine (rspend_of hq.head ⟨hq.ok.power, hq.few⟩).mono fun e w' ⟨h1, h2, h3⟩ => ⟨h1, hq.setHead h3 h2 ?_ ?_ ?_ ?_ ?_, h3⟩
  · unfold spendM; split <;> rfl
  · unfold spendM; split <;> rfl
  · unfold spendM; split <;> rfl
  · unfold spendM; split <;> rfl
  · unfold spendM
    have := hq.few
    have := hq.ok.power
    split
    · exact ⟨hq.ok.power, hq.few⟩
    · refine ⟨lessP_le hq.ok.power, ?_⟩
      show lessP m.power ≤ _
      unfold lessP
      split <;> omega

set_option maxRecDepth 100000 in
set_option maxHeartbeats 800000 in
theorem rlose_out (h : RD w d p m) (s : Int) : Calls Try.prog 27 #[.pointer (some ⟨d, 0, none⟩), .int .i64 s] w fun e w' => e = .returned (.int .i64 (m.lose s).1) ∧ ROut d p w (m.lose s).2 w' := by
  obtain ⟨⟨q, hq⟩, hlt⟩ := h
  have hh := rhas_of hq.head s
  have HQ := Lib.hid hq
  have HLT := Lib.hid hlt
  by_cases hs : m.has s = false
  · rw [hs] at hh
    have HH := Lib.hid hh
    have HE : Hid (m.lose s = (2, m)) := Lib.hid (by unfold DM.lose; rw [if_pos hs])
    clear hh hs hq hlt
    go_enter Try.func27, Try.ntmps27
    go_wp2_with fail
    refine HH.out.mono ?_
    rintro e w1 ⟨rfl, rfl⟩
    go_wp2_with fail
    go_ret
    rw [HE.out]
    exact ⟨rfl, p, ⟨⟨q, HQ.out⟩, HLT.out⟩, Mod.refl _ _, fun k hk => .inl hk⟩
  · have hs' : m.has s = true := by simpa using hs
    obtain ⟨s0, s1⟩ := DM.has_iff.1 hs'
    obtain ⟨k, rfl⟩ := Int.eq_ofNat_of_zero_le s0
    have hk : k < m.size := by omega
    rw [hs'] at hh
    have HH := Lib.hid hh
    have HE : Hid (m.lose (k : Int) = (0, { m with lost := m.lost.set k true })) := Lib.hid (by unfold DM.lose; rw [if_neg hs, Int.toNat_natCast])
    obtain ⟨⟨_, _, d2, _⟩, _⟩ := hq.head.cells
    obtain ⟨hc, hf, hl⟩ := hq.lostAt hk
    have hsz := hq.head.n1.2
    clear hh hs hs' hq hlt
    go_enter Try.func27, Try.ntmps27
    go_wp2_with fail
    refine HH.out.mono ?_
    rintro e w1 ⟨rfl, rfl⟩
    go_wp2_with fail
    go_ret
    rw [HE.out]
    exact ⟨rfl, p, ⟨⟨q, HQ.out.setLost k true⟩, fun i hi => by have := HLT.out i hi; simpa [World.setCell] using this⟩, (mod_one w q.gl k (.bool true)).mono fun i hi => by rw [hi, HQ.out.pl]; omega, fun k hk => .inl hk⟩

set_option maxRecDepth 100000 in
set_option maxHeartbeats 1600000 in
theorem rstray_out (h : RD w d p m) (a b : Int) : Calls Try.prog 28 #[.pointer (some ⟨d, 0, none⟩), .int .i64 a, .int .i64 b] w fun e w' => e = .returned (.int .i64 (m.stray a b).1) ∧ ROut d p w (m.stray a b).2 w' := by
  obtain ⟨⟨q, hq⟩, hlt⟩ := h
  have hha := rhas_of hq.head a
  have hhb := rhas_of hq.head b
  have HQ := Lib.hid hq
  have HLT := Lib.hid hlt
  by_cases ha : m.has a = false
  · rw [ha] at hha
    have HH := Lib.hid hha
    have HE : Hid (m.stray a b = (2, m)) := Lib.hid (by unfold DM.stray; rw [if_pos (.inl ha)])
    clear hha hhb ha hq hlt
    go_enter Try.func28, Try.ntmps28
    go_wp2_with fail
    refine HH.out.mono ?_
    rintro e w1 ⟨rfl, rfl⟩
    go_wp2_with fail
    go_ret
    rw [HE.out]
    exact ⟨rfl, p, ⟨⟨q, HQ.out⟩, HLT.out⟩, Mod.refl _ _, fun k hk => .inl hk⟩
  by_cases hb : m.has b = false
  · rw [show m.has a = true by simpa using ha] at hha
    rw [hb] at hhb
    have HH := Lib.hid hha
    have HHb := Lib.hid hhb
    have HE : Hid (m.stray a b = (2, m)) := Lib.hid (by unfold DM.stray; rw [if_pos (.inr hb)])
    clear hha hhb ha hb hq hlt
    go_enter Try.func28, Try.ntmps28
    go_wp2_with fail
    refine HH.out.mono ?_
    rintro e w1 ⟨rfl, rfl⟩
    go_wp2_with fail
    refine HHb.out.mono ?_
    rintro e w1 ⟨rfl, rfl⟩
    go_wp2_with fail
    go_ret
    rw [HE.out]
    exact ⟨rfl, p, ⟨⟨q, HQ.out⟩, HLT.out⟩, Mod.refl _ _, fun k hk => .inl hk⟩
  · have ha' : m.has a = true := by simpa using ha
    have hb' : m.has b = true := by simpa using hb
    obtain ⟨a0, a1⟩ := DM.has_iff.1 ha'
    obtain ⟨b0, b1⟩ := DM.has_iff.1 hb'
    obtain ⟨i, rfl⟩ := Int.eq_ofNat_of_zero_le a0
    obtain ⟨j, rfl⟩ := Int.eq_ofNat_of_zero_le b0
    have hi : i < m.size := by omega
    have hj : j < m.size := by omega
    rw [ha'] at hha
    rw [hb'] at hhb
    have HH := Lib.hid hha
    have HHb := Lib.hid hhb
    have HE : Hid (m.stray (i : Int) (j : Int) = (0, { m with rest := m.rest.set j (m.rest.getD i []), lost := m.lost.set j (m.lost.getD i false) })) := Lib.hid (by unfold DM.stray; rw [if_neg (fun h => h.elim ha hb), Int.toNat_natCast, Int.toNat_natCast])
    obtain ⟨⟨d0, _, d2, _⟩, _⟩ := hq.head.cells
    obtain ⟨x, hx, hxc, _, _⟩ := hq.restAt hi
    obtain ⟨y, hy, hyc, hyf, hyl⟩ := hq.restAt hj
    have hsec : Sect (m.rest.getD i []) := by
      have hil : i < m.rest.length := hi
      rw [List.getD_eq_getElem?_getD, List.getElem?_eq_getElem hil, Option.getD_some]
      exact hq.ok.rests _ (List.getElem_mem hil)
    have HSEC := Lib.hid hsec
    have HBY : Hid (By w.drew (some ⟨x.1, 0, none⟩) 64 x.2 (m.rest.getD i [])) := Lib.hid (((hq.rb i x hx).2.by hsec.2).ext (Ext.refl w).drew)
    have HQd := Lib.hid (hq.ext (Ext.refl w).drew)
    have hsz := hq.head.n1.2
    unfold slV at hxc hyc
    have HI := Lib.hid hi
    have HJ := Lib.hid hj
    clear hha hhb ha hb ha' hb' hq hlt hx hy hsec
    go_enter Try.func28, Try.ntmps28
    go_wp2_with fail
    refine HH.out.mono ?_
    rintro e w1 ⟨rfl, rfl⟩
    go_wp2_with fail
    refine HHb.out.mono ?_
    rintro e w1 ⟨rfl, rfl⟩
    go_wp2_with fail
    go_region_with (go_at_call 42; refine (copy_by (some ⟨x.1, 0, none⟩) (m.rest.getD i []) 64 x.2 _ HBY.out (by omega)).mono ?_; rintro e w2 ⟨A1, c1, rfl, _, hx, ho⟩; obtain ⟨bk, rfl, g1, g2, hb1⟩ := fresh_byt ho; have HK1 := Lib.hid hx; have HY1 := Lib.hid hb1; obtain ⟨y1, _, hc1, hf1, hl1⟩ := (HQd.out.ext hx).restAt HJ.out; obtain ⟨⟨d0w, _⟩, _⟩ := (HQd.out.ext hx).head.cells; clear hx ho hb1)
    all_goals
      have hQ1 : RDq (w2.setCell ⟨q.gr, j, none⟩ (slV (bk, c1))) d (part p bk (7 + j)) { q with RB := q.RB.set j (bk, c1) } { m with rest := m.rest.set j (m.rest.getD i []) } := ((HQd.out.recast (p' := part p bk (7 + j)) (part_old g1)).ext HK1.out).setRest HJ.out HSEC.out HY1.out (part_at _ _ _)
      have hM1 : Mod (fun k => p k ≠ 0) w (w2.setCell ⟨q.gr, j, none⟩ (slV (bk, c1))) := ((Mod.of_ext ((Ext.refl w).drew.trans HK1.out)).trans (mod_one w2 q.gr j (slV (bk, c1))) fun i hi => .inl (by rw [hi, HQ.out.pr]; omega))
      have hn1 : w.heap.size ≤ bk ∧ bk < (w2.setCell ⟨q.gr, j, none⟩ (slV (bk, c1))).heap.size := ⟨g1, by simpa [World.setCell] using g2⟩
      have hsz1 : (w2.setCell ⟨q.gr, j, none⟩ (slV (bk, c1))).heap.size = w2.heap.size := by simp [World.setCell]
      rw [show Value.slice (some ⟨bk, 0, none⟩) 64 c1 = slV (bk, c1) from rfl]
      obtain ⟨X1, hX1⟩ : ∃ X, w2.setCell ⟨q.gr, j, none⟩ (slV (bk, c1)) = X := ⟨_, rfl⟩
      rw [hX1] at hQ1 hM1 hn1
      rw [hX1]
      have HQ1 := Lib.hid hQ1
      have HM1 := Lib.hid hM1
      have HN1 := Lib.hid hn1
      obtain ⟨⟨_, _, e2, _⟩, _⟩ := hQ1.head.cells
      have e2' : X1.cell? ⟨d, 2, none⟩ = some (.slice (some ⟨q.gl, 0, none⟩) m.size q.cl) := by have := e2; simp only [DM.size, List.length_set] at this ⊢; exact this
      obtain ⟨hli, _, _⟩ := hQ1.lostAt (s := i) (by simp only [DM.size, List.length_set]; exact HI.out)
      obtain ⟨hlj, hfj, hll⟩ := hQ1.lostAt (s := j) (by simp only [DM.size, List.length_set]; exact HJ.out)
      clear hQ1 hM1 hn1 hX1 hsz1 e2 HK1 HY1 hc1 hf1 hl1 d0w g1 g2 d0 d2 hxc hyc hyf hyl
      go_wp2_with fail
      go_region
      go_wp2_with fail
      go_ret
      rw [HE.out]
      have hM3 : Mod (fun k => p k ≠ 0) w (X1.setCell ⟨q.gl, j, none⟩ (.bool (m.lost.getD i false))).drew := ((HM1.out.trans (mod_one X1 q.gl j (.bool (m.lost.getD i false))) fun i hi => .inl (by rw [hi, HQ.out.pl]; omega))).drew
      have hs3 : (X1.setCell ⟨q.gl, j, none⟩ (.bool (m.lost.getD i false))).drew.heap.size = X1.heap.size := by show (X1.setCell ⟨q.gl, j, none⟩ (.bool (m.lost.getD i false))).heap.size = _; simp [World.setCell]
      refine ⟨rfl, part p bk (7 + j), ⟨⟨_, (HQ1.out.setLost j (m.lost.getD i false)).ext (Ext.refl _).drew⟩, fun k hk => ?_⟩, hM3, fun k hk => ?_⟩
      · refine Nat.lt_of_lt_of_le (m := X1.heap.size) ?_ (Nat.le_of_eq hs3.symm)
        rcases part_nz hk with rfl | hk
        · exact HN1.out.2
        · exact Nat.lt_of_lt_of_le (HLT.out k hk) HM1.out.size
      · rcases part_nz hk with rfl | hk
        · exact .inr HN1.out.1
        · exact .inl hk
end
end Go.Proofs.Ytldgamgdbneneaa
