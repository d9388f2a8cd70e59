/-
  The document's disk: Flush, Crash.
-/
import Derived.Test.YtldgamgdbneneaaRWrite
import Derived.Test.YtldgamgdbneneaaKFlush
import Derived.Test.YtldgamgdbneneaaKCrash
namespace Go.Proofs.Ytldgamgdbneneaa
open Go Go.RowKit

theorem own_form2 {w : World} {base e size n : Nat} {v : Value} {xs : List Value} (h : w.ownsRow base e size v n xs) : ∃ A c, v = .slice A n c ∧ n ≤ c ∧ c ≤ 9223372036854775807 := by
  rcases h.2 with ⟨rfl, rfl⟩ | ⟨g, cap, cur, rfl, _, _, h1, h2, _⟩
  · exact ⟨none, 0, rfl, Nat.le_refl _, by omega⟩
  · exact ⟨_, _, rfl, h1, by unfold maxLen at h2; exact h2⟩
/-- What has come of a disk's writes, and what else holds. -/
structure RGo (w wr : World) (d : Nat) (p0 p : Nat → Nat) (m : DM) : Prop where
  rd : RD wr d p m
  mod : Mod (fun k => p0 k ≠ 0) w wr
  nz : ∀ k, p k ≠ 0 → p0 k ≠ 0 ∨ w.heap.size ≤ k
theorem RGo.step {w wr w2 : World} {d : Nat} {p0 p : Nat → Nat} {m m' : DM} (h : RGo w wr d p0 p m) (k : ROut d p wr m' w2) : ∃ p', RGo w w2 d p0 p' m' := by
  obtain ⟨p', h1, h2, h3⟩ := k
  refine ⟨p', h1, h.mod.trans h2 fun i hi => h.nz i hi, fun i hi => ?_⟩
  rcases h3 i hi with h4 | h4
  · exact h.nz i h4
  · exact .inr (Nat.le_trans h.mod.size h4)
theorem RGo.out {w wr : World} {d : Nat} {p0 p : Nat → Nat} {m : DM} (h : RGo w wr d p0 p m) : ROut d p0 w m wr := ⟨p, h.rd, h.mod, h.nz⟩
/-- No write waits any more; the head is other besides. -/
theorem RDq.clear {w w' : World} {d : Nat} {p : Nat → Nat} {q : Nm} {m m' : DM} (h : RDq w d p q m) (k : Mod (fun i => i = d) w w') (hd : RHead w' d q.gr q.cr q.gm q.cm q.gl q.cl (.slice none 0 0) m') (h1 : m'.rest = m.rest) (h2 : m'.meant = m.meant) (h3 : m'.lost = m.lost) (h4 : m'.waits = []) (h5 : m'.power = m.power) : RDq w' d p { q with pv := .slice none 0 0, WB := [] } m' := by
  have hs : m'.size = m.size := by unfold DM.size; rw [h1]
  have ne : ∀ i r, p i = r → r ≠ 1 → ¬ i = d := fun i r hi hr e => by rw [e, h.pd] at hi; omega
  have own := fun {e s n : Nat} {v : Value} {xs : List Value} (ho : w.ownsRow 0 e s v n xs) (r : Nat) (hr : r ≠ 1) (hv : ∀ i, v.ownBlock = some i → p i = r) => own_mod ho k fun i hi => ne i r (hv i hi) hr
  refine ⟨⟨by rw [h2, hs]; exact h.ok.meant, by rw [h3, hs]; exact h.ok.lost, by rw [h1]; exact h.ok.rests, by rw [h2]; exact h.ok.means, fun x hx => (by rw [h4] at hx; cases hx), by rw [h5]; exact h.ok.power⟩, hd, ?_, ?_, ?_, ?_, ?_, by rw [h4]; rfl, fun j x hx => (by simp at hx), by rw [h4]; exact World.ownsRow_nil _ _ _ _, h.pd, h.pr, h.pm, h.pl, fun i hi => (by cases hi), by rw [h5]; exact h.few⟩
  · rw [hs]; exact own h.rr 2 (by omega) fun i hi => by injection hi with hi; subst hi; exact h.pr
  · rw [hs]; exact own h.rm 3 (by omega) fun i hi => by injection hi with hi; subst hi; exact h.pm
  · rw [hs, h3]; exact own h.rl 4 (by omega) fun i hi => by injection hi with hi; subst hi; exact h.pl
  · intro i y hy
    rw [h1]
    exact ⟨(h.rb i y hy).1, (h.rb i y hy).2.mod k (ne _ _ (h.rb i y hy).1 (by omega))⟩
  · intro i y hy
    rw [h2]
    exact ⟨(h.mb i y hy).1, (h.mb i y hy).2.mod k (ne _ _ (h.mb i y hy).1 (by omega))⟩
/-- A pending write, about to come through. -/
theorem rcome_wait {w : World} {d : Nat} {p : Nat → Nat} {q : Nm} {m : DM} (h : RDq w d p q m) (hlt : ∀ k, p k ≠ 0 → k < w.heap.size) {y : Nat × Nat} {x : Nat × List Nat} (hp : p y.1 = 6) (hy : Byt w y x.2) (hx : x.1 < m.size) (hs : Sect x.2) :
    Calls Try.prog 44 #[.pointer (some ⟨d, 0, none⟩), .agg #[.int .i64 (x.1 : Int), .slice (some ⟨y.1, 0, none⟩) 64 y.2]] w fun e w' => (∃ v, e = .returned v) ∧ ROut d p w (m.come x) w' :=
  rcome_of ⟨⟨q, h⟩, hlt⟩ x.1 hx (some ⟨y.1, 0, none⟩) y.2 x.2 (hy.by hs.2) hs fun a ha hh => by
    injection ha with ha
    subst ha
    have hp' : p y.1 = 6 := hp
    rcases hh with hh | hh | hh <;> (have hh' : p y.1 = _ := hh; omega)
section
variable {w : World} {d : Nat} {p : Nat → Nat} {m : DM}
set_option maxRecDepth 100000 in
set_option maxHeartbeats 2400000 in
theorem rflush_out (h : RD w d p m) (hfew : m.waits.length ≤ 1000000) : Calls Try.prog 23 #[.pointer (some ⟨d, 0, none⟩)] w fun e w' => e = .returned (.int .i64 m.flush.1) ∧ ROut d p w m.flush.2 w' := by
  obtain ⟨⟨q, hq⟩, hlt⟩ := h
  obtain ⟨⟨_, _, _, d3, d4, d5, _⟩, _⟩ := hq.head.cells
  have HQ := Lib.hid hq
  have HLT := Lib.hid hlt
  by_cases hu : m.up = false
  · have HE : Hid (m.flush = (5, m)) := Lib.hid (by unfold DM.flush; rw [if_pos hu])
    rcases up_cases hu with hd | ⟨hd, hdd⟩
    · rw [hd] at d4
      clear hu hd hq hlt
      go_enter Try.func23, Try.ntmps23
      go_wp2_with fail
      go_ret
      rw [HE.out]
      exact ⟨rfl, p, ⟨⟨q, HQ.out⟩, HLT.out⟩, Mod.refl _ _, fun k hk => .inl hk⟩
    · rw [hd] at d4
      rw [hdd] at d5
      clear hu hd hdd hq hlt
      go_enter Try.func23, Try.ntmps23
      go_wp2_with fail
      go_ret
      rw [HE.out]
      exact ⟨rfl, p, ⟨⟨q, HQ.out⟩, HLT.out⟩, Mod.refl _ _, fun k hk => .inl hk⟩
  have hu' : m.up = true := by simpa using hu
  obtain ⟨hd, hdd⟩ := up_both hu'
  rw [hd] at d4
  rw [hdd] at d5
  have HSP := Lib.hid (rspend_out hq)
  by_cases hp0 : m.power = 0
  · have HE : Hid (m.flush = (5, spendM m)) := Lib.hid (by unfold DM.flush spendM; rw [if_neg hu, if_pos hp0, if_pos hp0])
    have HZ : Hid (decide (m.power ≠ 0) = false) := Lib.hid (by simp [hp0])
    clear hu hu' hd hdd hq hlt hp0
    go_enter Try.func23, Try.ntmps23
    go_wp2_with fail
    refine HSP.out.mono ?_
    rw [HZ.out]
    rintro e w1 ⟨rfl, hq1, hm1⟩
    have HQ1 := Lib.hid hq1
    have HM1 := Lib.hid hm1
    clear hq1 hm1
    go_wp2_with fail
    go_ret
    rw [HE.out]
    exact ⟨rfl, p, ⟨⟨q, HQ1.out⟩, fun i hi => Nat.lt_of_lt_of_le (HLT.out i hi) HM1.out.size⟩, HM1.out.mono fun i hi => by rw [hi, HQ.out.pd]; omega, fun k hk => .inl hk⟩
  · have HE : Hid (m.flush = (0, { (spendM m).comes m.waits with waits := [] })) := Lib.hid (by unfold DM.flush spendM; rw [if_neg hu, if_neg hp0, if_neg hp0])
    have HZ : Hid (decide (m.power ≠ 0) = true) := Lib.hid (by simp [hp0])
    have hsm : (spendM m).waits = m.waits := by unfold spendM; rw [if_neg hp0]
    have HSM := Lib.hid hsm
    clear hu hu' hd hdd hq hlt hp0 hsm
    go_enter Try.func23, Try.ntmps23
    go_wp2_with fail
    refine HSP.out.mono ?_
    rw [HZ.out]
    rintro e w1 ⟨rfl, hq1, hm1⟩
    have HG1 : Hid (RGo w w1 d p p (spendM m)) := Lib.hid ⟨⟨⟨q, hq1⟩, fun i hi => Nat.lt_of_lt_of_le (HLT.out i hi) hm1.size⟩, hm1.mono fun i hi => by rw [hi, HQ.out.pd]; omega, fun k hk => .inl hk⟩
    clear hq1 hm1 d3 d4 d5
    obtain ⟨N, hN⟩ : ∃ N, m.waits.length = N := ⟨_, rfl⟩
    have HN := Lib.hid hN
    rw [hN] at hfew
    clear hN
    go_wp2_with fail
    go_loopw [3] (fun i wr => ∃ (k : Nat) (p' : Nat → Nat), k ≤ N ∧ i = .int .i64 k ∧ Hid (RGo w wr d p p' ((spendM m).comes (m.waits.take k)))) (fun i _ => N - (intOf i).toNat)
    case atStart => exact ⟨0, p, Nat.zero_le _, rfl, HG1⟩
    case round =>
      obtain ⟨k, p', hk, rfl, HG⟩ := hrel
      obtain ⟨⟨q', hq'⟩, hlt'⟩ := HG.out.rd
      have hcw := DM.comes_waits (m.waits.take k) (spendM m)
      have hwl : ((spendM m).comes (m.waits.take k)).waits.length = N := by rw [hcw.1, HSM.out, HN.out]
      obtain ⟨⟨_, _, _, e3, _⟩, ef⟩ := hq'.head.cells
      have ef3 := ef 3
      have hpl : ∃ A c, q'.pv = .slice A N c := by
        obtain ⟨A, c, e, _, _⟩ := own_form2 hq'.pen
        exact ⟨A, c, by rw [e, hwl]⟩
      obtain ⟨pA, pc, hpv⟩ := hpl
      by_cases hlt2 : k < N
      · obtain ⟨g, c, x, y, e1, hx, hy, c0, c1, h6, hby, hxs, hsec⟩ := hq'.waitAt (k := k) (by omega)
        rw [e1, hwl] at e3
        have hx' : m.waits[k]? = some x := by rw [hcw.1, HSM.out] at hx; exact hx
        have HC := Lib.hid (rcome_wait hq' hlt' h6 hby hxs hsec)
        have HX := Lib.hid (show (spendM m).comes (m.waits.take (k + 1)) = ((spendM m).comes (m.waits.take k)).come x by rw [take_snoc hx', comes_snoc])
        unfold slV at c1
        have i0 : (0 : Int) ≤ (k : Int) := by omega
        have i1 : (k : Int) < (N : Int) := by omega
        clear hq' hlt' hcw hwl ef ef3 hpv e1 hx hy h6 hby hxs hsec hx'
        go_wp2_with fail
        refine HC.out.mono ?_
        rintro e w2 ⟨⟨v, rfl⟩, hr⟩
        obtain ⟨p2, hg2⟩ := HG.out.step hr
        have HG2 := Lib.hid hg2
        clear hr hg2
        go_wp2_with fail
        go_roundw
        case rel => exact ⟨k + 1, p2, by omega, by go_num, by rw [HX.out]; exact HG2⟩
        case measure => simp [intOf]; omega
      · obtain rfl : k = N := by omega
        have HQ' := Lib.hid hq'
        have HL' := Lib.hid hlt'
        have hld := hq'.lts.1
        rw [hpv] at e3
        have HT : Hid (m.waits.take k = m.waits) := Lib.hid (List.take_of_length_le (by rw [HN.out]; omega))
        clear hq' hlt' hcw hwl ef hpv
        go_wp2_with fail
        go_ret
        rw [HE.out]
        rw [HT.out] at HQ' HG
        have kk := mod_one wr d 3 (.slice none 0 0)
        refine ⟨rfl, p', ⟨⟨_, HQ'.out.clear kk ⟨row_set 3 HQ'.out.head.head _ rfl, HQ'.out.head.n1⟩ rfl rfl rfl rfl rfl⟩, fun i hi => by have := HL'.out i hi; simpa [World.setCell] using this⟩, HG.out.mod.trans kk (fun i hi => ?_), HG.out.nz⟩
        rw [hi]
        exact .inl (by rw [HQ.out.pd]; omega)
end
end Go.Proofs.Ytldgamgdbneneaa
