/-
  The document's disk: Flush, Crash.
  The document's disk: Read.
  The document's disk: New.
-/
import Derived.Test.YtlikhmhomkiadaaGreatDoorM01
import Derived.Test.YtlikhmhomkiadaaGreatDoorM04
import Derived.Test.YtlikhmhomkiadaaGreatDoorM06
import Derived.Test.YtlikhmhomkiadaaGreatDoorM14
namespace Go.Proofs.YtlikhmhomkiadaaGreatDoor
set_option maxRecDepth 100000
open Go Go.RowKit

theorem own_form2 {w : World} {base e size n : Nat} {v : Value} {xs : List Value} (h : w.ownsRow base e size v n xs) : ∃ A c, v = .slice A n c ∧ n ≤ c ∧ c ≤ 9223372036854775807 := by
  rcases h.2 with ⟨rfl, rfl⟩ | ⟨g, cap, cur, rfl, _, _, h1, h2, _⟩
  · exact ⟨none, 0, rfl, Nat.le_refl _, by omega⟩
  · exact ⟨_, _, rfl, h1, by unfold maxLen at h2; exact h2⟩
/-- What has come of a disk's writes, and what else holds. -/
structure RGo (w wr : World) (d : Nat) (p0 p : Nat → Nat) (m : DM) : Prop where
  rd : RD wr d p m
  mod : Mod (fun k => p0 k ≠ 0) w wr
  nz : ∀ k, p k ≠ 0 → p0 k ≠ 0 ∨ w.heap.size ≤ k
theorem RGo.step {w wr w2 : World} {d : Nat} {p0 p : Nat → Nat} {m m' : DM} (h : RGo w wr d p0 p m) (k : ROut d p wr m' w2) : ∃ p', RGo w w2 d p0 p' m' := by
  obtain ⟨p', h1, h2, h3⟩ := k
  refine ⟨p', h1, h.mod.trans h2 fun i hi => h.nz i hi, fun i hi => ?_⟩
  rcases h3 i hi with h4 | h4
  · exact h.nz i h4
  · exact .inr (Nat.le_trans h.mod.size h4)
theorem RGo.out {w wr : World} {d : Nat} {p0 p : Nat → Nat} {m : DM} (h : RGo w wr d p0 p m) : ROut d p0 w m wr := ⟨p, h.rd, h.mod, h.nz⟩
/-- No write waits any more; the head is other besides. -/
theorem RDq.clear {w w' : World} {d : Nat} {p : Nat → Nat} {q : Nm} {m m' : DM} (h : RDq w d p q m) (k : Mod (fun i => i = d) w w') (hd : RHead w' d q.gr q.cr q.gm q.cm q.gl q.cl (.slice none 0 0) m') (h1 : m'.rest = m.rest) (h2 : m'.meant = m.meant) (h3 : m'.lost = m.lost) (h4 : m'.waits = []) (h5 : m'.power = m.power) : RDq w' d p { q with pv := .slice none 0 0, WB := [] } m' := by
  have hs : m'.size = m.size := by unfold DM.size; rw [h1]
  have ne : ∀ i r, p i = r → r ≠ 1 → ¬ i = d := fun i r hi hr e => by rw [e, h.pd] at hi; omega
  have own := fun {e s n : Nat} {v : Value} {xs : List Value} (ho : w.ownsRow 0 e s v n xs) (r : Nat) (hr : r ≠ 1) (hv : ∀ i, v.ownBlock = some i → p i = r) => own_mod ho k fun i hi => ne i r (hv i hi) hr
  refine ⟨⟨by rw [h2, hs]; exact h.ok.meant, by rw [h3, hs]; exact h.ok.lost, by rw [h1]; exact h.ok.rests, by rw [h2]; exact h.ok.means, fun x hx => (by rw [h4] at hx; cases hx), by rw [h5]; exact h.ok.power⟩, hd, ?_, ?_, ?_, ?_, ?_, by rw [h4]; rfl, fun j x hx => (by simp at hx), by rw [h4]; exact World.ownsRow_nil _ _ _ _, h.pd, h.pr, h.pm, h.pl, fun i hi => (by cases hi), by rw [h5]; exact h.few⟩
  · rw [hs]; exact own h.rr 2 (by omega) fun i hi => by injection hi with hi; subst hi; exact h.pr
  · rw [hs]; exact own h.rm 3 (by omega) fun i hi => by injection hi with hi; subst hi; exact h.pm
  · rw [hs, h3]; exact own h.rl 4 (by omega) fun i hi => by injection hi with hi; subst hi; exact h.pl
  · intro i y hy
    rw [h1]
    exact ⟨(h.rb i y hy).1, (h.rb i y hy).2.mod k (ne _ _ (h.rb i y hy).1 (by omega))⟩
  · intro i y hy
    rw [h2]
    exact ⟨(h.mb i y hy).1, (h.mb i y hy).2.mod k (ne _ _ (h.mb i y hy).1 (by omega))⟩
/-- A pending write, about to come through. -/
theorem rcome_wait {w : World} {d : Nat} {p : Nat → Nat} {q : Nm} {m : DM} (h : RDq w d p q m) (hlt : ∀ k, p k ≠ 0 → k < w.heap.size) {y : Nat × Nat} {x : Nat × List Nat} (hp : p y.1 = 6) (hy : Byt w y x.2) (hx : x.1 < m.size) (hs : Sect x.2) :
    Calls Tryz.prog 138 #[.pointer (some ⟨d, 0, none⟩), .agg #[.int .i64 (x.1 : Int), .slice (some ⟨y.1, 0, none⟩) 64 y.2]] w fun e w' => (∃ v, e = .returned v) ∧ ROut d p w (m.come x) w' :=
  rcome_of ⟨⟨q, h⟩, hlt⟩ x.1 hx (some ⟨y.1, 0, none⟩) y.2 x.2 (hy.by hs.2) hs fun a ha hh => by
    injection ha with ha
    subst ha
    have hp' : p y.1 = 6 := hp
    rcases hh with hh | hh | hh <;> (have hh' : p y.1 = _ := hh; omega)
section
variable {w : World} {d : Nat} {p : Nat → Nat} {m : DM}
set_option maxRecDepth 100000 in
set_option maxHeartbeats 2400000 in
theorem rflush_out (h : RD w d p m) (hfew : m.waits.length ≤ 1000000) : Calls Tryz.prog 102 #[.pointer (some ⟨d, 0, none⟩)] w fun e w' => e = .returned (.int .i64 m.flush.1) ∧ ROut d p w m.flush.2 w' := by
  obtain ⟨⟨q, hq⟩, hlt⟩ := h
  obtain ⟨⟨_, _, _, d3, d4, d5, _⟩, _⟩ := hq.head.cells
  have HQ := Lib.hid hq
  have HLT := Lib.hid hlt
  by_cases hu : m.up = false
  · have HE : Hid (m.flush = (5, m)) := Lib.hid (by unfold DM.flush; rw [if_pos hu])
    rcases up_cases hu with hd | ⟨hd, hdd⟩
    · rw [hd] at d4
      clear hu hd hq hlt
      go_enter Tryz.func102, Tryz.ntmps102
      go_wp2_with fail
      go_ret
      rw [HE.out]
      exact ⟨rfl, p, ⟨⟨q, HQ.out⟩, HLT.out⟩, Mod.refl _ _, fun k hk => .inl hk⟩
    · rw [hd] at d4
      rw [hdd] at d5
      clear hu hd hdd hq hlt
      go_enter Tryz.func102, Tryz.ntmps102
      go_wp2_with fail
      go_ret
      rw [HE.out]
      exact ⟨rfl, p, ⟨⟨q, HQ.out⟩, HLT.out⟩, Mod.refl _ _, fun k hk => .inl hk⟩
  have hu' : m.up = true := by simpa using hu
  obtain ⟨hd, hdd⟩ := up_both hu'
  rw [hd] at d4
  rw [hdd] at d5
  have HSP := Lib.hid (rspend_out hq)
  by_cases hp0 : m.power = 0
  · have HE : Hid (m.flush = (5, spendM m)) := Lib.hid (by unfold DM.flush spendM; rw [if_neg hu, if_pos hp0, if_pos hp0])
    have HZ : Hid (decide (m.power ≠ 0) = false) := Lib.hid (by simp [hp0])
    clear hu hu' hd hdd hq hlt hp0
    go_enter Tryz.func102, Tryz.ntmps102
    go_wp2_with fail
    refine HSP.out.mono ?_
    rw [HZ.out]
    rintro e w1 ⟨rfl, hq1, hm1⟩
    have HQ1 := Lib.hid hq1
    have HM1 := Lib.hid hm1
    clear hq1 hm1
    go_wp2_with fail
    go_ret
    rw [HE.out]
    exact ⟨rfl, p, ⟨⟨q, HQ1.out⟩, fun i hi => Nat.lt_of_lt_of_le (HLT.out i hi) HM1.out.size⟩, HM1.out.mono fun i hi => by rw [hi, HQ.out.pd]; omega, fun k hk => .inl hk⟩
  · have HE : Hid (m.flush = (0, { (spendM m).comes m.waits with waits := [] })) := Lib.hid (by unfold DM.flush spendM; rw [if_neg hu, if_neg hp0, if_neg hp0])
    have HZ : Hid (decide (m.power ≠ 0) = true) := Lib.hid (by simp [hp0])
    have hsm : (spendM m).waits = m.waits := by unfold spendM; rw [if_neg hp0]
    have HSM := Lib.hid hsm
    clear hu hu' hd hdd hq hlt hp0 hsm
    go_enter Tryz.func102, Tryz.ntmps102
    go_wp2_with fail
    refine HSP.out.mono ?_
    rw [HZ.out]
    rintro e w1 ⟨rfl, hq1, hm1⟩
    have HG1 : Hid (RGo w w1 d p p (spendM m)) := Lib.hid ⟨⟨⟨q, hq1⟩, fun i hi => Nat.lt_of_lt_of_le (HLT.out i hi) hm1.size⟩, hm1.mono fun i hi => by rw [hi, HQ.out.pd]; omega, fun k hk => .inl hk⟩
    clear hq1 hm1 d3 d4 d5
    obtain ⟨N, hN⟩ : ∃ N, m.waits.length = N := ⟨_, rfl⟩
    have HN := Lib.hid hN
    rw [hN] at hfew
    clear hN
    go_wp2_with fail
    go_loopw [3] (fun i wr => ∃ (k : Nat) (p' : Nat → Nat), k ≤ N ∧ i = .int .i64 k ∧ Hid (RGo w wr d p p' ((spendM m).comes (m.waits.take k)))) (fun i _ => N - (intOf i).toNat)
    case atStart => exact ⟨0, p, Nat.zero_le _, rfl, HG1⟩
    case round =>
      obtain ⟨k, p', hk, rfl, HG⟩ := hrel
      obtain ⟨⟨q', hq'⟩, hlt'⟩ := HG.out.rd
      have hcw := DM.comes_waits (m.waits.take k) (spendM m)
      have hwl : ((spendM m).comes (m.waits.take k)).waits.length = N := by rw [hcw.1, HSM.out, HN.out]
      obtain ⟨⟨_, _, _, e3, _⟩, ef⟩ := hq'.head.cells
      have ef3 := ef 3
      have hpl : ∃ A c, q'.pv = .slice A N c := by
        obtain ⟨A, c, e, _, _⟩ := own_form2 hq'.pen
        exact ⟨A, c, by rw [e, hwl]⟩
      obtain ⟨pA, pc, hpv⟩ := hpl
      by_cases hlt2 : k < N
      · obtain ⟨g, c, x, y, e1, hx, hy, c0, c1, h6, hby, hxs, hsec⟩ := hq'.waitAt (k := k) (by omega)
        rw [e1, hwl] at e3
        have hx' : m.waits[k]? = some x := by rw [hcw.1, HSM.out] at hx; exact hx
        have HC := Lib.hid (rcome_wait hq' hlt' h6 hby hxs hsec)
        have HX := Lib.hid (show (spendM m).comes (m.waits.take (k + 1)) = ((spendM m).comes (m.waits.take k)).come x by rw [take_snoc hx', comes_snoc])
        unfold slV at c1
        have i0 : (0 : Int) ≤ (k : Int) := by omega
        have i1 : (k : Int) < (N : Int) := by omega
        clear hq' hlt' hcw hwl ef ef3 hpv e1 hx hy h6 hby hxs hsec hx'
        go_wp2_with fail
        refine HC.out.mono ?_
        rintro e w2 ⟨⟨v, rfl⟩, hr⟩
        obtain ⟨p2, hg2⟩ := HG.out.step hr
        have HG2 := Lib.hid hg2
        clear hr hg2
        go_wp2_with fail
        go_roundw
        case rel => exact ⟨k + 1, p2, by omega, by go_num, by rw [HX.out]; exact HG2⟩
        case measure => simp [intOf]; omega
      · obtain rfl : k = N := by omega
        have HQ' := Lib.hid hq'
        have HL' := Lib.hid hlt'
        have hld := hq'.lts.1
        rw [hpv] at e3
        have HT : Hid (m.waits.take k = m.waits) := Lib.hid (List.take_of_length_le (by rw [HN.out]; omega))
        clear hq' hlt' hcw hwl ef hpv
        go_wp2_with fail
        go_ret
        rw [HE.out]
        rw [HT.out] at HQ' HG
        have kk := mod_one wr d 3 (.slice none 0 0)
        refine ⟨rfl, p', ⟨⟨_, HQ'.out.clear kk ⟨row_set 3 HQ'.out.head.head _ rfl, HQ'.out.head.n1⟩ rfl rfl rfl rfl rfl⟩, fun i hi => by have := HL'.out i hi; simpa [World.setCell] using this⟩, HG.out.mod.trans kk (fun i hi => ?_), HG.out.nz⟩
        rw [hi]
        exact .inl (by rw [HQ.out.pd]; omega)
end
end Go.Proofs.YtlikhmhomkiadaaGreatDoor

namespace Go.Proofs.YtlikhmhomkiadaaGreatDoor
set_option maxRecDepth 100000
open Go Go.RowKit

/-- Where the last write of a sector stands among the first k; -1: nowhere. -/
def lastI (l : List (Nat × List Nat)) (s : Nat) : Nat → Int
  | 0 => -1
  | k + 1 => if (l.getD k (0, [])).1 = s ∧ k < l.length then (k : Int) else lastI l s k
theorem lastI_in (l : List (Nat × List Nat)) (s : Nat) : ∀ k, k ≤ l.length → (lastI l s k = -1 ∧ lastW (l.take k) s = none) ∨ ∃ i x, i < k ∧ lastI l s k = (i : Int) ∧ l[i]? = some x ∧ lastW (l.take k) s = some x.2 := by
  intro k
  induction k with
  | zero => intro _; exact .inl ⟨rfl, by simp [lastW]⟩
  | succ k ih =>
    intro hk
    obtain ⟨x, hx⟩ : ∃ x, l[k]? = some x := ⟨_, List.getElem?_eq_getElem (by omega)⟩
    have hgd : l.getD k (0, []) = x := by rw [List.getD_eq_getElem?_getD, hx]; rfl
    have hw : lastW (l.take (k + 1)) s = if x.1 = s then some x.2 else lastW (l.take k) s := by
      rw [take_snoc hx, lastW_snoc]
    unfold lastI
    rw [hgd, hw]
    by_cases h : x.1 = s
    · rw [if_pos ⟨h, by omega⟩, if_pos h]
      exact .inr ⟨k, x, by omega, rfl, hx, rfl⟩
    · rw [if_neg (fun hh => h hh.1), if_neg h]
      rcases ih (by omega) with h1 | ⟨i, y, h1, h2, h3, h4⟩
      · exact .inl h1
      · exact .inr ⟨i, y, by omega, h2, h3, h4⟩
section
variable {w : World} {d : Nat} {p : Nat → Nat} {m : DM}
set_option maxRecDepth 100000 in
set_option maxHeartbeats 2400000 in
theorem rread_out (h : RD w d p m) (s : Int) (hsw : s ≤ 9223372036854775807) (hfew : m.waits.length ≤ 1000000) : Calls Tryz.prog 126 #[.pointer (some ⟨d, 0, none⟩), .int .i64 s] w fun e w' => ∃ A n c, e = .returned (.tuple #[.slice A n c, .int .i64 (m.read s).2]) ∧ By w' A n c (m.read s).1 ∧ Ext w w' := by
  obtain ⟨⟨q, hq⟩, hlt⟩ := h
  obtain ⟨⟨d0, _, d2, d3, d4, d5, _⟩, _⟩ := hq.head.cells
  by_cases hu : m.up = false
  · have HE : Hid (m.read s = ([], 5)) := Lib.hid (by unfold DM.read; rw [if_pos hu])
    rcases up_cases hu with hd | ⟨hd, hdd⟩
    · rw [hd] at d4
      clear hu hd hq hlt
      go_enter Tryz.func126, Tryz.ntmps126
      go_wp2_with fail
      refine bodyPost_ret (v := .tuple #[.slice none 0 0, .int .i64 5]) (by simp [results, Tryz.results126, go_sem]) rfl ?_
      exact ⟨none, 0, 0, by rw [HE.out], by rw [HE.out]; exact By.nil_ _, Ext.refl _⟩
    · rw [hd] at d4
      rw [hdd] at d5
      clear hu hd hdd hq hlt
      go_enter Tryz.func126, Tryz.ntmps126
      go_wp2_with fail
      refine bodyPost_ret (v := .tuple #[.slice none 0 0, .int .i64 5]) (by simp [results, Tryz.results126, go_sem]) rfl ?_
      exact ⟨none, 0, 0, by rw [HE.out], by rw [HE.out]; exact By.nil_ _, Ext.refl _⟩
  have hu' : m.up = true := by simpa using hu
  obtain ⟨hd, hdd⟩ := up_both hu'
  rw [hd] at d4
  rw [hdd] at d5
  have hh := rhas_of hq.head s
  by_cases hs : m.has s = false
  · have HE : Hid (m.read s = ([], 2)) := Lib.hid (by unfold DM.read; rw [if_neg hu, if_pos hs])
    rw [hs] at hh
    have HH := Lib.hid hh
    clear hh hu hu' hd hdd hs hq hlt
    go_enter Tryz.func126, Tryz.ntmps126
    go_wp2_with fail
    refine HH.out.mono ?_
    rintro e w1 ⟨rfl, rfl⟩
    go_wp2_with fail
    refine bodyPost_ret (v := .tuple #[.slice none 0 0, .int .i64 2]) (by simp [results, Tryz.results126, go_sem]) rfl ?_
    exact ⟨none, 0, 0, by rw [HE.out], by rw [HE.out]; exact By.nil_ _, Ext.refl _⟩
  have hs' : m.has s = true := by simpa using hs
  rw [hs'] at hh
  have HH := Lib.hid hh
  obtain ⟨s0, s1⟩ := DM.has_iff.1 hs'
  obtain ⟨j, rfl⟩ := Int.eq_ofNat_of_zero_le s0
  have hj : j < m.size := by omega
  obtain ⟨hlc, _, _⟩ := hq.lostAt hj
  obtain ⟨x0, hx0, hxc, _, _⟩ := hq.restAt hj
  have hsec0 : Sect (m.rest.getD j []) := by
    have hil : j < m.rest.length := hj
    rw [List.getD_eq_getElem?_getD, List.getElem?_eq_getElem hil, Option.getD_some]
    exact hq.ok.rests _ (List.getElem_mem hil)
  have HB0 := Lib.hid ((hq.rb j x0 hx0).2.by hsec0.2)
  have hsz := hq.head.n1.2
  unfold slV at hxc
  have HE : Hid (m.read (j : Int) = match lastW m.waits j with | some b => (b, 0) | none => if m.lost.getD j false = true then ([], 50) else (m.rest.getD j [], 0)) := Lib.hid (by unfold DM.read; rw [if_neg hu, if_neg hs, Int.toNat_natCast]; rfl)
  have HQ := Lib.hid hq
  obtain ⟨N, hN⟩ : ∃ N, m.waits.length = N := ⟨_, rfl⟩
  have HN := Lib.hid hN
  rw [hN] at hfew
  have hpl : ∃ A c, q.pv = .slice A N c := by
    obtain ⟨A, c, e, _, _⟩ := own_form2 hq.pen
    exact ⟨A, c, by rw [e, hN]⟩
  obtain ⟨pA, pc, hpv⟩ := hpl
  have HPV := Lib.hid hpv
  rw [hpv] at d3
  have HLI := Lib.hid (lastI_in m.waits j)
  clear hh hu hu' hd hdd hs hs' hq hlt hx0 hsec0 hN hpv
  go_enter Tryz.func126, Tryz.ntmps126
  go_wp2_with fail
  refine HH.out.mono ?_
  rintro e w1 ⟨rfl, rfl⟩
  go_wp2_with fail
  go_loopw [6, 7] (fun f i wr => ∃ k : Nat, k ≤ N ∧ i = .int .i64 k ∧ f = .int .i64 (lastI m.waits j k) ∧ wr = w) (fun _ i _ => N - (intOf i).toNat)
  case atStart => exact ⟨0, Nat.zero_le _, rfl, rfl, rfl⟩
  case round =>
    obtain ⟨k, hk, rfl, rfl, rfl⟩ := hrel
    by_cases hlt2 : k < N
    · obtain ⟨g, c, x, y, e1, hx, hy, c0, c1, _⟩ := HQ.out.waitAt (k := k) (by rw [HN.out]; exact hlt2)
      have e2 := HPV.out.symm.trans e1
      injection e2 with e2 _ _
      subst e2
      have hgd : m.waits.getD k (0, []) = x := by rw [List.getD_eq_getElem?_getD, hx]; rfl
      have i0 : (0 : Int) ≤ (k : Int) := by omega
      have i1 : (k : Int) < (N : Int) := by omega
      by_cases hxs : x.1 = j
      · have HL : Hid (lastI m.waits j (k + 1) = (k : Int)) := Lib.hid (by unfold lastI; rw [hgd, if_pos ⟨hxs, by rw [HN.out]; exact hlt2⟩])
        have heq : ((x.1 : Int) == (j : Int)) = true := by rw [beq_iff_eq, hxs]
        clear e1 hx hy hgd hxs c1
        go_wp2_with fail
        go_roundw
        case rel => exact ⟨k + 1, by omega, by go_num, by rw [HL.out], by first | rfl | trivial⟩
        case measure => simp [intOf]; omega
      · have HL : Hid (lastI m.waits j (k + 1) = lastI m.waits j k) := Lib.hid (by show (if _ then _ else _) = _; rw [hgd, if_neg (fun h => hxs h.1)])
        have heq : ((x.1 : Int) == (j : Int)) = false := by
          rw [beq_eq_false_iff_ne]
          intro hc
          exact hxs (Int.ofNat.inj hc)
        clear e1 hx hy hgd hxs c1
        generalize lastI m.waits j k = li at *
        go_wp2_with fail
        go_roundw
        case rel => exact ⟨k + 1, by omega, by go_num, by rw [HL.out], by first | rfl | trivial⟩
        case measure => simp [intOf]; omega
    · obtain rfl : k = N := by omega
      rcases HLI.out k (by rw [HN.out]; omega) with ⟨h1, h2⟩ | ⟨i, x, hi, h1, hx, h2⟩
      · rw [h1]
        have hlw : lastW m.waits j = none := by rw [List.take_of_length_le (by rw [HN.out]; omega)] at h2; exact h2
        by_cases hlo : m.lost.getD j false = true
        · have HE2 : Hid (m.read (j : Int) = ([], 50)) := Lib.hid (by rw [HE.out, hlw]; simp only; rw [if_pos hlo])
          rw [hlo] at hlc
          clear h1 h2 hlw hlo HE
          go_wp2_with fail
          refine bodyPost_ret (v := .tuple #[.slice none 0 0, .int .i64 50]) (by simp [results, Tryz.results126, go_sem]) rfl ?_
          exact ⟨none, 0, 0, by rw [HE2.out], by rw [HE2.out]; exact By.nil_ _, Ext.refl _⟩
        · have HE2 : Hid (m.read (j : Int) = (m.rest.getD j [], 0)) := Lib.hid (by rw [HE.out, hlw]; simp only; rw [if_neg hlo])
          rw [show m.lost.getD j false = false by simpa using hlo] at hlc
          clear h1 h2 hlw hlo HE
          go_wp2_with fail
          refine (copy_by (some ⟨x0.1, 0, none⟩) (m.rest.getD j []) 64 x0.2 _ HB0.out (by omega)).mono ?_
          rintro e w2 ⟨A1, c1, rfl, hb, hx, _⟩
          have HB1 := Lib.hid hb
          have HX1 := Lib.hid hx
          clear hb hx
          go_wp2_with fail
          refine bodyPost_ret (v := .tuple #[.slice A1 64 c1, .int .i64 0]) (by simp [results, Tryz.results126, go_sem]) rfl ?_
          exact ⟨_, _, _, by rw [HE2.out], by rw [HE2.out]; exact HB1.out, HX1.out⟩
      · rw [h1]
        have hlw : lastW m.waits j = some x.2 := by rw [List.take_of_length_le (by rw [HN.out]; omega)] at h2; exact h2
        obtain ⟨g, c, x', y, e1, hx', hy, c0, c1, _, hby, _, hsec⟩ := HQ.out.waitAt (k := i) (by rw [HN.out]; exact hi)
        obtain rfl : x' = x := by rw [hx] at hx'; injection hx' with h; exact h.symm
        have e2 := HPV.out.symm.trans e1
        injection e2 with e2 _ _
        subst e2
        unfold slV at c1
        have HB2 := Lib.hid (hby.by hsec.2)
        have HE2 : Hid (m.read (j : Int) = (x'.2, 0)) := Lib.hid (by rw [HE.out, hlw])
        have i0 : (0 : Int) ≤ (i : Int) := by omega
        have i1 : (i : Int) < (k : Int) := by omega
        clear h1 h2 hlw HE e1 hx hx' hy hby hsec
        go_wp2_with fail
        refine (copy_by (some ⟨y.1, 0, none⟩) x'.2 64 y.2 _ HB2.out (by omega)).mono ?_
        rintro e w2 ⟨A1, c2, rfl, hb, hx, _⟩
        have HB1 := Lib.hid hb
        have HX1 := Lib.hid hx
        clear hb hx
        go_wp2_with fail
        refine bodyPost_ret (v := .tuple #[.slice A1 64 c2, .int .i64 0]) (by simp [results, Tryz.results126, go_sem]) rfl ?_
        exact ⟨_, _, _, by rw [HE2.out], by rw [HE2.out]; exact HB1.out, HX1.out⟩
end
end Go.Proofs.YtlikhmhomkiadaaGreatDoor

namespace Go.Proofs.YtlikhmhomkiadaaGreatDoor
set_option maxRecDepth 100000
open Go Go.RowKit

theorem sl_info : (Tryz.prog.info? 34).map (fun i => (i.zero, i.size, i.bytes)) = some (some (.slice none 0 0), 1, 24) := by kernel_rfl
theorem bo_info : (Tryz.prog.info? 4).map (fun i => (i.zero, i.size, i.bytes)) = some (some (.bool false), 1, 1) := by kernel_rfl
def z64row : Obj := .cells (madeCells #[.int .u8 0] 64) 5
theorem mk64 (w : World) : (Instr.makeSlice 34 (.int .i64 64) (.int .i64 64)).run Tryz.prog w = .ok (.slice (some ⟨w.heap.size, 0, none⟩) 64 64) (w.alloc z64row) := by
  obtain ⟨i0, hi, hz0, hz1, hz2⟩ := info_parts byte_info
  have := run_make w 34 5 i0 (.int .u8 0) Tryz.underlying34 hi hz0 .i64 .i64 64 64 (by omega) (Int.le_refl _) (by rw [hz2]; omega) (by omega)
  rw [hz1] at this
  exact this
theorem zbyt (w : World) : Byt (w.alloc z64row) (w.heap.size, 64) z64 := by
  have h := World.ownsRow_lit (size := 1) (e := 5) w (madeCells #[.int .u8 0] 64) 64 (base := 0) (Nat.zero_le _) (by unfold maxLen; omega) (by rw [size_madeCells])
  rw [toList_madeCells_one] at h
  have e : vb z64 = List.replicate 64 (Value.int .u8 0) := by unfold z64 vb; rw [List.map_replicate]; rfl
  unfold Byt
  rw [e]
  exact h

/-- The document's disk while it is being made: so many sectors at rest, meant, lost. -/
structure NewAt (w wr : World) (d : Nat) (p : Nat → Nat) (vr vm vl : Value) (RB MB : List (Nat × Nat)) (a b c : Nat) : Prop where
  hd : wr.heap[d]? = some (.cells #[vr, vm, vl, .slice none 0 0, .bool false, .bool false, .int .i64 (-1)] 95 (0, 0))
  rr : wr.ownsRow 0 34 1 vr a (RB.map slV)
  rm : wr.ownsRow 0 34 1 vm b (MB.map slV)
  rl : wr.ownsRow 0 4 1 vl c (List.replicate c (.bool false))
  rb : ∀ (j : Nat) (x : Nat × Nat), RB[j]? = some x → p x.1 = 7 + j ∧ Byt wr x z64
  mb : ∀ (j : Nat) (x : Nat × Nat), MB[j]? = some x → p x.1 = 6 ∧ Byt wr x z64
  pd : p d = 1
  pr : ∀ k, vr.ownBlock = some k → p k = 2
  pm : ∀ k, vm.ownBlock = some k → p k = 3
  pl : ∀ k, vl.ownBlock = some k → p k = 4
  lt : ∀ k, p k ≠ 0 → w.heap.size ≤ k ∧ k < wr.heap.size
  ext : Ext w wr
section
variable {w wr w2 w4 : World} {d bk cap : Nat} {p : Nat → Nat} {vr vm vl : Value} {RB MB : List (Nat × Nat)} {a b c : Nat}
theorem NewAt.ext_ (h : NewAt w wr d p vr vm vl RB MB a b c) (k : Ext wr w2) : NewAt w w2 d p vr vm vl RB MB a b c :=
  ⟨(k.block d (Array.getElem?_eq_some_iff.1 h.hd).1).trans h.hd, own_mod (F := fun _ => False) h.rr (Mod.of_ext k) (fun _ _ h => h), own_mod (F := fun _ => False) h.rm (Mod.of_ext k) (fun _ _ h => h), own_mod (F := fun _ => False) h.rl (Mod.of_ext k) (fun _ _ h => h), fun j x hx => ⟨(h.rb j x hx).1, (h.rb j x hx).2.mod (F := fun _ => False) (Mod.of_ext k) fun h => h⟩, fun j x hx => ⟨(h.mb j x hx).1, (h.mb j x hx).2.mod (F := fun _ => False) (Mod.of_ext k) fun h => h⟩,
    h.pd, h.pr, h.pm, h.pl, fun i hi => ⟨(h.lt i hi).1, Nat.lt_of_lt_of_le (h.lt i hi).2 k.size⟩, h.ext.trans k⟩
theorem NewAt.dlt (h : NewAt w wr d p vr vm vl RB MB a b c) : d < wr.heap.size := (Array.getElem?_eq_some_iff.1 h.hd).1
/-- A row of the disk's that grows by one: what stays. -/
theorem NewAt.grow (h : NewAt w wr d p vr vm vl RB MB a b c) {v0 : Value} {r : Nat} (h0 : ∀ k, v0.ownBlock = some k → p k = r) (hr : 2 ≤ r) (hg : wr.grownBy w4 v0.ownBlock) (hat : v0.ownBlock = some bk ∨ bk = wr.heap.size) (i : Nat) (v : Value) :
    Mod (fun k => k = d ∨ v0.ownBlock = some k) wr (w4.setCell ⟨d, i, none⟩ v) ∧ (∀ k, k < wr.heap.size → part p bk r k = p k) ∧ (∀ k r2, part p bk r k = r2 → r2 ≠ 1 → r2 ≠ r → k < wr.heap.size → ¬ (k = d ∨ v0.ownBlock = some k)) ∧ w4.heap[d]? = wr.heap[d]? ∧ bk ≠ d ∧ Ext w (w4.setCell ⟨d, i, none⟩ v) := by
  have hdp : ¬ v0.ownBlock = some d := fun e => by have := h0 d e; have := h.pd; omega
  have hpb : ∀ k, k < wr.heap.size → part p bk r k = p k := fun k hk => by
    unfold part
    split
    · rename_i e
      subst e
      rcases hat with e | e
      · exact (h0 _ e).symm
      · omega
    · rfl
  have k : Mod (fun k => k = d ∨ v0.ownBlock = some k) wr (w4.setCell ⟨d, i, none⟩ v) := ((Mod.refl _ wr).grown hg fun j hj => .inl (.inr hj)).setCell (p := ⟨d, i, none⟩) (.inl (.inl rfl)) _
  refine ⟨k, hpb, fun j r2 hj h1 h2 hjl e => ?_, hg.block d h.dlt (fun e => hdp e.symm), fun e => ?_, ?_⟩
  · rw [hpb j hjl] at hj
    rcases e with e | e
    · rw [e, h.pd] at hj; omega
    · rw [h0 j e] at hj; omega
  · rcases hat with e2 | e2
    · rw [e] at e2; exact hdp e2
    · have := h.dlt; omega
  · have := h.ext
    refine Mod.to_ext (F := fun k => k = d ∨ v0.ownBlock = some k) ((Mod.of_ext this).trans k fun j hj => .inl hj) fun j hj => ?_
    rcases hj with e | e
    · rw [e]; exact (h.lt d (by rw [h.pd]; omega)).1
    · exact (h.lt j (by rw [h0 j e]; omega)).1
theorem NewAt.partlt (h : NewAt w wr d p vr vm vl RB MB a b c) {r i : Nat} {v : Value} (hw4 : wr.heap.size ≤ w4.heap.size) (hbk : bk < w4.heap.size) (hwb : w.heap.size ≤ bk) : ∀ k, part p bk r k ≠ 0 → w.heap.size ≤ k ∧ k < (w4.setCell ⟨d, i, none⟩ v).heap.size := fun k hk => by
  have hs : (w4.setCell ⟨d, i, none⟩ v).heap.size = w4.heap.size := by simp [World.setCell]
  rw [hs]
  rcases part_nz hk with rfl | hk
  · exact ⟨hwb, hbk⟩
  · have := h.lt k hk
    omega
theorem NewAt.stepR {z : Nat} (h : NewAt w wr d p vr vm vl RB MB a b c) (hz : Byt wr (z, 64) z64) (hp : p z = 7 + a) (hown : w4.ownsRow 0 34 1 (.slice (some ⟨bk, 0, none⟩) (a + 1) cap) (a + 1) (RB.map slV ++ [slV (z, 64)])) (hg : wr.grownBy w4 vr.ownBlock) (hat : vr.ownBlock = some bk ∨ bk = wr.heap.size) (hbk : bk < w4.heap.size) :
    NewAt w (w4.setCell ⟨d, 0, none⟩ (.slice (some ⟨bk, 0, none⟩) (a + 1) cap)) d (part p bk 2) (.slice (some ⟨bk, 0, none⟩) (a + 1) cap) vm vl (RB ++ [(z, 64)]) MB (a + 1) b c := by
  obtain ⟨k, hpb, ne, hd4, hbd, hx⟩ := h.grow (w4 := w4) (bk := bk) h.pr (by omega) hg hat 0 (.slice (some ⟨bk, 0, none⟩) (a + 1) cap)
  have hwb : w.heap.size ≤ bk := hat.elim (fun e => (h.lt bk (by rw [h.pr bk e]; omega)).1) fun e => by have := h.ext.size; omega
  have hRB : RB.length = a := by have := h.rr.1; rw [List.length_map] at this; omega
  have pz := fun (i : Nat) (hi : i < wr.heap.size) => hpb i hi
  refine ⟨row_set 0 (hd4.trans h.hd) _ rfl, ?_, own_mod h.rm k (fun i hi => ne i 3 ((pz i (h.rm.lt i hi).2).trans (h.pm i hi)) (by omega) (by omega) (h.rm.lt i hi).2), own_mod h.rl k (fun i hi => ne i 4 ((pz i (h.rl.lt i hi).2).trans (h.pl i hi)) (by omega) (by omega) (h.rl.lt i hi).2), ?_, ?_, (pz d h.dlt).trans h.pd, fun i hi => ?_, fun i hi => (pz i (h.rm.lt i hi).2).trans (h.pm i hi), fun i hi => (pz i (h.rl.lt i hi).2).trans (h.pl i hi), h.partlt hg.size hbk hwb, hx⟩
  · rw [List.map_append]
    exact own_mod hown (mod_one w4 d 0 _) fun i hi => by
      injection hi with hi
      subst hi
      exact hbd
  · intro j x hj
    rcases get_snoc hj with ⟨_, hj⟩ | ⟨hj2, rfl⟩
    · have h1 := h.rb j x hj
      have h2 := (pz _ h1.2.lt).trans h1.1
      exact ⟨h2, h1.2.mod k (ne _ _ h2 (by omega) (by omega) h1.2.lt)⟩
    · have h2 := (pz _ hz.lt).trans hp
      rw [hj2, hRB]
      exact ⟨h2, hz.mod k (ne _ _ h2 (by omega) (by omega) hz.lt)⟩
  · intro j x hj
    have h1 := h.mb j x hj
    have h2 := (pz _ h1.2.lt).trans h1.1
    exact ⟨h2, h1.2.mod k (ne _ _ h2 (by omega) (by omega) h1.2.lt)⟩
  · injection hi with hi
    subst hi
    exact part_at _ _ _
theorem NewAt.stepM {z : Nat} (h : NewAt w wr d p vr vm vl RB MB a b c) (hz : Byt wr (z, 64) z64) (hp : p z = 6) (hown : w4.ownsRow 0 34 1 (.slice (some ⟨bk, 0, none⟩) (b + 1) cap) (b + 1) (MB.map slV ++ [slV (z, 64)])) (hg : wr.grownBy w4 vm.ownBlock) (hat : vm.ownBlock = some bk ∨ bk = wr.heap.size) (hbk : bk < w4.heap.size) :
    NewAt w (w4.setCell ⟨d, 1, none⟩ (.slice (some ⟨bk, 0, none⟩) (b + 1) cap)) d (part p bk 3) vr (.slice (some ⟨bk, 0, none⟩) (b + 1) cap) vl RB (MB ++ [(z, 64)]) a (b + 1) c := by
  obtain ⟨k, hpb, ne, hd4, hbd, hx⟩ := h.grow (w4 := w4) (bk := bk) h.pm (by omega) hg hat 1 (.slice (some ⟨bk, 0, none⟩) (b + 1) cap)
  have hwb : w.heap.size ≤ bk := hat.elim (fun e => (h.lt bk (by rw [h.pm bk e]; omega)).1) fun e => by have := h.ext.size; omega
  have pz := fun (i : Nat) (hi : i < wr.heap.size) => hpb i hi
  refine ⟨row_set 1 (hd4.trans h.hd) _ rfl, own_mod h.rr k (fun i hi => ne i 2 ((pz i (h.rr.lt i hi).2).trans (h.pr i hi)) (by omega) (by omega) (h.rr.lt i hi).2), ?_, own_mod h.rl k (fun i hi => ne i 4 ((pz i (h.rl.lt i hi).2).trans (h.pl i hi)) (by omega) (by omega) (h.rl.lt i hi).2), ?_, ?_, (pz d h.dlt).trans h.pd, fun i hi => (pz i (h.rr.lt i hi).2).trans (h.pr i hi), fun i hi => ?_, fun i hi => (pz i (h.rl.lt i hi).2).trans (h.pl i hi), h.partlt hg.size hbk hwb, hx⟩
  · rw [List.map_append]
    exact own_mod hown (mod_one w4 d 1 _) fun i hi => by
      injection hi with hi
      subst hi
      exact hbd
  · intro j x hj
    have h1 := h.rb j x hj
    have h2 := (pz _ h1.2.lt).trans h1.1
    exact ⟨h2, h1.2.mod k (ne _ _ h2 (by omega) (by omega) h1.2.lt)⟩
  · intro j x hj
    rcases get_snoc hj with ⟨_, hj⟩ | ⟨hj, rfl⟩
    · have h1 := h.mb j x hj
      have h2 := (pz _ h1.2.lt).trans h1.1
      exact ⟨h2, h1.2.mod k (ne _ _ h2 (by omega) (by omega) h1.2.lt)⟩
    · have h2 := (pz _ hz.lt).trans hp
      exact ⟨h2, hz.mod k (ne _ _ h2 (by omega) (by omega) hz.lt)⟩
  · injection hi with hi
    subst hi
    exact part_at _ _ _
theorem NewAt.stepL (h : NewAt w wr d p vr vm vl RB MB a b c) (hown : w4.ownsRow 0 4 1 (.slice (some ⟨bk, 0, none⟩) (c + 1) cap) (c + 1) (List.replicate c (.bool false) ++ [.bool false])) (hg : wr.grownBy w4 vl.ownBlock) (hat : vl.ownBlock = some bk ∨ bk = wr.heap.size) (hbk : bk < w4.heap.size) :
    NewAt w (w4.setCell ⟨d, 2, none⟩ (.slice (some ⟨bk, 0, none⟩) (c + 1) cap)) d (part p bk 4) vr vm (.slice (some ⟨bk, 0, none⟩) (c + 1) cap) RB MB a b (c + 1) := by
  obtain ⟨k, hpb, ne, hd4, hbd, hx⟩ := h.grow (w4 := w4) (bk := bk) h.pl (by omega) hg hat 2 (.slice (some ⟨bk, 0, none⟩) (c + 1) cap)
  have hwb : w.heap.size ≤ bk := hat.elim (fun e => (h.lt bk (by rw [h.pl bk e]; omega)).1) fun e => by have := h.ext.size; omega
  have pz := fun (i : Nat) (hi : i < wr.heap.size) => hpb i hi
  refine ⟨row_set 2 (hd4.trans h.hd) _ rfl, own_mod h.rr k (fun i hi => ne i 2 ((pz i (h.rr.lt i hi).2).trans (h.pr i hi)) (by omega) (by omega) (h.rr.lt i hi).2), own_mod h.rm k (fun i hi => ne i 3 ((pz i (h.rm.lt i hi).2).trans (h.pm i hi)) (by omega) (by omega) (h.rm.lt i hi).2), ?_, ?_, ?_, (pz d h.dlt).trans h.pd, fun i hi => (pz i (h.rr.lt i hi).2).trans (h.pr i hi), fun i hi => (pz i (h.rm.lt i hi).2).trans (h.pm i hi), fun i hi => ?_, h.partlt hg.size hbk hwb, hx⟩
  · rw [List.replicate_succ']
    exact own_mod hown (mod_one w4 d 2 _) fun i hi => by
      injection hi with hi
      subst hi
      exact hbd
  · intro j x hj
    have h1 := h.rb j x hj
    have h2 := (pz _ h1.2.lt).trans h1.1
    exact ⟨h2, h1.2.mod k (ne _ _ h2 (by omega) (by omega) h1.2.lt)⟩
  · intro j x hj
    have h1 := h.mb j x hj
    have h2 := (pz _ h1.2.lt).trans h1.1
    exact ⟨h2, h1.2.mod k (ne _ _ h2 (by omega) (by omega) h1.2.lt)⟩
  · injection hi with hi
    subst hi
    exact part_at _ _ _
/-- A new block's part may be anything. -/
theorem NewAt.recast (h : NewAt w wr d p vr vm vl RB MB a b c) {p' : Nat → Nat} (hp : ∀ k, k < wr.heap.size → p' k = p k) (hl : ∀ k, p' k ≠ 0 → p k ≠ 0 ∨ (wr.heap.size ≤ k ∧ k < w2.heap.size)) (hx : Ext wr w2) : NewAt w w2 d p' vr vm vl RB MB a b c := by
  have e := h.ext_ hx
  refine ⟨e.hd, e.rr, e.rm, e.rl, fun j x hj => ⟨(hp _ (h.rb j x hj).2.lt).trans (h.rb j x hj).1, (e.rb j x hj).2⟩, fun j x hj => ⟨(hp _ (h.mb j x hj).2.lt).trans (h.mb j x hj).1, (e.mb j x hj).2⟩, (hp _ h.dlt).trans h.pd, fun i hi => (hp _ (h.rr.lt i hi).2).trans (h.pr i hi), fun i hi => (hp _ (h.rm.lt i hi).2).trans (h.pm i hi), fun i hi => (hp _ (h.rl.lt i hi).2).trans (h.pl i hi), fun i hi => ?_, e.ext⟩
  rcases hl i hi with h1 | h1
  · exact e.lt i h1
  · have := h.ext.size
    omega
/-- The disk is made. -/
theorem NewAt.done (h : NewAt w wr d p vr vm vl RB MB a a a) (h1 : 1 ≤ a) (h2 : a ≤ 1024) : RD wr d p (DM.new a) := by
  have form := fun {e : TypeId} {v : Value} {xs : List Value} (ho : wr.ownsRow 0 e 1 v a xs) => show ∃ g c, v = .slice (some ⟨g, 0, none⟩) a c by
    rcases ho.2 with ⟨_, h0⟩ | ⟨g, cap, cur, hv, _⟩
    · omega
    · exact ⟨g, cap, hv⟩
  obtain ⟨gr, cr, e1⟩ := form h.rr
  obtain ⟨gm, cm, e2⟩ := form h.rm
  obtain ⟨gl, cl, e3⟩ := form h.rl
  subst e1; subst e2; subst e3
  have hs : (DM.new a).size = a := by simp [DM.new, DM.size]
  have zr : ∀ j, j < a → (DM.new a).rest.getD j [] = z64 ∧ (DM.new a).meant.getD j [] = z64 := fun j hj => by
    show (List.replicate a z64).getD j [] = z64 ∧ (List.replicate a z64).getD j [] = z64
    rw [List.getD_eq_getElem?_getD, List.getElem?_replicate, if_pos hj]
    exact ⟨rfl, rfl⟩
  have hRB : RB.length = a := by have := h.rr.1; rw [List.length_map] at this; omega
  have hMB : MB.length = a := by have := h.rm.1; rw [List.length_map] at this; omega
  refine ⟨⟨{ gr := gr, gm := gm, gl := gl, cr := cr, cm := cm, cl := cl, pv := .slice none 0 0, RB := RB, MB := MB, WB := [] }, DM.new_ok a, ⟨by rw [hs]; exact h.hd, by rw [hs]; exact ⟨h1, h2⟩⟩, by rw [hs]; exact h.rr, by rw [hs]; exact h.rm, ?_, fun j x hx => ?_, fun j x hx => ?_, rfl, fun j x hx => (by simp at hx), World.ownsRow_nil _ _ _ _, h.pd, h.pr gr rfl, h.pm gm rfl, h.pl gl rfl, fun k hk => (by cases hk), by show (-1 : Int) ≤ _; omega⟩, fun k hk => (h.lt k hk).2⟩
  · rw [hs]
    show wr.ownsRow 0 _ 1 _ a ((List.replicate a false).map .bool)
    rw [List.map_replicate]
    exact h.rl
  · have hj : j < a := by rw [← hRB]; exact (List.getElem?_eq_some_iff.1 hx).1
    rw [(zr j hj).1]
    exact h.rb j x hx
  · have hj : j < a := by rw [← hMB]; exact (List.getElem?_eq_some_iff.1 hx).1
    rw [(zr j hj).2]
    exact h.mb j x hx
end
end Go.Proofs.YtlikhmhomkiadaaGreatDoor
