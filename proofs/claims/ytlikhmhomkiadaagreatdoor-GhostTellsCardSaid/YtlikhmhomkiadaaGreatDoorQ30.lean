/-
  The document's disk: Flush, Crash.
  The document's disk: Crash.
  The document's disk: Flip.
-/
import Derived.Test.YtlikhmhomkiadaaGreatDoorQ02
import Derived.Test.YtlikhmhomkiadaaGreatDoorQ07
import Derived.Test.YtlikhmhomkiadaaGreatDoorQ10
import Derived.Test.YtlikhmhomkiadaaGreatDoorQ11
import Derived.Test.YtlikhmhomkiadaaGreatDoorQ27
import Derived.Test.YtlikhmhomkiadaaGreatDoorQ28
import Derived.StillTailTactics
namespace Go.Proofs.YtlikhmhomkiadaaGreatDoor
set_option maxRecDepth 100000
open Go Go.RowKit

theorem own_form2 {w : World} {base e size n : Nat} {v : Value} {xs : List Value} (h : w.ownsRow base e size v n xs) : ∃ A c, v = .slice A n c ∧ n ≤ c ∧ c ≤ 9223372036854775807 := by
  rcases h.2 with ⟨rfl, rfl⟩ | ⟨g, cap, cur, rfl, _, _, h1, h2, _⟩
  · exact ⟨none, 0, rfl, Nat.le_refl _, by omega⟩
  · exact ⟨_, _, rfl, h1, by unfold maxLen at h2; exact h2⟩
/-- What has come of a disk's writes, and what else holds. -/
structure RGo (w wr : World) (d : Nat) (p0 p : Nat → Nat) (m : DM) : Prop where
  rd : RD wr d p m
  mod : Mod (fun k => p0 k ≠ 0) w wr
  nz : ∀ k, p k ≠ 0 → p0 k ≠ 0 ∨ w.heap.size ≤ k
theorem RGo.step {w wr w2 : World} {d : Nat} {p0 p : Nat → Nat} {m m' : DM} (h : RGo w wr d p0 p m) (k : ROut d p wr m' w2) : ∃ p', RGo w w2 d p0 p' m' := by
  obtain ⟨p', h1, h2, h3⟩ := k
  refine ⟨p', h1, h.mod.trans h2 fun i hi => h.nz i hi, fun i hi => ?_⟩
  rcases h3 i hi with h4 | h4
  · exact h.nz i h4
  · exact .inr (Nat.le_trans h.mod.size h4)
theorem RGo.out {w wr : World} {d : Nat} {p0 p : Nat → Nat} {m : DM} (h : RGo w wr d p0 p m) : ROut d p0 w m wr := ⟨p, h.rd, h.mod, h.nz⟩
/-- No write waits any more; the head is other besides. -/
theorem RDq.clear {w w' : World} {d : Nat} {p : Nat → Nat} {q : Nm} {m m' : DM} (h : RDq w d p q m) (k : Mod (fun i => i = d) w w') (hd : RHead w' d q.gr q.cr q.gm q.cm q.gl q.cl (.slice none 0 0) m') (h1 : m'.rest = m.rest) (h2 : m'.meant = m.meant) (h3 : m'.lost = m.lost) (h4 : m'.waits = []) (h5 : m'.power = m.power) : RDq w' d p { q with pv := .slice none 0 0, WB := [] } m' := by
  have hs : m'.size = m.size := by unfold DM.size; rw [h1]
  have ne : ∀ i r, p i = r → r ≠ 1 → ¬ i = d := fun i r hi hr e => by rw [e, h.pd] at hi; omega
  have own := fun {e s n : Nat} {v : Value} {xs : List Value} (ho : w.ownsRow 0 e s v n xs) (r : Nat) (hr : r ≠ 1) (hv : ∀ i, v.ownBlock = some i → p i = r) => own_mod ho k fun i hi => ne i r (hv i hi) hr
  refine ⟨⟨by rw [h2, hs]; exact h.ok.meant, by rw [h3, hs]; exact h.ok.lost, by rw [h1]; exact h.ok.rests, by rw [h2]; exact h.ok.means, fun x hx => (by rw [h4] at hx; cases hx), by rw [h5]; exact h.ok.power⟩, hd, ?_, ?_, ?_, ?_, ?_, by rw [h4]; rfl, fun j x hx => (by simp at hx), by rw [h4]; exact World.ownsRow_nil _ _ _ _, h.pd, h.pr, h.pm, h.pl, fun i hi => (by cases hi), by rw [h5]; exact h.few⟩
  · rw [hs]; exact own h.rr 2 (by omega) fun i hi => by injection hi with hi; subst hi; exact h.pr
  · rw [hs]; exact own h.rm 3 (by omega) fun i hi => by injection hi with hi; subst hi; exact h.pm
  · rw [hs, h3]; exact own h.rl 4 (by omega) fun i hi => by injection hi with hi; subst hi; exact h.pl
  · intro i y hy
    rw [h1]
    exact ⟨(h.rb i y hy).1, (h.rb i y hy).2.mod k (ne _ _ (h.rb i y hy).1 (by omega))⟩
  · intro i y hy
    rw [h2]
    exact ⟨(h.mb i y hy).1, (h.mb i y hy).2.mod k (ne _ _ (h.mb i y hy).1 (by omega))⟩
/-- A pending write, about to come through. -/
theorem rcome_wait {w : World} {d : Nat} {p : Nat → Nat} {q : Nm} {m : DM} (h : RDq w d p q m) (hlt : ∀ k, p k ≠ 0 → k < w.heap.size) {y : Nat × Nat} {x : Nat × List Nat} (hp : p y.1 = 6) (hy : Byt w y x.2) (hx : x.1 < m.size) (hs : Sect x.2) :
    Calls Tryz.prog 138 #[.pointer (some ⟨d, 0, none⟩), .agg #[.int .i64 (x.1 : Int), .slice (some ⟨y.1, 0, none⟩) 64 y.2]] w fun e w' => (∃ v, e = .returned v) ∧ ROut d p w (m.come x) w' :=
  rcome_of ⟨⟨q, h⟩, hlt⟩ x.1 hx (some ⟨y.1, 0, none⟩) y.2 x.2 (hy.by hs.2) hs fun a ha hh => by
    injection ha with ha
    subst ha
    have hp' : p y.1 = 6 := hp
    rcases hh with hh | hh | hh <;> (have hh' : p y.1 = _ := hh; omega)
section
variable {w : World} {d : Nat} {p : Nat → Nat} {m : DM}
set_option maxRecDepth 100000 in
set_option maxHeartbeats 2400000 in
theorem rflush_out (h : RD w d p m) (hfew : m.waits.length ≤ 1000000) : Calls Tryz.prog 102 #[.pointer (some ⟨d, 0, none⟩)] w fun e w' => e = .returned (.int .i64 m.flush.1) ∧ ROut d p w m.flush.2 w' := by
  obtain ⟨⟨q, hq⟩, hlt⟩ := h
  obtain ⟨⟨_, _, _, d3, d4, d5, _⟩, _⟩ := hq.head.cells
  have HQ := Lib.hid hq
  have HLT := Lib.hid hlt
  by_cases hu : m.up = false
  · have HE : Hid (m.flush = (5, m)) := Lib.hid (by unfold DM.flush; rw [if_pos hu])
    rcases up_cases hu with hd | ⟨hd, hdd⟩
    · rw [hd] at d4
      clear hu hd hq hlt
      go_enter Tryz.func102, Tryz.ntmps102
      go_wp2_with fail
      go_ret
      rw [HE.out]
      exact ⟨rfl, p, ⟨⟨q, HQ.out⟩, HLT.out⟩, Mod.refl _ _, fun k hk => .inl hk⟩
    · rw [hd] at d4
      rw [hdd] at d5
      clear hu hd hdd hq hlt
      go_enter Tryz.func102, Tryz.ntmps102
      go_wp2_with fail
      go_ret
      rw [HE.out]
      exact ⟨rfl, p, ⟨⟨q, HQ.out⟩, HLT.out⟩, Mod.refl _ _, fun k hk => .inl hk⟩
  have hu' : m.up = true := by simpa using hu
  obtain ⟨hd, hdd⟩ := up_both hu'
  rw [hd] at d4
  rw [hdd] at d5
  have HSP := Lib.hid (rspend_out hq)
  by_cases hp0 : m.power = 0
  · have HE : Hid (m.flush = (5, spendM m)) := Lib.hid (by unfold DM.flush spendM; rw [if_neg hu, if_pos hp0, if_pos hp0])
    have HZ : Hid (decide (m.power ≠ 0) = false) := Lib.hid (by simp [hp0])
    clear hu hu' hd hdd hq hlt hp0
    go_enter Tryz.func102, Tryz.ntmps102
    go_wp2_with fail
    refine HSP.out.mono ?_
    rw [HZ.out]
    rintro e w1 ⟨rfl, hq1, hm1⟩
    have HQ1 := Lib.hid hq1
    have HM1 := Lib.hid hm1
    clear hq1 hm1
    go_wp2_with fail
    go_ret
    rw [HE.out]
    exact ⟨rfl, p, ⟨⟨q, HQ1.out⟩, fun i hi => Nat.lt_of_lt_of_le (HLT.out i hi) HM1.out.size⟩, HM1.out.mono fun i hi => by rw [hi, HQ.out.pd]; omega, fun k hk => .inl hk⟩
  · have HE : Hid (m.flush = (0, { (spendM m).comes m.waits with waits := [] })) := Lib.hid (by unfold DM.flush spendM; rw [if_neg hu, if_neg hp0, if_neg hp0])
    have HZ : Hid (decide (m.power ≠ 0) = true) := Lib.hid (by simp [hp0])
    have hsm : (spendM m).waits = m.waits := by unfold spendM; rw [if_neg hp0]
    have HSM := Lib.hid hsm
    clear hu hu' hd hdd hq hlt hp0 hsm
    go_enter Tryz.func102, Tryz.ntmps102
    go_wp2_with fail
    refine HSP.out.mono ?_
    rw [HZ.out]
    rintro e w1 ⟨rfl, hq1, hm1⟩
    have HG1 : Hid (RGo w w1 d p p (spendM m)) := Lib.hid ⟨⟨⟨q, hq1⟩, fun i hi => Nat.lt_of_lt_of_le (HLT.out i hi) hm1.size⟩, hm1.mono fun i hi => by rw [hi, HQ.out.pd]; omega, fun k hk => .inl hk⟩
    clear hq1 hm1 d3 d4 d5
    obtain ⟨N, hN⟩ : ∃ N, m.waits.length = N := ⟨_, rfl⟩
    have HN := Lib.hid hN
    rw [hN] at hfew
    clear hN
    go_wp2_with fail
    go_loopw [3] (fun i wr => ∃ (k : Nat) (p' : Nat → Nat), k ≤ N ∧ i = .int .i64 k ∧ Hid (RGo w wr d p p' ((spendM m).comes (m.waits.take k)))) (fun i _ => N - (intOf i).toNat)
    case atStart => exact ⟨0, p, Nat.zero_le _, rfl, HG1⟩
    case round =>
      obtain ⟨k, p', hk, rfl, HG⟩ := hrel
      obtain ⟨⟨q', hq'⟩, hlt'⟩ := HG.out.rd
      have hcw := DM.comes_waits (m.waits.take k) (spendM m)
      have hwl : ((spendM m).comes (m.waits.take k)).waits.length = N := by rw [hcw.1, HSM.out, HN.out]
      obtain ⟨⟨_, _, _, e3, _⟩, ef⟩ := hq'.head.cells
      have ef3 := ef 3
      have hpl : ∃ A c, q'.pv = .slice A N c := by
        obtain ⟨A, c, e, _, _⟩ := own_form2 hq'.pen
        exact ⟨A, c, by rw [e, hwl]⟩
      obtain ⟨pA, pc, hpv⟩ := hpl
      by_cases hlt2 : k < N
      · obtain ⟨g, c, x, y, e1, hx, hy, c0, c1, h6, hby, hxs, hsec⟩ := hq'.waitAt (k := k) (by omega)
        rw [e1, hwl] at e3
        have hx' : m.waits[k]? = some x := by rw [hcw.1, HSM.out] at hx; exact hx
        have HC := Lib.hid (rcome_wait hq' hlt' h6 hby hxs hsec)
        have HX := Lib.hid (show (spendM m).comes (m.waits.take (k + 1)) = ((spendM m).comes (m.waits.take k)).come x by rw [take_snoc hx', comes_snoc])
        unfold slV at c1
        have i0 : (0 : Int) ≤ (k : Int) := by omega
        have i1 : (k : Int) < (N : Int) := by omega
        clear hq' hlt' hcw hwl ef ef3 hpv e1 hx hy h6 hby hxs hsec hx'
        go_wp2_with fail
        refine HC.out.mono ?_
        rintro e w2 ⟨⟨v, rfl⟩, hr⟩
        obtain ⟨p2, hg2⟩ := HG.out.step hr
        have HG2 := Lib.hid hg2
        clear hr hg2
        go_wp2_with fail
        go_roundw
        case rel => exact ⟨k + 1, p2, by omega, by go_num, by rw [HX.out]; exact HG2⟩
        case measure => simp [intOf]; omega
      · obtain rfl : k = N := by omega
        have HQ' := Lib.hid hq'
        have HL' := Lib.hid hlt'
        have hld := hq'.lts.1
        rw [hpv] at e3
        have HT : Hid (m.waits.take k = m.waits) := Lib.hid (List.take_of_length_le (by rw [HN.out]; omega))
        clear hq' hlt' hcw hwl ef hpv
        go_wp2_with fail
        go_ret
        rw [HE.out]
        rw [HT.out] at HQ' HG
        have kk := mod_one wr d 3 (.slice none 0 0)
        refine ⟨rfl, p', ⟨⟨_, HQ'.out.clear kk ⟨row_set 3 HQ'.out.head.head _ rfl, HQ'.out.head.n1⟩ rfl rfl rfl rfl rfl⟩, fun i hi => by have := HL'.out i hi; simpa [World.setCell] using this⟩, HG.out.mod.trans kk (fun i hi => ?_), HG.out.nz⟩
        rw [hi]
        exact .inl (by rw [HQ.out.pd]; omega)
end
end Go.Proofs.YtlikhmhomkiadaaGreatDoor

namespace Go.Proofs.YtlikhmhomkiadaaGreatDoor
set_option maxRecDepth 100000
open Go Go.RowKit

theorem keepAt {w wr : World} {A : Option Addr} {n c : Nat} {l : List Bool} {F : Nat → Prop} (h : Vs w w.heap.size A n c (l.map .bool)) (k : Mod F w wr) (ho : 0 < n → Off F A) {i : Nat} (hi : i < n) : ∃ g o b, A = some ⟨g, o, none⟩ ∧ l[i]? = some b ∧ wr.cell? ⟨g, o + i, none⟩ = some (.bool b) := by
  obtain ⟨g, o, e, hg, hc⟩ := h.rd (by omega)
  have hl : i < l.length := by have := h.len; rw [List.length_map] at this; omega
  refine ⟨g, o, l[i], e, List.getElem?_eq_getElem hl, ?_⟩
  rw [World.cell?_of_block (a := ⟨g, o + i, none⟩) (k.block g hg (ho (by omega) _ e))]
  exact hc i _ (by rw [List.getElem?_map, List.getElem?_eq_getElem hl]; rfl)
theorem kept_over {l : List (Nat × List Nat)} {kl : List Bool} : ∀ {k : Nat}, kl.length ≤ k → k ≤ l.length → kept (l.take k) kl = kept l kl := by
  intro k hk hl
  have key : ∀ j, k + j ≤ l.length → kept (l.take (k + j)) kl = kept (l.take k) kl := fun j => by
    induction j with
    | zero => intro _; rfl
    | succ j ih =>
      intro hj
      obtain ⟨x, hx⟩ : ∃ x, l[k + j]? = some x := ⟨_, List.getElem?_eq_getElem (by omega)⟩
      rw [show k + (j + 1) = (k + j) + 1 by omega, kept_step hx, if_neg (by rw [List.getElem?_eq_none (by omega)]; simp), ih (by omega)]
  have := key (l.length - k) (by omega)
  rw [show k + (l.length - k) = l.length by omega, List.take_length] at this
  exact this.symm
section
variable {w : World} {d : Nat} {p : Nat → Nat} {m : DM}
set_option maxRecDepth 100000 in
set_option maxHeartbeats 2400000 in
theorem rcrash_out (h : RD w d p m) (_hfew : m.waits.length ≤ 1000000) (kA : Option Addr) (kn kc : Nat) (kl : List Bool) (hk : Vs w w.heap.size kA kn kc (kl.map .bool)) (ho : 0 < kn → Off (fun i => p i ≠ 0) kA) : Calls Tryz.prog 103 #[.pointer (some ⟨d, 0, none⟩), .slice kA kn kc] w fun e w' => e = .returned (.int .i64 (m.crash kl).1) ∧ ROut d p w (m.crash kl).2 w' := by
  obtain ⟨⟨q, hq⟩, hlt⟩ := h
  obtain ⟨⟨_, _, _, d3, d4, d5, _⟩, _⟩ := hq.head.cells
  have HQ := Lib.hid hq
  have HLT := Lib.hid hlt
  have hkl : kl.length = kn := by have := hk.len; rw [List.length_map] at this; exact this
  have hkc := hk.cap
  have hkm := hk.most
  by_cases hd : m.down = true
  · have HE : Hid (m.crash kl = (5, m)) := Lib.hid (by unfold DM.crash; rw [if_pos hd])
    rw [hd] at d4
    clear hd hq hlt
    go_enter Tryz.func103, Tryz.ntmps103
    go_wp2_with fail
    go_ret
    rw [HE.out]
    exact ⟨rfl, p, ⟨⟨q, HQ.out⟩, HLT.out⟩, Mod.refl _ _, fun k hk => .inl hk⟩
  · have HE : Hid (m.crash kl = (0, { m.comes (kept m.waits kl) with waits := [], down := true })) := Lib.hid (by unfold DM.crash; rw [if_neg hd])
    have hd' : m.down = false := by simpa using hd
    rw [hd'] at d4
    have HG1 : Hid (RGo w w d p p m) := Lib.hid ⟨⟨⟨q, hq⟩, hlt⟩, Mod.refl _ _, fun k hk => .inl hk⟩
    have HK := Lib.hid hk
    have HO := Lib.hid ho
    have HKL := Lib.hid hkl
    obtain ⟨N, hN⟩ : ∃ N, m.waits.length = N := ⟨_, rfl⟩
    have HN := Lib.hid hN
    rw [hN] at _hfew
    have HDN := Lib.hid hd'
    clear hd hd' hq hlt hN hk ho hkl d3
    go_enter Tryz.func103, Tryz.ntmps103
    go_wp2_with fail
    go_loopw [5] (fun i wr => ∃ (k : Nat) (p' : Nat → Nat), k ≤ N ∧ k ≤ kn ∧ i = .int .i64 k ∧ Hid (RGo w wr d p p' (m.comes (kept (m.waits.take k) kl)))) (fun i _ => N - (intOf i).toNat)
    case atStart => exact ⟨0, p, Nat.zero_le _, Nat.zero_le _, rfl, Lib.hid (by rw [show kept (m.waits.take 0) kl = [] by simp [kept]]; exact HG1.out)⟩
    case round =>
      obtain ⟨k, p', hk, hkn, rfl, HG⟩ := hrel
      obtain ⟨⟨q', hq'⟩, hlt'⟩ := HG.out.rd
      have hcw := DM.comes_waits (kept (m.waits.take k) kl) m
      have hwl : (m.comes (kept (m.waits.take k) kl)).waits.length = N := by rw [hcw.1, HN.out]
      obtain ⟨⟨_, _, _, e3, e4, _⟩, ef⟩ := hq'.head.cells
      have ef3 := ef 3
      have ef4 := ef 4
      have hpl : ∃ A c, q'.pv = .slice A N c := by
        obtain ⟨A, c, e, _, _⟩ := own_form2 hq'.pen
        exact ⟨A, c, by rw [e, hwl]⟩
      obtain ⟨pA, pc, hpv⟩ := hpl
      by_cases hlt2 : k < N ∧ k < kn
      · obtain ⟨hN2, hK2⟩ := hlt2
        obtain ⟨g, c, x, y, e1, hx, hy, c0, c1, h6, hby, hxs, hsec⟩ := hq'.waitAt (k := k) (by omega)
        rw [e1, hwl] at e3
        have hx' : m.waits[k]? = some x := by rw [hcw.1] at hx; exact hx
        obtain ⟨g2, o2, b, rfl, hb, hbc⟩ := keepAt HK.out HG.out.mod HO.out hK2
        have hst := kept_step hx' kl
        unfold slV at c1
        have i0 : (0 : Int) ≤ (k : Int) := by omega
        have i1 : (k : Int) < (N : Int) := by omega
        have i2 : (k : Int) < (kn : Int) := by omega
        cases b with
        | true =>
          have HC := Lib.hid (rcome_wait hq' hlt' h6 hby hxs hsec)
          have HX := Lib.hid (show m.comes (kept (m.waits.take (k + 1)) kl) = (m.comes (kept (m.waits.take k) kl)).come x by rw [hst, if_pos hb, comes_snoc])
          clear hq' hlt' hcw hwl ef ef3 ef4 hpv e1 hx hy h6 hby hxs hsec hx' hb hst e4
          go_wp2_with fail
          refine HC.out.mono ?_
          rintro e w2 ⟨⟨v, rfl⟩, hr⟩
          obtain ⟨p2, hg2⟩ := HG.out.step hr
          have HG2 := Lib.hid hg2
          clear hr hg2
          go_wp2_with fail
          go_roundw
          case rel => exact ⟨k + 1, p2, by omega, by omega, by go_num, by rw [HX.out]; exact HG2⟩
          case measure => simp [intOf]; omega
        | false =>
          have HX := Lib.hid (show m.comes (kept (m.waits.take (k + 1)) kl) = m.comes (kept (m.waits.take k) kl) by rw [hst, if_neg (by rw [hb]; simp)])
          clear hq' hlt' hcw hwl ef ef3 ef4 hpv e1 hx hy h6 hby hxs hsec hx' hb hst e4
          go_wp2_with fail
          go_roundw
          case rel => exact ⟨k + 1, p', by omega, by omega, by go_num, by rw [HX.out]; exact HG⟩
          case measure => simp [intOf]; omega
      · have HT : Hid (kept (m.waits.take k) kl = kept m.waits kl) := Lib.hid (by
          by_cases hkN : k < N
          · exact kept_over (by rw [HKL.out]; omega) (by rw [HN.out]; omega)
          · rw [List.take_of_length_le (by rw [HN.out]; omega)])
        have HQ' := Lib.hid hq'
        have HL' := Lib.hid hlt'
        have hld := hq'.lts.1
        rw [hpv] at e3
        have e4' : wr.cell? ⟨d, 4, none⟩ = some (.bool false) := by rw [e4, hcw.2.1, HDN.out]
        have fin : ROut d p w { m.comes (kept m.waits kl) with waits := [], down := true } ((wr.setCell ⟨d, 3, none⟩ (.slice none 0 0)).setCell ⟨d, 4, none⟩ (.bool true)) := by
          have hq2 := HQ'.out
          have hg2 := HG.out
          rw [HT.out] at hq2 hg2
          have kk : Mod (fun i => i = d) wr ((wr.setCell ⟨d, 3, none⟩ (.slice none 0 0)).setCell ⟨d, 4, none⟩ (.bool true)) := (mod_one wr d 3 (.slice none 0 0)).setCell (p := ⟨d, 4, none⟩) (.inl rfl) _
          refine ⟨p', ⟨⟨_, hq2.clear kk ⟨row_set 4 (row_set 3 hq2.head.head _ rfl) _ rfl, hq2.head.n1⟩ rfl rfl rfl rfl rfl⟩, fun i hi => by have := HL'.out i hi; simpa [World.setCell] using this⟩, hg2.mod.trans kk (fun i hi => ?_), hg2.nz⟩
          rw [hi]
          exact .inl (by rw [HQ.out.pd]; omega)
        have HF := Lib.hid fin
        clear hq' hlt' hcw hwl ef hpv e4 fin
        by_cases hkN : k < N
        · have hkn2 : ¬ k < kn := fun h => hlt2 ⟨hkN, h⟩
          clear hlt2
          go_wp2_with fail
          go_ret
          rw [HE.out]
          exact ⟨rfl, HF.out⟩
        · clear hlt2
          go_wp2_with fail
          go_ret
          rw [HE.out]
          exact ⟨rfl, HF.out⟩
end
end Go.Proofs.YtlikhmhomkiadaaGreatDoor

namespace Go.Proofs.YtlikhmhomkiadaaGreatDoor
set_option maxRecDepth 100000
open Go Go.RowKit

/-- A byte at rest is other. -/
theorem RDq.setByte {w : World} {d : Nat} {p : Nat → Nat} {q : Nm} {m : DM} (h : RDq w d p q m) {j k : Nat} {x : Nat × Nat} (hj : j < m.size) (hx : q.RB[j]? = some x) {b : List Nat} {v : Nat} (hb : Sect b) (he : (vb (m.rest.getD j [])).set k (.int .u8 (v : Int)) = vb b) : RDq (w.setCell ⟨x.1, k, none⟩ (.int .u8 (v : Int))) d p q { m with rest := m.rest.set j b } := by
  have hp := (h.rb j x hx).1
  have kk := mod_one w x.1 k (.int .u8 (v : Int))
  have hs : ({ m with rest := m.rest.set j b } : DM).size = m.size := by simp [DM.size]
  have ne : ∀ i r, p i = r → r ≠ 7 + j → ¬ i = x.1 := fun i r hi hr e => by rw [e, hp] at hi; omega
  have own := fun {e s n : Nat} {v : Value} {xs : List Value} (ho : w.ownsRow 0 e s v n xs) (r : Nat) (hr : r ≠ 7 + j) (hv : ∀ i, v.ownBlock = some i → p i = r) => own_mod ho kk fun i hi => ne i r (hv i hi) hr
  refine ⟨⟨by rw [hs]; exact h.ok.meant, by rw [hs]; exact h.ok.lost, mem_set_of h.ok.rests hb, h.ok.means, by rw [hs]; exact h.ok.waits, h.ok.power⟩, ?_, ?_, ?_, ?_, ?_, ?_, h.wl, ?_, own h.pen 5 (by omega) h.pp, h.pd, h.pr, h.pm, h.pl, h.pp, h.few⟩
  · have := h.head.mod kk (ne d 1 h.pd (by omega))
    exact ⟨by rw [hs]; exact this.head, by rw [hs]; exact this.n1⟩
  · rw [hs]; exact own h.rr 2 (by omega) fun i hi => by injection hi with hi; subst hi; exact h.pr
  · rw [hs]; exact own h.rm 3 (by omega) fun i hi => by injection hi with hi; subst hi; exact h.pm
  · rw [hs]; exact own h.rl 4 (by omega) fun i hi => by injection hi with hi; subst hi; exact h.pl
  · intro i y hy
    refine ⟨(h.rb i y hy).1, ?_⟩
    show Byt _ _ ((m.rest.set j b).getD i [])
    rw [getD_setE (by exact hj)]
    by_cases hij : j = i
    · subst hij
      rw [hx] at hy
      injection hy with hy
      subst hy
      rw [if_pos rfl]
      have hst := (World.ownsRow.stored (g := x.1) (cap := x.2) (h.rb j x hx).2 k (.int .u8 (v : Int))).1
      rw [he] at hst
      exact hst
    · rw [if_neg hij]
      exact (h.rb i y hy).2.mod kk (ne _ _ (h.rb i y hy).1 (by omega))
  · intro i y hy
    exact ⟨(h.mb i y hy).1, (h.mb i y hy).2.mod kk (ne _ _ (h.mb i y hy).1 (by omega))⟩
  · intro i y hy
    exact ⟨(h.wb i y hy).1, (h.wb i y hy).2.mod kk (ne _ _ (h.wb i y hy).1 (by omega))⟩

set_option maxRecDepth 100000 in
set_option maxHeartbeats 1600000 in
theorem rflip_out {w : World} {d : Nat} {p : Nat → Nat} {m : DM} (h : RD w d p m) (s bit : Int) (hbit : bit ≤ 9223372036854775807) : Calls Tryz.prog 105 #[.pointer (some ⟨d, 0, none⟩), .int .i64 s, .int .i64 bit] w fun e w' => e = .returned (.int .i64 (m.flip s bit).1) ∧ ROut d p w (m.flip s bit).2 w' := by
  obtain ⟨⟨q, hq⟩, hlt⟩ := h
  have hh := rhas_of hq.head s
  have HQ := Lib.hid hq
  have HLT := Lib.hid hlt
  by_cases hs : m.has s = false
  · rw [hs] at hh
    have HH := Lib.hid hh
    have HE : Hid (m.flip s bit = (2, m)) := Lib.hid (by unfold DM.flip; rw [if_pos (.inl hs)])
    clear hh hs hq hlt
    go_enter Tryz.func105, Tryz.ntmps105
    go_wp2_with fail
    refine HH.out.mono ?_
    rintro e w1 ⟨rfl, rfl⟩
    go_wp2_with fail
    go_ret
    rw [HE.out]
    exact ⟨rfl, p, ⟨⟨q, HQ.out⟩, HLT.out⟩, Mod.refl _ _, fun k hk => .inl hk⟩
  have hs' : m.has s = true := by simpa using hs
  rw [hs'] at hh
  have HH := Lib.hid hh
  by_cases hb : bit < 0
  · have HE : Hid (m.flip s bit = (2, m)) := Lib.hid (by unfold DM.flip; rw [if_pos (.inr hb)])
    clear hh hs hs' hq hlt
    go_enter Tryz.func105, Tryz.ntmps105
    go_wp2_with fail
    refine HH.out.mono ?_
    rintro e w1 ⟨rfl, rfl⟩
    go_wp2_with fail
    go_ret
    rw [HE.out]
    exact ⟨rfl, p, ⟨⟨q, HQ.out⟩, HLT.out⟩, Mod.refl _ _, fun k hk => .inl hk⟩
  obtain ⟨s0, s1⟩ := DM.has_iff.1 hs'
  obtain ⟨j, rfl⟩ := Int.eq_ofNat_of_zero_le s0
  obtain ⟨bt, rfl⟩ := Int.eq_ofNat_of_zero_le (show 0 ≤ bit by omega)
  have hj : j < m.size := by omega
  obtain ⟨pk, hpk⟩ : ∃ pk, bt % 512 = pk := ⟨_, rfl⟩
  have HE : Hid (m.flip (j : Int) (bt : Int) = (0, { m with rest := m.rest.set j (flipB (m.rest.getD j []) pk) })) := Lib.hid (by unfold DM.flip; rw [if_neg (fun h => h.elim hs hb), Int.toNat_natCast, Int.toNat_natCast, hpk])
  have hp5 : pk < 512 := by omega
  have hmd : (bt : Int).tmod 512 = (pk : Int) := by rw [Int.tmod_eq_emod_of_nonneg (by omega)]; omega
  obtain ⟨x, hx, hxc, _, _⟩ := hq.restAt hj
  have hsec : Sect (m.rest.getD j []) := by
    have hil : j < m.rest.length := hj
    rw [List.getD_eq_getElem?_getD, List.getElem?_eq_getElem hil, Option.getD_some]
    exact hq.ok.rests _ (List.getElem_mem hil)
  obtain ⟨kq, hqe⟩ : ∃ q, pk / 8 = q := ⟨_, rfl⟩
  obtain ⟨kr, hre⟩ : ∃ r, pk % 8 = r := ⟨_, rfl⟩
  obtain ⟨y, hy⟩ : ∃ y, (m.rest.getD j [])[kq]? = some y := ⟨_, List.getElem?_eq_getElem (by rw [hsec.1]; omega)⟩
  have hy2 : y < 256 := hsec.2 y (List.mem_of_getElem? hy)
  have hm8 : kr < 8 := by omega
  have hx8 := turn_u8 y kr hy2 hm8
  have HS : Hid ((vb (m.rest.getD j [])).set kq (.int .u8 ((y ^^^ 2 ^ kr : Nat) : Int)) = vb (flipB (m.rest.getD j []) pk)) := Lib.hid (by
    rw [flipB_set (by rw [hqe]; exact hy), ← vb_set, hqe, hre])
  have HSC : Hid (Sect (flipB (m.rest.getD j []) pk)) := Lib.hid ⟨by rw [flipB_length]; exact hsec.1, flipB_lt _ hsec.2⟩
  have hqw : IntKind.i64.wrap ((pk : Int) / 8) = (kq : Int) := by rw [IntWalk.i64_in _ (by omega)]; omega
  have hrm : (pk : Int).tmod 8 = (kr : Int) := by rw [Int.tmod_eq_emod_of_nonneg (by omega)]; omega
  have hb0 : (0 : Int) ≤ (kq : Int) := by omega
  have hb1 : (kq : Int) < 64 := by omega
  have hm0 : (0 : Int) ≤ (kr : Int) := by omega
  have hwr : IntKind.u64.wrap (kr : Int) = (kr : Int) := by rw [IntKind.wrap_u64]; omega
  have hb := (hq.rb j x hx).2
  have hbc : w.cell? ⟨x.1, kq, none⟩ = some (.int .u8 (y : Int)) := by
    rw [World.ownsRow.cellAt (g := x.1) (cap := x.2) hb kq (by omega), vb_get, hy]
    rfl
  have hbf : w.frozen? ⟨x.1, kq, none⟩ = false := World.ownsRow.frozenAt (g := x.1) (cap := x.2) hb kq
  have hbl := hb.lt
  obtain ⟨⟨d0, _⟩, _⟩ := hq.head.cells
  have hsz := hq.head.n1.2
  have hpx := (hq.rb j x hx).1
  unfold slV at hxc
  have d0 : w.drew.cell? ⟨d, 0, none⟩ = some (.slice (some ⟨q.gr, 0, none⟩) m.size q.cr) := d0
  have hxc : w.drew.cell? ⟨q.gr, j, none⟩ = some (.slice (some ⟨x.1, 0, none⟩) 64 x.2) := hxc
  have hbc : w.drew.cell? ⟨x.1, kq, none⟩ = some (.int .u8 (y : Int)) := hbc
  have hbf : w.drew.frozen? ⟨x.1, kq, none⟩ = false := hbf
  have hbl : x.1 < w.drew.heap.size := hbl
  have HX := Lib.hid hx
  have HJ := Lib.hid hj
  have HPX := Lib.hid hpx
  clear hh hs hs' hq hlt hx hsec hy hqe hre hb hpx hpk
  go_enter Tryz.func105, Tryz.ntmps105
  go_wp2_with fail
  refine HH.out.mono ?_
  rintro e w1 ⟨rfl, rfl⟩
  go_wp2_with fail
  refine still_tail 26 (by kernel_rfl) (by kernel_rfl) ?_
  simp only [List.take_succ_cons, List.take_zero, List.drop_succ_cons, List.drop_zero]
  have HQd := Lib.hid (HQ.out.ext (Ext.refl w).drew)
  have HMd : Hid (Mod (fun k => p k ≠ 0) w w.drew) := Lib.hid (Mod.drew (Mod.refl _ _))
  have HLd : Hid (∀ k, p k ≠ 0 → k < w.drew.heap.size) := HLT
  generalize w.drew = w2 at *
  still_step
  still_step
  still_step
  still_step
  still_step
  still_step
  still_step
  still_step
  still_step
  still_step
  still_step
  still_step
  still_step
  still_step
  still_step
  still_step
  still_step
  still_step
  still_step
  still_step
  still_step
  still_step
  still_step
  still_step
  still_step
  still_step
  refine wpStill_nil ?_
  go_wp2_with (rw [hx8])
  go_ret
  rw [HE.out]
  exact ⟨rfl, p, ⟨⟨q, HQd.out.setByte HJ.out HX.out HSC.out HS.out⟩, fun i hi => by have := HLd.out i hi; simpa [World.setCell] using this⟩, HMd.out.trans (mod_one w2 x.1 kq (.int .u8 ((y ^^^ 2 ^ kr : Nat) : Int))) (fun i hi => .inl (by rw [hi, HPX.out]; omega)), fun k hk => .inl hk⟩
end Go.Proofs.YtlikhmhomkiadaaGreatDoor
