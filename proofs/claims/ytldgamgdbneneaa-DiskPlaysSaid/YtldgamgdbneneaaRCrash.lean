/-
  The document's disk: Crash.
-/
import Derived.Test.YtldgamgdbneneaaRFlush
namespace Go.Proofs.Ytldgamgdbneneaa
open Go Go.RowKit

theorem keepAt {w wr : World} {A : Option Addr} {n c : Nat} {l : List Bool} {F : Nat → Prop} (h : Vs w w.heap.size A n c (l.map .bool)) (k : Mod F w wr) (ho : 0 < n → Off F A) {i : Nat} (hi : i < n) : ∃ g o b, A = some ⟨g, o, none⟩ ∧ l[i]? = some b ∧ wr.cell? ⟨g, o + i, none⟩ = some (.bool b) := by
  obtain ⟨g, o, e, hg, hc⟩ := h.rd (by omega)
  have hl : i < l.length := by have := h.len; rw [List.length_map] at this; omega
  refine ⟨g, o, l[i], e, List.getElem?_eq_getElem hl, ?_⟩
  rw [World.cell?_of_block (a := ⟨g, o + i, none⟩) (k.block g hg (ho (by omega) _ e))]
  exact hc i _ (by rw [List.getElem?_map, List.getElem?_eq_getElem hl]; rfl)
theorem kept_over {l : List (Nat × List Nat)} {kl : List Bool} : ∀ {k : Nat}, kl.length ≤ k → k ≤ l.length → kept (l.take k) kl = kept l kl := by
  intro k hk hl
  have key : ∀ j, k + j ≤ l.length → kept (l.take (k + j)) kl = kept (l.take k) kl := fun j => by
    induction j with
    | zero => intro _; rfl
    | succ j ih =>
      intro hj
      obtain ⟨x, hx⟩ : ∃ x, l[k + j]? = some x := ⟨_, List.getElem?_eq_getElem (by omega)⟩
      rw [show k + (j + 1) = (k + j) + 1 by omega, kept_step hx, if_neg (by rw [List.getElem?_eq_none (by omega)]; simp), ih (by omega)]
  have := key (l.length - k) (by omega)
  rw [show k + (l.length - k) = l.length by omega, List.take_length] at this
  exact this.symm
section
variable {w : World} {d : Nat} {p : Nat → Nat} {m : DM}
set_option maxRecDepth 100000 in
set_option maxHeartbeats 2400000 in
theorem rcrash_out (h : RD w d p m) (_hfew : m.waits.length ≤ 1000000) (kA : Option Addr) (kn kc : Nat) (kl : List Bool) (hk : Vs w w.heap.size kA kn kc (kl.map .bool)) (ho : 0 < kn → Off (fun i => p i ≠ 0) kA) : Calls Try.prog 24 #[.pointer (some ⟨d, 0, none⟩), .slice kA kn kc] w fun e w' => e = .returned (.int .i64 (m.crash kl).1) ∧ ROut d p w (m.crash kl).2 w' := by
  obtain ⟨⟨q, hq⟩, hlt⟩ := h
  obtain ⟨⟨_, _, _, d3, d4, d5, _⟩, _⟩ := hq.head.cells
  have HQ := Lib.hid hq
  have HLT := Lib.hid hlt
  have hkl : kl.length = kn := by have := hk.len; rw [List.length_map] at this; exact this
  have hkc := hk.cap
  have hkm := hk.most
  by_cases hd : m.down = true
  · have HE : Hid (m.crash kl = (5, m)) := Lib.hid (by unfold DM.crash; rw [if_pos hd])
    rw [hd] at d4
    clear hd hq hlt
    go_enter Try.func24, Try.ntmps24
    go_wp2_with fail
    go_ret
    rw [HE.out]
    exact ⟨rfl, p, ⟨⟨q, HQ.out⟩, HLT.out⟩, Mod.refl _ _, fun k hk => .inl hk⟩
  · have HE : Hid (m.crash kl = (0, { m.comes (kept m.waits kl) with waits := [], down := true })) := Lib.hid (by unfold DM.crash; rw [if_neg hd])
    have hd' : m.down = false := by simpa using hd
    rw [hd'] at d4
    have HG1 : Hid (RGo w w d p p m) := Lib.hid ⟨⟨⟨q, hq⟩, hlt⟩, Mod.refl _ _, fun k hk => .inl hk⟩
    have HK := Lib.hid hk
    have HO := Lib.hid ho
    have HKL := Lib.hid hkl
    obtain ⟨N, hN⟩ : ∃ N, m.waits.length = N := ⟨_, rfl⟩
    have HN := Lib.hid hN
    rw [hN] at _hfew
    have HDN := Lib.hid hd'
    clear hd hd' hq hlt hN hk ho hkl d3
    go_enter Try.func24, Try.ntmps24
    go_wp2_with fail
    go_loopw [5] (fun i wr => ∃ (k : Nat) (p' : Nat → Nat), k ≤ N ∧ k ≤ kn ∧ i = .int .i64 k ∧ Hid (RGo w wr d p p' (m.comes (kept (m.waits.take k) kl)))) (fun i _ => N - (intOf i).toNat)
    case atStart => exact ⟨0, p, Nat.zero_le _, Nat.zero_le _, rfl, Lib.hid (by rw [show kept (m.waits.take 0) kl = [] by simp [kept]]; exact HG1.out)⟩
    case round =>
      obtain ⟨k, p', hk, hkn, rfl, HG⟩ := hrel
      obtain ⟨⟨q', hq'⟩, hlt'⟩ := HG.out.rd
      have hcw := DM.comes_waits (kept (m.waits.take k) kl) m
      have hwl : (m.comes (kept (m.waits.take k) kl)).waits.length = N := by rw [hcw.1, HN.out]
      obtain ⟨⟨_, _, _, e3, e4, _⟩, ef⟩ := hq'.head.cells
      have ef3 := ef 3
      have ef4 := ef 4
      have hpl : ∃ A c, q'.pv = .slice A N c := by
        obtain ⟨A, c, e, _, _⟩ := own_form2 hq'.pen
        exact ⟨A, c, by rw [e, hwl]⟩
      obtain ⟨pA, pc, hpv⟩ := hpl
      by_cases hlt2 : k < N ∧ k < kn
      · obtain ⟨hN2, hK2⟩ := hlt2
        obtain ⟨g, c, x, y, e1, hx, hy, c0, c1, h6, hby, hxs, hsec⟩ := hq'.waitAt (k := k) (by omega)
        rw [e1, hwl] at e3
        have hx' : m.waits[k]? = some x := by rw [hcw.1] at hx; exact hx
        obtain ⟨g2, o2, b, rfl, hb, hbc⟩ := keepAt HK.out HG.out.mod HO.out hK2
        have hst := kept_step hx' kl
        unfold slV at c1
        have i0 : (0 : Int) ≤ (k : Int) := by omega
        have i1 : (k : Int) < (N : Int) := by omega
        have i2 : (k : Int) < (kn : Int) := by omega
        cases b with
        | true =>
          have HC := Lib.hid (rcome_wait hq' hlt' h6 hby hxs hsec)
          have HX := Lib.hid (show m.comes (kept (m.waits.take (k + 1)) kl) = (m.comes (kept (m.waits.take k) kl)).come x by rw [hst, if_pos hb, comes_snoc])
          clear hq' hlt' hcw hwl ef ef3 ef4 hpv e1 hx hy h6 hby hxs hsec hx' hb hst e4
          go_wp2_with fail
          refine HC.out.mono ?_
          rintro e w2 ⟨⟨v, rfl⟩, hr⟩
          obtain ⟨p2, hg2⟩ := HG.out.step hr
          have HG2 := Lib.hid hg2
          clear hr hg2
          go_wp2_with fail
          go_roundw
          case rel => exact ⟨k + 1, p2, by omega, by omega, by go_num, by rw [HX.out]; exact HG2⟩
          case measure => simp [intOf]; omega
        | false =>
          have HX := Lib.hid (show m.comes (kept (m.waits.take (k + 1)) kl) = m.comes (kept (m.waits.take k) kl) by rw [hst, if_neg (by rw [hb]; simp)])
          clear hq' hlt' hcw hwl ef ef3 ef4 hpv e1 hx hy h6 hby hxs hsec hx' hb hst e4
          go_wp2_with fail
          go_roundw
          case rel => exact ⟨k + 1, p', by omega, by omega, by go_num, by rw [HX.out]; exact HG⟩
          case measure => simp [intOf]; omega
      · have HT : Hid (kept (m.waits.take k) kl = kept m.waits kl) := Lib.hid (by
          by_cases hkN : k < N
          · exact kept_over (by rw [HKL.out]; omega) (by rw [HN.out]; omega)
          · rw [List.take_of_length_le (by rw [HN.out]; omega)])
        have HQ' := Lib.hid hq'
        have HL' := Lib.hid hlt'
        have hld := hq'.lts.1
        rw [hpv] at e3
        have e4' : wr.cell? ⟨d, 4, none⟩ = some (.bool false) := by rw [e4, hcw.2.1, HDN.out]
        have fin : ROut d p w { m.comes (kept m.waits kl) with waits := [], down := true } ((wr.setCell ⟨d, 3, none⟩ (.slice none 0 0)).setCell ⟨d, 4, none⟩ (.bool true)) := by
          have hq2 := HQ'.out
          have hg2 := HG.out
          rw [HT.out] at hq2 hg2
          have kk : Mod (fun i => i = d) wr ((wr.setCell ⟨d, 3, none⟩ (.slice none 0 0)).setCell ⟨d, 4, none⟩ (.bool true)) := (mod_one wr d 3 (.slice none 0 0)).setCell (p := ⟨d, 4, none⟩) (.inl rfl) _
          refine ⟨p', ⟨⟨_, hq2.clear kk ⟨row_set 4 (row_set 3 hq2.head.head _ rfl) _ rfl, hq2.head.n1⟩ rfl rfl rfl rfl rfl⟩, fun i hi => by have := HL'.out i hi; simpa [World.setCell] using this⟩, hg2.mod.trans kk (fun i hi => ?_), hg2.nz⟩
          rw [hi]
          exact .inl (by rw [HQ.out.pd]; omega)
        have HF := Lib.hid fin
        clear hq' hlt' hcw hwl ef hpv e4 fin
        by_cases hkN : k < N
        · have hkn2 : ¬ k < kn := fun h => hlt2 ⟨hkN, h⟩
          clear hlt2
          go_wp2_with fail
          go_ret
          rw [HE.out]
          exact ⟨rfl, HF.out⟩
        · clear hlt2
          go_wp2_with fail
          go_ret
          rw [HE.out]
          exact ⟨rfl, HF.out⟩
end
end Go.Proofs.Ytldgamgdbneneaa
