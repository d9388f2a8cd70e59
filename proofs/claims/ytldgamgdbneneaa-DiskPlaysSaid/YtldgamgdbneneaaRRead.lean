/-
  The document's disk: Read.
-/
import Derived.Test.YtldgamgdbneneaaRFlush
import Derived.Test.YtldgamgdbneneaaDFacts
namespace Go.Proofs.Ytldgamgdbneneaa
open Go Go.RowKit

/-- Where the last write of a sector stands among the first k; -1: nowhere. -/
def lastI (l : List (Nat × List Nat)) (s : Nat) : Nat → Int
  | 0 => -1
  | k + 1 => if (l.getD k (0, [])).1 = s ∧ k < l.length then (k : Int) else lastI l s k
theorem lastI_in (l : List (Nat × List Nat)) (s : Nat) : ∀ k, k ≤ l.length → (lastI l s k = -1 ∧ lastW (l.take k) s = none) ∨ ∃ i x, i < k ∧ lastI l s k = (i : Int) ∧ l[i]? = some x ∧ lastW (l.take k) s = some x.2 := by
  intro k
  induction k with
  | zero => intro _; exact .inl ⟨rfl, by simp [lastW]⟩
  | succ k ih =>
    intro hk
    obtain ⟨x, hx⟩ : ∃ x, l[k]? = some x := ⟨_, List.getElem?_eq_getElem (by omega)⟩
    have hgd : l.getD k (0, []) = x := by rw [List.getD_eq_getElem?_getD, hx]; rfl
    have hw : lastW (l.take (k + 1)) s = if x.1 = s then some x.2 else lastW (l.take k) s := by
      rw [take_snoc hx, lastW_snoc]
    unfold lastI
    rw [hgd, hw]
    by_cases h : x.1 = s
    · rw [if_pos ⟨h, by omega⟩, if_pos h]
      exact .inr ⟨k, x, by omega, rfl, hx, rfl⟩
    · rw [if_neg (fun hh => h hh.1), if_neg h]
      rcases ih (by omega) with h1 | ⟨i, y, h1, h2, h3, h4⟩
      · exact .inl h1
      · exact .inr ⟨i, y, by omega, h2, h3, h4⟩
section
variable {w : World} {d : Nat} {p : Nat → Nat} {m : DM}
set_option maxRecDepth 100000 in
set_option maxHeartbeats 2400000 in
theorem rread_out (h : RD w d p m) (s : Int) (hsw : s ≤ 9223372036854775807) (hfew : m.waits.length ≤ 1000000) : Calls Try.prog 33 #[.pointer (some ⟨d, 0, none⟩), .int .i64 s] w fun e w' => ∃ A n c, e = .returned (.tuple #[.slice A n c, .int .i64 (m.read s).2]) ∧ By w' A n c (m.read s).1 ∧ Ext w w' := by
  obtain ⟨⟨q, hq⟩, hlt⟩ := h
  obtain ⟨⟨d0, _, d2, d3, d4, d5, _⟩, _⟩ := hq.head.cells
  by_cases hu : m.up = false
  · have HE : Hid (m.read s = ([], 5)) := Lib.hid (by unfold DM.read; rw [if_pos hu])
    rcases up_cases hu with hd | ⟨hd, hdd⟩
    · rw [hd] at d4
      clear hu hd hq hlt
      go_enter Try.func33, Try.ntmps33
      go_wp2_with fail
      refine bodyPost_ret (v := .tuple #[.slice none 0 0, .int .i64 5]) (by simp [results, Try.results33, go_sem]) rfl ?_
      exact ⟨none, 0, 0, by rw [HE.out], by rw [HE.out]; exact By.nil_ _, Ext.refl _⟩
    · rw [hd] at d4
      rw [hdd] at d5
      clear hu hd hdd hq hlt
      go_enter Try.func33, Try.ntmps33
      go_wp2_with fail
      refine bodyPost_ret (v := .tuple #[.slice none 0 0, .int .i64 5]) (by simp [results, Try.results33, go_sem]) rfl ?_
      exact ⟨none, 0, 0, by rw [HE.out], by rw [HE.out]; exact By.nil_ _, Ext.refl _⟩
  have hu' : m.up = true := by simpa using hu
  obtain ⟨hd, hdd⟩ := up_both hu'
  rw [hd] at d4
  rw [hdd] at d5
  have hh := rhas_of hq.head s
  by_cases hs : m.has s = false
  · have HE : Hid (m.read s = ([], 2)) := Lib.hid (by unfold DM.read; rw [if_neg hu, if_pos hs])
    rw [hs] at hh
    have HH := Lib.hid hh
    clear hh hu hu' hd hdd hs hq hlt
    go_enter Try.func33, Try.ntmps33
    go_wp2_with fail
    refine HH.out.mono ?_
    rintro e w1 ⟨rfl, rfl⟩
    go_wp2_with fail
    refine bodyPost_ret (v := .tuple #[.slice none 0 0, .int .i64 2]) (by simp [results, Try.results33, go_sem]) rfl ?_
    exact ⟨none, 0, 0, by rw [HE.out], by rw [HE.out]; exact By.nil_ _, Ext.refl _⟩
  have hs' : m.has s = true := by simpa using hs
  rw [hs'] at hh
  have HH := Lib.hid hh
  obtain ⟨s0, s1⟩ := DM.has_iff.1 hs'
  obtain ⟨j, rfl⟩ := Int.eq_ofNat_of_zero_le s0
  have hj : j < m.size := by omega
  obtain ⟨hlc, _, _⟩ := hq.lostAt hj
  obtain ⟨x0, hx0, hxc, _, _⟩ := hq.restAt hj
  have hsec0 : Sect (m.rest.getD j []) := by
    have hil : j < m.rest.length := hj
    rw [List.getD_eq_getElem?_getD, List.getElem?_eq_getElem hil, Option.getD_some]
    exact hq.ok.rests _ (List.getElem_mem hil)
  have HB0 := Lib.hid ((hq.rb j x0 hx0).2.by hsec0.2)
  have hsz := hq.head.n1.2
  unfold slV at hxc
  have HE : Hid (m.read (j : Int) = match lastW m.waits j with | some b => (b, 0) | none => if m.lost.getD j false = true then ([], 50) else (m.rest.getD j [], 0)) := Lib.hid (by unfold DM.read; rw [if_neg hu, if_neg hs, Int.toNat_natCast]; rfl)
  have HQ := Lib.hid hq
  obtain ⟨N, hN⟩ : ∃ N, m.waits.length = N := ⟨_, rfl⟩
  have HN := Lib.hid hN
  rw [hN] at hfew
  have hpl : ∃ A c, q.pv = .slice A N c := by
    obtain ⟨A, c, e, _, _⟩ := own_form2 hq.pen
    exact ⟨A, c, by rw [e, hN]⟩
  obtain ⟨pA, pc, hpv⟩ := hpl
  have HPV := Lib.hid hpv
  rw [hpv] at d3
  have HLI := Lib.hid (lastI_in m.waits j)
  clear hh hu hu' hd hdd hs hs' hq hlt hx0 hsec0 hN hpv
  go_enter Try.func33, Try.ntmps33
  go_wp2_with fail
  refine HH.out.mono ?_
  rintro e w1 ⟨rfl, rfl⟩
  go_wp2_with fail
  go_loopw [6, 7] (fun f i wr => ∃ k : Nat, k ≤ N ∧ i = .int .i64 k ∧ f = .int .i64 (lastI m.waits j k) ∧ wr = w) (fun _ i _ => N - (intOf i).toNat)
  case atStart => exact ⟨0, Nat.zero_le _, rfl, rfl, rfl⟩
  case round =>
    obtain ⟨k, hk, rfl, rfl, rfl⟩ := hrel
    by_cases hlt2 : k < N
    · obtain ⟨g, c, x, y, e1, hx, hy, c0, c1, _⟩ := HQ.out.waitAt (k := k) (by rw [HN.out]; exact hlt2)
      have e2 := HPV.out.symm.trans e1
      injection e2 with e2 _ _
      subst e2
      have hgd : m.waits.getD k (0, []) = x := by rw [List.getD_eq_getElem?_getD, hx]; rfl
      have i0 : (0 : Int) ≤ (k : Int) := by omega
      have i1 : (k : Int) < (N : Int) := by omega
      by_cases hxs : x.1 = j
      · have HL : Hid (lastI m.waits j (k + 1) = (k : Int)) := Lib.hid (by unfold lastI; rw [hgd, if_pos ⟨hxs, by rw [HN.out]; exact hlt2⟩])
        have heq : ((x.1 : Int) == (j : Int)) = true := by rw [beq_iff_eq, hxs]
        clear e1 hx hy hgd hxs c1
        go_wp2_with fail
        go_roundw
        case rel => exact ⟨k + 1, by omega, by go_num, by rw [HL.out], by first | rfl | trivial⟩
        case measure => simp [intOf]; omega
      · have HL : Hid (lastI m.waits j (k + 1) = lastI m.waits j k) := Lib.hid (by show (if _ then _ else _) = _; rw [hgd, if_neg (fun h => hxs h.1)])
        have heq : ((x.1 : Int) == (j : Int)) = false := by
          rw [beq_eq_false_iff_ne]
          intro hc
          exact hxs (Int.ofNat.inj hc)
        clear e1 hx hy hgd hxs c1
        generalize lastI m.waits j k = li at *
        go_wp2_with fail
        go_roundw
        case rel => exact ⟨k + 1, by omega, by go_num, by rw [HL.out], by first | rfl | trivial⟩
        case measure => simp [intOf]; omega
    · obtain rfl : k = N := by omega
      rcases HLI.out k (by rw [HN.out]; omega) with ⟨h1, h2⟩ | ⟨i, x, hi, h1, hx, h2⟩
      · rw [h1]
        have hlw : lastW m.waits j = none := by rw [List.take_of_length_le (by rw [HN.out]; omega)] at h2; exact h2
        by_cases hlo : m.lost.getD j false = true
        · have HE2 : Hid (m.read (j : Int) = ([], 50)) := Lib.hid (by rw [HE.out, hlw]; simp only; rw [if_pos hlo])
          rw [hlo] at hlc
          clear h1 h2 hlw hlo HE
          go_wp2_with fail
          refine bodyPost_ret (v := .tuple #[.slice none 0 0, .int .i64 50]) (by simp [results, Try.results33, go_sem]) rfl ?_
          exact ⟨none, 0, 0, by rw [HE2.out], by rw [HE2.out]; exact By.nil_ _, Ext.refl _⟩
        · have HE2 : Hid (m.read (j : Int) = (m.rest.getD j [], 0)) := Lib.hid (by rw [HE.out, hlw]; simp only; rw [if_neg hlo])
          rw [show m.lost.getD j false = false by simpa using hlo] at hlc
          clear h1 h2 hlw hlo HE
          go_wp2_with fail
          refine (copy_by (some ⟨x0.1, 0, none⟩) (m.rest.getD j []) 64 x0.2 _ HB0.out (by omega)).mono ?_
          rintro e w2 ⟨A1, c1, rfl, hb, hx, _⟩
          have HB1 := Lib.hid hb
          have HX1 := Lib.hid hx
          clear hb hx
          go_wp2_with fail
          refine bodyPost_ret (v := .tuple #[.slice A1 64 c1, .int .i64 0]) (by simp [results, Try.results33, go_sem]) rfl ?_
          exact ⟨_, _, _, by rw [HE2.out], by rw [HE2.out]; exact HB1.out, HX1.out⟩
      · rw [h1]
        have hlw : lastW m.waits j = some x.2 := by rw [List.take_of_length_le (by rw [HN.out]; omega)] at h2; exact h2
        obtain ⟨g, c, x', y, e1, hx', hy, c0, c1, _, hby, _, hsec⟩ := HQ.out.waitAt (k := i) (by rw [HN.out]; exact hi)
        obtain rfl : x' = x := by rw [hx] at hx'; injection hx' with h; exact h.symm
        have e2 := HPV.out.symm.trans e1
        injection e2 with e2 _ _
        subst e2
        unfold slV at c1
        have HB2 := Lib.hid (hby.by hsec.2)
        have HE2 : Hid (m.read (j : Int) = (x'.2, 0)) := Lib.hid (by rw [HE.out, hlw])
        have i0 : (0 : Int) ≤ (i : Int) := by omega
        have i1 : (i : Int) < (k : Int) := by omega
        clear h1 h2 hlw HE e1 hx hx' hy hby hsec
        go_wp2_with fail
        refine (copy_by (some ⟨y.1, 0, none⟩) x'.2 64 y.2 _ HB2.out (by omega)).mono ?_
        rintro e w2 ⟨A1, c2, rfl, hb, hx, _⟩
        have HB1 := Lib.hid hb
        have HX1 := Lib.hid hx
        clear hb hx
        go_wp2_with fail
        refine bodyPost_ret (v := .tuple #[.slice A1 64 c2, .int .i64 0]) (by simp [results, Try.results33, go_sem]) rfl ?_
        exact ⟨_, _, _, by rw [HE2.out], by rw [HE2.out]; exact HB1.out, HX1.out⟩
end
end Go.Proofs.Ytldgamgdbneneaa
