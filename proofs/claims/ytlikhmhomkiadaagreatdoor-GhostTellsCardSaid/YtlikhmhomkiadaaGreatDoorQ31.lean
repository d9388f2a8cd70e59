/-
  The document's disk: Read.
  The contract of the statements' Same: an act at the document's disk; the document's disk since a world.
  The contract of the statements' tells: what the program's disk tells, what the document's tells, and what of it is overwritten.
  The program's disk and the document's disk side by side: an act at either leaves the other as it was.
-/
import Derived.Test.YtlikhmhomkiadaaGreatDoorQ03
import Derived.Test.YtlikhmhomkiadaaGreatDoorQ10
import Derived.Test.YtlikhmhomkiadaaGreatDoorQ23
import Derived.Test.YtlikhmhomkiadaaGreatDoorQ24
import Derived.Test.YtlikhmhomkiadaaGreatDoorQ29
import Derived.Test.YtlikhmhomkiadaaGreatDoorQ30
namespace Go.Proofs.YtlikhmhomkiadaaGreatDoor
set_option maxRecDepth 100000
open Go Go.RowKit

/-- Where the last write of a sector stands among the first k; -1: nowhere. -/
def lastI (l : List (Nat × List Nat)) (s : Nat) : Nat → Int
  | 0 => -1
  | k + 1 => if (l.getD k (0, [])).1 = s ∧ k < l.length then (k : Int) else lastI l s k
theorem lastI_in (l : List (Nat × List Nat)) (s : Nat) : ∀ k, k ≤ l.length → (lastI l s k = -1 ∧ lastW (l.take k) s = none) ∨ ∃ i x, i < k ∧ lastI l s k = (i : Int) ∧ l[i]? = some x ∧ lastW (l.take k) s = some x.2 := by
  intro k
  induction k with
  | zero => intro _; exact .inl ⟨rfl, by simp [lastW]⟩
  | succ k ih =>
    intro hk
    obtain ⟨x, hx⟩ : ∃ x, l[k]? = some x := ⟨_, List.getElem?_eq_getElem (by omega)⟩
    have hgd : l.getD k (0, []) = x := by rw [List.getD_eq_getElem?_getD, hx]; rfl
    have hw : lastW (l.take (k + 1)) s = if x.1 = s then some x.2 else lastW (l.take k) s := by
      rw [take_snoc hx, lastW_snoc]
    unfold lastI
    rw [hgd, hw]
    by_cases h : x.1 = s
    · rw [if_pos ⟨h, by omega⟩, if_pos h]
      exact .inr ⟨k, x, by omega, rfl, hx, rfl⟩
    · rw [if_neg (fun hh => h hh.1), if_neg h]
      rcases ih (by omega) with h1 | ⟨i, y, h1, h2, h3, h4⟩
      · exact .inl h1
      · exact .inr ⟨i, y, by omega, h2, h3, h4⟩
section
variable {w : World} {d : Nat} {p : Nat → Nat} {m : DM}
set_option maxRecDepth 100000 in
set_option maxHeartbeats 2400000 in
theorem rread_out (h : RD w d p m) (s : Int) (hsw : s ≤ 9223372036854775807) (hfew : m.waits.length ≤ 1000000) : Calls Tryz.prog 126 #[.pointer (some ⟨d, 0, none⟩), .int .i64 s] w fun e w' => ∃ A n c, e = .returned (.tuple #[.slice A n c, .int .i64 (m.read s).2]) ∧ By w' A n c (m.read s).1 ∧ Ext w w' := by
  obtain ⟨⟨q, hq⟩, hlt⟩ := h
  obtain ⟨⟨d0, _, d2, d3, d4, d5, _⟩, _⟩ := hq.head.cells
  by_cases hu : m.up = false
  · have HE : Hid (m.read s = ([], 5)) := Lib.hid (by unfold DM.read; rw [if_pos hu])
    rcases up_cases hu with hd | ⟨hd, hdd⟩
    · rw [hd] at d4
      clear hu hd hq hlt
      go_enter Tryz.func126, Tryz.ntmps126
      go_wp2_with fail
      refine bodyPost_ret (v := .tuple #[.slice none 0 0, .int .i64 5]) (by simp [results, Tryz.results126, go_sem]) rfl ?_
      exact ⟨none, 0, 0, by rw [HE.out], by rw [HE.out]; exact By.nil_ _, Ext.refl _⟩
    · rw [hd] at d4
      rw [hdd] at d5
      clear hu hd hdd hq hlt
      go_enter Tryz.func126, Tryz.ntmps126
      go_wp2_with fail
      refine bodyPost_ret (v := .tuple #[.slice none 0 0, .int .i64 5]) (by simp [results, Tryz.results126, go_sem]) rfl ?_
      exact ⟨none, 0, 0, by rw [HE.out], by rw [HE.out]; exact By.nil_ _, Ext.refl _⟩
  have hu' : m.up = true := by simpa using hu
  obtain ⟨hd, hdd⟩ := up_both hu'
  rw [hd] at d4
  rw [hdd] at d5
  have hh := rhas_of hq.head s
  by_cases hs : m.has s = false
  · have HE : Hid (m.read s = ([], 2)) := Lib.hid (by unfold DM.read; rw [if_neg hu, if_pos hs])
    rw [hs] at hh
    have HH := Lib.hid hh
    clear hh hu hu' hd hdd hs hq hlt
    go_enter Tryz.func126, Tryz.ntmps126
    go_wp2_with fail
    refine HH.out.mono ?_
    rintro e w1 ⟨rfl, rfl⟩
    go_wp2_with fail
    refine bodyPost_ret (v := .tuple #[.slice none 0 0, .int .i64 2]) (by simp [results, Tryz.results126, go_sem]) rfl ?_
    exact ⟨none, 0, 0, by rw [HE.out], by rw [HE.out]; exact By.nil_ _, Ext.refl _⟩
  have hs' : m.has s = true := by simpa using hs
  rw [hs'] at hh
  have HH := Lib.hid hh
  obtain ⟨s0, s1⟩ := DM.has_iff.1 hs'
  obtain ⟨j, rfl⟩ := Int.eq_ofNat_of_zero_le s0
  have hj : j < m.size := by omega
  obtain ⟨hlc, _, _⟩ := hq.lostAt hj
  obtain ⟨x0, hx0, hxc, _, _⟩ := hq.restAt hj
  have hsec0 : Sect (m.rest.getD j []) := by
    have hil : j < m.rest.length := hj
    rw [List.getD_eq_getElem?_getD, List.getElem?_eq_getElem hil, Option.getD_some]
    exact hq.ok.rests _ (List.getElem_mem hil)
  have HB0 := Lib.hid ((hq.rb j x0 hx0).2.by hsec0.2)
  have hsz := hq.head.n1.2
  unfold slV at hxc
  have HE : Hid (m.read (j : Int) = match lastW m.waits j with | some b => (b, 0) | none => if m.lost.getD j false = true then ([], 50) else (m.rest.getD j [], 0)) := Lib.hid (by unfold DM.read; rw [if_neg hu, if_neg hs, Int.toNat_natCast]; rfl)
  have HQ := Lib.hid hq
  obtain ⟨N, hN⟩ : ∃ N, m.waits.length = N := ⟨_, rfl⟩
  have HN := Lib.hid hN
  rw [hN] at hfew
  have hpl : ∃ A c, q.pv = .slice A N c := by
    obtain ⟨A, c, e, _, _⟩ := own_form2 hq.pen
    exact ⟨A, c, by rw [e, hN]⟩
  obtain ⟨pA, pc, hpv⟩ := hpl
  have HPV := Lib.hid hpv
  rw [hpv] at d3
  have HLI := Lib.hid (lastI_in m.waits j)
  clear hh hu hu' hd hdd hs hs' hq hlt hx0 hsec0 hN hpv
  go_enter Tryz.func126, Tryz.ntmps126
  go_wp2_with fail
  refine HH.out.mono ?_
  rintro e w1 ⟨rfl, rfl⟩
  go_wp2_with fail
  go_loopw [6, 7] (fun f i wr => ∃ k : Nat, k ≤ N ∧ i = .int .i64 k ∧ f = .int .i64 (lastI m.waits j k) ∧ wr = w) (fun _ i _ => N - (intOf i).toNat)
  case atStart => exact ⟨0, Nat.zero_le _, rfl, rfl, rfl⟩
  case round =>
    obtain ⟨k, hk, rfl, rfl, rfl⟩ := hrel
    by_cases hlt2 : k < N
    · obtain ⟨g, c, x, y, e1, hx, hy, c0, c1, _⟩ := HQ.out.waitAt (k := k) (by rw [HN.out]; exact hlt2)
      have e2 := HPV.out.symm.trans e1
      injection e2 with e2 _ _
      subst e2
      have hgd : m.waits.getD k (0, []) = x := by rw [List.getD_eq_getElem?_getD, hx]; rfl
      have i0 : (0 : Int) ≤ (k : Int) := by omega
      have i1 : (k : Int) < (N : Int) := by omega
      by_cases hxs : x.1 = j
      · have HL : Hid (lastI m.waits j (k + 1) = (k : Int)) := Lib.hid (by unfold lastI; rw [hgd, if_pos ⟨hxs, by rw [HN.out]; exact hlt2⟩])
        have heq : ((x.1 : Int) == (j : Int)) = true := by rw [beq_iff_eq, hxs]
        clear e1 hx hy hgd hxs c1
        go_wp2_with fail
        go_roundw
        case rel => exact ⟨k + 1, by omega, by go_num, by rw [HL.out], by first | rfl | trivial⟩
        case measure => simp [intOf]; omega
      · have HL : Hid (lastI m.waits j (k + 1) = lastI m.waits j k) := Lib.hid (by show (if _ then _ else _) = _; rw [hgd, if_neg (fun h => hxs h.1)])
        have heq : ((x.1 : Int) == (j : Int)) = false := by
          rw [beq_eq_false_iff_ne]
          intro hc
          exact hxs (Int.ofNat.inj hc)
        clear e1 hx hy hgd hxs c1
        generalize lastI m.waits j k = li at *
        go_wp2_with fail
        go_roundw
        case rel => exact ⟨k + 1, by omega, by go_num, by rw [HL.out], by first | rfl | trivial⟩
        case measure => simp [intOf]; omega
    · obtain rfl : k = N := by omega
      rcases HLI.out k (by rw [HN.out]; omega) with ⟨h1, h2⟩ | ⟨i, x, hi, h1, hx, h2⟩
      · rw [h1]
        have hlw : lastW m.waits j = none := by rw [List.take_of_length_le (by rw [HN.out]; omega)] at h2; exact h2
        by_cases hlo : m.lost.getD j false = true
        · have HE2 : Hid (m.read (j : Int) = ([], 50)) := Lib.hid (by rw [HE.out, hlw]; simp only; rw [if_pos hlo])
          rw [hlo] at hlc
          clear h1 h2 hlw hlo HE
          go_wp2_with fail
          refine bodyPost_ret (v := .tuple #[.slice none 0 0, .int .i64 50]) (by simp [results, Tryz.results126, go_sem]) rfl ?_
          exact ⟨none, 0, 0, by rw [HE2.out], by rw [HE2.out]; exact By.nil_ _, Ext.refl _⟩
        · have HE2 : Hid (m.read (j : Int) = (m.rest.getD j [], 0)) := Lib.hid (by rw [HE.out, hlw]; simp only; rw [if_neg hlo])
          rw [show m.lost.getD j false = false by simpa using hlo] at hlc
          clear h1 h2 hlw hlo HE
          go_wp2_with fail
          refine (copy_by (some ⟨x0.1, 0, none⟩) (m.rest.getD j []) 64 x0.2 _ HB0.out (by omega)).mono ?_
          rintro e w2 ⟨A1, c1, rfl, hb, hx, _⟩
          have HB1 := Lib.hid hb
          have HX1 := Lib.hid hx
          clear hb hx
          go_wp2_with fail
          refine bodyPost_ret (v := .tuple #[.slice A1 64 c1, .int .i64 0]) (by simp [results, Tryz.results126, go_sem]) rfl ?_
          exact ⟨_, _, _, by rw [HE2.out], by rw [HE2.out]; exact HB1.out, HX1.out⟩
      · rw [h1]
        have hlw : lastW m.waits j = some x.2 := by rw [List.take_of_length_le (by rw [HN.out]; omega)] at h2; exact h2
        obtain ⟨g, c, x', y, e1, hx', hy, c0, c1, _, hby, _, hsec⟩ := HQ.out.waitAt (k := i) (by rw [HN.out]; exact hi)
        obtain rfl : x' = x := by rw [hx] at hx'; injection hx' with h; exact h.symm
        have e2 := HPV.out.symm.trans e1
        injection e2 with e2 _ _
        subst e2
        unfold slV at c1
        have HB2 := Lib.hid (hby.by hsec.2)
        have HE2 : Hid (m.read (j : Int) = (x'.2, 0)) := Lib.hid (by rw [HE.out, hlw])
        have i0 : (0 : Int) ≤ (i : Int) := by omega
        have i1 : (i : Int) < (k : Int) := by omega
        clear h1 h2 hlw HE e1 hx hx' hy hby hsec
        go_wp2_with fail
        refine (copy_by (some ⟨y.1, 0, none⟩) x'.2 64 y.2 _ HB2.out (by omega)).mono ?_
        rintro e w2 ⟨A1, c2, rfl, hb, hx, _⟩
        have HB1 := Lib.hid hb
        have HX1 := Lib.hid hx
        clear hb hx
        go_wp2_with fail
        refine bodyPost_ret (v := .tuple #[.slice A1 64 c2, .int .i64 0]) (by simp [results, Tryz.results126, go_sem]) rfl ?_
        exact ⟨_, _, _, by rw [HE2.out], by rw [HE2.out]; exact HB1.out, HX1.out⟩
end
end Go.Proofs.YtlikhmhomkiadaaGreatDoor

namespace Go.Proofs.YtlikhmhomkiadaaGreatDoor
set_option maxRecDepth 100000
open Go Go.RowKit

theorem RD.ext {w w' : World} {d : Nat} {p : Nat → Nat} {m : DM} (h : RD w d p m) (k : Ext w w') : RD w' d p m := by
  obtain ⟨⟨q, hq⟩, hlt⟩ := h
  exact ⟨⟨q, hq.ext k⟩, fun i hi => Nat.lt_of_lt_of_le (hlt i hi) k.size⟩
theorem RD.mod {w w' : World} {d : Nat} {p : Nat → Nat} {m : DM} {F : Nat → Prop} (h : RD w d p m) (k : Mod F w w') (hF : ∀ i, p i ≠ 0 → ¬ F i) : RD w' d p m := by
  obtain ⟨⟨q, hq⟩, hlt⟩ := h
  exact ⟨⟨q, hq.mod k hF⟩, fun i hi => Nat.lt_of_lt_of_le (hlt i hi) k.size⟩
theorem ROut.from {w w1 w2 : World} {d : Nat} {p : Nat → Nat} {m' : DM} (h : Ext w w1) (k : ROut d p w1 m' w2) : ROut d p w m' w2 := by
  obtain ⟨p', h1, h2, h3⟩ := k
  exact ⟨p', h1, (Mod.of_ext h).trans h2 fun i hi => .inl hi, fun i hi => (h3 i hi).imp id fun e => Nat.le_trans h.size e⟩
theorem keep5 {u w' : World} {g : Nat} {x0 x1 x2 x3 x4 : Value} {t : TypeId} {G : Nat → Prop} (k : Hid (Mod G u w')) (hg : Hid (¬ G g)) (h : Hid (u.heap[g]? = some (.cells #[x0, x1, x2, x3, x4] t (0, 0)))) :
    w'.cell? ⟨g, 0, none⟩ = some x0 ∧ w'.cell? ⟨g, 1, none⟩ = some x1 ∧ w'.cell? ⟨g, 2, none⟩ = some x2 ∧ w'.cell? ⟨g, 3, none⟩ = some x3 ∧ w'.cell? ⟨g, 4, none⟩ = some x4 := by
  have h2 := heap_mod h.out k.out hg.out
  exact ⟨cell_of_row w' g 0 _ _ _ h2, cell_of_row w' g 1 _ _ _ h2, cell_of_row w' g 2 _ _ _ h2, cell_of_row w' g 3 _ _ _ h2, cell_of_row w' g 4 _ _ _ h2⟩

theorem off_new {V w1 : World} {A : Option Addr} {n c : Nat} {xs : List Value} {p : Nat → Nat} (h : w1.ownsRow V.heap.size 5 1 (.slice A n c) n xs) (hp : ∀ i, p i ≠ 0 → i < V.heap.size) : ¬ ∃ g o, A = some ⟨g, o, none⟩ ∧ p g ≠ 0 := by
  rintro ⟨g, o, rfl, hg⟩
  rcases h.2 with ⟨e, _⟩ | ⟨g2, cap, cur, e, hb, _⟩
  · injection e with e1 _ _
    cases e1
  · injection e with e1 _ _
    injection e1 with e1
    injection e1 with e1 _
    subst e1
    exact absurd (hp _ hg) (by omega)
theorem rout_mod {w w2 : World} {d : Nat} {p : Nat → Nat} {m' : DM} (k : ROut d p w m' w2) : Mod (fun i => p i ≠ 0) w w2 := by
  obtain ⟨_, _, h, _⟩ := k
  exact h
set_option maxRecDepth 100000 in
set_option maxHeartbeats 6400000 in
theorem rsame_of {w : World} {d : Nat} {p : Nat → Nat} {m : DM} (h : RD w d p m) (a : Act5) (ha : a.Ok w w.heap.size) (hk : 0 < a.kn → Off (fun i => p i ≠ 0) a.kA) (hn : a.bn ≤ 200) (hfew : m.waits.length ≤ 1000000) :
    Calls Tryz.prog 43 #[.pointer (some ⟨d, 0, none⟩), .agg #[.int .u8 (a.kind : Int), .int .i64 a.sec, .int .i64 a.num, .slice a.bA a.bn a.bc, .slice a.kA a.kn a.kc]] w fun e w' => e = .returned (.int .i64 (m.act a.kind a.sec a.num a.bl a.kl).1) ∧ ROut d p w (m.act a.kind a.sec a.num a.bl a.kl).2 w' := by
  have hE := (Ext.refl w).alloc (.cells #[.int .u8 (a.kind : Int), .int .i64 a.sec, .int .i64 a.num, .slice a.bA a.bn a.bc, .slice a.kA a.kn a.kc] 37)
  have hrow := heap_alloc_new w (.cells #[.int .u8 (a.kind : Int), .int .i64 a.sec, .int .i64 a.num, .slice a.bA a.bn a.bc, .slice a.kA a.kn a.kc] 37)
  have H := Lib.hid (h.ext hE)
  have HLT := Lib.hid h.2
  have HA := Lib.hid (ha.ext hE)
  have HK := Lib.hid hk
  have HE := Lib.hid hE
  have HROW := Lib.hid hrow
  have hnum : a.num ≤ 9223372036854775807 := (bounds_i64 ha.num).2
  have HNUM := Lib.hid hnum
  obtain ⟨r, hr⟩ : ∃ r, a.kind % 9 = r := ⟨_, rfl⟩
  have hr9 : r < 9 := by omega
  have hrm : ((a.kind : Nat) : Int).tmod 9 = (r : Int) := by rw [Int.tmod_eq_emod_of_nonneg (by omega)]; omega
  have HACT := Lib.hid (act_actR m a.kind r hr a.sec a.num a.bl a.kl)
  clear h ha hk hE hr hnum hrow
  have hcases : r = 0 ∨ r = 1 ∨ r = 2 ∨ r = 3 ∨ r = 4 ∨ r = 5 ∨ r = 8 ∨ (r = 6 ∨ r = 7) := by omega
  rcases hcases with e | e | e | e | e | e | e | e
  · subst e
    go_enter Tryz.func43, Tryz.ntmps43
    go_wp2_with fail
    refine (rflush_out H.out hfew).mono ?_
    rintro e w2 ⟨rfl, ho⟩
    have HF := Lib.hid (ROut.from HE.out ho)
    clear ho
    go_wp2_with fail
    go_ret
    rw [HACT.out]
    exact ⟨rfl, HF.out⟩
  · subst e
    go_enter Tryz.func43, Tryz.ntmps43
    go_wp2_with fail
    refine (rcrash_out H.out hfew a.kA a.kn a.kc a.kl HA.out.keep HK.out).mono ?_
    rintro e w2 ⟨rfl, ho⟩
    have HF := Lib.hid (ROut.from HE.out ho)
    clear ho
    go_wp2_with fail
    go_ret
    rw [HACT.out]
    exact ⟨rfl, HF.out⟩
  · subst e
    go_enter Tryz.func43, Tryz.ntmps43
    go_wp2_with fail
    refine (rstart_out H.out).mono ?_
    rintro e w2 ⟨rfl, ho⟩
    have HF := Lib.hid (ROut.from HE.out ho)
    clear ho
    go_wp2_with fail
    go_ret
    rw [HACT.out]
    exact ⟨rfl, HF.out⟩
  · subst e
    go_enter Tryz.func43, Tryz.ntmps43
    go_wp2_with fail
    refine (rflip_out H.out a.sec a.num HNUM.out).mono ?_
    rintro e w2 ⟨rfl, ho⟩
    have HF := Lib.hid (ROut.from HE.out ho)
    clear ho
    go_wp2_with fail
    go_ret
    rw [HACT.out]
    exact ⟨rfl, HF.out⟩
  · subst e
    go_enter Tryz.func43, Tryz.ntmps43
    go_wp2_with fail
    refine (rlose_out H.out a.sec).mono ?_
    rintro e w2 ⟨rfl, ho⟩
    have HF := Lib.hid (ROut.from HE.out ho)
    clear ho
    go_wp2_with fail
    go_ret
    rw [HACT.out]
    exact ⟨rfl, HF.out⟩
  · subst e
    go_enter Tryz.func43, Tryz.ntmps43
    go_wp2_with fail
    refine (rstray_out H.out a.sec a.num).mono ?_
    rintro e w2 ⟨rfl, ho⟩
    have HF := Lib.hid (ROut.from HE.out ho)
    clear ho
    go_wp2_with fail
    go_ret
    rw [HACT.out]
    exact ⟨rfl, HF.out⟩
  · subst e
    go_enter Tryz.func43, Tryz.ntmps43
    go_wp2_with fail
    refine (rpower_out H.out a.num HNUM.out).mono ?_
    rintro e w2 ⟨rfl, ho⟩
    have HF := Lib.hid (ROut.from HE.out ho)
    clear ho
    go_wp2_with fail
    go_ret
    rw [HACT.out]
    exact ⟨rfl, HF.out⟩
  · have HACT1 : Hid (m.act a.kind a.sec a.num a.bl a.kl = m.write a.sec (actB a.num a.bl)) := Lib.hid (by
      rw [HACT.out]
      rcases e with rfl | rfl <;> rfl)
    have g0 : ((r : Int) == 0) = false := by rw [beq_eq_false_iff_ne]; omega
    have g1 : ((r : Int) == 1) = false := by rw [beq_eq_false_iff_ne]; omega
    have g2 : ((r : Int) == 2) = false := by rw [beq_eq_false_iff_ne]; omega
    have g3 : ((r : Int) == 3) = false := by rw [beq_eq_false_iff_ne]; omega
    have g4 : ((r : Int) == 4) = false := by rw [beq_eq_false_iff_ne]; omega
    have g5 : ((r : Int) == 5) = false := by rw [beq_eq_false_iff_ne]; omega
    have g8 : ((r : Int) == 8) = false := by rw [beq_eq_false_iff_ne]; omega
    obtain ⟨V, hV⟩ : ∃ V, w.alloc (.cells #[.int .u8 (a.kind : Int), .int .i64 a.sec, .int .i64 a.num, .slice a.bA a.bn a.bc, .slice a.kA a.kn a.kc] 37) = V := ⟨_, rfl⟩
    have hVs : V.heap.size = w.heap.size + 1 := by rw [← hV]; simp
    rw [hV] at H HA HE HROW
    have HG : Hid (¬ (fun i => p i ≠ 0) w.heap.size) := Lib.hid fun h => absurd (HLT.out _ h) (by omega)
    have HRd : Hid (V.drew.heap[w.heap.size]? = _) := HROW
    have HM0 : Hid (Mod (fun i => p i ≠ 0) V.drew V.drew) := Lib.hid (Mod.refl _ _)
    have HAd := Lib.hid (HA.out.ext (Ext.refl V).drew)
    have HDd := Lib.hid (H.out.ext (Ext.refl V).drew)
    obtain ⟨c0, c1, c2, c3, c4⟩ := keep5 HM0 HG HRd
    have hc0 := cell_of_row V w.heap.size 0 _ _ _ HROW.out
    have HVS := Lib.hid hVs
    have HSEC : Hid (Calls Tryz.prog 92 #[.agg #[.int .u8 (a.kind : Int), .int .i64 a.sec, .int .i64 a.num, .slice a.bA a.bn a.bc, .slice a.kA a.kn a.kc]] V.drew fun e w' => ∃ A n c, e = .returned (.slice A n c) ∧ w'.ownsRow V.drew.heap.size 5 1 (.slice A n c) n (vb (actB a.num a.bl)) ∧ Ext V.drew w') := Lib.hid (sector_of a _ HAd.out (by omega))
    clear HACT e HROW H HA
    go_enter Tryz.func43, Tryz.ntmps43
    go_wp2_with fail
    go_region_held3 (fun w' => w'.cell? ⟨w.heap.size, 0, none⟩ = some (.int .u8 (a.kind : Int)) ∧ w'.cell? ⟨w.heap.size, 1, none⟩ = some (.int .i64 a.sec) ∧ w'.cell? ⟨w.heap.size, 2, none⟩ = some (.int .i64 a.num) ∧ w'.cell? ⟨w.heap.size, 3, none⟩ = some (.slice a.bA a.bn a.bc) ∧ w'.cell? ⟨w.heap.size, 4, none⟩ = some (.slice a.kA a.kn a.kc))
      (first | exact keep5 (by assumption) HG HRd)
      (first
        | (go_at_call 92; ((with_reducible refine HSEC.out.mono ?_); rintro e w1 ⟨A, n, c, rfl, hown, hx⟩; have HM1 : Hid (Mod (fun i => p i ≠ 0) V.drew w1) := Lib.hid (Mod.of_ext hx); have HX1 := Lib.hid hx; have HD1 := Lib.hid (HDd.out.ext hx); have HB1 : Hid (By w1 A n c (actB a.num a.bl)) := Lib.hid (Bs.of_own hown (actB_lt HAd.out.bytes.rd.lt)); have HO1 := Lib.hid (off_new hown (fun i hi => by have := HLT.out i hi; have h2 := HVS.out; show i < V.heap.size; omega)); clear hown hx))
        | (go_at_call 44; ((with_reducible refine (rwrite_out HD1.out a.sec A n c (actB a.num a.bl) HB1.out HO1.out hfew).mono ?_); rintro e w2 ⟨rfl, ho⟩; have HM2 : Hid (Mod (fun i => p i ≠ 0) V.drew w2) := Lib.hid (HM1.out.trans (rout_mod ho) fun i hi => .inl hi); have HF := Lib.hid (ROut.from (((HE.out.trans (Ext.refl V).drew)).trans HX1.out) ho); clear ho)))
    all_goals
      go_wp2_with fail
      go_ret
      rw [HACT1.out]
      exact ⟨rfl, HF.out⟩
end Go.Proofs.YtlikhmhomkiadaaGreatDoor

namespace Go.Proofs.YtlikhmhomkiadaaGreatDoor
set_option maxRecDepth 100000
open Go Go.RowKit

/-- A byte of told bytes is stored into. -/
theorem New.put {B : Nat} {w : World} {A : Option Addr} {n : Nat} {l : List Nat} (h : New B w A n l) {k : Nat} (hk : k < n) : ∃ g x : Nat, A = some ⟨g, 0, none⟩ ∧ B ≤ g ∧ x < 256 ∧ w.cell? ⟨g, k, none⟩ = some (.int .u8 (x : Int)) ∧ w.frozen? ⟨g, k, none⟩ = false ∧ g < w.heap.size ∧
    ∀ y : Nat, y < 256 → New B (w.setCell ⟨g, k, none⟩ (.int .u8 (y : Int))) A n (l.set k y) := by
  rcases h.at_ with ⟨h0, _⟩ | ⟨g, t, e, hB, hg⟩
  · omega
  have hkl : k < l.length := by rw [h.len]; exact hk
  refine ⟨g, l[k], e, hB, h.lt _ (List.getElem_mem hkl), ?_, frozen_of_row w g k _ _ hg, (Array.getElem?_eq_some_iff.1 hg).1, fun y hy => ⟨by rw [List.length_set]; exact h.len, mem_set_of h.lt hy, .inr ⟨g, t, e, hB, row_set k hg _ ?_⟩, h.le⟩⟩
  · rw [cell_of_row w g k _ _ _ hg]
    exact vb_at (List.getElem?_eq_getElem hkl)
  · rw [List.setIfInBounds_toArray, vb_set]

/-- Three told rows, each in a block of its own. -/
structure Ttl (w wr : World) (A : Option Addr) (na : Nat) (X : Option Addr) (nx : Nat) (P : Option Addr) (np : Nat) (lp : List Nat) : Prop where
  bel : Ext w wr
  a : ∃ l, New w.heap.size wr A na l
  x : ∃ l, New w.heap.size wr X nx l
  p : New w.heap.size wr P np lp
  ax : ∀ q r, A = some q → X = some r → q.block ≠ r.block
  ap : ∀ q r, A = some q → P = some r → q.block ≠ r.block
  xp : ∀ q r, X = some q → P = some r → q.block ≠ r.block
theorem new_apart {B B' : Nat} {w w1 : World} {A A' : Option Addr} {n n' : Nat} {l l' : List Nat} (h : New B w A n l) (h' : New B' w1 A' n' l') (hB : w.heap.size ≤ B') : ∀ q r, A = some q → A' = some r → q.block ≠ r.block := by
  intro q r hq hr
  rcases h.at_ with ⟨_, h0⟩ | ⟨g, t, e, _, hg⟩
  · rw [h0] at hq; cases hq
  rcases h'.at_ with ⟨_, h0⟩ | ⟨g', t', e', hB', _⟩
  · rw [h0] at hr; cases hr
  rw [e] at hq
  rw [e'] at hr
  cases hq
  cases hr
  have := (Array.getElem?_eq_some_iff.1 hg).1
  show g ≠ g'
  omega
section
variable {w wr : World} {A X P : Option Addr} {na nx np : Nat} {lp : List Nat}
theorem Ttl.ext (h : Ttl w wr A na X nx P np lp) {w' : World} (k : Ext wr w') : Ttl w w' A na X nx P np lp :=
  ⟨h.bel.trans k, h.a.imp fun _ h => h.ext k, h.x.imp fun _ h => h.ext k, h.p.ext k, h.ax, h.ap, h.xp⟩
theorem Ttl.putA (h : Ttl w wr A na X nx P np lp) {k : Nat} (hk : k < na) : ∃ g x : Nat, A = some ⟨g, 0, none⟩ ∧ x < 256 ∧ wr.cell? ⟨g, k, none⟩ = some (.int .u8 (x : Int)) ∧ wr.frozen? ⟨g, k, none⟩ = false ∧ g < wr.heap.size ∧
    ∀ y : Nat, y < 256 → Ttl w (wr.setCell ⟨g, k, none⟩ (.int .u8 (y : Int))) A na X nx P np lp := by
  obtain ⟨l, hl⟩ := h.a
  obtain ⟨g, x, e, hB, hx, h1, h2, h3, h4⟩ := hl.put hk
  refine ⟨g, x, e, hx, h1, h2, h3, fun y hy => ?_⟩
  have hm := mod_one wr g k (.int .u8 (y : Int))
  exact ⟨Below.mod h.bel hm h.bel.size (fun i e => by subst e; exact hB), ⟨_, h4 y hy⟩, h.x.imp fun _ hx => hx.mod hm fun p hp e2 => h.ax _ _ e hp e2.symm, h.p.mod hm fun p hp e2 => h.ap _ _ e hp e2.symm, h.ax, h.ap, h.xp⟩
theorem Ttl.putX (h : Ttl w wr A na X nx P np lp) {k : Nat} (hk : k < nx) : ∃ g x : Nat, X = some ⟨g, 0, none⟩ ∧ x < 256 ∧ wr.cell? ⟨g, k, none⟩ = some (.int .u8 (x : Int)) ∧ wr.frozen? ⟨g, k, none⟩ = false ∧ g < wr.heap.size ∧
    ∀ y : Nat, y < 256 → Ttl w (wr.setCell ⟨g, k, none⟩ (.int .u8 (y : Int))) A na X nx P np lp := by
  obtain ⟨l, hl⟩ := h.x
  obtain ⟨g, x, e, hB, hx, h1, h2, h3, h4⟩ := hl.put hk
  refine ⟨g, x, e, hx, h1, h2, h3, fun y hy => ?_⟩
  have hm := mod_one wr g k (.int .u8 (y : Int))
  exact ⟨Below.mod h.bel hm h.bel.size (fun i e => by subst e; exact hB), h.a.imp fun _ hx => hx.mod hm fun p hp e2 => h.ax _ _ hp e e2, ⟨_, h4 y hy⟩, h.p.mod hm fun p hp e2 => h.xp _ _ e hp e2.symm, h.ax, h.ap, h.xp⟩
/-- The last of them, behind the comparison. -/
structure Tlp (w wr : World) (P : Option Addr) (np : Nat) : Prop where
  bel : Ext w wr
  p : ∃ l, New w.heap.size wr P np l
theorem Tlp.put (h : Tlp w wr P np) {k : Nat} (hk : k < np) : ∃ g x : Nat, P = some ⟨g, 0, none⟩ ∧ x < 256 ∧ wr.cell? ⟨g, k, none⟩ = some (.int .u8 (x : Int)) ∧ wr.frozen? ⟨g, k, none⟩ = false ∧ g < wr.heap.size ∧
    ∀ y : Nat, y < 256 → Tlp w (wr.setCell ⟨g, k, none⟩ (.int .u8 (y : Int))) P np := by
  obtain ⟨l, hl⟩ := h.p
  obtain ⟨g, x, e, hB, hx, h1, h2, h3, h4⟩ := hl.put hk
  refine ⟨g, x, e, hx, h1, h2, h3, fun y hy => ?_⟩
  exact ⟨Below.mod h.bel (mod_one wr g k (.int .u8 (y : Int))) h.bel.size (fun i e => by subst e; exact hB), ⟨_, h4 y hy⟩⟩
end
theorem next_u8 (x : Nat) : ∃ y : Nat, IntKind.u8.wrap ((x : Int) + 1) = (y : Int) ∧ y < 256 := ⟨(x + 1) % 256, by rw [IntKind.wrap_u8]; omega, by omega⟩
/-- What tells compares. -/
theorem told_cases (m : DM) (s : Int) : (m.has s = false ∧ m.at_ s = ([], false, 2) ∧ m.means s = ([], 2)) ∨ ∃ j : Nat, s = (j : Int) ∧ j < m.size ∧ (m.at_ s).2.2 = 0 ∧ m.means s = (m.meant.getD j [], 0) := by
  by_cases hs : m.has s = false
  · exact .inl ⟨hs, by unfold DM.at_; rw [if_pos hs], by unfold DM.means; rw [if_pos hs]⟩
  · have hs' : m.has s = true := by simpa using hs
    obtain ⟨s0, s1⟩ := DM.has_iff.1 hs'
    obtain ⟨j, rfl⟩ := Int.eq_ofNat_of_zero_le s0
    refine .inr ⟨j, rfl, by omega, ?_, ?_⟩
    · unfold DM.at_
      rw [if_neg hs]
      split <;> rfl
    · unfold DM.means
      rw [if_neg hs, Int.toNat_natCast]
--WALK
end Go.Proofs.YtlikhmhomkiadaaGreatDoor

namespace Go.Proofs.YtlikhmhomkiadaaGreatDoor
set_option maxRecDepth 100000
open Go Go.RowKit

structure Both (w0 w : World) (d r : Nat) (F : Nat → Prop) (p : Nat → Nat) (m m' : DM) : Prop where
  dk : DK w0 w d F m
  rd : RD w r p m'
  low : ∀ i, p i ≠ 0 → w0.heap.size ≤ i
  apart : ∀ i, p i ≠ 0 → ¬ F i
section
variable {w0 w : World} {d r : Nat} {F : Nat → Prop} {p : Nat → Nat} {m m' m2 : DM}
theorem Both.ext (h : Both w0 w d r F p m m') {w' : World} (k : Ext w w') : Both w0 w' d r F p m m' := ⟨h.dk.ext k, h.rd.ext k, h.low, h.apart⟩
theorem Both.do_ (h : Both w0 w d r F p m m') (a : Act5) (ha : a.Ok w0 w0.heap.size) (hn : a.bn ≤ 200) (hfew : m.waits.length ≤ 1000) {E : Int} (hact : m.act a.kind a.sec a.num a.bl a.kl = (E, m2)) :
    Calls Tryz.prog 38 #[.pointer (some ⟨d, 0, none⟩), .agg #[.int .u8 (a.kind : Int), .int .i64 a.sec, .int .i64 a.num, .slice a.bA a.bn a.bc, .slice a.kA a.kn a.kc]] w fun e w' =>
      e = .returned (.int .i64 E) ∧ ∃ F', Both w0 w' d r F' p m2 m' := by
  have hd := do_of h.dk.disk a ((ha.below h.dk.bel).more h.dk.bel.size) (h.dk.vs ha.keep) (by omega) (by omega)
  unfold actV at hd
  rw [hact] at hd
  refine hd.mono fun e w' ⟨h1, h2, h3⟩ => ⟨h1, _, h.dk.step h2 h3, h.rd.mod h3 h.apart, h.low, fun i hi hg => ?_⟩
  rcases hg with hg | hg
  · exact h.apart i hi hg
  · have := h.rd.2 i hi
    omega
theorem Both.same_ (h : Both w0 w d r F p m m') (a : Act5) (ha : a.Ok w0 w0.heap.size) (hn : a.bn ≤ 200) (hfew : m'.waits.length ≤ 1000) {E : Int} (hact : m'.act a.kind a.sec a.num a.bl a.kl = (E, m2)) :
    Calls Tryz.prog 43 #[.pointer (some ⟨r, 0, none⟩), .agg #[.int .u8 (a.kind : Int), .int .i64 a.sec, .int .i64 a.num, .slice a.bA a.bn a.bc, .slice a.kA a.kn a.kc]] w fun e w' =>
      e = .returned (.int .i64 E) ∧ ∃ p', Both w0 w' d r F p' m m2 := by
  have hk : 0 < a.kn → Off (fun i => p i ≠ 0) a.kA := fun hn q hq hf => by
    obtain ⟨g, o, e, hg, _⟩ := ha.keep.rd hn
    rw [e] at hq
    injection hq with hq
    subst hq
    have h1 := h.low _ hf
    have hg' : g < w0.heap.size := hg
    have h2 : w0.heap.size ≤ g := h1
    omega
  have hd := rsame_of h.rd a ((ha.below h.dk.bel).more h.dk.bel.size) hk hn (by omega)
  rw [hact] at hd
  refine hd.mono fun e w' ⟨h1, p', h2, h3, h4⟩ => ⟨h1, p', h.dk.mod h3 (fun i hf hp => h.apart i hp hf) h.low, h2, fun i hi => ?_, fun i hi hf => ?_⟩
  · rcases h4 i hi with h5 | h5
    · exact h.low i h5
    · exact Nat.le_trans h.dk.bel.size h5
  · rcases h4 i hi with h5 | h5
    · exact h.apart i h5 hf
    · have := h.dk.disk.lt i hf
      omega
/-- What the law reads of the document's disk itself. -/
theorem Both.heads (h : Both w0 w d r F p m m') {N : Nat} {b4 b5 : Bool} (hN : m'.waits.length = N) (h4 : m'.down = b4) (h5 : m'.dead = b5) : ∃ A c, w.cell? ⟨r, 3, none⟩ = some (.slice A N c) ∧ w.cell? ⟨r, 4, none⟩ = some (.bool b4) ∧ w.cell? ⟨r, 5, none⟩ = some (.bool b5) := by
  subst hN h4 h5
  obtain ⟨⟨q, hq⟩, _⟩ := h.rd
  obtain ⟨⟨_, _, _, d3, d4, d5, _⟩, _⟩ := hq.head.cells
  have hpl : ∃ A c, q.pv = .slice A m'.waits.length c := by
    obtain ⟨A, c, e, _, _⟩ := own_form2 hq.pen
    exact ⟨A, c, e⟩
  obtain ⟨A, c, e⟩ := hpl
  rw [e] at d3
  exact ⟨A, c, d3, d4, d5⟩
theorem Both.new {w1 w2 : World} {n : Nat} (hx : Ext w0 w) (hp : PDisk w1 d (fun k => w.heap.size ≤ k ∧ k < w1.heap.size) (DM.new n)) (hx1 : Ext w w1) (hr : RD w2 r p (DM.new n)) (hl : ∀ k, p k ≠ 0 → w1.heap.size ≤ k) (hx2 : Ext w1 w2) : Both w0 w2 d r (fun k => w.heap.size ≤ k ∧ k < w1.heap.size) p (DM.new n) (DM.new n) :=
  ⟨DK.ext ⟨hp, fun k hk => Nat.le_trans hx.size hk.1, hx.trans hx1⟩ hx2, hr, fun i hi => Nat.le_trans (hx.trans hx1).size (hl i hi), fun i hi hf => by have := hl i hi; omega⟩
end
end Go.Proofs.YtlikhmhomkiadaaGreatDoor
