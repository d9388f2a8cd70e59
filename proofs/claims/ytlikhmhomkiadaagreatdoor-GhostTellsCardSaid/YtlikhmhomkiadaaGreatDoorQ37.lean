/-
  The document's observers over its disk: hurt, Hurt.
  The contracts of the document's own Wide, First, Where: they answer as the plain facts say, and leave the memory as it was.
  The contracts of the ghost statements' Do, for any act, and of put.
-/
import Derived.Test.YtlikhmhomkiadaaGreatDoorQ16
import Derived.Test.YtlikhmhomkiadaaGreatDoorQ25
import Derived.Test.YtlikhmhomkiadaaGreatDoorQ33
import Derived.Test.YtlikhmhomkiadaaGreatDoorQ34
import Derived.Test.YtlikhmhomkiadaaGreatDoorQ36
import Derived.Test.YtlikhmhomkiadaaGreatDoorProg
import Derived.WalkKit
import Derived.WalkSpells
import Derived.WalkLawsBesides
import Derived.BigQuiet
import Derived.Lib.Hide
import Derived.Outline
namespace Go.Proofs.YtlikhmhomkiadaaGreatDoor
set_option maxRecDepth 100000
open Go Go.RowKit

theorem hurt_eq {m : DM} {j : Nat} (hj : j < m.size) : m.hurt (j : Int) = (m.lost.getD j false || !decide (m.rest.getD j [] = m.meant.getD j [])) := by
  have hh : m.has (j : Int) = true := DM.has_iff.2 ⟨by omega, by omega⟩
  have hm : m.means (j : Int) = (m.meant.getD j [], 0) := by unfold DM.means; rw [if_neg (by rw [hh]; simp), Int.toNat_natCast]
  unfold DM.hurt
  by_cases hl : m.lost.getD j false = true
  · have ha : m.at_ (j : Int) = ([], true, 0) := by unfold DM.at_; rw [if_neg (by rw [hh]; simp), Int.toNat_natCast, if_pos hl]
    rw [ha, hl]
    rfl
  · have ha : m.at_ (j : Int) = (m.rest.getD j [], false, 0) := by unfold DM.at_; rw [if_neg (by rw [hh]; simp), Int.toNat_natCast, if_neg hl]
    rw [ha, hm, show m.lost.getD j false = false by simpa using hl]
theorem rd_parts {w : World} {d : Nat} {p : Nat → Nat} {m : DM} (h : RD w d p m) {j : Nat} (hj : j < m.size) : ∃ gr cr gm cm gl cl A n A2 n2,
    (w.cell? ⟨d, 0, none⟩ = some (.slice (some ⟨gr, 0, none⟩) m.size cr) ∧ w.cell? ⟨d, 1, none⟩ = some (.slice (some ⟨gm, 0, none⟩) m.size cm) ∧ w.cell? ⟨d, 2, none⟩ = some (.slice (some ⟨gl, 0, none⟩) m.size cl)) ∧
    (w.cell? ⟨gr, j, none⟩ = some (.slice (some ⟨A, 0, none⟩) 64 n) ∧ w.cell? ⟨gm, j, none⟩ = some (.slice (some ⟨A2, 0, none⟩) 64 n2) ∧ w.cell? ⟨gl, j, none⟩ = some (.bool (m.lost.getD j false))) ∧
    By w (some ⟨A, 0, none⟩) 64 n (m.rest.getD j []) ∧ By w (some ⟨A2, 0, none⟩) 64 n2 (m.meant.getD j []) ∧ Sect (m.rest.getD j []) ∧ Sect (m.meant.getD j []) := by
  obtain ⟨⟨q, hq⟩, _⟩ := h
  obtain ⟨⟨d0, d1, d2, _⟩, _⟩ := hq.head.cells
  obtain ⟨hc, _, _⟩ := hq.lostAt hj
  obtain ⟨x, hx, hxc, _, _⟩ := hq.restAt hj
  obtain ⟨y, hy, hyc, _, _⟩ := hq.meantAt hj
  have hsec : Sect (m.rest.getD j []) := by
    have hil : j < m.rest.length := hj
    rw [List.getD_eq_getElem?_getD, List.getElem?_eq_getElem hil, Option.getD_some]
    exact hq.ok.rests _ (List.getElem_mem hil)
  have hsem : Sect (m.meant.getD j []) := by
    have hil : j < m.meant.length := by rw [hq.ok.meant]; exact hj
    rw [List.getD_eq_getElem?_getD, List.getElem?_eq_getElem hil, Option.getD_some]
    exact hq.ok.means _ (List.getElem_mem hil)
  unfold slV at hxc hyc
  exact ⟨q.gr, q.cr, q.gm, q.cm, q.gl, q.cl, x.1, x.2, y.1, y.2, ⟨d0, d1, d2⟩, ⟨hxc, hyc, hc⟩, (hq.rb j x hx).2.by hsec.2, (hq.mb j y hy).2.by hsem.2, hsec, hsem⟩
theorem rd_size {w : World} {d : Nat} {p : Nat → Nat} {m : DM} (h : RD w d p m) : 1 ≤ m.size ∧ m.size ≤ 1024 ∧ m.Ok := by
  obtain ⟨⟨q, hq⟩, _⟩ := h
  exact ⟨hq.head.n1.1, hq.head.n1.2, hq.ok⟩
theorem rkeep6 {w w' : World} {a b c e f g h i j k l o : Nat} {u v x y z t : Value} (hx : Hid (Ext w.drew w')) (hc : Hid (w.cell? ⟨a, b, none⟩ = some u ∧ w.cell? ⟨c, e, none⟩ = some v ∧ w.cell? ⟨f, g, none⟩ = some x ∧ w.cell? ⟨h, i, none⟩ = some y ∧ w.cell? ⟨j, k, none⟩ = some z ∧ w.cell? ⟨l, o, none⟩ = some t)) :
    w'.cell? ⟨a, b, none⟩ = some u ∧ w'.cell? ⟨c, e, none⟩ = some v ∧ w'.cell? ⟨f, g, none⟩ = some x ∧ w'.cell? ⟨h, i, none⟩ = some y ∧ w'.cell? ⟨j, k, none⟩ = some z ∧ w'.cell? ⟨l, o, none⟩ = some t :=
  have k1 := fun {g i : Nat} {v : Value} (h : w.cell? ⟨g, i, none⟩ = some v) => ext_of_cell (w := w.drew) hx.out h
  ⟨k1 hc.out.1, k1 hc.out.2.1, k1 hc.out.2.2.1, k1 hc.out.2.2.2.1, k1 hc.out.2.2.2.2.1, k1 hc.out.2.2.2.2.2⟩
theorem rhurt_of {w : World} {d : Nat} {p : Nat → Nat} {m : DM} (h : RD w d p m) (j : Nat) (hj : j < m.size) :
    Calls Tryz.prog 48 #[.pointer (some ⟨d, 0, none⟩), .int .i64 (j : Int)] w fun e w' => e = .returned (.bool (m.hurt (j : Int))) ∧ Ext w w' := by
  obtain ⟨gr, cr, gm, cm, gl, cl, A, n, A2, n2, ⟨c0, c1, c2⟩, ⟨k0, k1, k2⟩, hb, hb2, _, _⟩ := rd_parts h hj
  have hsz := rd_size h
  have hn := hsz.2.1
  have HH := Lib.hid (hurt_eq hj)
  have HB := Lib.hid hb
  have HB2 := Lib.hid hb2
  clear h hb hb2 hsz
  rw [HH.out]
  by_cases hl : m.lost.getD j false = true
  · rw [hl] at k2 ⊢
    clear hl
    go_enter Tryz.func48, Tryz.ntmps48
    go_wp2_with fail
    go_region
    go_wp2_with fail
    go_ret
    exact ⟨rfl, by repeat (first | exact Ext.refl _ | refine Ext.drew ?_)⟩
  · have hl' : m.lost.getD j false = false := by simpa using hl
    rw [hl'] at k2 ⊢
    generalize hR : m.rest.getD j [] = R at *
    generalize hM : m.meant.getD j [] = M at *
    clear hl hl' hR hM HH
    have HC := Lib.hid (And.intro c0 (And.intro c1 (And.intro c2 (And.intro k0 (And.intro k1 k2)))))
    have HX0 : Hid (Ext w.drew w.drew) := Lib.hid (Ext.refl _)
    go_enter Tryz.func48, Tryz.ntmps48
    go_wp2_with fail
    go_region_held3 (fun w' => w'.cell? ⟨d, 0, none⟩ = some (.slice (some ⟨gr, 0, none⟩) m.size cr) ∧ w'.cell? ⟨d, 1, none⟩ = some (.slice (some ⟨gm, 0, none⟩) m.size cm) ∧ w'.cell? ⟨d, 2, none⟩ = some (.slice (some ⟨gl, 0, none⟩) m.size cl) ∧ w'.cell? ⟨gr, j, none⟩ = some (.slice (some ⟨A, 0, none⟩) 64 n) ∧ w'.cell? ⟨gm, j, none⟩ = some (.slice (some ⟨A2, 0, none⟩) 64 n2) ∧ w'.cell? ⟨gl, j, none⟩ = some (.bool false))
      (first | exact HC.out | exact rkeep6 (by assumption) HC)
      (first
        | (go_at_call 19; ((with_reducible refine (same_by _ _ R M 64 64 _ _ _ (HB.out.ext (Ext.refl w).drew) (HB2.out.ext (Ext.refl w).drew)).mono ?_); rintro e w1 ⟨rfl, hx⟩; have HX1 := Lib.hid hx; clear hx)))
    go_wp2_with fail
    go_ret
    exact ⟨rfl, (Ext.refl w).drew.trans HX1.out⟩
/-- The document's Hurt: those that are hurt, in a row of its own. -/
theorem rhurts_of {w : World} {d : Nat} {p : Nat → Nat} {m : DM} (h : RD w d p m) :
    Calls Tryz.prog 12 #[.pointer (some ⟨d, 0, none⟩)] w fun e w' => ∃ v, e = .returned v ∧ w'.ownsRow w.heap.size 3 1 v (hurtsIn m.hurt 0 m.size).length ((hurtsIn m.hurt 0 m.size).map (Value.int .i64)) ∧ Ext w w' := by
  obtain ⟨i0, hi, hz0, hz1, hz2⟩ := info_parts int_info
  have hsz := rd_size h
  have hn := hsz.2.1
  have H := Lib.hid h
  obtain ⟨N, hN⟩ : ∃ N, m.size = N := ⟨_, rfl⟩
  have HN := Lib.hid hN
  rw [hN] at hn
  rw [hN]
  have hd0 : ∀ V, Ext w V → ∃ gr cr, V.cell? ⟨d, 0, none⟩ = some (.slice (some ⟨gr, 0, none⟩) N cr) := fun V hV => by
    obtain ⟨⟨q, hq⟩, _⟩ := h.ext hV
    obtain ⟨⟨d0, _⟩, _⟩ := hq.head.cells
    rw [hN] at d0
    exact ⟨_, _, d0⟩
  have HD := Lib.hid hd0
  clear h hsz hN hd0
  go_enter Tryz.func12, Tryz.ntmps12
  go_wp2_with fail
  go_loopw [3, 4] (fun b i wr => ∃ k : Nat, k ≤ N ∧ i = .int .i64 k ∧ Hid (wr.ownsRow w.heap.size 3 1 b (hurtsIn m.hurt 0 k).length ((hurtsIn m.hurt 0 k).map (Value.int .i64)) ∧ Ext w wr)) (fun _ i _ => N - (intOf i).toNat)
  case atStart => exact ⟨0, Nat.zero_le _, rfl, Lib.hid ⟨World.ownsRow_nil _ _ _ _, Ext.refl w⟩⟩
  case round =>
    obtain ⟨k, hk, rfl, HG⟩ := hrel
    obtain ⟨gr, cr, c0⟩ := HD.out wr HG.out.2
    by_cases hlt : k < N
    · have hh := rhurt_of (H.out.ext HG.out.2) k (by rw [HN.out]; exact hlt)
      have hs := hurtsIn_succ m.hurt 0 k
      rw [show (0 : Int) + (k : Int) = (k : Int) by omega] at hs
      obtain ⟨b, hb⟩ : ∃ b, m.hurt (k : Int) = b := ⟨_, rfl⟩
      rw [hb] at hh hs
      have HH := Lib.hid hh
      have HS := Lib.hid hs
      clear hh hs hb
      cases b with
      | true =>
        go_wp2_with fail
        refine HH.out.mono ?_
        rintro e w2 ⟨rfl, hx⟩
        have HG2 := Lib.hid (And.intro (own_ext HG.out.1 hx) (HG.out.2.trans hx))
        have hfewl := hurtsIn_len m.hurt 0 k
        have hsz2 := HG2.out.2.size
        clear hx
        go_wp2_with (at_builtin; refine wpList_append_own _ rfl _ _ 41 rfl w.heap.size 3 i0 (.int .i64 0) 1 8 Tryz.underlying41 hi hz0 hz1 hz2 rfl (by decide) _ _ _ rfl (own_ext HG2.out.1 ((Ext.refl w2).alloc _)) ⟨w2.heap.size, 0, none⟩ 1 1 [.int .i64 (k : Int)] rfl rfl ?c1 ?c2 ?c3 ?c4 ?c5 ?_)
        case c1 =>
          intro j u hj
          match j, hj with
          | 0, hj => simp at hj; subst hj; simp [Addr.add]
        case c2 => intro u hu; simp at hu; subst hu; rfl
        case c3 => unfold maxLen; omega
        case c4 => omega
        case c5 => simp; omega
        intro v1 w3 hown hg _
        have HG3 : Hid (w3.ownsRow w.heap.size 3 1 v1 (hurtsIn m.hurt 0 (k + 1)).length ((hurtsIn m.hurt 0 (k + 1)).map (Value.int .i64)) ∧ Ext w w3) := by
          rw [HS.out, if_pos trivial, List.length_append, List.map_append]
          exact Lib.hid ⟨hown, Below.grown (HG2.out.2.alloc _) hg (Nat.le_trans HG2.out.2.size (by simp)) (fun g hg' => (HG2.out.1.lt g hg').1)⟩
        clear hown hg
        go_wp2_with fail
        go_roundw
        case rel => exact ⟨k + 1, by omega, by go_num, HG3⟩
        case measure => simp [intOf]; omega
      | false =>
        go_wp2_with fail
        refine HH.out.mono ?_
        rintro e w2 ⟨rfl, hx⟩
        have HG2 := Lib.hid (And.intro (own_ext HG.out.1 hx) (HG.out.2.trans hx))
        clear hx
        go_wp2_with fail
        go_roundw
        case rel => exact ⟨k + 1, by omega, by go_num, by rw [HS.out]; exact HG2⟩
        case measure => simp [intOf]; omega
    · obtain rfl : k = N := by omega
      go_wp2_with fail
      go_ret
      exact ⟨_, rfl, HG.out.1, HG.out.2⟩
end Go.Proofs.YtlikhmhomkiadaaGreatDoor

namespace Go.Proofs.YtlikhmhomkiadaaGreatDoor
set_option maxRecDepth 100000
open Go Go.RowKit

theorem rwide_any (r : Int) (w : World) :
    Calls Tryz.prog 54 #[.int .i64 r] w fun e w' => e = .returned (.int .i64 (wid r)) ∧ w = w' := by
  by_cases h : r < 1 ∨ 5 < r
  · have HF := Lib.hid (wid_out h)
    have g1 : (r == 1) = false := by simp; omega
    have g2 : (r == 2) = false := by simp; omega
    have g3 : (r == 3) = false := by simp; omega
    have g4 : (r == 4) = false := by simp; omega
    have g5 : (r == 5) = false := by simp; omega
    clear h
    go_enter Tryz.func54, Tryz.ntmps54
    go_wp2_with fail
    go_ret
    exact ⟨by rw [HF.out]; rfl, rfl⟩
  · rcases region_cases (r := r) (by omega) with rfl | rfl | rfl | rfl | rfl
    all_goals
      go_enter Tryz.func54, Tryz.ntmps54
      go_wp2_with fail
      go_ret
      exact ⟨rfl, rfl⟩

/-- The place is none of those ahead of place q of region a. -/
def NF (r p : Int) (a q : Nat) : Prop := ¬ (1 ≤ r ∧ r < a ∧ 0 ≤ p ∧ p < plc r) ∧ ¬ (r = a ∧ 0 ≤ p ∧ p < q)
theorem NF.zero (r p : Int) : NF r p 1 0 := ⟨by omega, by omega⟩
theorem NF.step {r p : Int} {a q : Nat} (h : NF r p a q) (hn : ¬ (r = a ∧ p = q)) : NF r p a (q + 1) := ⟨h.1, by have := h.2; omega⟩
theorem NF.next {r p : Int} {a q : Nat} (h : NF r p a q) (hq : q = plc a) : NF r p (a + 1) 0 := by
  subst hq
  refine ⟨?_, by omega⟩
  rintro ⟨h1, h2, h3, h4⟩
  by_cases e : r = a
  · subst e; exact h.2 ⟨rfl, h3, h4⟩
  · exact h.1 ⟨h1, by omega, h3, h4⟩
theorem NF.end_ {r p : Int} (h : NF r p 6 0) : firstS r p = -1 := by
  refine firstS_no ?_
  rintro ⟨h1, h2⟩
  have := plc_some (r := r) (by omega)
  exact h.1 ⟨this.1, by omega, h1, h2⟩
theorem at_step (a q : Nat) : beg a + (q + 1) * wid a = beg a + q * wid a + wid a := by rw [Nat.succ_mul]; omega
theorem at_le {a q : Nat} (ha : a ≤ 5) (hq : q ≤ plc a) : beg a + q * wid a ≤ beg ((a : Int) + 1) := by
  rw [beg_next a ha]
  have := Nat.mul_le_mul_right (wid a) hq
  omega

set_option maxHeartbeats 1600000 in
theorem rfirst_any (r p : Int) (w : World) :
    Calls Tryz.prog 53 #[.int .i64 r, .int .i64 p] w fun e w' => e = .returned (.int .i64 (firstS r p)) ∧ w = w' := by
  go_enter Tryz.func53, Tryz.ntmps53
  go_wp2_with fail
  go_loop [5, 6] (fun t i => ∃ a : Nat, 1 ≤ a ∧ a ≤ 6 ∧ i = .int .i64 a ∧ t = .int .i64 (beg a) ∧ Hid (NF r p a 0)) (fun _ i => 6 - (intOf i).toNat)
  case atStart => exact ⟨1, by omega, by omega, rfl, rfl, Lib.hid (NF.zero r p)⟩
  case round =>
    obtain ⟨a, ha1, ha6, rfl, rfl, HN⟩ := hrel
    by_cases hlt : a ≤ 5
    · have ha' : (a : Int) ≤ 5 := by omega
      go_wp2_with fail
      go_loop [5, 7] (fun t i => ∃ q : Nat, q ≤ plc a ∧ i = .int .i64 q ∧ t = .int .i64 (beg a + q * wid a : Nat) ∧ Hid (NF r p a q)) (fun _ i => plc a - (intOf i).toNat)
      case atStart => exact ⟨0, Nat.zero_le _, rfl, by simp, HN⟩
      case round =>
        obtain ⟨q, hq, rfl, rfl, HN⟩ := hrel
        have HAt := Lib.hid (at_step a q)
        have hle := at_le hlt hq
        have hb := beg_le ((a : Int) + 1)
        have hw := wid_le a
        have hpl := plc_le a
        generalize hm : beg a + q * wid a = m at *
        have HM := Lib.hid hm
        clear hm
        by_cases hql : q < plc a
        · by_cases hin : r = a ∧ p = q
          · obtain ⟨rfl, rfl⟩ := hin
            go_wp2_with (go_at_call 59; refine (rplaces_any _ _).mono ?_; rintro e w' ⟨rfl, rfl⟩)
            go_ret
            exact ⟨by rw [firstS_yes (by omega), ← HM.out]; simp, rfl⟩
          · have HN' := Lib.hid (HN.out.step hin)
            by_cases hra : r = a
            · subst hra
              have hpq : ((q : Int) == p) = false := by simp; omega
              clear hin
              go_wp2_with (first | (go_at_call 59; refine (rplaces_any _ _).mono ?_; rintro e w' ⟨rfl, rfl⟩) | (go_at_call 54; refine (rwide_any _ _).mono ?_; rintro e w' ⟨rfl, rfl⟩))
              go_round
              case rel => exact ⟨q + 1, by omega, by go_num, by rw [HAt.out]; go_num, HN'⟩
              case measure => simp [intOf]; omega
            · have hra' : ((a : Int) == r) = false := by simp; omega
              clear hin hra
              go_wp2_with (first | (go_at_call 59; refine (rplaces_any _ _).mono ?_; rintro e w' ⟨rfl, rfl⟩) | (go_at_call 54; refine (rwide_any _ _).mono ?_; rintro e w' ⟨rfl, rfl⟩))
              go_round
              case rel => exact ⟨q + 1, by omega, by go_num, by rw [HAt.out]; go_num, HN'⟩
              case measure => simp [intOf]; omega
        · have HQ : Hid (q = plc a) := Lib.hid (by omega)
          have HB := Lib.hid (beg_next a hlt)
          go_wp2_with (go_at_call 59; refine (rplaces_any _ _).mono ?_; rintro e w' ⟨rfl, rfl⟩)
          go_round
          case rel => exact ⟨a + 1, by omega, by omega, by go_num, by rw [show ((a + 1 : Nat) : Int) = (a : Int) + 1 from rfl, HB.out, ← HQ.out, HM.out], Lib.hid (HN.out.next HQ.out)⟩
          case measure => simp [intOf]; omega
    · have HF : Hid (firstS r p = -1) := by
        obtain rfl : a = 6 := by omega
        exact Lib.hid HN.out.end_
      go_wp2_with fail
      go_ret
      exact ⟨by rw [HF.out]; rfl, rfl⟩

/-- The sector is none of those ahead of sector m. -/
def WN (s : Int) (m : Nat) : Prop := s < 0 ∨ (m : Int) ≤ s
theorem WN.step {s : Int} {m : Nat} (h : WN s m) (hn : s ≠ m) : WN s (m + 1) := by unfold WN at *; omega
theorem WN.end_ {s : Int} (h : WN s 156) : wReg s = 0 ∧ wPlc s = 0 ∧ wBeh s = 0 ∧ wIs s = false := where_no h
theorem where_mid {a q k : Nat} (ha1 : 1 ≤ a) (ha : a ≤ 5) (hq : q < plc a) (hk : k < wid a) :
    wReg ((beg a + q * wid a + k : Nat) : Int) = a ∧ wPlc ((beg a + q * wid a + k : Nat) : Int) = q ∧ wBeh ((beg a + q * wid a + k : Nat) : Int) = k ∧ wIs ((beg a + q * wid a + k : Nat) : Int) = true := by
  have h2 : q * wid a + k < plc a * wid a := by
    have := Nat.mul_le_mul_right (wid a) (show q + 1 ≤ plc a from hq)
    rw [Nat.succ_mul] at this
    omega
  have h := where_at ha1 ha (s := ((beg a + q * wid a + k : Nat) : Int)) (by omega) (by omega)
  have e : (((beg a + q * wid a + k : Nat) : Int) - beg a) = ((q * wid a + k : Nat) : Int) := by omega
  rw [e] at h
  obtain ⟨h1, h3, h4, h5⟩ := h
  refine ⟨h1, ?_, ?_, h5⟩
  · rw [h3, ← Int.natCast_ediv, Nat.mul_comm q, Nat.mul_add_div (by omega), Nat.div_eq_of_lt hk]; rfl
  · rw [h4, ← Int.natCast_emod, Nat.mul_comm q, Nat.mul_add_mod, Nat.mod_eq_of_lt hk]

end Go.Proofs.YtlikhmhomkiadaaGreatDoor

namespace Go.Proofs.YtlikhmhomkiadaaGreatDoor
set_option maxRecDepth 100000
open Go Go.RowKit

set_option maxRecDepth 100000 in
set_option maxHeartbeats 1600000 in
theorem do6_no {w0 w : World} {d : Nat} {F : Nat → Prop} {m : DM} (h : DK w0 w d F m) (x : Act6) (hx : x.Ok w0 w0.heap.size) (hs : x.sl = false) (hn : x.act.bn ≤ 200) (hfew : m.waits.length ≤ 1000) :
    Calls Tryz.prog 9 #[.pointer (some ⟨d, 0, none⟩), .agg #[.bool x.sl, .int .i64 x.ta, .int .i64 x.tb, .int .i64 x.tc, .int .i64 x.td, .int .i64 x.te, .slice x.bA x.bn x.bc, .int .u8 (x.act.kind : Int), .int .i64 x.act.sec, .int .i64 x.act.num, .slice x.act.bA x.act.bn x.act.bc, .slice x.act.kA x.act.kn x.act.kc]] w fun e w' => (∃ v, e = .returned v) ∧ ∃ F', DK w0 w' d F' (m.act6 x) := by
  have hE := (Ext.refl w).alloc (box6 x)
  have hB := heap_alloc_new w (box6 x)
  have hd := do_dk (h.ext hE) x.act hx.act hn hfew
  have HACT : Hid (m.act6 x = (m.act x.act.kind x.act.sec x.act.num x.act.bl x.act.kl).2) := Lib.hid (by unfold DM.act6; rw [if_neg (by rw [hs]; simp)])
  obtain ⟨c0, _, _, _, _, _, _, c7, c8, c9, c10, c11⟩ := box6_cells hB
  rw [hs] at c0 ⊢
  have hBX : box6 x = .cells #[.bool false, .int .i64 x.ta, .int .i64 x.tb, .int .i64 x.tc, .int .i64 x.td, .int .i64 x.te, .slice x.bA x.bn x.bc, .int .u8 (x.act.kind : Int), .int .i64 x.act.sec, .int .i64 x.act.num, .slice x.act.bA x.act.bn x.act.bc, .slice x.act.kA x.act.kn x.act.kc] 39 := by unfold box6; rw [hs]
  rw [hBX] at c0 c7 c8 c9 c10 c11 hd
  have HD := Lib.hid hd
  clear h hx hd hE hB hBX
  go_enter Tryz.func9, Tryz.ntmps9
  go_wp2_with fail
  refine HD.out.mono ?_
  rintro e w1 ⟨rfl, hk⟩
  have HK := Lib.hid hk
  clear hk
  go_wp2_with fail
  refine bodyPost_ret (results_none rfl _ _ _) rfl ?_
  exact ⟨⟨_, rfl⟩, _, by rw [HACT.out]; exact HK.out⟩
theorem do6_dk {w0 w : World} {d : Nat} {F : Nat → Prop} {m : DM} (h : DK w0 w d F m) (hL : LaidT w0) (x : Act6) (hx : x.Ok w0 w0.heap.size) (hn : x.act.bn ≤ 200) (hfew : m.waits.length ≤ 1000) :
    Calls Tryz.prog 9 #[.pointer (some ⟨d, 0, none⟩), .agg #[.bool x.sl, .int .i64 x.ta, .int .i64 x.tb, .int .i64 x.tc, .int .i64 x.td, .int .i64 x.te, .slice x.bA x.bn x.bc, .int .u8 (x.act.kind : Int), .int .i64 x.act.sec, .int .i64 x.act.num, .slice x.act.bA x.act.bn x.act.bc, .slice x.act.kA x.act.kn x.act.kc]] w fun e w' => (∃ v, e = .returned v) ∧ ∃ F', DK w0 w' d F' (m.act6 x) := by
  by_cases hs : x.sl = true
  · exact do6_yes h hL x hx hs hfew
  · exact do6_no h x hx (by simpa using hs) hn hfew

/-- A disk that is up, and has power for some writes. -/
structure Ready (m : DM) (j : Nat) : Prop where
  up : m.up = true
  size : m.size = 156
  power : m.power = -1 ∨ (j : Int) ≤ m.power
theorem Ready.less {m : DM} {j k : Nat} (h : Ready m j) (hk : k ≤ j) : Ready m k := ⟨h.up, h.size, h.power.imp id fun hp => by omega⟩
theorem Ready.write {m : DM} {j : Nat} (h : Ready m (j + 1)) {s : Int} (h0 : 0 ≤ s) (h1 : s < 156) {b : List Nat} (hb : b.length = 64) : m.write s b = (0, { m with power := lessP m.power, waits := m.waits ++ [(s.toNat, b)] }) ∧ Ready (m.write s b).2 j := by
  have hh : m.has s = true := DM.has_iff.2 ⟨h0, by rw [h.size]; exact h1⟩
  have hp0 : m.power ≠ 0 := by rcases h.power with h | h <;> omega
  have e : m.write s b = (0, { m with power := lessP m.power, waits := m.waits ++ [(s.toNat, b)] }) := by
    unfold DM.write
    rw [if_neg (by rw [h.up]; simp), if_neg (by rw [hh, hb]; simp), if_neg hp0]
  refine ⟨e, ?_⟩
  rw [e]
  refine ⟨h.up, h.size, ?_⟩
  show lessP m.power = -1 ∨ _ ≤ lessP m.power
  unfold lessP
  rcases h.power with hp | hp
  · left; rw [hp]; decide
  · right; rw [if_pos (by omega)]; omega
theorem Ready.flush {m : DM} {j : Nat} (h : Ready m (j + 1)) : m.flush = (0, { ({ m with power := lessP m.power } : DM).comes m.waits with waits := [] }) := by
  have hp0 : m.power ≠ 0 := by rcases h.power with h | h <;> omega
  unfold DM.flush
  rw [if_neg (by rw [h.up]; simp), if_neg hp0]
theorem Ready.puts {m : DM} {S : Int} {L : List Nat} {W j : Nat} (h : Ready m (j + W)) (h0 : 0 ≤ S) (h1 : S + W ≤ 156) (hl : L.length = 64 * W) : ∀ k, k ≤ W → Ready (m.puts S L k) (j + W - k) := by
  intro k
  induction k with
  | zero => intro _; exact h
  | succ k ih =>
    intro hk
    have hr := ih (by omega)
    rw [show j + W - k = (j + W - (k + 1)) + 1 by omega] at hr
    exact (hr.write (s := S + (k : Int)) (by omega) (by omega) (b := (L.drop (64 * k)).take 64) (by rw [List.length_take, List.length_drop]; omega)).2

/-- What put leaves: the frame's sectors, written and flushed. -/
def DM.put (m : DM) (s : Int) (L : List Nat) (W : Nat) : DM := (m.puts s L W).flush.2

theorem first_wid {g p : Int} (hh : 0 ≤ p ∧ p < plc g) : 0 ≤ firstS g p ∧ firstS g p + wid g ≤ 156 := by
  rw [firstS_yes hh]
  have hr := plc_some (r := g) (by omega)
  rcases region_cases hr with rfl | rfl | rfl | rfl | rfl <;> simp [beg, plc, wid] at hh ⊢ <;> omega
theorem keep_tag {u V w' : World} {g : Nat} {x0 x1 x2 x3 x4 : Value} {t : TypeId} (k : Hid (Ext u w')) (hV : u = V.drew) (h : Hid (V.heap[g]? = some (.cells #[x0, x1, x2, x3, x4] t (0, 0)))) :
    w'.cell? ⟨g, 0, none⟩ = some x0 ∧ w'.cell? ⟨g, 1, none⟩ = some x1 ∧ w'.cell? ⟨g, 2, none⟩ = some x2 ∧ w'.cell? ⟨g, 3, none⟩ = some x3 ∧ w'.cell? ⟨g, 4, none⟩ = some x4 := by
  subst hV
  have h2 := (k.out.block g (Array.getElem?_eq_some_iff.1 h.out).1).trans h.out
  exact ⟨cell_of_row w' g 0 _ _ _ h2, cell_of_row w' g 1 _ _ _ h2, cell_of_row w' g 2 _ _ _ h2, cell_of_row w' g 3 _ _ _ h2, cell_of_row w' g 4 _ _ _ h2⟩
theorem keep_tag2 {u w' : World} {g : Nat} {x0 x1 x2 x3 x4 : Value} {t : TypeId} {G : Nat → Prop} (k : Hid (Mod G u w')) (hg : Hid (¬ G g)) (h : Hid (u.heap[g]? = some (.cells #[x0, x1, x2, x3, x4] t (0, 0)))) :
    w'.cell? ⟨g, 1, none⟩ = some x1 ∧ w'.cell? ⟨g, 2, none⟩ = some x2 := by
  have h2 := heap_mod h.out k.out hg.out
  exact ⟨cell_of_row w' g 1 _ _ _ h2, cell_of_row w' g 2 _ _ _ h2⟩
end Go.Proofs.YtlikhmhomkiadaaGreatDoor
